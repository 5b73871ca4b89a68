
/- RouteLeads: the law's has. -/
import Derived.Test.YtmanfakdbmlfeaaDoorRBgs
import Derived.Test.YtmanfakdbmlfeaaDoorRAlk
namespace Go.Proofs.YtmanfakdbmlfeaaDoor
open Go.RowKit Go.Maps
set_option linter.unusedVariables false
set_option linter.unusedSimpArgs false
def hasT (l : List ByteArray) (s : ByteArray) : Bool := l.any fun x => decide (x = s)
theorem hasT_step {l : List ByteArray} {s x : ByteArray} {n : Nat} (h : l[n]? = some x) : hasT (l.take (n + 1)) s = (hasT (l.take n) s || decide (x = s)) := by
  unfold hasT
  rw [take_snoc h, List.any_append]
  simp
theorem hasT_some {l : List ByteArray} {s x : ByteArray} {n : Nat} (h : l[n]? = some x) (e : x = s) : hasT l s = true := by
  unfold hasT
  rw [List.any_eq_true]
  exact ⟨x, List.mem_of_getElem? h, by simpa using e⟩
set_option maxHeartbeats 2000000 in
theorem lawhas_any (l : List ByteArray) (s : ByteArray) (base : Nat) (v : Value) (w : World) (h : Wy SK w base v l) (hl : l.length ≤ 1000000) :
    Calls Tryd.prog 41 #[v, .string s] w fun e w' => e = .returned (.bool (hasT l s)) ∧ w' = w := by
  by_cases hne : l = []
  · subst hne
    obtain ⟨a, c, rfl⟩ := h.shape
    clear h
    rw [List.length_nil] at *
    go_enter Tryd.func41, Tryd.ntmps41
    go_wp2
    go_rounds 1
    go_wp2
    go_ret
    exact ⟨rfl, rfl⟩
  obtain ⟨g, o, c, rfl, hc, hmc, hx⟩ := h.tl hne
  have HX := hide hx
  clear h hx hne
  go_enter Tryd.func41, Tryd.ntmps41
  go_wp2
  go_loopw [5] (fun i wr => ∃ k : Nat, k ≤ l.length ∧ i = .int .i64 k ∧ wr = w ∧ Hid (hasT (l.take k) s = false)) (fun i _ => l.length - (intOf i).toNat)
  case atStart => exact ⟨0, Nat.zero_le _, rfl, rfl, by show _ = _; rw [List.take_zero]; rfl⟩
  case round =>
    obtain ⟨k, hk, rfl, rfl, HF⟩ := hrel
    by_cases hkn : k < l.length
    · obtain ⟨x, hx⟩ : ∃ x, l[k]? = some x := ⟨_, List.getElem?_eq_getElem hkn⟩
      have hcx : wr.cell? ⟨g, o + k, none⟩ = some (.string x) := HX.out.2 k x hx
      have hkz : (k : Int) < (l.length : Int) := by omega
      have HS := hide (hasT_step (s := s) hx)
      have HT := hide (fun e => hasT_some (s := s) hx e)
      clear hx
      by_cases q : x = s
      · have e1 : (x.toList == s.toList) = true := by rw [str_eq]; simpa using q
        have HY := hide (HT.out q)
        clear q HT
        go_wp2
        go_ret
        first | exact ⟨by rw [HY.out]; rfl, rfl⟩ | (rw [HY.out]; exact ⟨rfl, rfl⟩)
      · have e1 : (x.toList == s.toList) = false := by rw [str_eq]; simpa using q
        have HN : Hid (hasT (l.take (k + 1)) s = false) := by show _ = _; rw [HS.out, HF.out, decide_eq_false q]; rfl
        clear q HT
        go_wp2
        go_roundw
        case rel => exact ⟨k + 1, by omega, by simp, by first | rfl | trivial, HN.out⟩
        case measure => first | omega | (simp [intOf]; omega)
    · have e : k = l.length := by omega
      subst e
      have HZ : Hid (hasT l s = false) := by have := HF.out; rw [List.take_length] at this; exact this
      go_wp2
      go_ret
      first | exact ⟨by rw [HZ.out]; rfl, rfl⟩ | (rw [HZ.out]; exact ⟨rfl, rfl⟩)
end Go.Proofs.YtmanfakdbmlfeaaDoor
