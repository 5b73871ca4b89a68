/- turned, and that nothing at all has no room. -/
import Derived.Test.YtboacpneoblklaaFLent
namespace Go.Proofs.Ytboacpneoblklaa
open Go.RowKit Go.Deep
set_option linter.unusedVariables false
set_option linter.unusedSimpArgs false

theorem own_none {w : World} {base n s : Nat} {e : TypeId} {v : Value} {xs : List Value} (h : w.ownsRow base e s v n xs) : ∀ c, v = .slice none n c → c = 0 := fun c hc => by
  rcases h.2 with ⟨h1, h2⟩ | ⟨g, cap, cur, h1, _⟩
  · rw [h1] at hc; simp at hc; omega
  · rw [h1] at hc; simp at hc
set_option maxRecDepth 100000 in
set_option maxHeartbeats 2000000 in
theorem turned_full (a : Option Addr) (n cap : Nat) (l : List Nat) (w : World) (hr : Rd w a n l) (hn : n ≤ 140737488351232) :
    Calls Try.prog 9 #[.slice a n cap] w fun e w' => ∃ a' c, e = .returned (.slice a' n c) ∧ Rd w' a' n (turnB l) ∧ n ≤ c ∧ (a' = none → c = 0) ∧ (∀ b o, a' = some ⟨b, o, none⟩ → w.heap.size ≤ b ∧ b < w'.heap.size) ∧ Below w.heap.size w w' := by
  obtain ⟨i0, hi, hz0, hz1, hz2⟩ := info_parts Try.info5
  have HI := hide hi
  have HZ0 := hide hz0
  have HZ1 := hide hz1
  have HZ2 := hide hz2
  clear hi hz0 hz1 hz2
  have HR := hide hr
  have hln := hr.1
  clear hr
  go_enter Try.func9, Try.ntmps9
  go_wp2
  go_loopw [3, 4] (fun vc i wr => ∃ k : Nat, k ≤ n ∧ i = .int .i64 k ∧ wr.ownsRow w.heap.size 5 1 vc k (((turnB l).take k).map byteV) ∧ Below w.heap.size w wr) (fun _ i _ => n - (intOf i).toNat)
  case atStart => exact ⟨0, Nat.zero_le _, rfl, World.ownsRow_nil _ _ _ _, Below.refl _ _⟩
  case round =>
    obtain ⟨k, hk, rfl, hown, hbw⟩ := hrel
    have HO := hide hown
    clear hown
    by_cases hkn : k < n
    · obtain ⟨b, off, rfl, hblt, hc0⟩ := HR.out.2.2 (by omega)
      have hc := (hbw.cell (p := ⟨b, off + k, none⟩) hblt).trans (hc0 k hkn)
      have HTK := hide (map_takeB (turnB l) k (by rw [turnB_length]; omega))
      have HY : Hid ((turnB l).getD k 0 = l.getD k 0 ^^^ 85) := by
        show _ = _
        simp [turnB, List.getD_eq_getElem?_getD, List.getElem?_eq_getElem (show k < l.length by omega)]
      have hy : l.getD k 0 < 256 := HR.out.lt _ hkn
      have ex : bits .xor .u8 ((l.getD k 0 : Nat) : Int) 85 = ((l.getD k 0 ^^^ 85 : Nat) : Int) := Go.u8_xor_nat (l.getD k 0) 85 hy (by omega)
      generalize hz : l.getD k 0 ^^^ 85 = z at *
      clear hz
      generalize l.getD k 0 = y at *
      clear hc0
      go_wp2_with (at_builtin; refine wpList_append_new _ rfl (.tmp 11) (.tmp 17) 22 rfl w.heap.size 5 i0 (.int .u8 0) 1 Try.underlying22 HI.out HZ0.out HZ1.out HZ2.out rfl _ k _ rfl (HO.out.alloc _) ⟨wr.heap.size, 0, none⟩ 1 (byteV z) rfl (cell_new1 _ _ _) rfl (by unfold maxLen; omega) (by omega) (by have := hbw.size; simp; omega) ?_; intro vc' w3 r1 r2 r3; have HR1 := hide r1; have HBW3 := hide ((hbw.alloc hbw.size _).grown r2 (by have := hbw.size; simp; omega) (fun g hg => (HO.out.lt g hg).1)); clear r1 r2 r3)
      go_roundw
      case rel => exact ⟨k + 1, by omega, by go_num, by rw [HTK.out, HY.out]; exact HR1.out, HBW3.out⟩
      case measure => simp [intOf]; omega
    · have hkn' : k = n := by omega
      subst hkn'
      have HO2 : Hid (wr.ownsRow w.heap.size 5 1 u3 k ((turnB l).map byteV)) := by
        have := HO.out
        rw [List.take_of_length_le (by rw [turnB_length]; omega)] at this
        exact this
      have HN0 := hide (own_none HO2.out)
      obtain ⟨a', c', rfl, hab, hkc, hrd⟩ := Rd.of_own0 HO2.out (turnB_lt HR.out.2.1)
      have hn0 : a' = none → c' = 0 := fun h => HN0.out c' (by rw [h])
      have HNN := hide hn0
      clear hn0
      have HRD := hide hrd
      clear hrd HO HO2
      go_wp2
      go_ret
      exact ⟨a', _, rfl, HRD.out, hkc, HNN.out, hab, hbw⟩

end Go.Proofs.Ytboacpneoblklaa
