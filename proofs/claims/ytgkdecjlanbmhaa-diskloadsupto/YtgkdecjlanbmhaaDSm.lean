
/- Stage 19: New, isName, own, hasTail, a file's fall. -/
import Derived.Test.YtgkdecjlanbmhaaDDk
import Derived.Deep.RegionHeld
import Derived.Deep.RegionHeldLaw
namespace Go.Proofs.Ytgkdecjlanbmhaa
open Go.RowKit Go.Maps
set_option linter.unusedVariables false
set_option linter.unusedSimpArgs false
/-- a disk that is new -/
def dx0 (room : Int) : Dx := ⟨0, room, 0, false, -1, 0⟩
set_option maxHeartbeats 1000000 in
theorem new_no (w : World) (r : Int) (h : r < 0 ∨ 16777216 < r) : Calls Try.prog 7 #[.int .i64 r] w fun e w' => e = .returned (.pointer none) ∧ Below w.heap.size w w' := by
  by_cases h0 : r < 0
  · go_enter Try.func7, Try.ntmps7
    go_wp2
    go_ret
    exact ⟨rfl, Below.refl _ _⟩
  · have h1 : 16777216 < r := by omega
    go_enter Try.func7, Try.ntmps7
    go_wp2
    go_ret
    exact ⟨rfl, Below.refl _ _⟩
set_option maxHeartbeats 1000000 in
theorem new_any (w : World) (r : Int) (h0 : 0 ≤ r) (h1 : r ≤ 16777216) : Calls Try.prog 7 #[.int .i64 r] w fun e w' => ∃ d, e = .returned (.pointer (some ⟨d, 0, none⟩)) ∧ Dsk (fun k => w.heap.size ≤ k ∧ k < w'.heap.size) w' d (dx0 r) [] ∧ Below w.heap.size w w' := by
  have hmm := @run_makeMap Try.prog
  have h2 : ¬ r < 0 := by omega
  have h3 : ¬ 16777216 < r := by omega
  go_enter Try.func7, Try.ntmps7
  go_wp2
  go_ret
  refine ⟨_, rfl, ⟨w.heap.size, [], rfl, ⟨by simp, by simp; omega, ?_, (Tb.made w).at (Below.heap_alloc _ _ _ (by simp)), by simp, by simp, by simp⟩⟩, bel1 (bel1 (Below.refl _ _) (Nat.le_refl _) _) (by simp) _⟩
  have := heap_new (w.alloc (.map #[] 0)) (.cells (dkA w.heap.size (dx0 r)) 77)
  simpa [dkA, dx0, usd] using this
theorem nm_true {s : ByteArray} (h1 : 1 ≤ s.size) (h2 : s.size ≤ 16) (h : ∀ j, j < s.size → okN (s.get! j).toNat = true) : nm s = true := by
  simp only [nm, h1, h2, decide_true, Bool.true_and, List.all_eq_true, List.mem_range]
  exact h
theorem nm_false {s : ByteArray} (h : s.size < 1 ∨ 16 < s.size ∨ ∃ j, j < s.size ∧ okN (s.get! j).toNat = false) : nm s = false := by
  rw [← Bool.not_eq_true]
  intro hn
  simp only [nm, Bool.and_eq_true, decide_eq_true_eq, List.all_eq_true, List.mem_range] at hn
  rcases h with h | h | ⟨j, hj, h⟩
  · omega
  · omega
  · rw [hn.2 j hj] at h
    cases h
set_option maxHeartbeats 2000000 in
theorem isName_any (s : ByteArray) (w : World) : Calls Try.prog 50 #[.string s] w fun e w' => e = .returned (.bool (nm s)) ∧ w' = w := by
  by_cases h1 : s.size < 1
  · have HN := hide (nm_false (s := s) (.inl h1))
    have h0 : s.size = 0 := by omega
    clear h1
    go_enter Try.func50, Try.ntmps50
    go_wp2
    go_ret
    exact ⟨by rw [HN.out]; rfl, rfl⟩
  by_cases h2 : 16 < s.size
  · have HN := hide (nm_false (s := s) (.inr (.inl h2)))
    have z1 : ¬ ((s.size : Nat) : Int) < 1 := by omega
    have z2 : (16 : Int) < ((s.size : Nat) : Int) := by omega
    clear h1 h2
    go_enter Try.func50, Try.ntmps50
    go_wp2
    go_ret
    exact ⟨by rw [HN.out]; rfl, rfl⟩
  have z1 : ¬ ((s.size : Nat) : Int) < 1 := by omega
  have z2 : ¬ (16 : Int) < ((s.size : Nat) : Int) := by omega
  have HY := hide (nm_true (s := s) (by omega) (by omega))
  have HN : Hid (∀ j, j < s.size → okN (s.get! j).toNat = false → nm s = false) := fun j h1 h2 => nm_false (.inr (.inr ⟨j, h1, h2⟩))
  have h3 : s.size ≤ 16 := by omega
  clear h1 h2
  go_enter Try.func50, Try.ntmps50
  go_wp2
  go_loop [15] (fun vi => ∃ k : Nat, k ≤ s.size ∧ vi = .int .i64 k ∧ Hid (∀ j, j < k → okN (s.get! j).toNat = true)) (fun vi => s.size - (intOf vi).toNat)
  case atStart => exact ⟨0, Nat.zero_le _, rfl, fun j hj => absurd hj (by omega)⟩
  case round =>
    obtain ⟨k, hk, rfl, HK⟩ := hrel
    by_cases hkn : k < s.size
    · have hg := get_at s k hkn
      have hlt : s[k].toNat < 256 := UInt8.toNat_lt _
      rcases (show s[k].toNat = 46 ∨ (s[k].toNat ≠ 46 ∧ s[k].toNat < 97) ∨ (s[k].toNat ≠ 46 ∧ ¬ s[k].toNat < 97 ∧ 122 < s[k].toNat) ∨ (s[k].toNat ≠ 46 ∧ ¬ s[k].toNat < 97 ∧ ¬ 122 < s[k].toNat) by omega) with h5 | ⟨h5, h6⟩ | ⟨h5, h6, h7⟩ | ⟨h5, h6, h7⟩
      · have HB : Hid (okN s[k].toNat = true) := by show okN s[k].toNat = true; rw [h5]; rfl
        go_wp2
        go_round
        case rel => exact ⟨k + 1, by omega, by go_num, fun j hj => by
          by_cases e : j = k
          · subst e; rw [hg]; exact HB.out
          · exact HK.out j (by omega)⟩
        case measure => simp [intOf]; omega
      · have b5 : ¬ ((s[k].toNat : Nat) : Int) = 46 := by omega
        have HB : Hid (okN s[k].toNat = false) := by show okN s[k].toNat = false; unfold okN; simp; omega
        have HF := hide (HN.out k hkn (by rw [hg]; exact HB.out))
        have z6 : ((s[k].toNat : Nat) : Int) < 97 := by omega
        clear h5 h6
        go_wp2
        go_ret
        exact ⟨by rw [HF.out]; rfl, rfl⟩
      · have b5 : ¬ ((s[k].toNat : Nat) : Int) = 46 := by omega
        have HB : Hid (okN s[k].toNat = false) := by show okN s[k].toNat = false; unfold okN; simp; omega
        have HF := hide (HN.out k hkn (by rw [hg]; exact HB.out))
        have z6 : ¬ ((s[k].toNat : Nat) : Int) < 97 := by omega
        have z7 : 122 < ((s[k].toNat : Nat) : Int) := by omega
        clear h5 h6 h7
        go_wp2
        go_ret
        exact ⟨by rw [HF.out]; rfl, rfl⟩
      · have b5 : ¬ ((s[k].toNat : Nat) : Int) = 46 := by omega
        have HB : Hid (okN s[k].toNat = true) := by show okN s[k].toNat = true; unfold okN; simp; omega
        have z6 : ¬ ((s[k].toNat : Nat) : Int) < 97 := by omega
        have z7 : ¬ 122 < ((s[k].toNat : Nat) : Int) := by omega
        clear h5 h6 h7
        go_wp2
        go_round
        case rel => exact ⟨k + 1, by omega, by go_num, fun j hj => by
          by_cases e : j = k
          · subst e; rw [hg]; exact HB.out
          · exact HK.out j (by omega)⟩
        case measure => simp [intOf]; omega
    · go_wp2
      go_ret
      exact ⟨by rw [HY.out (fun j hj => HK.out j (by omega))]; rfl, rfl⟩
set_option maxHeartbeats 1000000 in
theorem own_any (v : Value) (l : List Nat) (w : World) (hr : Rb w v l) (hz : l.length ≤ 140737488355328) : Calls Try.prog 53 #[v] w fun e w' => ∃ v', e = .returned v' ∧ Ob w.heap.size w' v' l ∧ Below w.heap.size w w' := by
  have HR := hide hr
  clear hr
  go_enter Try.func53, Try.ntmps53
  go_wp2_with (at_builtin; go_loud (refine wpList_app _ rfl (.const (.slice none 0 0)) (.tmp 3) rfl w.heap.size _ [] rfl (Ob.nil _ _) _ l rfl HR.out (by simpa using hz) (Nat.le_refl _) ?_; intro v' w3 r1 r2 r3; have HO := hide r1; have HG := hide r2; clear r1 r2 r3))
  go_ret
  exact ⟨_, rfl, by simpa using HO.out, (Below.refl w.heap.size w).trans ⟨HG.out.os, HG.out.tape, HG.out.output, HG.out.size, fun k hk => HG.out.block k hk (fun h => by cases h)⟩⟩
theorem Ob.slice {B : Nat} {w : World} {v : Value} {l : List Nat} (h : Ob B w v l) : ∃ a c, v = .slice a l.length c ∧ l.length ≤ c := by
  obtain ⟨a, c, e, _, h2, _⟩ := h.rb
  exact ⟨a, c, e, h2⟩
set_option maxHeartbeats 1000000 in
theorem hasTail_any (p : Nat) (v : Value) (l : List Nat) (s : Nat) (w : World) (hb : w.heap[p]? = some (.cells (flA v s) 91 (0, 0))) (ho : Ob 0 w v l) : Calls Try.prog 60 #[pV p] w fun e w' => e = .returned (.bool (decide (s < l.length))) ∧ Below w.heap.size w w' := by
  obtain ⟨a, c, rfl, hc⟩ := ho.slice
  have c0 : w.cell? ⟨p, 0, none⟩ = some (.slice a l.length c) := cellOf hb 0 _ rfl
  have c1 : w.cell? ⟨p, 1, none⟩ = some (.int .i64 (s : Int)) := cellOf hb 1 _ rfl
  clear hb ho
  unfold pV
  go_enter Try.func60, Try.ntmps60
  go_wp2_with fail
  go_region_held (fun W => W.cell? ⟨p, 0, none⟩ = some (.slice a l.length c) ∧ W.cell? ⟨p, 1, none⟩ = some (.int .i64 (s : Int))) (exact ⟨c0, c1⟩) (fail)
  go_wp2
  go_ret
  exact ⟨by simp, by first | exact Below.refl _ _ | exact Below.drew (Below.refl _ _)⟩
/-- what stays of a file: how many bytes -/
def stay (n s : Nat) (keep : Int) : Nat := s + min keep.toNat (n - s)
end Go.Proofs.Ytgkdecjlanbmhaa
