/- VAsLentV -/
import Derived.Test.YthhlpjhkeendcaaGreatDoorS13
namespace Go.Proofs.YthhlpjhkeendcaaGreatDoor
open Go.RowKit
set_option linter.unusedVariables false
set_option linter.unusedSimpArgs false
set_option maxRecDepth 100000 in
set_option maxHeartbeats 1000000 in
theorem asLent_any : ∀ y, AsOk y := by
  refine V.ind ?_
  intro k n s a c e l ih v lo hi Q w hy hhi hv hQ ht
  obtain ⟨k', n', s', a', c', e', m, rfl⟩ := V.ex v
  rw [V.t_of, V.t_of] at ht
  obtain ⟨rfl, rfl, rfl, _, _, rfl, htl⟩ := V.of_inj ht
  clear ht
  have hr := hy.rise
  obtain ⟨b, h1, rfl, rfl, ok, h5, h6, g, h7, h8, h9⟩ := (Lent.iff _ _ _ _ _ _ _ _ _ _).1 hy
  have hmo := g_mono h9
  have hg0 := hmo l.length (Nat.le_refl _) 0 (by omega)
  have HF : Hid (∀ w1, Below w.heap.size w w1 → Calls Tryz.prog 26 #[.slice (some ⟨b, 0, none⟩) l.length (l.length + 3), .slice a' m.length c'] w1 fun e w' => e = .returned (.bool true) ∧ Turns lo hi w1 w') := by
    intro w1 hb
    have hsz := hb.size
    have hv1 : LiesIn Q w1 (V.of k n s a' c' e m) := hv.keep (fun b' hb' o' => hb.cell (p := ⟨b', o', none⟩) (hQ b' hb').1) (fun _ h => h)
    refine asLentAll_any l m ih b g a' c' lo hi Q w1 h1 (h5.below hb (by omega)) (h6.below hb (by omega)) h7 h8 (fun i hi' => (h9 i hi').keep (fun b' o' q1 q2 q3 => (hb.block b' ?_).trans q3)) (by omega) htl (by have := ok.l; have := ok.c; omega) hv1.row hv1.sub (fun b' hb' => ?_)
    · have := hmo l.length (Nat.le_refl _) (i + 1) (by omega)
      omega
    · have := hQ b' hb'
      exact ⟨by omega, this.2⟩
  clear hv hy ih h5 h6 h9
  rw [V.val_of, V.val_of]
  go_enter Tryz.func14, Tryz.ntmps14
  go_wp2_with fail
  refine Calls.mono (HF.out _ (bel2 (Below.refl _ _) (Nat.le_refl _) _ _)) ?_
  rintro e' w1 ⟨rfl, ht1⟩
  go_wp2
  go_ret
  refine ⟨rfl, ?_⟩
  have hb2 := bel2 (Below.refl w.heap.size w) (Nat.le_refl _) (Obj.cells #[.int .i64 k, .int .u64 n, .string s, .slice (some ⟨b, 0, none⟩) l.length (l.length + 3), .int .i64 e] 25) (Obj.cells #[.int .i64 k, .int .u64 n, .string s, .slice a' m.length c', .int .i64 e] 25)
  exact (Turns.of_below hb2).trans ht1
end Go.Proofs.YthhlpjhkeendcaaGreatDoor
