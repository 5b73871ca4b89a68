
/- Stage 18: fitsAll: a hash; a part that is none. -/
import Derived.Test.YtmanfakdbmlfeaaDoorRAll
namespace Go.Proofs.YtmanfakdbmlfeaaDoor
open Go.RowKit
set_option linter.unusedVariables false
set_option linter.unusedSimpArgs false
set_option maxHeartbeats 2000000 in
theorem fa_hashOk {a u b : List ByteArray} {x : ByteArray} (h1 : x = bHash) (h8 : u.length ≤ 8) (IH1 : Hid (FaOk a u b)) (IH2 : Hid (FaOk a (u ++ [bStar]) (x :: b))) : FaOk a u (x :: b) := by
  intro w base va vu vb hb ha hu hB
  have HU := hide hu
  have HA := hide ha
  have HBB : Hid (∀ (w1 : World) (S : Nat → Prop) (hk : Kp S w w1) (hg : ∀ k, S k → base ≤ k) (v : Value), v = vb → Tb w1 base v (x :: b)) := fun w1 S hk hg v e => by subst e; exact hB.kp hk hg
  obtain ⟨ga, oa, ca, rfl, _⟩ := ha
  obtain ⟨gb, ob, cb, rfl, hcb, hmb, hgb, hxb⟩ := hB
  obtain ⟨au, cu, rfl⟩ := hu.shape
  have hcell := hxb.2 0 x rfl
  rw [Nat.add_zero] at hcell
  rw [List.length_cons] at hcb ⊢
  have HT : Hid (∀ v, (v = .slice (some ⟨gb, ob + 1, none⟩) b.length (cb - 1) ∨ (cb - 1 = 0 ∧ v = .slice (some ⟨gb, ob, none⟩) b.length 0)) → Tb w base v b) := Tb.tails hcb hmb hgb hxb
  have e1 : (x.toList == [35]) = true := by rw [hash_eq]; simpa using h1
  have HF : Hid (faB a u (x :: b) = (faB a u b && faB a (u ++ [bStar]) (x :: b))) := by subst h1; exact faB_hash a u b
  have hz : ¬ (8 : Int) < (u.length : Int) := by omega
  clear h1 hu hxb
  go_enter Tryd.func28, Tryd.ntmps28
  go_wp2_with fail
  all_goals
    refine (IH1.out w base _ _ _ hb HA.out HU.out (HT.out _ (by first | exact .inl rfl | exact .inr ⟨by omega, rfl⟩))).mono ?_
    rintro e w1 ⟨rfl, hu1, hk1⟩
    have HU1 := hide hu1
    have HK1 := hide hk1
    clear hu1 hk1
    cases hf : faB a u b
    · have HG := hide hf
      clear hf
      go_wp2
      go_ret
      exact ⟨by rw [HF.out, HG.out]; rfl, HU1.out, HK1.out⟩
    · have HG := hide hf
      clear hf
      have HUA : Hid (Wy SK (w1.alloc (.cells #[.string bStar] 9)) base (.slice au u.length cu) u) := HU1.out.at fun k e => Below.heap_alloc _ _ _ (HU1.out.lt e).2
      have HBA : Hid (base ≤ (w1.alloc (.cells #[.string bStar] 9)).heap.size) := by have := HK1.out.size; show base ≤ (w1.alloc _).heap.size; simp; omega
      go_wp2_with (at_builtin; refine wpList_wanted (by kernel_rfl) fun K hK => wp_append_way skOk _ (.tmp 35) (.tmp 36) rfl base (.slice au u.length cu) u bStar rfl HUA.out w1.heap.size 1 rfl (heap_new _ _) HBA.out (by omega) (fun v' w2 hw2 hg2 hs2 => hK _ _ ?_); have HW2 := hide hw2; have HG2 := hide hg2; have HS2 := hide hs2; clear hw2 hg2 hs2 hK)
      have HK2 : Hid (Kp (fun k => base ≤ k) w w2) := (HK1.out.mono fun k e => (HU.out.lt e).1).trans ((((Kp.refl _ _).alloc _).grown HG2.out (fun j e => .inl (HU.out.lt e).1)))
      refine (IH2.out w2 base _ _ _ (Nat.le_trans hb HK2.out.size) (HA.out.kp HK2.out (fun k h => h)) HW2.out (HBB.out w2 _ HK2.out (fun k h => h) _ (by first | rfl | (congr 1; omega)))).mono ?_
      rintro e w3 ⟨rfl, hu3, hk3⟩
      obtain ⟨q1, q2⟩ := fa_push HU1.out HG2.out HS2.out hu3 hk3
      have HQ := hide (And.intro q1 (HK1.out.trans q2))
      clear hu3 hk3 q1 q2
      cases hf2 : faB a (u ++ [bStar]) (x :: b)
      · have HG3 := hide hf2
        clear hf2
        go_wp2
        go_ret
        exact ⟨by rw [HF.out, HG.out, HG3.out]; rfl, HQ.out.1, HQ.out.2⟩
      · have HG3 := hide hf2
        clear hf2
        go_wp2
        go_ret
        exact ⟨by rw [HF.out, HG.out, HG3.out]; rfl, HQ.out.1, HQ.out.2⟩
end Go.Proofs.YtmanfakdbmlfeaaDoor
