
/- live: Pack. -/
import Derived.Test.YtjclfacegbhmkaaGreatDoorHLiveM
import Derived.Test.YtjclfacegbhmkaaGreatDoorHChk
import Derived.Test.YtjclfacegbhmkaaGreatDoorHFields
namespace Go.Proofs.YtjclfacegbhmkaaGreatDoor
open Go.RowKit
set_option linter.unusedVariables false
set_option linter.unusedSimpArgs false
def m22 : List (Int × Bool × V) := [(4, true, leaf 0 0 ⟨#[]⟩), (1, false, leaf 1 0 ⟨#[]⟩), (102, false, leaf 0 0 ⟨#[]⟩)]
def l22 : List V := [leaf 4 7 ⟨#[]⟩, leaf 1 0 ⟨#[]⟩, leaf 0 0 ⟨#[]⟩]
theorem fields_like22 (W : World) : Calls Tryz.prog 10 #[.int .i64 22] W (FieldsLike 3 m22 W) := by
  refine (fields22_any W).mono ?_
  rintro e w' ⟨ko, b, rfl, hb, h1, h2, h3⟩
  exact ⟨some ⟨b, 0, none⟩, _, rfl, ⟨⟨rfl, rfl⟩, fun _ => ⟨b, rfl, h1, h2, h3⟩⟩, hb⟩
theorem leaf_k (k n : Int) (s : ByteArray) : (leaf k n s).k = k := rfl
theorem check_leaf (k n : Int) (hk : -9223372036854775808 ≤ k ∧ k ≤ 9223372036854775807) (hn : 0 ≤ n ∧ n ≤ 18446744073709551615) (h : faultT 1 (leaf k n ⟨#[]⟩).t = 0) (W : World) (hT : Lib.Utf8Tabs 0 1 W) : Calls Tryz.prog 49 #[(leaf k n ⟨#[]⟩).val] W fun e w' => e = .returned (.int .i64 0) ∧ Below W.heap.size W w' := by
  have := check_any (leaf k n ⟨#[]⟩) W.heap.size W (Nat.le_refl _) (leaf_lies _ _ _ _ _ hk hn (by decide)) hT
  rw [live_check k n h] at this
  exact this
theorem checks22 (w : World) (hT : ∀ W, Below w.heap.size w W → Lib.Utf8Tabs 0 1 W) : ∀ i (h1 : i < l22.length) (h2 : i < m22.length) (h3 : i < l22.length), ∀ F : Fd, F.m = m22[i] → ∀ W, Below w.heap.size w W → Calls Tryz.prog 105 #[F.val, l22[i].val] W fun e w' => e = VN l22[i] 0 ∧ Below W.heap.size W w' := by
  intro i h1 h2 h3 F hF W hW
  have h3' : i < 3 := h1
  have hTW : ∀ W', Below W.heap.size W W' → Lib.Utf8Tabs 0 1 W' := fun W' h => hT W' (belOn hW hW.size h)
  obtain rfl | rfl | rfl : i = 0 ∨ i = 1 ∨ i = 2 := by omega
  · have ht : F.ty = 4 := congrArg Prod.fst hF
    have hm : F.must = true := congrArg (fun p => p.2.1) hF
    show Calls Tryz.prog 105 #[F.val, (leaf 4 7 ⟨#[]⟩).val] W fun e w' => e = VN (leaf 4 7 ⟨#[]⟩) 0 ∧ Below W.heap.size W w'
    refine checked_gen F _ _ W (by rw [hm]; rfl) (by rw [ht]; rfl) (fun W' hb => check_leaf 4 7 (by decide) (by decide) live_f4 W' (hTW W' hb)) (fun W' hb => filled_flat F (leaf 4 7 ⟨#[]⟩) (by rw [leaf_k, ht]) (by rw [leaf_k]; decide) (by rw [ht]; decide) (by rw [ht]; decide) (by rw [ht]; decide) W')
  · have ht : F.ty = 1 := congrArg Prod.fst hF
    have hm : F.must = false := congrArg (fun p => p.2.1) hF
    show Calls Tryz.prog 105 #[F.val, (leaf 1 0 ⟨#[]⟩).val] W fun e w' => e = VN (leaf 1 0 ⟨#[]⟩) 0 ∧ Below W.heap.size W w'
    refine checked_gen F _ _ W (by rw [hm]; rfl) (by rw [ht]; rfl) (fun W' hb => check_leaf 1 0 (by decide) (by decide) live_f1 W' (hTW W' hb)) (fun W' hb => filled_flat F (leaf 1 0 ⟨#[]⟩) (by rw [leaf_k, ht]) (by rw [leaf_k]; decide) (by rw [ht]; decide) (by rw [ht]; decide) (by rw [ht]; decide) W')
  · have ht : F.ty = 102 := congrArg Prod.fst hF
    have hm : F.must = false := congrArg (fun p => p.2.1) hF
    have hd : F.d = leaf 0 0 ⟨#[]⟩ := congrArg (fun p => p.2.2) hF
    show Calls Tryz.prog 105 #[F.val, (leaf 0 0 ⟨#[]⟩).val] W fun e w' => e = VN (leaf 0 0 ⟨#[]⟩) 0 ∧ Below W.heap.size W w'
    refine checked_gen F _ _ W (by rw [hm]; rfl) (by rw [ht]; rfl) (fun W' hb => check_leaf 0 0 (by decide) (by decide) live_f0 W' (hTW W' hb)) (fun W' hb => ?_)
    have := filled_null F (leaf 0 0 ⟨#[]⟩) rfl hm W'
    rw [hd] at this
    exact this
/-- what Pack makes of it -/
def P22 (v : V) : Prop := ∃ a2 a3 c2 c3, v = .of 24 0 ⟨#[]⟩ a2 c2 0 [leaf 5 22 ⟨#[]⟩, .of 21 0 ⟨#[]⟩ a3 c3 0 [leaf 4 7 ⟨#[]⟩]]
theorem outs22 : (outs l22 (m22.map fun m => m.2.2)).take (saidN l22 (m22.map fun m => m.2.2) l22.length) = [leaf 4 7 ⟨#[]⟩] := by
  show (outs [leaf 4 7 ⟨#[]⟩, leaf 1 0 ⟨#[]⟩, leaf 0 0 ⟨#[]⟩] [leaf 0 0 ⟨#[]⟩, leaf 1 0 ⟨#[]⟩, leaf 0 0 ⟨#[]⟩]).take (saidN [leaf 4 7 ⟨#[]⟩, leaf 1 0 ⟨#[]⟩, leaf 0 0 ⟨#[]⟩] [leaf 0 0 ⟨#[]⟩, leaf 1 0 ⟨#[]⟩, leaf 0 0 ⟨#[]⟩] 3) = _
  rw [live_said, live_outs]
  rfl
theorem leaf_all (d k n : Int) (s : ByteArray) : (leaf k n s).all d = [(d, leaf k n s)] := by
  unfold leaf
  rw [V.all_of]
  rfl
theorem deep22 (a2 a3 : Option Addr) (c2 c3 : Nat) (x y : V) (hx : x.all 2 = [(2, x)]) (hy : y.all 3 = [(3, y)]) : (V.of 24 0 ⟨#[]⟩ a2 c2 0 [x, .of 21 0 ⟨#[]⟩ a3 c3 0 [y]]).all 1 = [(1, V.of 24 0 ⟨#[]⟩ a2 c2 0 [x, .of 21 0 ⟨#[]⟩ a3 c3 0 [y]]), (2, x), (2, V.of 21 0 ⟨#[]⟩ a3 c3 0 [y]), (3, y)] := by
  rw [V.all_of]
  have h2 : wrap64 (1 + 1) = 2 := by kernel_rfl
  have h3 : wrap64 (2 + 1) = 3 := by kernel_rfl
  rw [h2]
  simp only [V.alls]
  rw [V.all_of, h3, hx]
  simp only [V.alls]
  rw [hy]
  rfl
theorem pack22 (R : Nat) (w : World) (hR : R < w.heap.size) (hr : Row w R 0 l22) (hT : ∀ W, Below w.heap.size w W → Lib.Utf8Tabs 0 1 W) :
    Calls Tryz.prog 24 #[.agg #[.int .i64 22, .slice (some ⟨R, 0, none⟩) 3 3]] w (fun e w' => ∃ y : V, e = VN y 0 ∧ Hid ((∃ v, P22 v ∧ y.t = v.t) ∧ Lies w'.heap.size w' y) ∧ Below w.heap.size w w') := by
  refine pack_gen 22 (some ⟨R, 0, none⟩) 3 3 w P22 (fun W hW => ?_)
  have hsz := hW.size
  have := packed_gen 22 (by decide) (by decide) l22 l22 m22 rfl rfl R 3 (by decide) (by decide) (by decide) W (by omega) (hr.below hW hR)
    (fun x hx => by
      simp only [l22, List.mem_cons, List.not_mem_nil, or_false] at hx
      rcases hx with rfl | rfl | rfl <;> exact leaf_lies _ _ _ _ _ (by decide) (by decide) (by decide))
    (fun d hd n₀ W' => by
      simp only [m22, List.map_cons, List.map_nil, List.mem_cons, List.not_mem_nil, or_false] at hd
      rcases hd with rfl | rfl | rfl <;> exact leaf_lies _ _ _ _ _ (by decide) (by decide) (by decide))
    (fun W' _ => fields_like22 W') (checks22 W (fun W' h => hT W' (belOn hW hsz h)))
    (fun a2 a3 c2 c3 => by
      rw [outs22, deep22 _ _ _ _ _ _ (leaf_all _ _ _ _) (leaf_all _ _ _ _)]
      show ([1, 2, 2, 3] : List Int).foldl max 0 ≤ 32
      decide)
  refine this.mono ?_
  rintro e w' ⟨v, h1, h2, h3⟩
  refine ⟨v, h1, ⟨?_, h2.out.2⟩, h3⟩
  obtain ⟨a2, a3, c2, c3, hv⟩ := h2.out.1
  rw [outs22] at hv
  exact ⟨a2, a3, c2, c3, hv⟩
end Go.Proofs.YtjclfacegbhmkaaGreatDoor
