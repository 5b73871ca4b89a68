
/- MessageNames: the document's Same at blank messages. -/
import Derived.Test.YtiplidljlegcgaaMNa
import Derived.Deep.MidRow
namespace Go.Proofs.Ytiplidljlegcgaa
open Go.RowKit
set_option linter.unusedVariables false
set_option linter.unusedSimpArgs false
theorem rangeOf {W : World} {g : Nat} {cs : Array Value} {t : TypeId} {fr : Nat × Nat} (h : W.heap[g]? = some (.cells cs t fr)) (o n : Nat) : W.rangeAt g o ((cs.toList.drop o).take n) := by
  intro j v hv
  unfold World.cell?
  simp only [h]
  have h1 : j < n := by
    have := (List.getElem?_eq_some_iff.1 hv).1
    rw [List.length_take] at this
    omega
  rw [List.getElem?_take_of_lt h1, List.getElem?_drop, Array.getElem?_toList] at hv
  exact hv
theorem cellOf {W : World} {g : Nat} {cs : Array Value} {t : TypeId} {fr : Nat × Nat} (h : W.heap[g]? = some (.cells cs t fr)) (o : Nat) (v : Value) (hv : cs[o]? = some v) : W.cell? ⟨g, o, none⟩ = some v := by
  unfold World.cell?
  simp only [h]
  exact hv
def nulL : List Value := [.int .i64 0, .int .u64 0, .string ⟨#[]⟩, .slice none 0 0, .int .i64 0]
def nulM : V := V.of 0 0 ⟨#[]⟩ none 0 0 []
theorem Try.infoV : (Try.prog.info? 28).map (·.size) = some nulL.length := by kernel_rfl
theorem nulL_arr : nulL.toArray = #[.int .i64 0, .int .u64 0, .string ⟨#[]⟩, .slice none 0 0, .int .i64 0] := rfl
theorem eqT_refl (x : T) : eqT x x = true := by
  have h := neg_ord x x
  have h0 : T.ord x x = 0 := by omega
  unfold eqT
  simp [h0]
theorem nul_lies (n : Nat) (W : World) : Lies n W nulM := .mk ⟨by omega, by omega, by decide, by omega, by simp, by simp⟩ (fun h => absurd h (by simp)) (fun x hx => absurd hx (by simp))
/-- eight Nulls in a row -/
def rowA : Array Value := #[.int .i64 0, .int .u64 0, .string ⟨#[]⟩, .slice none 0 0, .int .i64 0, .int .i64 0, .int .u64 0, .string ⟨#[]⟩, .slice none 0 0, .int .i64 0, .int .i64 0, .int .u64 0, .string ⟨#[]⟩, .slice none 0 0, .int .i64 0, .int .i64 0, .int .u64 0, .string ⟨#[]⟩, .slice none 0 0, .int .i64 0, .int .i64 0, .int .u64 0, .string ⟨#[]⟩, .slice none 0 0, .int .i64 0, .int .i64 0, .int .u64 0, .string ⟨#[]⟩, .slice none 0 0, .int .i64 0, .int .i64 0, .int .u64 0, .string ⟨#[]⟩, .slice none 0 0, .int .i64 0, .int .i64 0, .int .u64 0, .string ⟨#[]⟩, .slice none 0 0, .int .i64 0]
theorem row8 {W : World} {b : Nat} {t : TypeId} {fr : Nat × Nat} (h : W.heap[b]? = some (.cells rowA t fr)) : Row W b 0 (List.replicate 8 nulM) := by
  intro i hi
  have hi8 : i < 8 := by simpa using hi
  rw [List.getElem_replicate]
  have : i = 0 ∨ i = 1 ∨ i = 2 ∨ i = 3 ∨ i = 4 ∨ i = 5 ∨ i = 6 ∨ i = 7 := by omega
  rcases this with rfl | rfl | rfl | rfl | rfl | rfl | rfl | rfl <;> exact ⟨cellOf h _ _ rfl, cellOf h _ _ rfl, cellOf h _ _ rfl, cellOf h _ _ rfl, cellOf h _ _ rfl⟩
set_option maxRecDepth 100000 in
set_option maxHeartbeats 4000000 in
theorem equalAll8 (b1 b2 : Nat) (w : World) (h1 : w.heap[b1]? = some (.cells rowA 28 (0, 0))) (h2 : w.heap[b2]? = some (.cells rowA 28 (0, 0))) :
    Calls Try.prog 9 #[.slice (some ⟨b1, 0, none⟩) 8 8, .slice (some ⟨b2, 0, none⟩) 8 8] w fun e w' => e = .returned (.bool true) ∧ Below w.heap.size w w' := by
  have hx : ∀ b, w.heap[b]? = some (.cells rowA 28 (0, 0)) → Lies w.heap.size w (V.of 0 0 ⟨#[]⟩ (some ⟨b, 0, none⟩) 8 0 (List.replicate 8 nulM)) := fun b h =>
    .mk ⟨by omega, by omega, by decide, by omega, by simp, by simp⟩ (fun _ => ⟨b, 0, rfl, (Array.getElem?_eq_some_iff.1 h).1, row8 h⟩) (fun x hx => by
      rw [List.eq_of_mem_replicate hx]
      exact nul_lies _ _)
  have h := requal_any (V.of 0 0 ⟨#[]⟩ (some ⟨b1, 0, none⟩) 8 0 (List.replicate 8 nulM)) (V.of 0 0 ⟨#[]⟩ (some ⟨b2, 0, none⟩) 8 0 (List.replicate 8 nulM)) w.heap.size w (Nat.le_refl _) (hx b1 h1) (hx b2 h2)
  rw [V.val_of, V.val_of, V.t_of, V.t_of, eqT_refl, List.length_replicate] at h
  have HH := hide h
  clear h h1 h2 hx
  go_enter Try.func9, Try.ntmps9
  go_wp2_with fail
  refine HH.out.mono ?_
  rintro e w' ⟨rfl, hb⟩
  go_wp2
  go_ret
  exact ⟨rfl, hb⟩
theorem setRow_new1 (w : World) (A : Obj) (c c' : Array Value) (t : TypeId) : ((w.alloc A).alloc (.cells c t)).setRow (w.heap.size + 1) c' = (w.alloc A).alloc (.cells c' t) := by
  have := World.setRow_alloc_new (w.alloc A) c c' t
  rwa [World.size_alloc] at this
/-- what the law reads of a message and its properties -/
def Reads (g p b : Nat) (W : World) : Prop := W.heap[g]? = some (.cells (msgA b) 33 (0, 0)) ∧ W.heap[p]? = some (.cells prpA 30 (0, 0))
theorem Reads.below {g p b : Nat} {W w : World} (h : Reads g p b W) (hb : Below W.heap.size W w) : Reads g p b w :=
  ⟨(hb.block _ (Array.getElem?_eq_some_iff.1 h.1).1).trans h.1, (hb.block _ (Array.getElem?_eq_some_iff.1 h.2).1).trans h.2⟩
set_option maxRecDepth 100000 in
set_option maxHeartbeats 8000000 in
theorem same_blank (b1 b2 : Nat) (w : World) (h1 : w.heap[b1]? = some (.cells #[.string ⟨#[]⟩] 9 (0, 0))) (h2 : w.heap[b2]? = some (.cells #[.string ⟨#[]⟩] 9 (0, 0))) :
    Calls Try.prog 5 #[.agg (msgA b1), .agg (msgA b2)] w fun e w' => e = .returned (.bool true) ∧ Below w.heap.size w w' := by
  have hl1 : b1 < w.heap.size := (Array.getElem?_eq_some_iff.1 h1).1
  have hl2 : b2 < w.heap.size := (Array.getElem?_eq_some_iff.1 h2).1
  obtain ⟨W1, hW1⟩ : ∃ W1, (w.alloc (.cells (msgA b1) 33)).alloc (.cells (msgA b2) 33) = W1 := ⟨_, rfl⟩
  have hs1 : W1.heap.size = w.heap.size + 2 := by rw [← hW1]; simp
  have hb1 : Below w.heap.size w W1 := by rw [← hW1]; exact bel2 (Below.refl _ _) (Nat.le_refl _) _ _
  have m1 : W1.heap[w.heap.size]? = some (.cells (msgA b1) 33 (0, 0)) := by rw [← hW1]; exact heap_past (World.alloc_heap_new _ _) _
  have m2 : W1.heap[w.heap.size + 1]? = some (.cells (msgA b2) 33 (0, 0)) := by rw [← hW1]; exact heap_at1 _ _ _
  obtain ⟨W2, hW2⟩ : ∃ W2, (W1.alloc (.cells prpA 30)).alloc (.cells prpA 30) = W2 := ⟨_, rfl⟩
  have hs2 : W2.heap.size = W1.heap.size + 2 := by rw [← hW2]; simp
  have hb2 : Below W1.heap.size W1 W2 := by rw [← hW2]; exact bel2 (Below.refl _ _) (Nat.le_refl _) _ _
  have p1 : W2.heap[W1.heap.size]? = some (.cells prpA 30 (0, 0)) := by rw [← hW2]; exact heap_past (World.alloc_heap_new _ _) _
  have p2 : W2.heap[W1.heap.size + 1]? = some (.cells prpA 30 (0, 0)) := by rw [← hW2]; exact heap_at1 _ _ _
  obtain ⟨W3, hW3⟩ : ∃ W3, W2.alloc (.cells #[.int .i64 0, .int .u64 0, .string ⟨#[]⟩, .slice none 0 0, .int .i64 0, .int .i64 0, .int .u64 0, .string ⟨#[]⟩, .slice none 0 0, .int .i64 0, .int .i64 0, .int .u64 0, .string ⟨#[]⟩, .slice none 0 0, .int .i64 0, .int .i64 0, .int .u64 0, .string ⟨#[]⟩, .slice none 0 0, .int .i64 0, .int .i64 0, .int .u64 0, .string ⟨#[]⟩, .slice none 0 0, .int .i64 0, .int .i64 0, .int .u64 0, .string ⟨#[]⟩, .slice none 0 0, .int .i64 0, .int .i64 0, .int .u64 0, .string ⟨#[]⟩, .slice none 0 0, .int .i64 0, .int .i64 0, .int .u64 0, .string ⟨#[]⟩, .slice none 0 0, .int .i64 0] 28) = W3 := ⟨_, rfl⟩
  have hs3 : W3.heap.size = W2.heap.size + 1 := by rw [← hW3]; simp
  have hb3 : Below W2.heap.size W2 W3 := by rw [← hW3]; exact bel1 (Below.refl _ _) (Nat.le_refl _) _
  have v1 : W3.heap[W2.heap.size]? = some (.cells rowA 28 (0, 0)) := by rw [← hW3]; exact World.alloc_heap_new _ _
  obtain ⟨W4, hW4⟩ : ∃ W4, W3.alloc (.cells #[.int .i64 0, .int .u64 0, .string ⟨#[]⟩, .slice none 0 0, .int .i64 0, .int .i64 0, .int .u64 0, .string ⟨#[]⟩, .slice none 0 0, .int .i64 0, .int .i64 0, .int .u64 0, .string ⟨#[]⟩, .slice none 0 0, .int .i64 0, .int .i64 0, .int .u64 0, .string ⟨#[]⟩, .slice none 0 0, .int .i64 0, .int .i64 0, .int .u64 0, .string ⟨#[]⟩, .slice none 0 0, .int .i64 0, .int .i64 0, .int .u64 0, .string ⟨#[]⟩, .slice none 0 0, .int .i64 0, .int .i64 0, .int .u64 0, .string ⟨#[]⟩, .slice none 0 0, .int .i64 0, .int .i64 0, .int .u64 0, .string ⟨#[]⟩, .slice none 0 0, .int .i64 0] 28) = W4 := ⟨_, rfl⟩
  have hs4 : W4.heap.size = W3.heap.size + 1 := by rw [← hW4]; simp
  have hb4 : Below W3.heap.size W3 W4 := by rw [← hW4]; exact bel1 (Below.refl _ _) (Nat.le_refl _) _
  have v2 : W4.heap[W3.heap.size]? = some (.cells rowA 28 (0, 0)) := by rw [← hW4]; exact World.alloc_heap_new _ _
  have v1' := (hb4.block W2.heap.size (by omega)).trans v1
  have HEA := hide (equalAll8 W2.heap.size W3.heap.size W4 v1' v2)
  have RA2 : Reads w.heap.size W1.heap.size b1 W2 := ⟨(hb2.block _ (by omega)).trans m1, p1⟩
  have RB2 : Reads (w.heap.size + 1) (W1.heap.size + 1) b2 W2 := ⟨(hb2.block _ (by omega)).trans m2, p2⟩
  have RA4 := hide ((RA2.below hb3).below hb4)
  have RB3 := RB2.below hb3
  have RB4 := hide (RB3.below hb4)
  have hbw4 : Below w.heap.size w W4 := belOn hb1 (by omega) (belOn hb2 (by omega) (belOn hb3 (by omega) hb4))
  have HR1 : Hid (W1.rangeAt w.heap.size 16 prpA.toList) := rangeOf m1 16 22
  have HR2 : Hid ((W1.alloc (.cells prpA 30)).rangeAt (w.heap.size + 1) 16 prpA.toList) := rangeOf (heap_past m2 _) 16 22
  have HH1 := hide h1
  have HH2 := hide h2
  have la6 : Hid (W2.rangeAt w.heap.size 6 nulL) := rangeOf RA2.1 6 5
  have la11 : Hid (W2.rangeAt w.heap.size 11 nulL) := rangeOf RA2.1 11 5
  have la38 : Hid (W2.rangeAt w.heap.size 38 nulL) := rangeOf RA2.1 38 5
  have la46 : Hid (W2.rangeAt w.heap.size 46 nulL) := rangeOf RA2.1 46 5
  have la51 : Hid (W2.rangeAt w.heap.size 51 nulL) := rangeOf RA2.1 51 5
  have lp1 : Hid (W2.rangeAt W1.heap.size 1 nulL) := rangeOf RA2.2 1 5
  have lp10 : Hid (W2.rangeAt W1.heap.size 10 nulL) := rangeOf RA2.2 10 5
  have lb6 : Hid (W3.rangeAt (w.heap.size + 1) 6 nulL) := rangeOf RB3.1 6 5
  have lb11 : Hid (W3.rangeAt (w.heap.size + 1) 11 nulL) := rangeOf RB3.1 11 5
  have lb38 : Hid (W3.rangeAt (w.heap.size + 1) 38 nulL) := rangeOf RB3.1 38 5
  have lb46 : Hid (W3.rangeAt (w.heap.size + 1) 46 nulL) := rangeOf RB3.1 46 5
  have lb51 : Hid (W3.rangeAt (w.heap.size + 1) 51 nulL) := rangeOf RB3.1 51 5
  have lq1 : Hid (W3.rangeAt (W1.heap.size + 1) 1 nulL) := rangeOf RB3.2 1 5
  have lq10 : Hid (W3.rangeAt (W1.heap.size + 1) 10 nulL) := rangeOf RB3.2 10 5
  have ca45 : W2.cell? ⟨w.heap.size, 45, none⟩ = some (.slice none 0 0) := cellOf RA2.1 45 _ rfl
  have cb45 : W3.cell? ⟨w.heap.size + 1, 45, none⟩ = some (.slice none 0 0) := cellOf RB3.1 45 _ rfl
  have HW1 := hide hW1
  have HW2 := hide hW2
  have HW3 := hide hW3
  have HW4 := hide hW4
  have HS : Hid (W1.heap.size = w.heap.size + 2 ∧ W2.heap.size = W1.heap.size + 2 ∧ W3.heap.size = W2.heap.size + 1 ∧ W4.heap.size = W3.heap.size + 1) := ⟨hs1, hs2, hs3, hs4⟩
  have HBW := hide hbw4
  clear m1 m2 hW1 hW2 hW3 hW4 hs1 hs2 hs3 hs4 hb1 hb2 hb3 hb4 p1 p2 v1 v2 v1' RA2 RB2 RB3 hbw4 h1 h2
  go_enter Try.func5, Try.ntmps5
  go_wp2_with (first
    | (refine wpList_load_mid rfl 30 (.tmp 12) rfl w.heap.size 16 rfl prpA.toList _ (by rw [HW1.out]; exact HR1.out) Try.underlying30 rfl Try.infoP ?_; rw [HW1.out])
    | (refine wpList_store_row rfl 30 (.tmp 5) (.tmp 13) rfl W1.heap.size prpA rfl rfl 30 _ (heap_alloc_last W1 _) Try.infoP rfl (by kernel_rfl) ?_; rw [World.setRow_alloc_new])
    | (refine wpList_load_mid rfl 30 (.tmp 14) rfl (w.heap.size + 1) 16 rfl prpA.toList _ HR2.out Try.underlying30 rfl Try.infoP ?_)
    | (refine wpList_store_row rfl 30 (.tmp 6) (.tmp 15) rfl (W1.heap.size + 1) prpA rfl rfl 30 _ (heap_at1 W1 _ _) Try.infoP rfl (by kernel_rfl) ?_; rw [setRow_new1, HW2.out])
    | (refine wpList_load_mid rfl 28 (.tmp 16) rfl w.heap.size 6 rfl nulL _ la6.out Try.underlying28 rfl Try.infoV ?_; rw [nulL_arr])
    | (refine wpList_load_mid rfl 28 (.tmp 18) rfl w.heap.size 11 rfl nulL _ la11.out Try.underlying28 rfl Try.infoV ?_; rw [nulL_arr])
    | (refine wpList_load_mid rfl 28 (.tmp 20) rfl w.heap.size 38 rfl nulL _ la38.out Try.underlying28 rfl Try.infoV ?_; rw [nulL_arr])
    | (refine wpList_load_mid rfl 28 (.tmp 22) rfl w.heap.size 46 rfl nulL _ la46.out Try.underlying28 rfl Try.infoV ?_; rw [nulL_arr])
    | (refine wpList_load_mid rfl 28 (.tmp 24) rfl w.heap.size 51 rfl nulL _ la51.out Try.underlying28 rfl Try.infoV ?_; rw [nulL_arr])
    | (refine wpList_load_mid rfl 28 (.tmp 26) rfl W1.heap.size 1 rfl nulL _ lp1.out Try.underlying28 rfl Try.infoV ?_; rw [nulL_arr])
    | (refine wpList_load_mid rfl 28 (.tmp 28) rfl W1.heap.size 10 rfl nulL _ lp10.out Try.underlying28 rfl Try.infoV ?_; rw [nulL_arr])
    | (refine wpList_load_mid rfl 28 (.tmp 34) rfl (w.heap.size + 1) 6 rfl nulL _ lb6.out Try.underlying28 rfl Try.infoV ?_; rw [nulL_arr])
    | (refine wpList_load_mid rfl 28 (.tmp 36) rfl (w.heap.size + 1) 11 rfl nulL _ lb11.out Try.underlying28 rfl Try.infoV ?_; rw [nulL_arr])
    | (refine wpList_load_mid rfl 28 (.tmp 38) rfl (w.heap.size + 1) 38 rfl nulL _ lb38.out Try.underlying28 rfl Try.infoV ?_; rw [nulL_arr])
    | (refine wpList_load_mid rfl 28 (.tmp 40) rfl (w.heap.size + 1) 46 rfl nulL _ lb46.out Try.underlying28 rfl Try.infoV ?_; rw [nulL_arr])
    | (refine wpList_load_mid rfl 28 (.tmp 42) rfl (w.heap.size + 1) 51 rfl nulL _ lb51.out Try.underlying28 rfl Try.infoV ?_; rw [nulL_arr])
    | (refine wpList_load_mid rfl 28 (.tmp 44) rfl (W1.heap.size + 1) 1 rfl nulL _ lq1.out Try.underlying28 rfl Try.infoV ?_; rw [nulL_arr])
    | (refine wpList_load_mid rfl 28 (.tmp 46) rfl (W1.heap.size + 1) 10 rfl nulL _ lq10.out Try.underlying28 rfl Try.infoV ?_; rw [nulL_arr])
    | (rw [HW3.out]))
  rw [HW4.out]
  refine HEA.out.mono ?_
  rintro e5 w5 ⟨rfl, hb5⟩
  have HRA := hide (RA4.out.below hb5)
  have HRB := hide (RB4.out.below hb5)
  have HB5 := hide hb5
  have hs5 := hb5.size
  have ca0 : w5.cell? ⟨w.heap.size, 0, none⟩ = some (.bool false) := cellOf HRA.out.1 0 _ rfl
  have cb0 : w5.cell? ⟨w.heap.size + 1, 0, none⟩ = some (.bool false) := cellOf HRB.out.1 0 _ rfl
  have ca1 : w5.cell? ⟨w.heap.size, 1, none⟩ = some (.bool false) := cellOf HRA.out.1 1 _ rfl
  have cb1 : w5.cell? ⟨w.heap.size + 1, 1, none⟩ = some (.bool false) := cellOf HRB.out.1 1 _ rfl
  have ca2 : w5.cell? ⟨w.heap.size, 2, none⟩ = some (.int .i64 4) := cellOf HRA.out.1 2 _ rfl
  have cb2 : w5.cell? ⟨w.heap.size + 1, 2, none⟩ = some (.int .i64 4) := cellOf HRB.out.1 2 _ rfl
  have ca3 : w5.cell? ⟨w.heap.size, 3, none⟩ = some (.int .i64 (-1)) := cellOf HRA.out.1 3 _ rfl
  have cb3 : w5.cell? ⟨w.heap.size + 1, 3, none⟩ = some (.int .i64 (-1)) := cellOf HRB.out.1 3 _ rfl
  have ca4 : w5.cell? ⟨w.heap.size, 4, none⟩ = some (.bool false) := cellOf HRA.out.1 4 _ rfl
  have cb4 : w5.cell? ⟨w.heap.size + 1, 4, none⟩ = some (.bool false) := cellOf HRB.out.1 4 _ rfl
  have ca5 : w5.cell? ⟨w.heap.size, 5, none⟩ = some (.int .i64 0) := cellOf HRA.out.1 5 _ rfl
  have cb5 : w5.cell? ⟨w.heap.size + 1, 5, none⟩ = some (.int .i64 0) := cellOf HRB.out.1 5 _ rfl
  have ca43 : w5.cell? ⟨w.heap.size, 43, none⟩ = some (.int .i64 1) := cellOf HRA.out.1 43 _ rfl
  have cb43 : w5.cell? ⟨w.heap.size + 1, 43, none⟩ = some (.int .i64 1) := cellOf HRB.out.1 43 _ rfl
  have ca44 : w5.cell? ⟨w.heap.size, 44, none⟩ = some (.slice (some ⟨b1, 0, none⟩) 1 1) := cellOf HRA.out.1 44 _ rfl
  have cb44 : w5.cell? ⟨w.heap.size + 1, 44, none⟩ = some (.slice (some ⟨b2, 0, none⟩) 1 1) := cellOf HRB.out.1 44 _ rfl
  have pa0 : w5.cell? ⟨W1.heap.size, 0, none⟩ = some (.bool false) := cellOf HRA.out.2 0 _ rfl
  have pb0 : w5.cell? ⟨W1.heap.size + 1, 0, none⟩ = some (.bool false) := cellOf HRB.out.2 0 _ rfl
  have pa6 : w5.cell? ⟨W1.heap.size, 6, none⟩ = some (.string ⟨#[]⟩) := cellOf HRA.out.2 6 _ rfl
  have pb6 : w5.cell? ⟨W1.heap.size + 1, 6, none⟩ = some (.string ⟨#[]⟩) := cellOf HRB.out.2 6 _ rfl
  have pa7 : w5.cell? ⟨W1.heap.size, 7, none⟩ = some (.string ⟨#[]⟩) := cellOf HRA.out.2 7 _ rfl
  have pb7 : w5.cell? ⟨W1.heap.size + 1, 7, none⟩ = some (.string ⟨#[]⟩) := cellOf HRB.out.2 7 _ rfl
  have pa8 : w5.cell? ⟨W1.heap.size, 8, none⟩ = some (.string ⟨#[]⟩) := cellOf HRA.out.2 8 _ rfl
  have pb8 : w5.cell? ⟨W1.heap.size + 1, 8, none⟩ = some (.string ⟨#[]⟩) := cellOf HRB.out.2 8 _ rfl
  have pa9 : w5.cell? ⟨W1.heap.size, 9, none⟩ = some (.string ⟨#[]⟩) := cellOf HRA.out.2 9 _ rfl
  have pb9 : w5.cell? ⟨W1.heap.size + 1, 9, none⟩ = some (.string ⟨#[]⟩) := cellOf HRB.out.2 9 _ rfl
  have pa15 : w5.cell? ⟨W1.heap.size, 15, none⟩ = some (.string ⟨#[]⟩) := cellOf HRA.out.2 15 _ rfl
  have pb15 : w5.cell? ⟨W1.heap.size + 1, 15, none⟩ = some (.string ⟨#[]⟩) := cellOf HRB.out.2 15 _ rfl
  have pa16 : w5.cell? ⟨W1.heap.size, 16, none⟩ = some (.string ⟨#[]⟩) := cellOf HRA.out.2 16 _ rfl
  have pb16 : w5.cell? ⟨W1.heap.size + 1, 16, none⟩ = some (.string ⟨#[]⟩) := cellOf HRB.out.2 16 _ rfl
  have pa17 : w5.cell? ⟨W1.heap.size, 17, none⟩ = some (.int .i64 (-1)) := cellOf HRA.out.2 17 _ rfl
  have pb17 : w5.cell? ⟨W1.heap.size + 1, 17, none⟩ = some (.int .i64 (-1)) := cellOf HRB.out.2 17 _ rfl
  have pa18 : w5.cell? ⟨W1.heap.size, 18, none⟩ = some (.int .i64 (-1)) := cellOf HRA.out.2 18 _ rfl
  have pb18 : w5.cell? ⟨W1.heap.size + 1, 18, none⟩ = some (.int .i64 (-1)) := cellOf HRB.out.2 18 _ rfl
  have pa19 : w5.cell? ⟨W1.heap.size, 19, none⟩ = some (.string ⟨#[]⟩) := cellOf HRA.out.2 19 _ rfl
  have pb19 : w5.cell? ⟨W1.heap.size + 1, 19, none⟩ = some (.string ⟨#[]⟩) := cellOf HRB.out.2 19 _ rfl
  have pa20 : w5.cell? ⟨W1.heap.size, 20, none⟩ = some (.int .i64 (-1)) := cellOf HRA.out.2 20 _ rfl
  have pb20 : w5.cell? ⟨W1.heap.size + 1, 20, none⟩ = some (.int .i64 (-1)) := cellOf HRB.out.2 20 _ rfl
  have pa21 : w5.cell? ⟨W1.heap.size, 21, none⟩ = some (.string ⟨#[]⟩) := cellOf HRA.out.2 21 _ rfl
  have pb21 : w5.cell? ⟨W1.heap.size + 1, 21, none⟩ = some (.string ⟨#[]⟩) := cellOf HRB.out.2 21 _ rfl
  have hz1 : w.heap.size < w5.heap.size := (Array.getElem?_eq_some_iff.1 HRA.out.1).1
  have hz2 : w.heap.size + 1 < w5.heap.size := (Array.getElem?_eq_some_iff.1 HRB.out.1).1
  have hz3 : W1.heap.size < w5.heap.size := (Array.getElem?_eq_some_iff.1 HRA.out.2).1
  have hz4 : W1.heap.size + 1 < w5.heap.size := (Array.getElem?_eq_some_iff.1 HRB.out.2).1
  clear ca45 cb45 hb5 la6 lb6 la11 lb11 la38 lb38 la46 lb46 la51 lb51 lp1 lq1 lp10 lq10
  go_wp2
  have HC : Hid (∀ wr, Below w5.heap.size w5 wr → (wr.cell? ⟨w.heap.size, 44, none⟩ = some (.slice (some ⟨b1, 0, none⟩) 1 1) ∧ wr.cell? ⟨w.heap.size + 1, 44, none⟩ = some (.slice (some ⟨b2, 0, none⟩) 1 1) ∧ wr.cell? ⟨b1, 0, none⟩ = some (.string ⟨#[]⟩) ∧ wr.cell? ⟨b2, 0, none⟩ = some (.string ⟨#[]⟩)) ∧ Below w.heap.size w wr) := fun wr hr => by
    have hall : Below w.heap.size w wr := belOn HBW.out (by have := HS.out; omega) ((HB5.out.trans (hr.mono hs5)))
    exact ⟨⟨(hr.cell (p := ⟨w.heap.size, 44, none⟩) hz1).trans ca44, (hr.cell (p := ⟨w.heap.size + 1, 44, none⟩) hz2).trans cb44, (hall.cell (p := ⟨b1, 0, none⟩) hl1).trans (cellOf HH1.out 0 _ rfl), (hall.cell (p := ⟨b2, 0, none⟩) hl2).trans (cellOf HH2.out 0 _ rfl)⟩, hall⟩
  clear ca0 cb0 ca1 cb1 ca2 cb2 ca3 cb3 ca4 cb4 ca5 cb5 ca43 cb43 ca44 cb44 pa0 pb0 pa6 pb6 pa7 pb7 pa8 pb8 pa9 pb9 pa15 pb15 pa16 pb16 pa17 pb17 pa18 pb18 pa19 pb19 pa20 pb20 pa21 pb21
  go_loopw [11] (fun i wr => ∃ j : Nat, i = .int .i64 j ∧ j ≤ 1 ∧ Below w5.heap.size w5 wr) (fun i _ => 1 - (intOf i).toNat)
  case atStart => exact ⟨0, rfl, by omega, Below.refl _ _⟩
  case round =>
    obtain ⟨j, rfl, hj, hb⟩ := hrel
    obtain ⟨⟨q1, q2, q3, q4⟩, hall⟩ := HC.out wr hb
    have hsr := hb.size
    have y1 : w.heap.size < wr.heap.size := by omega
    have y2 : w.heap.size + 1 < wr.heap.size := by omega
    have y3 : b1 < wr.heap.size := by omega
    have y4 : b2 < wr.heap.size := by omega
    have hbd : Below w5.heap.size w5 wr.drew := hb.drew
    by_cases hj1 : j < 1
    · obtain rfl : j = 0 := by omega
      go_wp2
      go_region
      all_goals go_wp2
      all_goals go_roundw
      case rel => exact ⟨1, by go_num, by omega, hbd⟩
      case measure => simp [intOf]
    · obtain rfl : j = 1 := by omega
      go_wp2
      go_ret
      exact ⟨rfl, hall⟩
end Go.Proofs.Ytiplidljlegcgaa
