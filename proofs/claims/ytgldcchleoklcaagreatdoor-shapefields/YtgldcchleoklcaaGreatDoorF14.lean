/- HFill, HLaid, HGTab, HPack -/
import Derived.Test.YtgldcchleoklcaaGreatDoorF11
import Derived.Test.YtgldcchleoklcaaGreatDoorF05
import Derived.Test.YtgldcchleoklcaaGreatDoorF07
import Derived.Test.YtgldcchleoklcaaGreatDoorF13
import Derived.Deep.RegionHeld
import Derived.Laws.EntriesVeiled
namespace Go.Proofs.YtgldcchleoklcaaGreatDoor
open Go.RowKit
set_option linter.unusedVariables false
set_option linter.unusedSimpArgs false
def BoxF (W : World) (b : Nat) (f : Fd) : Prop := W.heap[b]? = some (.cells f.cs 66 (0, 0))
theorem BoxF.below {B : Nat} {W w : World} {b : Nat} {f : Fd} (h : BoxF W b f) (hb : Below B W w) (hlt : b < B) : BoxF w b f := (hb.block b hlt).trans h
theorem BoxF.cells {W : World} {b : Nat} {f : Fd} (h : BoxF W b f) : W.cell? ⟨b, 0, none⟩ = some (.string f.name) ∧ W.cell? ⟨b, 1, none⟩ = some (.int .i64 f.ty) ∧ W.cell? ⟨b, 2, none⟩ = some (.slice f.ka f.kl f.kc) ∧ W.cell? ⟨b, 3, none⟩ = some (.bool f.must) ∧
    W.cell? ⟨b, 4, none⟩ = some (.int .i64 f.d.k) ∧ W.cell? ⟨b, 5, none⟩ = some (.int .u64 f.d.n) ∧ W.cell? ⟨b, 6, none⟩ = some (.string f.d.s) ∧ W.cell? ⟨b, 7, none⟩ = some (.slice f.d.a f.d.l.length f.d.c) ∧ W.cell? ⟨b, 8, none⟩ = some (.int .i64 f.d.e) := by
  unfold BoxF Fd.cs at h
  refine ⟨?_, ?_, ?_, ?_, ?_, ?_, ?_, ?_, ?_⟩ <;> (unfold World.cell?; simp only [h]; rfl)
set_option maxRecDepth 100000 in
set_option maxHeartbeats 2000000 in
theorem filled_null (f : Fd) (v : V) (hk : v.k = 0) (hm : f.must = false) (w : World) : Calls Tryz.prog 106 #[f.val, v.val] w fun e w' => e = VN f.d 0 ∧ Below w.heap.size w w' := by
  obtain ⟨W0, hW0⟩ : ∃ W0, ((w.alloc (Obj.cells f.cs 66)).alloc (Obj.cells #[.int .i64 v.k, .int .u64 v.n, .string v.s, .slice v.a v.l.length v.c, .int .i64 v.e] 42)).alloc (Obj.cells #[.int .i64 0, .int .u64 0, .string ⟨#[]⟩, .slice none 0 0, .int .i64 0] 42) = W0 := ⟨_, rfl⟩
  have hs0 : W0.heap.size = w.heap.size + 3 := by rw [← hW0]; simp
  have hb0 : Below w.heap.size w W0 := by rw [← hW0]; exact bel1 (bel2 (Below.refl _ _) (Nat.le_refl _) _ _) (by simp; omega) _
  have xf : BoxF W0 w.heap.size f := by rw [← hW0]; exact heap_past (heap_past (World.alloc_heap_new _ _) _) _
  have xv : BoxV W0 (w.heap.size + 1) v := by rw [← hW0]; exact heap_past (heap_at1 _ _ _) _
  have xz : BoxV W0 (w.heap.size + 1 + 1) (.of 0 0 ⟨#[]⟩ none 0 0 []) := by
    rw [← hW0]
    unfold BoxV
    rw [V.k_of, V.n_of, V.s_of, V.a_of, V.l_of, V.c_of, V.e_of]
    exact heap_at2 _ _ _ _
  have HL := hide (fun W => lacks_any f v W)
  rw [Fd.val_eq, V.val_eq] at HL ⊢
  have HW0 := hide hW0
  unfold Fd.cs at HW0
  have HK := hide hk
  have HM := hide hm
  clear hW0 hk hm
  go_enter Tryz.func106, Tryz.ntmps106
  go_wp2_with fail
  rw [HW0.out]
  refine (HL.out _).mono ?_
  rintro e1 w1 ⟨rfl, hb1⟩
  rw [HM.out, HK.out]
  have hs1 := hb1.size
  obtain ⟨f0, f1, f2, f3, f4, f5, f6, f7, f8⟩ := (xf.below hb1 (by omega)).cells
  obtain ⟨v0, v1, v2, v3, v4⟩ := (xv.below hb1 (by omega)).cells
  have xz1 := xz.below hb1 (by omega)
  obtain ⟨z0, z1, z2, z3, z4⟩ := xz1.cells
  have fz := (show Blk w1 (w.heap.size + 1 + 1) 42 5 from ⟨_, xz1, rfl⟩).free
  have hz2 : w.heap.size + 1 + 1 < w1.heap.size := by omega
  rw [HK.out] at v0
  have hbw : Below w.heap.size w w1 := belOn hb0 (by omega) hb1
  clear xz1
  go_wp2
  have hbz : Below w.heap.size w _ := put5_below (y := f.d) (o := 0) (b := w.heap.size + 1 + 1) hbw (by omega)
  rw [← put5_eq] at hbz
  refine bodyPost_ret (v := .tuple #[.agg #[.int .i64 f.d.k, .int .u64 f.d.n, .string f.d.s, .slice f.d.a f.d.l.length f.d.c, .int .i64 f.d.e], .int .i64 0]) (by simp [results, Tryz.results106, go_sem, z0, z1, z2, z3, z4]) rfl ⟨rfl, hbz⟩
set_option maxRecDepth 100000 in
set_option maxHeartbeats 2000000 in
theorem filled_flat (f : Fd) (v : V) (hk : v.k = f.ty) (h0 : v.k ≠ 0) (h1 : f.ty ≠ 100) (h2 : f.ty ≠ 101) (h3 : f.ty ≠ 102) (w : World) : Calls Tryz.prog 106 #[f.val, v.val] w fun e w' => e = VN v 0 ∧ Below w.heap.size w w' := by
  obtain ⟨W0, hW0⟩ : ∃ W0, ((w.alloc (Obj.cells f.cs 66)).alloc (Obj.cells #[.int .i64 v.k, .int .u64 v.n, .string v.s, .slice v.a v.l.length v.c, .int .i64 v.e] 42)).alloc (Obj.cells #[.int .i64 0, .int .u64 0, .string ⟨#[]⟩, .slice none 0 0, .int .i64 0] 42) = W0 := ⟨_, rfl⟩
  have hs0 : W0.heap.size = w.heap.size + 3 := by rw [← hW0]; simp
  have hb0 : Below w.heap.size w W0 := by rw [← hW0]; exact bel1 (bel2 (Below.refl _ _) (Nat.le_refl _) _ _) (by simp; omega) _
  have xf : BoxF W0 w.heap.size f := by rw [← hW0]; exact heap_past (heap_past (World.alloc_heap_new _ _) _) _
  have xv : BoxV W0 (w.heap.size + 1) v := by rw [← hW0]; exact heap_past (heap_at1 _ _ _) _
  have xz : BoxV W0 (w.heap.size + 1 + 1) (.of 0 0 ⟨#[]⟩ none 0 0 []) := by
    rw [← hW0]
    unfold BoxV
    rw [V.k_of, V.n_of, V.s_of, V.a_of, V.l_of, V.c_of, V.e_of]
    exact heap_at2 _ _ _ _
  have HL := hide (fun W => lacks_any f v W)
  rw [Fd.val_eq, V.val_eq] at HL ⊢
  have HW0 := hide hW0
  unfold Fd.cs at HW0
  have HK := hide hk
  have HR := hide (fun W => reader_flat f h1 h2 h3 W)
  have HX := hide (fun P W hP hc => reader3_any P f.ty v W hP hc hk)
  rw [Fd.val_eq] at HR
  rw [V.val_eq] at HX
  unfold VN at HX
  have hlk : (f.must && decide (v.k = 0)) = false := by rw [decide_eq_false h0, Bool.and_false]
  rw [hlk] at HL
  have hv0 : (v.k == 0) = false := by simpa using h0
  have h0' : ¬ v.k = 0 := h0
  clear hW0 hk hlk h0
  go_enter Tryz.func106, Tryz.ntmps106
  go_wp2_with fail
  rw [HW0.out]
  refine (HL.out _).mono ?_
  rintro e1 w1 ⟨rfl, hb1⟩
  have hs1 := hb1.size
  obtain ⟨f0, f1, f2, f3, f4, f5, f6, f7, f8⟩ := (xf.below hb1 (by omega)).cells
  obtain ⟨v0, v1, v2, v3, v4⟩ := (xv.below hb1 (by omega)).cells
  have hz2 : w.heap.size + 1 + 1 < w1.heap.size := by omega
  have hz3 : w.heap.size + 1 < w1.heap.size := by omega
  have hz4 : w.heap.size < w1.heap.size := by omega
  have hbw : Below w.heap.size w w1 := belOn hb0 (by omega) hb1
  have HB1 := hide hb1
  have hmx : Tryz.prog.follows .mixedOrders = true := by kernel_rfl
  clear hb1
  go_wp2_with fail
  go_region_with (first | (go_at_call 126; refine Calls.mono (HR.out _) ?_; rintro e2 w2 ⟨rfl, hb2, hcx⟩; have HB2 : Hid (Below W0.heap.size W0 w2) := HB1.out.drew.trans (hb2.mono HB1.out.drew.size); have hs2 := HB2.out.size; have hs3 := hb2.size; obtain ⟨g0, g1, g2, g3, g4⟩ := (xv.below HB2.out (by omega)).cells; have HC := hide hcx; clear hb2 hcx) | (go_at_call 139; have HB3 := HB2; refine Calls.mono (HX.out _ _ (World.block_lt_of_cell? _ _ HC.out) HC.out) ?_; rintro e3 w3 ⟨rfl, hb3⟩; have HB4 : Hid (Below W0.heap.size W0 w3) := belOn HB3.out HB3.out.size hb3; clear hb3; have hs5 := HB4.out.size; have xz1 := xz.below HB4.out (by omega); obtain ⟨z0, z1, z2, z3, z4⟩ := xz1.cells; have fz := (show Blk w3 (w.heap.size + 1 + 1) 42 5 from ⟨_, xz1, rfl⟩).free; have hz5 : w.heap.size + 1 + 1 < w3.heap.size := (by omega); clear xz1))
  all_goals
    have hbw3 : Below w.heap.size w w3 := belOn hb0 (by omega) HB4.out
    go_wp2
    have hbz : Below w.heap.size w _ := put5_below (y := v) (o := 0) (b := w.heap.size + 1 + 1) hbw3 (by omega)
    rw [← put5_eq] at hbz
    refine bodyPost_ret (v := .tuple #[.agg #[.int .i64 v.k, .int .u64 v.n, .string v.s, .slice v.a v.l.length v.c, .int .i64 v.e], .int .i64 0]) (by simp [results, Tryz.results106, go_sem, z0, z1, z2, z3, z4]) rfl ⟨rfl, hbz⟩
def FieldsPost (n : Nat) (ds : List V) (W : World) (e : Ending) (w' : World) : Prop := ∃ (a : Option Addr) (fs : List Fd), e = .returned (.tuple #[.slice a n n, .bool true]) ∧
  Hid ((fs.map Fd.d = ds ∧ fs.length = n) ∧ (0 < n → ∃ b, a = some ⟨b, 0, none⟩ ∧ W.heap.size ≤ b ∧ b < w'.heap.size ∧ FRow w' b fs)) ∧ Below W.heap.size W w'
def outs (l ds : List V) : List V := List.zipWith (fun v d => if eqT v.t d.t then leaf 0 0 ⟨#[]⟩ else v) l ds
theorem outs_len (l ds : List V) (h : ds.length = l.length) : (outs l ds).length = l.length := by simp [outs, h]
def saidN (l ds : List V) : Nat → Nat
  | 0 => 0
  | i + 1 => if (l[i]?.bind fun v => ds[i]?.map fun d => eqT v.t d.t) = some true then saidN l ds i else i + 1
theorem saidN_le (l ds : List V) (i : Nat) : saidN l ds i ≤ i := by
  induction i with
  | zero => exact Nat.le_refl _
  | succ i ih => unfold saidN; split <;> omega
theorem saidN_step (l ds : List V) (i : Nat) (h1 : i < l.length) (h2 : i < ds.length) : saidN l ds (i + 1) = if eqT l[i].t ds[i].t = true then saidN l ds i else i + 1 := by
  rw [saidN]
  simp [List.getElem?_eq_getElem h1, List.getElem?_eq_getElem h2]
theorem outs_take (l ds : List V) (i : Nat) (h : ds.length = l.length) (hi : i < l.length) : (outs l ds).take (i + 1) = (outs l ds).take i ++ [if eqT l[i].t (ds[i]'(by omega)).t = true then leaf 0 0 ⟨#[]⟩ else l[i]] := by
  rw [List.take_add_one, List.getElem?_eq_getElem (by rw [outs_len _ _ h]; exact hi)]
  simp [outs]
def BoxR (W : World) (b : Nat) (k : Int) (a : Option Addr) (n c : Nat) : Prop := W.heap[b]? = some (.cells #[.int .i64 k, .slice a n c] 33 (0, 0))
theorem BoxR.below {B : Nat} {W w : World} {b : Nat} {k : Int} {a : Option Addr} {n c : Nat} (h : BoxR W b k a n c) (hb : Below B W w) (hlt : b < B) : BoxR w b k a n c := (hb.block b hlt).trans h
theorem BoxR.cells {W : World} {b : Nat} {k : Int} {a : Option Addr} {n c : Nat} (h : BoxR W b k a n c) : W.cell? ⟨b, 0, none⟩ = some (.int .i64 k) ∧ W.cell? ⟨b, 1, none⟩ = some (.slice a n c) := by
  unfold BoxR at h
  refine ⟨?_, ?_⟩ <;> (unfold World.cell?; simp only [h]; rfl)
def RowF (w : World) (b n : Nat) (g : Nat → V) : Prop := ∀ j, j < n → ∀ q, q < 5 → w.cell? ⟨b, j * 5 + q, none⟩ = (words (g j))[q]?
theorem RowF.below {B : Nat} {W w : World} {b n : Nat} {g : Nat → V} (h : RowF W b n g) (hb : Below B W w) (hlt : b < B) : RowF w b n g := fun j hj q hq => (hb.cell (p := ⟨b, j * 5 + q, none⟩) hlt).trans (h j hj q hq)
theorem RowF.same {W w : World} {b n : Nat} {g : Nat → V} (h : RowF W b n g) (hb : Same W w b) : RowF w b n g := fun j hj q hq => (hb _).trans (h j hj q hq)
theorem RowF.eq {w : World} {b n : Nat} {g g' : Nat → V} (h : RowF w b n g) (he : ∀ j, j < n → g j = g' j) : RowF w b n g' := fun j hj q hq => by rw [← he j hj]; exact h j hj q hq
theorem RowF.put {w : World} {b n m i : Nat} {g : Nat → V} {t : TypeId} (y : V) (hk : Blk w b t m) (h : RowF w b n g) (hi : i < n) (hm : n * 5 ≤ m) : RowF (put5 w b (i * 5) y) b n (fun j => if j = i then y else g j) := by
  intro j hj q hq
  show _ = (words (if j = i then y else g j))[q]?
  by_cases e : j = i
  · subst e
    rw [if_pos rfl]
    exact put5_cell hk (by omega) q hq
  · rw [if_neg e, ← h j hj q hq]
    refine World.cell?_setCells_out b (words y) _ w _ (fun _ _ => ?_)
    simp only [words, List.length_cons, List.length_nil]
    omega
theorem RowF.made (w : World) (m : Nat) : RowF (w.alloc (.cells (madeCells zeroV (m * 5)) 42)) w.heap.size m (fun _ => leaf 0 0 ⟨#[]⟩) := by
  intro j hj q hq
  unfold World.cell?
  simp only [World.alloc_heap_new]
  have h5 : (madeCells zeroV (m * 5))[j * 5 + q]? = some (zeroV[(j * 5 + q) % 5]!) := by
    unfold madeCells
    rw [Array.getElem?_map, Array.getElem?_range]
    simp [show j * 5 + q < m * 5 by omega, zeroV]
  rw [h5, show (j * 5 + q) % 5 = q by omega]
  obtain rfl | rfl | rfl | rfl | rfl : q = 0 ∨ q = 1 ∨ q = 2 ∨ q = 3 ∨ q = 4 := by omega
  all_goals rfl
theorem RowF.row {w : World} {b n : Nat} {g : Nat → V} (h : RowF w b n g) (l : List V) (hl : l.length ≤ n) (he : ∀ j (hj : j < l.length), g j = l[j]) : Row w b 0 l := by
  intro i hi
  have hq := fun q hq => h i (by omega) q hq
  rw [he i hi] at hq
  simp only [Nat.zero_add]
  exact ⟨hq 0 (by omega), hq 1 (by omega), hq 2 (by omega), hq 3 (by omega), hq 4 (by omega)⟩
theorem FRow.below {B : Nat} {W w : World} {b : Nat} {l : List Fd} (h : FRow W b l) (hb : Below B W w) (hlt : b < B) : FRow w b l := fun i hi j hj => (hb.cell (p := ⟨b, i * 9 + j, none⟩) hlt).trans (h i hi j hj)
theorem FRow.cells {W : World} {b : Nat} {l : List Fd} (h : FRow W b l) (i : Nat) (hi : i < l.length) : W.cell? ⟨b, i * 9, none⟩ = some (.string l[i].name) ∧ W.cell? ⟨b, i * 9 + 1, none⟩ = some (.int .i64 l[i].ty) ∧ W.cell? ⟨b, i * 9 + 2, none⟩ = some (.slice l[i].ka l[i].kl l[i].kc) ∧ W.cell? ⟨b, i * 9 + 3, none⟩ = some (.bool l[i].must) ∧
    W.cell? ⟨b, i * 9 + 4, none⟩ = some (.int .i64 l[i].d.k) ∧ W.cell? ⟨b, i * 9 + 5, none⟩ = some (.int .u64 l[i].d.n) ∧ W.cell? ⟨b, i * 9 + 6, none⟩ = some (.string l[i].d.s) ∧ W.cell? ⟨b, i * 9 + 7, none⟩ = some (.slice l[i].d.a l[i].d.l.length l[i].d.c) ∧ W.cell? ⟨b, i * 9 + 8, none⟩ = some (.int .i64 l[i].d.e) :=
  ⟨h i hi 0 (by omega), h i hi 1 (by omega), h i hi 2 (by omega), h i hi 3 (by omega), h i hi 4 (by omega), h i hi 5 (by omega), h i hi 6 (by omega), h i hi 7 (by omega), h i hi 8 (by omega)⟩
def gOuts (l ds : List V) (i j : Nat) : V := if j < i then ((outs l ds)[j]?).getD (leaf 0 0 ⟨#[]⟩) else leaf 0 0 ⟨#[]⟩
theorem outs_get (l ds : List V) (i : Nat) (h : ds.length = l.length) (hi : i < l.length) : (outs l ds)[i]? = some (if eqT l[i].t (ds[i]'(by omega)).t = true then leaf 0 0 ⟨#[]⟩ else l[i]) := by
  rw [List.getElem?_eq_getElem (by rw [outs_len _ _ h]; exact hi)]
  simp [outs]
theorem gOuts_eq (l ds : List V) (i : Nat) (h : ds.length = l.length) (hi : i < l.length) (he : eqT l[i].t (ds[i]'(by omega)).t = true) (j : Nat) : gOuts l ds i j = gOuts l ds (i + 1) j := by
  unfold gOuts
  by_cases h1 : j < i
  · rw [if_pos h1, if_pos (by omega)]
  · rw [if_neg h1]
    by_cases h2 : j = i
    · subst h2
      rw [if_pos (by omega), outs_get l ds j h hi, if_pos he]
      rfl
    · rw [if_neg (by omega)]
theorem gOuts_ne (l ds : List V) (i : Nat) (h : ds.length = l.length) (hi : i < l.length) (he : eqT l[i].t (ds[i]'(by omega)).t = false) (j : Nat) : (if j = i then l[i] else gOuts l ds i j) = gOuts l ds (i + 1) j := by
  unfold gOuts
  by_cases h2 : j = i
  · subst h2
    rw [if_pos rfl, if_pos (by omega), outs_get l ds j h hi, he]
    rfl
  · rw [if_neg h2]
    by_cases h1 : j < i
    · rw [if_pos h1, if_pos (by omega)]
    · rw [if_neg h1, if_neg (by omega)]
theorem gOuts_end (l ds : List V) (h : ds.length = l.length) (m : Nat) (hm : m ≤ l.length) (j : Nat) (hj : j < ((outs l ds).take m).length) : gOuts l ds l.length j = ((outs l ds).take m)[j] := by
  have hl := outs_len l ds h
  have hj' : j < l.length := by rw [List.length_take, hl] at hj; omega
  unfold gOuts
  rw [if_pos hj', List.getElem_take, List.getElem?_eq_getElem (by omega)]
  rfl
theorem outs_mem (l ds : List V) : ∀ x ∈ outs l ds, x = leaf 0 0 ⟨#[]⟩ ∨ x ∈ l := by
  intro x hx
  unfold outs at hx
  obtain ⟨i, hi, rfl⟩ := List.mem_iff_getElem.1 hx
  rw [List.getElem_zipWith]
  split
  · exact .inl rfl
  · exact .inr (List.getElem_mem _)
theorem leaf_in (k n : Int) (s : ByteArray) (Q : Nat → Prop) (w : World) (hk : -9223372036854775808 ≤ k ∧ k ≤ 9223372036854775807) (hn : 0 ≤ n ∧ n ≤ 18446744073709551615) (hs : s.size ≤ 281474976710656) : LiesIn Q w (leaf k n s) :=
  .mk ⟨hk, hn, hs, by decide, by simp, by simp⟩ (by simp) (by simp)
theorem laid_lies (Q : Nat → Prop) (kind : Int) (hk0 : 0 ≤ kind) (hk1 : kind ≤ 9223372036854775807) (l ds : List V) (hd : ds.length = l.length) (hcc : l.length ≤ 1000) (m : Nat) (hm : m ≤ l.length) (w : World) (B L : Nat) (hB : Q B) (hL : Q L)
    (hc : w.heap[B]? = some (.cells #[.int .i64 5, .int .u64 kind, .string ⟨#[]⟩, .slice none 0 0, .int .i64 0, .int .i64 21, .int .u64 0, .string ⟨#[]⟩, .slice (some ⟨L, 0, none⟩) m l.length, .int .i64 0] 42 (0, 0)))
    (hr : RowF w L l.length (gOuts l ds l.length)) (hl : ∀ x ∈ l, LiesIn Q w x) :
    LiesIn Q w (.of 24 0 ⟨#[]⟩ (some ⟨B, 0, none⟩) 2 0 [leaf 5 kind ⟨#[]⟩, .of 21 0 ⟨#[]⟩ (some ⟨L, 0, none⟩) l.length 0 ((outs l ds).take m)]) := by
  have hol := outs_len l ds hd
  have htl : ((outs l ds).take m).length = m := by rw [List.length_take, hol]; omega
  refine .mk ⟨by decide, by decide, by decide, by decide, by simp, by simp⟩ (fun _ => ⟨B, 0, rfl, hB, ?_⟩) ?_
  · intro i hi
    have h2 : i < 2 := hi
    have hcell : ∀ o, w.cell? ⟨B, o, none⟩ = (#[.int .i64 5, .int .u64 kind, .string ⟨#[]⟩, .slice none 0 0, .int .i64 0, .int .i64 21, .int .u64 0, .string ⟨#[]⟩, .slice (some ⟨L, 0, none⟩) m l.length, .int .i64 0] : Array Value)[o]? := fun o => by
      show (match w.heap[B]? with | some (.cells c _ _) => c[o]? | _ => none) = _
      rw [hc]
    simp only [hcell]
    obtain rfl | rfl : i = 0 ∨ i = 1 := by omega
    · exact ⟨rfl, rfl, rfl, rfl, rfl⟩
    · show _ ∧ _ ∧ _ ∧ (some (Value.slice (some ⟨L, 0, none⟩) m l.length) = some (Value.slice (V.of 21 0 ⟨#[]⟩ (some ⟨L, 0, none⟩) l.length 0 ((outs l ds).take m)).a (V.of 21 0 ⟨#[]⟩ (some ⟨L, 0, none⟩) l.length 0 ((outs l ds).take m)).l.length (V.of 21 0 ⟨#[]⟩ (some ⟨L, 0, none⟩) l.length 0 ((outs l ds).take m)).c)) ∧ _
      refine ⟨rfl, rfl, rfl, ?_, rfl⟩
      rw [V.l_of, htl]
      rfl
  · intro x hx
    simp only [List.mem_cons, List.not_mem_nil, or_false] at hx
    rcases hx with rfl | rfl
    · exact leaf_in _ _ _ _ _ (by decide) ⟨hk0, by omega⟩ (by decide)
    · refine .mk ⟨by decide, by decide, by decide, by decide, by omega, by omega⟩ (fun _ => ⟨L, 0, rfl, hL, hr.row _ (by omega) (fun j hj => gOuts_end l ds hd m hm j hj)⟩) ?_
      intro x hx
      rcases outs_mem l ds x (List.mem_of_mem_take hx) with rfl | h
      · exact leaf_in _ _ _ _ _ (by decide) (by decide) (by decide)
      · exact hl x h
structure FS where
  name : ByteArray
  ty : Int
  ks : List Int
  must : Bool
  dk : Int
  dn : Int
  ds : ByteArray
def FS.d (s : FS) : V := leaf s.dk s.dn s.ds
def Ints (w : World) (b : Nat) (l : List Int) : Prop := w.heap[b]? = some (.cells (l.map fun k => Value.int .i64 k).toArray 3 (0, 0))
def FdIn (B : Nat) (w : World) (f : Fd) (s : FS) : Prop := f.name = s.name ∧ f.ty = s.ty ∧ f.must = s.must ∧ f.d = s.d ∧ f.kl = s.ks.length ∧ f.kc = s.ks.length ∧ (0 < s.ks.length → ∃ b, f.ka = some ⟨b, 0, none⟩ ∧ B ≤ b ∧ b < w.heap.size ∧ Ints w b s.ks)
def FRA (w : World) (a : Option Addr) (fs : List Fd) (lo hi : Nat) : Prop := 0 < fs.length → ∃ b, a = some ⟨b, 0, none⟩ ∧ lo ≤ b ∧ b < hi ∧ FRow w b fs
def FieldsIn (l : List FS) (W : World) (a : Option Addr) (fs : List Fd) (w' : World) : Prop := fs.length = l.length ∧ FRA w' a fs W.heap.size w'.heap.size ∧ ∀ i (h : i < fs.length) (h' : i < l.length), FdIn W.heap.size w' fs[i] l[i]
def FieldsRow (l : List FS) (W : World) (e : Ending) (w' : World) : Prop := ∃ (a : Option Addr) (fs : List Fd), e = .returned (.slice a l.length l.length) ∧ Hid (FieldsIn l W a fs w') ∧ Below W.heap.size W w'
theorem nine (l : List Fd) : ∀ i (h : i < l.length) j, j < 9 → (l.flatMap fun f => f.cs.toList)[i * 9 + j]? = l[i].cs[j]? := by
  induction l with
  | nil => intro i h; exact absurd h (by simp)
  | cons f l ih =>
    intro i h j hj
    have h9 : f.cs.toList.length = 9 := rfl
    rw [List.flatMap_cons]
    cases i with
    | zero =>
      rw [List.getElem?_append_left (by rw [h9]; omega)]
      simp
    | succ i =>
      rw [List.getElem?_append_right (by rw [h9]; omega), h9, show (i + 1) * 9 + j - 9 = i * 9 + j by omega]
      exact ih i (by simpa using h) j hj
theorem FRow.flat {W : World} {b : Nat} {arr : Array Value} {t : TypeId} {p : Nat × Nat} {l : List Fd} (h : W.heap[b]? = some (.cells arr t p)) (he : arr.toList = l.flatMap fun f => f.cs.toList) : FRow W b l := by
  intro i hi j hj
  unfold World.cell?
  simp only [h]
  rw [← Array.getElem?_toList, he]
  exact nine l i hi j hj
set_option maxRecDepth 100000 in
set_option maxHeartbeats 2000000 in
theorem outcomes_any (w : World) : Calls Tryz.prog 109 #[] w fun e w' => e = .returned (.slice (some ⟨w.heap.size, 0, none⟩) 4 4) ∧ w' = w.alloc (.cells #[.int .i64 36, .int .i64 37, .int .i64 38, .int .i64 39] 3) := by
  go_enter Tryz.func109, Tryz.ntmps109
  go_wp2
  go_ret
  exact ⟨rfl, rfl⟩
set_option maxRecDepth 100000 in
set_option maxHeartbeats 2000000 in
theorem states_any (w : World) : Calls Tryz.prog 108 #[] w fun e w' => e = .returned (.slice (some ⟨w.heap.size, 0, none⟩) 7 7) ∧ w' = w.alloc (.cells #[.int .i64 35, .int .i64 36, .int .i64 37, .int .i64 38, .int .i64 39, .int .i64 51, .int .i64 52] 3) := by
  go_enter Tryz.func108, Tryz.ntmps108
  go_wp2
  go_ret
  exact ⟨rfl, rfl⟩
set_option maxRecDepth 100000 in
theorem run_field3 (a0 a1 a2 a4 : Value) (p : Option Addr) (n c : Nat) (w : World) : (Instr.field 42 (.agg #[a0, a1, a2, .slice p n c, a4]) 3).run Tryz.prog w = .ok (.slice p n c) w := by
  first
  | kernel_rfl
  | rfl
set_option maxRecDepth 100000 in
set_option maxHeartbeats 2000000 in
theorem owned_list (l : List V) (a : Option Addr) (c n₀ : Nat) (w : World) (hn : n₀ ≤ w.heap.size) (hc : l.length ≤ c) (hcc : l.length ≤ 2199023255552) (hr : 0 < l.length → ∃ b o, a = some ⟨b, o, none⟩ ∧ b < n₀ ∧ Row w b o l) (ls : ∀ x ∈ l, Lies n₀ w x) :
    Calls Tryz.prog 39 #[.slice a l.length c] w fun e w' => ∃ y : V, e = .returned (.slice y.a y.l.length y.c) ∧
      Hid (V.ts y.l = V.ts l ∧ LiesIn (fun b => w.heap.size ≤ b ∧ b < w'.heap.size) w' y) ∧ Below w.heap.size w w' := by
  have HL := hide (listed_any l a c n₀ w hn hc hcc hr ls)
  clear hr ls
  go_enter Tryz.func39, Tryz.ntmps39
  go_wp2_with fail
  refine HL.out.mono ?_
  rintro e w1 ⟨y, rfl, HY, hb⟩
  go_wp2
  rw [run_field3]
  go_wp2
  refine bodyPost_ret (v := .slice y.a y.l.length y.c) (by simp [results, Tryz.results39, go_sem]) rfl ⟨y, rfl, ⟨?_, HY.out.2⟩, hb⟩
  have h := HY.out.1
  obtain ⟨k', n', s', a', c', e', l', rfl⟩ := V.ex y
  rw [V.t_of] at h
  rw [V.l_of]
  have := congrArg V.l h
  have e1 : V.l (T.of k' n' s' e' (V.ts l')) = V.ts l' := V.l_of _ _ _ _ _ _ _
  have e2 : V.l (T.of 21 0 ⟨#[]⟩ 0 (V.ts l)) = V.ts l := V.l_of _ _ _ _ _ _ _
  rw [e1, e2] at this
  exact this
set_option maxRecDepth 100000 in
set_option maxHeartbeats 4000000 in
theorem pack_gen (kind : Int) (a : Option Addr) (n c : Nat) (w : World) (Pv : V → Prop)
    (hp : ∀ W, Below w.heap.size w W → Calls Tryz.prog 35 #[.agg #[.int .i64 kind, .slice a n c]] W (fun e w' => ∃ v : V, e = VN v 0 ∧ Hid (Pv v ∧ Lies w'.heap.size w' v) ∧ Below W.heap.size W w')) :
    Calls Tryz.prog 19 #[.agg #[.int .i64 kind, .slice a n c]] w (fun e w' => ∃ y : V, e = VN y 0 ∧ Hid ((∃ v, Pv v ∧ y.t = v.t) ∧ Lies w'.heap.size w' y) ∧ Below w.heap.size w w') := by
  obtain ⟨W0, hW0⟩ : ∃ W0, (w.alloc (Obj.cells #[.int .i64 kind, .slice a n c] 33)).alloc (Obj.cells #[.int .i64 0, .int .u64 0, .string ⟨#[]⟩, .slice none 0 0, .int .i64 0] 42) = W0 := ⟨_, rfl⟩
  have hs0 : W0.heap.size = w.heap.size + 2 := by rw [← hW0]; simp
  have hb0 : Below w.heap.size w W0 := by rw [← hW0]; exact bel2 (Below.refl _ _) (Nat.le_refl _) _ _
  have xz : BoxV W0 (w.heap.size + 1) (.of 0 0 ⟨#[]⟩ none 0 0 []) := by
    rw [← hW0]
    unfold BoxV
    rw [V.k_of, V.n_of, V.s_of, V.a_of, V.l_of, V.c_of, V.e_of]
    exact heap_at1 _ _ _
  have HP := hide (hp W0 hb0)
  unfold VN at HP
  have HW0 := hide hW0
  clear hW0 hp
  go_enter Tryz.func19, Tryz.ntmps19
  go_wp2_with fail
  rw [HW0.out]
  refine HP.out.mono ?_
  rintro e1 w1 ⟨v, rfl, HV, hb1⟩
  have hs1 := hb1.size
  obtain ⟨W1, hW1⟩ : ∃ W1, (w1.alloc (Obj.cells #[.int .i64 v.k, .int .u64 v.n, .string v.s, .slice v.a v.l.length v.c, .int .i64 v.e] 42)).alloc (Obj.cells #[.int .i64 v.k, .int .u64 v.n, .string v.s, .slice v.a v.l.length v.c, .int .i64 v.e] 42) = W1 := ⟨_, rfl⟩
  have hsW1 : W1.heap.size = w1.heap.size + 2 := by rw [← hW1]; simp
  have hb11 : Below w1.heap.size w1 W1 := by rw [← hW1]; exact bel2 (Below.refl _ _) (Nat.le_refl _) _ _
  have hx1 : BoxV W1 (w1.heap.size + 1) v := by rw [← hW1]; exact heap_at1 _ _ _
  have ho := owned_list [v] (some ⟨w1.heap.size + 1, 0, none⟩) 1 W1.heap.size W1 (Nat.le_refl _) (by simp) (by simp) (fun _ => ⟨w1.heap.size + 1, 0, rfl, by omega, fun i hi => by
    obtain rfl : i = 0 := by simpa using hi
    obtain ⟨q0, q1, q2, q3, q4⟩ := hx1.cells
    exact ⟨q0, q1, q2, q3, q4⟩⟩) (fun x hx => by
    obtain rfl : x = v := by simpa using hx
    exact (HV.out.2.keep hb11 (Nat.le_refl _)).mono (by omega))
  have HO := hide ho
  have HW1 := hide hW1
  clear ho hW1 hx1
  go_wp2_with fail
  rw [HW1.out]
  refine Calls.mono HO.out ?_
  rintro e2 w2 ⟨y, rfl, HY, hb2⟩
  have hs2 := hb2.size
  have hb12 : Below w1.heap.size w1 w2 := hb11.trans (hb2.mono (by omega))
  have hb02 : Below W0.heap.size W0 w2 := belOn hb1 hs1 hb12
  have hbw2 : Below w.heap.size w w2 := belOn hb0 (by omega) hb02
  obtain ⟨k', n', s', a', c', e', l', rfl⟩ := V.ex y
  have hyt := HY.out.1
  rw [V.l_of] at hyt
  have hlen : l'.length = 1 := by have := congrArg List.length hyt; rwa [V.ts_length, V.ts_length] at this
  obtain ⟨x, rfl⟩ : ∃ x, l' = [x] := by
    match l', hlen with
    | [x], _ => exact ⟨x, rfl⟩
  have hxt : x.t = v.t := by
    have h := hyt
    simp only [V.ts] at h
    exact (List.cons.inj h).1
  obtain ⟨b, o, ha, hbq, hrow⟩ := HY.out.2.row (by simp)
  have hxl := HY.out.2.sub x (by simp)
  rw [V.a_of, V.l_of, V.c_of, ha]
  obtain ⟨q0, q1, q2, q3, q4⟩ := hrow 0 (by simp)
  have q0' : w2.cell? ⟨b, o, none⟩ = some (.int .i64 x.k) := q0
  have q1' : w2.cell? ⟨b, o + 1, none⟩ = some (.int .u64 x.n) := q1
  have q2' : w2.cell? ⟨b, o + 2, none⟩ = some (.string x.s) := q2
  have q3' : w2.cell? ⟨b, o + 3, none⟩ = some (.slice x.a x.l.length x.c) := q3
  have q4' : w2.cell? ⟨b, o + 4, none⟩ = some (.int .i64 x.e) := q4
  have xz1 := xz.below hb02 (by omega)
  obtain ⟨z0, z1, z2, z3, z4⟩ := xz1.cells
  have fz := (show Blk w2 (w.heap.size + 1) 42 5 from ⟨_, xz1, rfl⟩).free
  have hz5 : w.heap.size + 1 < w2.heap.size := by omega
  have hbl : b < w2.heap.size := by omega
  have HXL := hide hxl
  clear q0 q1 q2 q3 q4 xz1 hxl hrow hyt
  go_wp2
  have hbz : Below w.heap.size w _ := put5_below (y := x) (o := 0) (b := w.heap.size + 1) hbw2 (by omega)
  have hsm : ∀ b', b' ≠ w.heap.size + 1 → Same w2 (put5 w2 (w.heap.size + 1) 0 x) b' := fun b' hb' => put5_same _ _ _ _ _ hb'
  have hsz := put5_size w2 (w.heap.size + 1) 0 x
  rw [← put5_eq] at hbz hsm hsz
  refine bodyPost_ret (v := .tuple #[.agg #[.int .i64 x.k, .int .u64 x.n, .string x.s, .slice x.a x.l.length x.c, .int .i64 x.e], .int .i64 0]) (by simp [results, Tryz.results19, go_sem, z0, z1, z2, z3, z4]) rfl ⟨x, rfl, ⟨⟨v, HV.out.1, hxt⟩, ?_⟩, hbz⟩
  exact LiesIn.keep HXL.out (fun b' hq => hsm b' (by have h1 : W1.heap.size ≤ b' := hq.1; omega)) (fun b' hq => by
    have h2 : b' < w2.heap.size := hq.2
    rw [← hsz] at h2
    exact h2)
end Go.Proofs.YtgldcchleoklcaaGreatDoor
