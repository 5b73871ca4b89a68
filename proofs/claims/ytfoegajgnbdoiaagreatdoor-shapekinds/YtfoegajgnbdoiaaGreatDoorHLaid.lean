
/- shape.laid, by what Fields gives. -/
import Derived.Test.YtfoegajgnbdoiaaGreatDoorHFill
import Derived.Test.YtfoegajgnbdoiaaGreatDoorVEq
import Derived.Test.YtfoegajgnbdoiaaGreatDoorVMade
namespace Go.Proofs.YtfoegajgnbdoiaaGreatDoor
open Go.RowKit
set_option linter.unusedVariables false
set_option linter.unusedSimpArgs false
/-- fields with these defaults -/
def FieldsPost (n : Nat) (ds : List V) (W : World) (e : Ending) (w' : World) : Prop := ∃ (a : Option Addr) (fs : List Fd), e = .returned (.tuple #[.slice a n n, .bool true]) ∧
  Hid ((fs.map Fd.d = ds ∧ fs.length = n) ∧ (0 < n → ∃ b, a = some ⟨b, 0, none⟩ ∧ W.heap.size ≤ b ∧ b < w'.heap.size ∧ FRow w' b fs)) ∧ Below W.heap.size W w'
/-- what is left out is a Null -/
def outs (l ds : List V) : List V := List.zipWith (fun v d => if eqT v.t d.t then leaf 0 0 ⟨#[]⟩ else v) l ds
theorem outs_len (l ds : List V) (h : ds.length = l.length) : (outs l ds).length = l.length := by simp [outs, h]
/-- how many are said, of the first i -/
def saidN (l ds : List V) : Nat → Nat
  | 0 => 0
  | i + 1 => if (l[i]?.bind fun v => ds[i]?.map fun d => eqT v.t d.t) = some true then saidN l ds i else i + 1
theorem saidN_le (l ds : List V) (i : Nat) : saidN l ds i ≤ i := by
  induction i with
  | zero => exact Nat.le_refl _
  | succ i ih => unfold saidN; split <;> omega
theorem saidN_step (l ds : List V) (i : Nat) (h1 : i < l.length) (h2 : i < ds.length) : saidN l ds (i + 1) = if eqT l[i].t ds[i].t = true then saidN l ds i else i + 1 := by
  rw [saidN]
  simp [List.getElem?_eq_getElem h1, List.getElem?_eq_getElem h2]
theorem outs_take (l ds : List V) (i : Nat) (h : ds.length = l.length) (hi : i < l.length) : (outs l ds).take (i + 1) = (outs l ds).take i ++ [if eqT l[i].t (ds[i]'(by omega)).t = true then leaf 0 0 ⟨#[]⟩ else l[i]] := by
  rw [List.take_add_one, List.getElem?_eq_getElem (by rw [outs_len _ _ h]; exact hi)]
  simp [outs]
/-- a record in a variable -/
def BoxR (W : World) (b : Nat) (k : Int) (a : Option Addr) (n c : Nat) : Prop := W.heap[b]? = some (.cells #[.int .i64 k, .slice a n c] 39 (0, 0))
theorem BoxR.below {B : Nat} {W w : World} {b : Nat} {k : Int} {a : Option Addr} {n c : Nat} (h : BoxR W b k a n c) (hb : Below B W w) (hlt : b < B) : BoxR w b k a n c := (hb.block b hlt).trans h
theorem BoxR.cells {W : World} {b : Nat} {k : Int} {a : Option Addr} {n c : Nat} (h : BoxR W b k a n c) : W.cell? ⟨b, 0, none⟩ = some (.int .i64 k) ∧ W.cell? ⟨b, 1, none⟩ = some (.slice a n c) := by
  unfold BoxR at h
  refine ⟨?_, ?_⟩ <;> (unfold World.cell?; simp only [h]; rfl)
/-- a row of n values, by their places -/
def RowF (w : World) (b n : Nat) (g : Nat → V) : Prop := ∀ j, j < n → ∀ q, q < 5 → w.cell? ⟨b, j * 5 + q, none⟩ = (words (g j))[q]?
theorem RowF.below {B : Nat} {W w : World} {b n : Nat} {g : Nat → V} (h : RowF W b n g) (hb : Below B W w) (hlt : b < B) : RowF w b n g := fun j hj q hq => (hb.cell (p := ⟨b, j * 5 + q, none⟩) hlt).trans (h j hj q hq)
theorem RowF.same {W w : World} {b n : Nat} {g : Nat → V} (h : RowF W b n g) (hb : Same W w b) : RowF w b n g := fun j hj q hq => (hb _).trans (h j hj q hq)
theorem RowF.eq {w : World} {b n : Nat} {g g' : Nat → V} (h : RowF w b n g) (he : ∀ j, j < n → g j = g' j) : RowF w b n g' := fun j hj q hq => by rw [← he j hj]; exact h j hj q hq
theorem RowF.put {w : World} {b n m i : Nat} {g : Nat → V} {t : TypeId} (y : V) (hk : Blk w b t m) (h : RowF w b n g) (hi : i < n) (hm : n * 5 ≤ m) : RowF (put5 w b (i * 5) y) b n (fun j => if j = i then y else g j) := by
  intro j hj q hq
  show _ = (words (if j = i then y else g j))[q]?
  by_cases e : j = i
  · subst e
    rw [if_pos rfl]
    exact put5_cell hk (by omega) q hq
  · rw [if_neg e, ← h j hj q hq]
    refine World.cell?_setCells_out b (words y) _ w _ (fun _ _ => ?_)
    simp only [words, List.length_cons, List.length_nil]
    omega
theorem RowF.made (w : World) (m : Nat) : RowF (w.alloc (.cells (madeCells zeroV (m * 5)) 34)) w.heap.size m (fun _ => leaf 0 0 ⟨#[]⟩) := by
  intro j hj q hq
  unfold World.cell?
  simp only [World.alloc_heap_new]
  have h5 : (madeCells zeroV (m * 5))[j * 5 + q]? = some (zeroV[(j * 5 + q) % 5]!) := by
    unfold madeCells
    rw [Array.getElem?_map, Array.getElem?_range]
    simp [show j * 5 + q < m * 5 by omega, zeroV]
  rw [h5, show (j * 5 + q) % 5 = q by omega]
  obtain rfl | rfl | rfl | rfl | rfl : q = 0 ∨ q = 1 ∨ q = 2 ∨ q = 3 ∨ q = 4 := by omega
  all_goals rfl
theorem RowF.row {w : World} {b n : Nat} {g : Nat → V} (h : RowF w b n g) (l : List V) (hl : l.length ≤ n) (he : ∀ j (hj : j < l.length), g j = l[j]) : Row w b 0 l := by
  intro i hi
  have hq := fun q hq => h i (by omega) q hq
  rw [he i hi] at hq
  simp only [Nat.zero_add]
  exact ⟨hq 0 (by omega), hq 1 (by omega), hq 2 (by omega), hq 3 (by omega), hq 4 (by omega)⟩
theorem RowF.of_row {w : World} {b : Nat} {l : List V} (h : Row w b 0 l) (g : Nat → V) (he : ∀ j (hj : j < l.length), g j = l[j]) : RowF w b l.length g := by
  intro j hj q hq
  rw [he j hj]
  obtain ⟨h0, h1, h2, h3, h4⟩ := h j hj
  simp only [Nat.zero_add] at h0 h1 h2 h3 h4
  obtain rfl | rfl | rfl | rfl | rfl : q = 0 ∨ q = 1 ∨ q = 2 ∨ q = 3 ∨ q = 4 := by omega
  · exact h0
  · exact h1
  · exact h2
  · exact h3
  · exact h4
theorem FRow.below {B : Nat} {W w : World} {b : Nat} {l : List Fd} (h : FRow W b l) (hb : Below B W w) (hlt : b < B) : FRow w b l := fun i hi j hj => (hb.cell (p := ⟨b, i * 9 + j, none⟩) hlt).trans (h i hi j hj)
theorem FRow.cells {W : World} {b : Nat} {l : List Fd} (h : FRow W b l) (i : Nat) (hi : i < l.length) : W.cell? ⟨b, i * 9, none⟩ = some (.string l[i].name) ∧ W.cell? ⟨b, i * 9 + 1, none⟩ = some (.int .i64 l[i].ty) ∧ W.cell? ⟨b, i * 9 + 2, none⟩ = some (.slice l[i].ka l[i].kl l[i].kc) ∧ W.cell? ⟨b, i * 9 + 3, none⟩ = some (.bool l[i].must) ∧
    W.cell? ⟨b, i * 9 + 4, none⟩ = some (.int .i64 l[i].d.k) ∧ W.cell? ⟨b, i * 9 + 5, none⟩ = some (.int .u64 l[i].d.n) ∧ W.cell? ⟨b, i * 9 + 6, none⟩ = some (.string l[i].d.s) ∧ W.cell? ⟨b, i * 9 + 7, none⟩ = some (.slice l[i].d.a l[i].d.l.length l[i].d.c) ∧ W.cell? ⟨b, i * 9 + 8, none⟩ = some (.int .i64 l[i].d.e) :=
  ⟨h i hi 0 (by omega), h i hi 1 (by omega), h i hi 2 (by omega), h i hi 3 (by omega), h i hi 4 (by omega), h i hi 5 (by omega), h i hi 6 (by omega), h i hi 7 (by omega), h i hi 8 (by omega)⟩
/-- what stands in the made row when i are done -/
def gOuts (l ds : List V) (i j : Nat) : V := if j < i then ((outs l ds)[j]?).getD (leaf 0 0 ⟨#[]⟩) else leaf 0 0 ⟨#[]⟩
theorem outs_get (l ds : List V) (i : Nat) (h : ds.length = l.length) (hi : i < l.length) : (outs l ds)[i]? = some (if eqT l[i].t (ds[i]'(by omega)).t = true then leaf 0 0 ⟨#[]⟩ else l[i]) := by
  rw [List.getElem?_eq_getElem (by rw [outs_len _ _ h]; exact hi)]
  simp [outs]
theorem gOuts_eq (l ds : List V) (i : Nat) (h : ds.length = l.length) (hi : i < l.length) (he : eqT l[i].t (ds[i]'(by omega)).t = true) (j : Nat) : gOuts l ds i j = gOuts l ds (i + 1) j := by
  unfold gOuts
  by_cases h1 : j < i
  · rw [if_pos h1, if_pos (by omega)]
  · rw [if_neg h1]
    by_cases h2 : j = i
    · subst h2
      rw [if_pos (by omega), outs_get l ds j h hi, if_pos he]
      rfl
    · rw [if_neg (by omega)]
theorem gOuts_ne (l ds : List V) (i : Nat) (h : ds.length = l.length) (hi : i < l.length) (he : eqT l[i].t (ds[i]'(by omega)).t = false) (j : Nat) : (if j = i then l[i] else gOuts l ds i j) = gOuts l ds (i + 1) j := by
  unfold gOuts
  by_cases h2 : j = i
  · subst h2
    rw [if_pos rfl, if_pos (by omega), outs_get l ds j h hi, he]
    rfl
  · rw [if_neg h2]
    by_cases h1 : j < i
    · rw [if_pos h1, if_pos (by omega)]
    · rw [if_neg h1, if_neg (by omega)]
theorem gOuts_end (l ds : List V) (h : ds.length = l.length) (m : Nat) (hm : m ≤ l.length) (j : Nat) (hj : j < ((outs l ds).take m).length) : gOuts l ds l.length j = ((outs l ds).take m)[j] := by
  have hl := outs_len l ds h
  have hj' : j < l.length := by rw [List.length_take, hl] at hj; omega
  unfold gOuts
  rw [if_pos hj', List.getElem_take, List.getElem?_eq_getElem (by omega)]
  rfl
theorem outs_mem (l ds : List V) : ∀ x ∈ outs l ds, x = leaf 0 0 ⟨#[]⟩ ∨ x ∈ l := by
  intro x hx
  unfold outs at hx
  obtain ⟨i, hi, rfl⟩ := List.mem_iff_getElem.1 hx
  rw [List.getElem_zipWith]
  split
  · exact .inl rfl
  · exact .inr (List.getElem_mem _)
theorem leaf_in (k n : Int) (s : ByteArray) (Q : Nat → Prop) (w : World) (hk : -9223372036854775808 ≤ k ∧ k ≤ 9223372036854775807) (hn : 0 ≤ n ∧ n ≤ 18446744073709551615) (hs : s.size ≤ 281474976710656) : LiesIn Q w (leaf k n s) :=
  .mk ⟨hk, hn, hs, by decide, by simp, by simp⟩ (by simp) (by simp)
theorem laid_lies (Q : Nat → Prop) (kind : Int) (hk0 : 0 ≤ kind) (hk1 : kind ≤ 9223372036854775807) (l ds : List V) (hd : ds.length = l.length) (hcc : l.length ≤ 1000) (m : Nat) (hm : m ≤ l.length) (w : World) (B L : Nat) (hB : Q B) (hL : Q L)
    (hc : w.heap[B]? = some (.cells #[.int .i64 5, .int .u64 kind, .string ⟨#[]⟩, .slice none 0 0, .int .i64 0, .int .i64 21, .int .u64 0, .string ⟨#[]⟩, .slice (some ⟨L, 0, none⟩) m l.length, .int .i64 0] 34 (0, 0)))
    (hr : RowF w L l.length (gOuts l ds l.length)) (hl : ∀ x ∈ l, LiesIn Q w x) :
    LiesIn Q w (.of 24 0 ⟨#[]⟩ (some ⟨B, 0, none⟩) 2 0 [leaf 5 kind ⟨#[]⟩, .of 21 0 ⟨#[]⟩ (some ⟨L, 0, none⟩) l.length 0 ((outs l ds).take m)]) := by
  have hol := outs_len l ds hd
  have htl : ((outs l ds).take m).length = m := by rw [List.length_take, hol]; omega
  refine .mk ⟨by decide, by decide, by decide, by decide, by simp, by simp⟩ (fun _ => ⟨B, 0, rfl, hB, ?_⟩) ?_
  · intro i hi
    have h2 : i < 2 := hi
    have hcell : ∀ o, w.cell? ⟨B, o, none⟩ = (#[.int .i64 5, .int .u64 kind, .string ⟨#[]⟩, .slice none 0 0, .int .i64 0, .int .i64 21, .int .u64 0, .string ⟨#[]⟩, .slice (some ⟨L, 0, none⟩) m l.length, .int .i64 0] : Array Value)[o]? := fun o => by
      show (match w.heap[B]? with | some (.cells c _ _) => c[o]? | _ => none) = _
      rw [hc]
    simp only [hcell]
    obtain rfl | rfl : i = 0 ∨ i = 1 := by omega
    · exact ⟨rfl, rfl, rfl, rfl, rfl⟩
    · show _ ∧ _ ∧ _ ∧ (some (Value.slice (some ⟨L, 0, none⟩) m l.length) = some (Value.slice (V.of 21 0 ⟨#[]⟩ (some ⟨L, 0, none⟩) l.length 0 ((outs l ds).take m)).a (V.of 21 0 ⟨#[]⟩ (some ⟨L, 0, none⟩) l.length 0 ((outs l ds).take m)).l.length (V.of 21 0 ⟨#[]⟩ (some ⟨L, 0, none⟩) l.length 0 ((outs l ds).take m)).c)) ∧ _
      refine ⟨rfl, rfl, rfl, ?_, rfl⟩
      rw [V.l_of, htl]
      rfl
  · intro x hx
    simp only [List.mem_cons, List.not_mem_nil, or_false] at hx
    rcases hx with rfl | rfl
    · exact leaf_in _ _ _ _ _ (by decide) ⟨hk0, by omega⟩ (by decide)
    · refine .mk ⟨by decide, by decide, by decide, by decide, by omega, by omega⟩ (fun _ => ⟨L, 0, rfl, hL, hr.row _ (by omega) (fun j hj => gOuts_end l ds hd m hm j hj)⟩) ?_
      intro x hx
      rcases outs_mem l ds x (List.mem_of_mem_take hx) with rfl | h
      · exact leaf_in _ _ _ _ _ (by decide) (by decide) (by decide)
      · exact hl x h
end Go.Proofs.YtfoegajgnbdoiaaGreatDoor
