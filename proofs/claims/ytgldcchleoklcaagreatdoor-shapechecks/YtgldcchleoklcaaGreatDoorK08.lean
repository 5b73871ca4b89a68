/- VPut5 -/
import Derived.Test.YtgldcchleoklcaaGreatDoorK03
import Derived.Laws.IdiomCopy
namespace Go.Proofs.YtgldcchleoklcaaGreatDoor

open Go.RowKit
set_option linter.unusedVariables false

def words (y : V) : List Value := [.int .i64 y.k, .int .u64 y.n, .string y.s, .slice y.a y.l.length y.c, .int .i64 y.e]
def put5 (w : World) (b o : Nat) (y : V) : World := w.setCells b o (words y)
theorem put5_eq (w : World) (b o : Nat) (y : V) :
    (((((w.setCell ⟨b, o, none⟩ (.int .i64 y.k)).setCell ⟨b, o + 1, none⟩ (.int .u64 y.n)).setCell ⟨b, o + 2, none⟩ (.string y.s)).setCell ⟨b, o + 3, none⟩ (.slice y.a y.l.length y.c)).setCell ⟨b, o + 4, none⟩ (.int .i64 y.e)) = put5 w b o y := rfl
theorem put5_of (w : World) (b o : Nat) (k n : Int) (s : ByteArray) (a : Option Addr) (c : Nat) (e : Int) (l : List V) :
    (((((w.setCell ⟨b, o, none⟩ (.int .i64 k)).setCell ⟨b, o + 1, none⟩ (.int .u64 n)).setCell ⟨b, o + 2, none⟩ (.string s)).setCell ⟨b, o + 3, none⟩ (.slice a l.length c)).setCell ⟨b, o + 4, none⟩ (.int .i64 e)) = put5 w b o (V.of k n s a c e l) := by
  rw [← put5_eq, V.l_of]; rfl
theorem put5_below {B : Nat} {w w1 : World} {b o : Nat} {y : V} (h : Below B w w1) (hB : B ≤ b) : Below B w (put5 w1 b o y) := by
  rw [← put5_eq]
  exact ((((h.setCell hB _).setCell hB _).setCell hB _).setCell hB _).setCell hB _
theorem put5_size (w : World) (b o : Nat) (y : V) : (put5 w b o y).heap.size = w.heap.size := by
  rw [← put5_eq]; simp [World.setCell]
theorem put5_same (w : World) (b o b' : Nat) (y : V) (h : b' ≠ b) : Same w (put5 w b o y) b' := fun k =>
  World.cell?_setCells_out b (words y) o w ⟨b', k, none⟩ (fun e => absurd e h)
theorem Blk.setCell {w : World} {b : Nat} {t : TypeId} {m : Nat} (h : Blk w b t m) (o : Nat) (v : Value) : Blk (w.setCell ⟨b, o, none⟩ v) b t m := by
  obtain ⟨cs, h1, h2⟩ := h
  refine ⟨cs.setIfInBounds o v, ?_, by simpa using h2⟩
  simp [World.setCell, Array.getElem?_modify, h1]
theorem put5_blk {w : World} {b : Nat} {t : TypeId} {m : Nat} (h : Blk w b t m) (o : Nat) (y : V) : Blk (put5 w b o y) b t m := by
  rw [← put5_eq]
  exact ((((h.setCell _ _).setCell _ _).setCell _ _).setCell _ _).setCell _ _
theorem put5_cell {w : World} {b o : Nat} {y : V} {t : TypeId} {m : Nat} (h : Blk w b t m) (hm : o + 5 ≤ m) (j : Nat) (hj : j < 5) : (put5 w b o y).cell? ⟨b, o + j, none⟩ = (words y)[j]? := by
  have := World.cell?_setCells_in b (words y) o w (fun k hk => by
    have hk5 : k < 5 := by simpa [words] using hk
    obtain ⟨v, hv⟩ := h.some (o + k) (by omega)
    rw [hv]; rfl) j (by simpa [words] using hj)
  rw [List.getElem?_eq_getElem (by simpa [words] using hj)]
  exact this
theorem put5_row {w : World} {b : Nat} {l : List V} {y : V} {t : TypeId} {m : Nat} (h : Blk w b t m) (hr : Row w b 0 l) (hm : l.length * 5 + 5 ≤ m) : Row (put5 w b (l.length * 5) y) b 0 (l ++ [y]) := by
  intro i hi
  by_cases h1 : i < l.length
  · have e : (l ++ [y])[i] = l[i] := List.getElem_append_left h1
    rw [e]
    obtain ⟨h0, h2, h3, h4, h5⟩ := hr i h1
    have hs : ∀ q, q < 5 → (put5 w b (l.length * 5) y).cell? ⟨b, 0 + i * 5 + q, none⟩ = w.cell? ⟨b, 0 + i * 5 + q, none⟩ := fun q hq =>
      World.cell?_setCells_out b (words y) _ w _ (fun _ _ => .inl (by simp; omega))
    exact ⟨(hs 0 (by omega)).trans h0, (hs 1 (by omega)).trans h2, (hs 2 (by omega)).trans h3, (hs 3 (by omega)).trans h4, (hs 4 (by omega)).trans h5⟩
  · obtain rfl : i = l.length := by simp at hi; omega
    have e : (l ++ [y])[l.length] = y := by simp
    rw [e]
    simp only [Nat.zero_add]
    exact ⟨put5_cell h hm 0 (by omega), put5_cell h hm 1 (by omega), put5_cell h hm 2 (by omega), put5_cell h hm 3 (by omega), put5_cell h hm 4 (by omega)⟩
end Go.Proofs.YtgldcchleoklcaaGreatDoor
