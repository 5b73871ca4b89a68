/- Two lists at once into the book, in a region that draws its order. -/
import Derived.Test.YtjofaelgkfohpaaFOpensM
namespace Go.Proofs.Ytjofaelgkfohpaa
open Go.RowKit Go.Deep
set_option linter.unusedVariables false
set_option linter.unusedSimpArgs false

theorem step_append_lists {ops : Array Oper} {o : Oper} {a : Act} {w : World} {K : Act → World → Prop} {Q : Exit → Act → World → Prop} {E : Prop} (hgd : o.guard = none) (s x : Operand)
    (ho : o.op = .call { callee := .builtin .append, args := #[s, x], argTypes := #[29, 29] })
    (base : Nat) (v : Value) (n : Nat) (xs : List Value) (hs : a.eval s = v) (hown : w.ownsRow base 22 1 v n xs)
    (ad : Addr) (c : Nat) (s1 s2 : Value) (hx : a.eval x = .slice (some ad) 2 c) (h1 : s1.oneCell' = true) (h2 : s2.oneCell' = true) (hc1 : w.cell? ad = some s1) (hc2 : w.cell? (ad.add 1) = some s2) (hz : n ≤ 1000) (hbase : base ≤ w.heap.size)
    (h : ∀ v' w', w'.ownsRow base 22 1 v' (n + 2) (xs ++ [s1, s2]) → w.grownBy w' v.ownBlock → K (a.put o.dst v') w') :
    if Region.wanted o (yielded ops a.tmps) = true then Oper.wp Try.prog o a w K Q else E := by
  obtain ⟨i0, hi, hz0, hz1, hz2⟩ := info_parts Try.infoL
  have hw : Region.wanted o (yielded ops a.tmps) = true := by simp [Region.wanted, hgd]
  rw [if_pos hw]
  refine wp_append_own w s x 29 ho base 22 i0 (.slice none 0 0) 1 24 Try.underlying29 hi hz0 hz1 hz2 rfl (by omega) v n _ hs hown ad 2 c [s1, s2] hx rfl (fun j u hj => ?_) (fun u hu => ?_) (by unfold maxLen; omega) (by omega) hbase (fun v' w' r1 r2 _ => h v' w' r1 r2)
  · match j, hj with
    | 0, hj => simp at hj; subst hj; simpa [Addr.add] using hc1
    | 1, hj => simp at hj; subst hj; exact hc2
    | j + 2, hj => simp at hj
  · simp at hu
    rcases hu with rfl | rfl
    · exact h1
    · exact h2
theorem cell_two0 (w : World) (s1 s2 : Value) (t : TypeId) : (w.alloc (.cells #[s1, s2] t)).cell? ⟨w.heap.size, 0, none⟩ = some s1 := by
  rw [World.cell?_alloc_at _ _ _ _ rfl]; rfl
theorem cell_two1 (w : World) (s1 s2 : Value) (t : TypeId) : (w.alloc (.cells #[s1, s2] t)).cell? ((⟨w.heap.size, 0, none⟩ : Addr).add 1) = some s2 := by
  rw [add_none, World.cell?_alloc_at _ _ _ _ rfl]; rfl
/-- all blocks but those of lists of lists and of books stay -/
def Keeps (w w' : World) : Prop := ∀ (g : Nat) (cs : Array Value) (t : TypeId) (fz : Nat × Nat), t ≠ 22 → t ≠ 31 → w.heap[g]? = some (.cells cs t fz) → w'.heap[g]? = some (.cells cs t fz)
theorem Keeps.refl (w : World) : Keeps w w := fun _ _ _ _ _ _ h => h
theorem Keeps.below {w w' w2 : World} (h : Keeps w w') (hb : Below w'.heap.size w' w2) : Keeps w w2 := fun g cs t fz h1 h2 h3 => by
  have := h g cs t fz h1 h2 h3
  exact (hb.block g (Array.getElem?_eq_some_iff.1 this).1).trans this
theorem book_two {w0 Wx w3 W8 : World} {B k pb : Nat} {v v' s1 s2 : Value} {xs : List Value} (hbk : Book Wx pb 31 v) (hown : Wx.ownsRow B 22 1 v k xs) (hk : Keeps W8 Wx) (hb : Below B w0 Wx) (hB : B ≤ Wx.heap.size) (hpb : B ≤ pb)
    (r1 : w3.ownsRow B 22 1 v' (k + 2) (xs ++ [s1, s2])) (r2 : Wx.grownBy w3 v.ownBlock) :
    Book (w3.setCell ⟨pb, 0, none⟩ v') pb 31 v' ∧ (w3.setCell ⟨pb, 0, none⟩ v').ownsRow B 22 1 v' (k + 2) (xs ++ [s1, s2]) ∧ Keeps W8 (w3.setCell ⟨pb, 0, none⟩ v') ∧ Below B w0 (w3.setCell ⟨pb, 0, none⟩ v') ∧ Wx.heap.size ≤ (w3.setCell ⟨pb, 0, none⟩ v').heap.size ∧ Book w3 pb 31 v := by
  have hne := own_ne_book hown hbk (by decide)
  have hb3 : Book w3 pb 31 v := hbk.grown r2 hne
  have hne2 := own_ne_book r1 hb3 (by decide)
  refine ⟨hb3.set _, own_set r1 hne2 0 _, fun g cs t fz h1 h2 h3 => ?_, below_setAt (hb.grown r2 hB (fun g hg => (hown.lt g hg).1)) hpb 0 _, by have := r2.size; simpa using this, hb3⟩
  have hx := hk g cs t fz h1 h2 h3
  have h4 := grown_keep hown r2 g cs t fz h1 hx
  have hne' : pb ≠ g := fun e => by
    subst e
    unfold Book at hb3
    rw [h4] at hb3
    simp only [Option.some.injEq, Obj.cells.injEq] at hb3
    exact h2 hb3.2.1
  rw [← h4]
  simp [World.setCell, Array.getElem?_modify, hne']
theorem Keeps.alike {w w' w2 : World} (h : Keeps w w') (e : w2.heap = w'.heap) : Keeps w w2 := fun g cs t fz h1 h2 h3 => by
  rw [e]; exact h g cs t fz h1 h2 h3
theorem Keeps.alloc {w w' : World} (h : Keeps w w') (o : Obj) : Keeps w (w'.alloc o) := h.below (below_box w' o)
theorem own4_cell {w W : World} {B gg cg n : Nat} {xs : List Value} (h : w.ownsRow B 24 4 (.slice (some ⟨gg, 0, none⟩) n cg) n xs) (hK : Keeps w W) {i : Nat} (hi : i < n * 4) : W.cell? ⟨gg, i, none⟩ = xs[i]? := by
  rcases h.2 with ⟨e, _⟩ | ⟨g, c', cur, e, hb, hg, hn', _, hcs, htk⟩
  · simp at e
  · simp only [Value.slice.injEq, Option.some.injEq, Addr.mk.injEq, and_true, true_and] at e
    obtain ⟨e1, e2⟩ := e
    subst e1
    have hg' := hK _ _ _ _ (by decide) (by decide) hg
    rw [← htk, List.getElem?_take, if_pos hi]
    simp [World.cell?, hg']
theorem gents_at (l : List Nat) (most : Int) : ∀ (G : List (Int × Option Nat × Option Nat)) (j : Nat) (hj : j < G.length), (gents l most G)[j * 2]? = some (G[j].2.1, opX l G[j].1 most) ∧ (gents l most G)[j * 2 + 1]? = some (G[j].2.2, opY l G[j].1 most)
  | [], j, hj => by simp at hj
  | t :: G, 0, _ => by simp [gents]
  | t :: G, j + 1, hj => by
    have ih := gents_at l most G j (by simpa using hj)
    simp only [gents, List.flatMap_cons, List.getElem_cons_succ] at *
    constructor
    · rw [List.getElem?_append_right (by simp; omega), show (j + 1) * 2 - [(t.2.1, opX l t.1 most), (t.2.2, opY l t.1 most)].length = j * 2 by simp; omega]
      exact ih.1
    · rw [List.getElem?_append_right (by simp; omega), show (j + 1) * 2 + 1 - [(t.2.1, opX l t.1 most), (t.2.2, opY l t.1 most)].length = j * 2 + 1 by simp; omega]
      exact ih.2
theorem grown_alike {a b c : World} {row : Option Nat} (h : a.grownBy c row) (e1 : a.heap = b.heap) (e2 : a.os = b.os) (e3 : a.tape = b.tape) (e4 : a.output = b.output) : b.grownBy c row :=
  ⟨h.os.trans e2, h.tape.trans e3, h.output.trans e4, by rw [← e1]; exact h.size, fun k hk hr => by rw [← e1]; exact h.block k (by rw [e1]; exact hk) hr⟩
theorem gents_small (l : List Nat) (most : Int) (G : List (Int × Option Nat × Option Nat)) : ∀ e ∈ gents l most G, e.2.length ≤ 1099511627776 := fun e he => by
  simp only [gents, List.mem_flatMap] at he
  obtain ⟨t, _, ht⟩ := he
  have := opXY_length l t.1 most
  simp at ht
  rcases ht with rfl | rfl
  · show (opX l t.1 most).length ≤ _; omega
  · show (opY l t.1 most).length ≤ _; omega
/-- what came out still reads -/
theorem ents_rd {w W : World} {B : Nat} {es : List (Option Nat × List Nat)} (h : Ents w B es) (hK : Keeps w W) {j : Nat} {e : Option Nat × List Nat} (he : es[j]? = some e) : Rd W (e.1.map (fun g => (⟨g, 0, none⟩ : Addr))) e.2.length e.2 := by
  obtain ⟨hj, rfl⟩ := List.getElem?_eq_some_iff.1 he
  obtain ⟨h1, h2, h3⟩ := h j hj
  cases ho : es[j].1 with
  | none => rw [h1 ho]; exact ⟨rfl, fun c hc => by simp at hc, fun h => by simp at h⟩
  | some g =>
    have hb := (h3 g ho).2.1
    exact Bl.rd0 (show Bl W g _ from hK _ _ _ _ (by decide) (by decide) hb) h2
end Go.Proofs.Ytjofaelgkfohpaa
