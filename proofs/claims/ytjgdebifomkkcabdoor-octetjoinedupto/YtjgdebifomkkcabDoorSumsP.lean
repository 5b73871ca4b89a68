/- OctetSums: what the law keeps, step by step, outside the walk. -/
import Derived.Test.YtjgdebifomkkcabDoorApp
import Derived.Test.YtjgdebifomkkcabDoorBack
import Derived.Test.YtjgdebifomkkcabDoorRefS
namespace Go.Proofs.YtjgdebifomkkcabDoor
open Go.RowKit

theorem ownsRow_below {w w' : World} {base : Nat} {e : TypeId} {size : Nat} {v : Value} {n : Nat} {xs : List Value} (h : w.ownsRow base e size v n xs) (hb : Below w.heap.size w w') : w'.ownsRow base e size v n xs := by
  refine ⟨h.1, ?_⟩
  rcases h.2 with hn | ⟨g, cap, cur, rfl, hbg, hg, rest⟩
  · exact .inl hn
  · refine .inr ⟨g, cap, cur, rfl, hbg, ?_, rest⟩
    rw [hb.block g (Array.getElem?_eq_some_iff.1 hg).1]
    exact hg
theorem rowIs_below {w w' : World} {b : Nat} {t : TypeId} {n : Nat} {f : Nat → Value} (h : w.rowIs b t n f) (hb : Below w.heap.size w w') : w'.rowIs b t n f :=
  h.of_block (hb.block b h.lt)
theorem rowIs_grown {w w' : World} {b : Nat} {t : TypeId} {n : Nat} {f : Nat → Value} {row : Option Nat} (h : w.rowIs b t n f) (hg : w.grownBy w' row) (hne : row ≠ some b) : w'.rowIs b t n f :=
  h.of_block (hg.block b h.lt (fun e => hne e.symm))
theorem own_ne_row {w : World} {base : Nat} {e t : TypeId} {size : Nat} {v : Value} {n m b : Nat} {xs : List Value} {f : Nat → Value} (h : w.ownsRow base e size v n xs) (hr : w.rowIs b t m f) (hne : e ≠ t) : v.ownBlock ≠ some b := by
  intro hv
  obtain ⟨c, hb, _, _⟩ := hr
  rcases h.2 with ⟨rfl, _⟩ | ⟨g, cap, cur, rfl, _, hg, _⟩
  · cases hv
  · simp only [Value.ownBlock, Option.some.injEq] at hv
    subst hv
    rw [hb] at hg
    simp only [Option.some.injEq, Obj.cells.injEq] at hg
    exact hne hg.2.1.symm

def Nn (ls : List (List Nat)) (i : Nat) : Nat := (ls.getD i []).length
def elL (ls : List (List Nat)) (G : Nat → Nat) (i : Nat) : Value := .slice (some ⟨G i, 0, none⟩) (Nn ls i) (Nn ls i + 2)
def elA (ls : List (List Nat)) (G : Nat → Nat) (i : Nat) : Value := .slice (some ⟨G i, 0, none⟩) (Nn ls i + 2) (Nn ls i + 2)
def Rows2 (w : World) (ls : List (List Nat)) (G : Nat → Nat) (k : Nat) : Prop :=
  ∀ i, i < k → w.rowIs (G i) 5 (Nn ls i + 2) (fun j => .int .u8 (((ls.getD i [] ++ [71, 72]).getD j 0 : Nat) : Int))
def Apart (x y : Option Nat) : Prop := x = none ∨ x ≠ y

theorem map_snoc (f : Nat → Value) (k : Nat) : (List.range (k + 1)).map f = (List.range k).map f ++ [f k] := by
  rw [List.range_succ, List.map_append]; rfl
theorem map_same {f g : Nat → Value} (k : Nat) (h : ∀ i, i < k → f i = g i) : (List.range k).map f = (List.range k).map g :=
  List.map_congr_left (fun i hi => h i (List.mem_range.1 hi))
/-- one block more -/
def upd (G : Nat → Nat) (k b : Nat) : Nat → Nat := fun i => if i = k then b else G i
theorem elL_upd (ls : List (List Nat)) (G : Nat → Nat) (k b : Nat) : (List.range k).map (elL ls (upd G k b)) = (List.range k).map (elL ls G) :=
  map_same k (fun i hi => by unfold elL upd; rw [if_neg (by omega)])
theorem elA_upd (ls : List (List Nat)) (G : Nat → Nat) (k b : Nat) : (List.range k).map (elA ls (upd G k b)) = (List.range k).map (elA ls G) :=
  map_same k (fun i hi => by unfold elA upd; rw [if_neg (by omega)])
theorem elL_at (ls : List (List Nat)) (G : Nat → Nat) (k b : Nat) : elL ls (upd G k b) k = .slice (some ⟨b, 0, none⟩) (Nn ls k) (Nn ls k + 2) := by unfold elL upd; rw [if_pos rfl]
theorem elA_at (ls : List (List Nat)) (G : Nat → Nat) (k b : Nat) : elA ls (upd G k b) k = .slice (some ⟨b, 0, none⟩) (Nn ls k + 2) (Nn ls k + 2) := by unfold elA upd; rw [if_pos rfl]

theorem Rows2.below {w w' : World} {ls G k} (h : Rows2 w ls G k) (hb : Below w.heap.size w w') : Rows2 w' ls G k := fun i hi => rowIs_below (h i hi) hb
theorem Rows2.more {w : World} {ls G k b} (h : Rows2 w ls G k) (hr : w.rowIs b 5 (Nn ls k + 2) (fun j => .int .u8 (((ls.getD k [] ++ [71, 72]).getD j 0 : Nat) : Int))) : Rows2 w ls (upd G k b) (k + 1) := by
  intro i hi
  by_cases he : i = k
  · subst he; unfold upd; rw [if_pos rfl]; exact hr
  · unfold upd; rw [if_neg he]; exact h i (by omega)
theorem Rows2.grown {w w' : World} {ls G k} {base n : Nat} {e : TypeId} {v : Value} {xs : List Value} (h : Rows2 w ls G k) (hg : w.grownBy w' v.ownBlock) (ho : w.ownsRow base e 1 v n xs) (hne : e ≠ 5) : Rows2 w' ls G k :=
  fun i hi => rowIs_grown (h i hi) hg (own_ne_row ho (h i hi) hne)
theorem Rows2.rd {w : World} {ls G k} (h : Rows2 w ls G k) (hb : ∀ i, i < k → ∀ c ∈ ls.getD i [], c < 256) (i : Nat) (hi : i < k) :
    Rd w (some ⟨G i, 0, none⟩) (Nn ls i) (ls.getD i []) ∧ Rd w (some ⟨G i, 0, none⟩) (Nn ls i + 2) (ls.getD i [] ++ [71, 72]) := by
  have hl : ∀ c ∈ ls.getD i [] ++ [71, 72], c < 256 := fun c hc => by
    rcases List.mem_append.1 hc with h | h
    · exact hb i hi c h
    · simp at h; omega
  constructor
  · have := Rd.of_rowl (h i hi) (show Nn ls i ≤ Nn ls i + 2 by omega) (by simp [Nn]) hl
    rwa [List.take_append_of_le_length (by simp [Nn]), List.take_of_length_le (by simp [Nn])] at this
  · have := Rd.of_rowl (h i hi) (Nat.le_refl _) (by simp [Nn]) hl
    rwa [List.take_of_length_le (by simp [Nn])] at this

theorem cell_one_new' (w : World) (v : Value) (t : TypeId) : (w.alloc (.cells #[v] t)).cell? ⟨w.heap.size, 0, none⟩ = some v := by
  rw [World.cell?_alloc_at _ _ _ _ rfl]; rfl
/-- the two rows stay apart when one of them is grown -/
theorem apart_l {w : World} {base m : Nat} {e : TypeId} {vl vl' va : Value} {ys : List Value} (h : Apart vl.ownBlock va.ownBlock) (ha : w.ownsRow base e 1 va m ys)
    (r : vl'.ownBlock = vl.ownBlock ∨ ∃ g, vl'.ownBlock = some g ∧ w.heap.size ≤ g) : Apart va.ownBlock vl'.ownBlock := by
  unfold Apart at *
  cases hv : va.ownBlock with
  | none => exact .inl rfl
  | some b =>
    right
    rcases r with r | ⟨g, hg, hge⟩
    · rw [r]
      rcases h with h | h
      · rw [h]; simp
      · rw [← hv]; exact fun e => h e.symm
    · rw [hg]
      have := (ha.lt b hv).2
      simp; omega
theorem kept_apart {w w' : World} {base m : Nat} {e : TypeId} {row : Option Nat} {va : Value} {ys : List Value} (ha : w.ownsRow base e 1 va m ys) (hg : w.grownBy w' row) (h : Apart va.ownBlock row) : w'.ownsRow base e 1 va m ys :=
  ha.kept hg h
theorem Apart.symm_of {x y : Option Nat} (h : Apart x y) : Apart y x := by
  unfold Apart at *
  cases y with
  | none => exact .inl rfl
  | some b =>
    right
    rcases h with h | h
    · rw [h]; simp
    · exact fun e => h e.symm
theorem sums_mid {B k : Nat} {w2 w3 : World} {e : TypeId} {vl va : Value} {o1 : Obj} {ya : List Value} (hoa2 : w2.ownsRow B e 1 va k ya) (hap : Apart vl.ownBlock va.ownBlock) (r2 : (w2.alloc o1).grownBy w3 vl.ownBlock) : w3.ownsRow B e 1 va k ya :=
  kept_apart (hoa2.alloc _) r2 hap.symm_of
theorem sums_step {B k b : Nat} {ls : List (List Nat)} {G : Nat → Nat} {w1 w2 w3 w4 : World} {vl va vl' va' : Value} {o1 o2 : Obj}
    (hol2 : w2.ownsRow B 27 1 vl k ((List.range k).map (elL ls G))) (hoa2 : w2.ownsRow B 27 1 va k ((List.range k).map (elA ls G))) (hap : Apart vl.ownBlock va.ownBlock) (hrw2 : Rows2 w2 ls G k)
    (hrow : w2.rowIs b 5 (Nn ls k + 2) (fun j => .int .u8 (((ls.getD k [] ++ [71, 72]).getD j 0 : Nat) : Int))) (hB : B ≤ w2.heap.size) (hbw2 : Below B w1 w2)
    (r1 : w3.ownsRow B 27 1 vl' (k + 1) ((List.range k).map (elL ls G) ++ [.slice (some ⟨b, 0, none⟩) (Nn ls k) (Nn ls k + 2)])) (r2 : (w2.alloc o1).grownBy w3 vl.ownBlock)
    (r3 : vl'.ownBlock = vl.ownBlock ∨ ∃ g, vl'.ownBlock = some g ∧ (w2.alloc o1).heap.size ≤ g)
    (s1 : w4.ownsRow B 27 1 va' (k + 1) ((List.range k).map (elA ls G) ++ [.slice (some ⟨b, 0, none⟩) (Nn ls k + 2) (Nn ls k + 2)])) (s2 : (w3.alloc o2).grownBy w4 va.ownBlock)
    (s3 : va'.ownBlock = va.ownBlock ∨ ∃ g, va'.ownBlock = some g ∧ (w3.alloc o2).heap.size ≤ g) :
    w4.ownsRow B 27 1 vl' (k + 1) ((List.range (k + 1)).map (elL ls (upd G k b))) ∧ w4.ownsRow B 27 1 va' (k + 1) ((List.range (k + 1)).map (elA ls (upd G k b))) ∧ Apart vl'.ownBlock va'.ownBlock ∧ Rows2 w4 ls (upd G k b) (k + 1) ∧ Below B w1 w4 := by
  have al : ∀ (w : World) (o : Obj), Below w.heap.size w (w.alloc o) := fun w o => (Below.refl _ _).alloc (Nat.le_refl _) _
  have hoa3 := sums_mid hoa2 hap r2
  have hap3 : Apart va.ownBlock vl'.ownBlock := apart_l hap (hoa2.alloc o1) r3
  have hrw3 : Rows2 w3 ls (upd G k b) (k + 1) := ((hrw2.more hrow).below (al _ _)).grown r2 (hol2.alloc o1) (by decide)
  have hB3 : B ≤ w3.heap.size := Nat.le_trans hB (Nat.le_trans (al w2 o1).size r2.size)
  have hol4 : w4.ownsRow B 27 1 vl' (k + 1) _ := kept_apart (r1.alloc o2) s2 hap3.symm_of
  have b3 : Below B w1 w3 := (hbw2.alloc hB o1).grown r2 (Nat.le_trans hB (al w2 o1).size) (fun g hg => (hol2.lt g hg).1)
  refine ⟨?_, ?_, apart_l hap3 (r1.alloc o2) s3, (hrw3.below (al _ _)).grown s2 (hoa3.alloc o2) (by decide), (b3.alloc hB3 o2).grown s2 (Nat.le_trans hB3 (al w3 o2).size) (fun g hg => (hoa3.lt g hg).1)⟩
  · rw [map_snoc, elL_upd, elL_at]; exact hol4
  · rw [map_snoc, elA_upd, elA_at]; exact s1
end Go.Proofs.YtjgdebifomkkcabDoor
