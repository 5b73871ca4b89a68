
/- LinkAgree: any turn; the beginning. -/
import Derived.Test.YtjipcdknkghoaaaLTurn1
import Derived.Test.YtjipcdknkghoaaaLTurn2a
import Derived.Test.YtjipcdknkghoaaaLTurn2b
import Derived.Test.YtjipcdknkghoaaaLTurn2c
import Derived.Test.YtjipcdknkghoaaaLTurn3
import Derived.Test.YtjipcdknkghoaaaLTurn5
namespace Go.Proofs.Ytjipcdknkghoaaa
open Go.RowKit Go.Maps
set_option linter.unusedVariables false
set_option linter.unusedSimpArgs false

section
variable {z : Nat} {w0 : World} {k gs gr N M : Nat} {sec : Bool} {md n0 : Int}
theorem turn_any (kd n : Int) (f : Bool) (w : World) (h : TurnI z w0 k gs gr N M sec md n0 w) (hM : M ≤ 999999999) (hmd : md = 0 ∨ md = 1 ∨ md = 2) :
    Calls Try.prog 7 #[.pointer (some ⟨k, 0, none⟩), .agg (tnA kd n f), .bool sec, .int .i64 md] w fun e1 w' => e1 = .returned (.bool true) ∧ ∃ N', TurnI z w0 k gs gr N' (M + 1) sec md n0 w' := by
  have hq := qk_in kd
  have hq6 : qk kd = 0 ∨ qk kd = 1 ∨ qk kd = 2 ∨ qk kd = 3 ∨ qk kd = 4 ∨ qk kd = 5 := by omega
  have h' := h
  obtain ⟨s, r, Ts, Tr, vO, vB, vG, O, B, G, e, p, L, a, b, hp, ha⟩ := h'
  rcases hq6 with hk | hk | hk | hk | hk | hk
  · cases hn : isIn n 2147483647 with
    | false => exact turn_0n kd n f w hp ha hM hk hn
    | true => exact turn_0y kd n f w hp ha hM hk hn
  · have hs := ha.ag.scb.1
    by_cases hc : 0 < s.cr
    · rcases hmd with rfl | rfl | rfl
      · exact turn_1a kd n f w hp ha hM hk hc
      · exact turn_1b kd n f w hp ha hM hk hc
      · cases f with
        | true => exact turn_1c kd n true w hp ha hM hk rfl hc
        | false => exact turn_1d kd n false w hp ha hM hk rfl hc
    · have hc0 : s.cr = 0 := by omega
      rcases hmd with rfl | rfl | rfl
      · exact turn_1na kd n f w hp ha hM hk hc0
      · exact turn_1nb kd n f w hp ha hM hk hc0
      · cases f with
        | true => exact turn_1nc kd n true w hp ha hM hk rfl hc0
        | false => exact turn_1nd kd n false w hp ha hM hk rfl hc0
  · have hs := ha.ag.scb.1
    by_cases hd : s.dr = true ∧ 0 < s.cr
    · exact turn_2y kd n f w hp ha hM hk hd.1 hd.2
    · refine turn_2n kd n f w hp ha hM hk ?_
      cases hdr : s.dr with
      | false => exact .inl rfl
      | true => exact .inr (by have : ¬ 0 < s.cr := fun h => hd ⟨hdr, h⟩; omega)
  · exact turn_3 kd n f w h hM hk
  · exact turn_4 kd n f w h hM hk
  · cases G with
    | nil => exact turn_5n kd n f w hp ha hM hk rfl
    | cons t G =>
      cases sec with
      | false => exact turn_5s t kd n f w hp ha hM hk
      | true => exact turn_5o t kd n f w hp ha hM hk
end
def nilV : Value := .slice none 0 0
theorem Pm.start {w W : World} {g g' : Nat} {l l' : Lk} (h : Pr w W g l [] g' l' []) : Pm w.heap.size w (W.alloc (.cells (pmA g g' 0 nilV nilV nilV) 32)) W.heap.size g g' 0 l l' [] [] nilV nilV nilV [] [] [] := by
  have hb : Below W.heap.size W (W.alloc (.cells (pmA g g' 0 nilV nilV nilV) 32)) := bel1 (Below.refl _ _) (Nat.le_refl _) _
  have h2 := h.go hb
  exact ⟨heap_alloc_last W _, h2.a, h2.b, h2.ap, .inl ⟨rfl, rfl⟩, .inl ⟨rfl, rfl⟩, .inl ⟨rfl, rfl⟩, fun j e => (by cases e), h.bel.size, h2.na, h2.nb, h2.bel, h2.bel.size⟩
theorem Al.start {sec : Bool} {md c : Int} {n m : Nat} {nm : ByteArray} (hc : 0 ≤ c ∧ c ≤ 4294967295) : Al sec md 0 0 c 0 0 0 0 0 (newLk nm false md (if sec then 1 else 0) c n) (newLk nm true md (if sec then 1 else 0) c m) [] [] [] [] [] :=
  ⟨Ag.start hc rfl rfl rfl rfl rfl, Tg.start, ⟨rfl, rfl, rfl, rfl, rfl, rfl, rfl, rfl⟩, Nat.le_refl _, Nat.le_refl _, Nat.le_refl _⟩
/-- what stands at last -/
structure Lst (sec : Bool) (z : Nat) (w0 w : World) (k gs gr : Nat) (s r : Lk) (Ts Tr : List (ByteArray × Dv)) (vG : Value) (G : List ByteArray) : Prop where
  pm : ∃ N vO vB O B, Pm z w0 w k gs gr N s r Ts Tr vO vB vG O B G
  ct : s.ct = r.ct
  cr : s.cr = r.cr
  ks : (keys Ts).Perm (keys Tr)
  ln : sec = false → Ts.length = G.length
  sm : Ts.length ≤ 1000000000
def mdOf (m : Int) : Int := Int.tmod (Int.tmod m 3 + 3) 3
theorem md_low (m : Int) : -3 < Int.tmod m 3 ∧ Int.tmod m 3 < 3 := by
  constructor
  · rcases Int.le_total 0 m with h | h
    · have := Int.tmod_nonneg 3 h; omega
    · have h2 : Int.tmod m 3 = -(Int.tmod (-m) 3) := by rw [Int.neg_tmod]; omega
      have h3 := Int.tmod_lt_of_pos (-m) (show (0 : Int) < 3 by decide)
      omega
  · exact Int.tmod_lt_of_pos m (by decide)
theorem md_in (m : Int) : mdOf m = 0 ∨ mdOf m = 1 ∨ mdOf m = 2 := by
  have h1 := md_low m
  have h2 : 0 ≤ mdOf m := Int.tmod_nonneg 3 (by omega)
  have h3 : mdOf m < 3 := Int.tmod_lt_of_pos _ (by decide)
  omega
/-- turns that came in -/
def Tn : Type := Int × Int × Bool
def Tn.L (t : Tn) : List Value := [.int .i64 t.1, .int .i64 t.2.1, .bool t.2.2]
def RT (w : World) (a : Option Addr) (n : Nat) (fs : Nat → Tn) : Prop := ∀ j, j < n → ∃ b off, a = some ⟨b, off, none⟩ ∧ b < w.heap.size ∧ w.rangeAt b (off + j * 3) (fs j).L
theorem RT.at {w w' : World} {a : Option Addr} {n j : Nat} {fs : Nat → Tn} (h : RT w a n fs) (hj : j < n) (hb : Below w.heap.size w w') : ∃ b off, a = some ⟨b, off, none⟩ ∧ b < w'.heap.size ∧ w'.rangeAt b (off + j * 3) (fs j).L := by
  obtain ⟨b, off, e, h1, h2⟩ := h j hj
  exact ⟨b, off, e, Nat.lt_of_lt_of_le h1 hb.size, fun q v hv => (hb.cell (p := ⟨b, off + j * 3 + q, none⟩) h1).trans (h2 q v hv)⟩
end Go.Proofs.Ytjipcdknkghoaaa
