/- A copy over what was lent, as a run. -/
import Derived.Test.YtboacpneoblklaaFLent
namespace Go.Proofs.Ytboacpneoblklaa
open Go.RowKit Go.Deep
set_option linter.unusedVariables false
set_option linter.unusedSimpArgs false

theorem lent_splice (l t r : List Nat) (h : t.length = l.length) : (l ++ spareL ++ r).take 0 ++ (t ++ (l ++ spareL ++ r).drop (0 + t.length)) = t ++ spareL ++ r := by
  rw [Nat.zero_add, h, List.append_assoc l, List.drop_left]
  simp
/-- other bytes, as many, are written over what was lent -/
theorem copy_lent (w w0 : World) (B g n cap ct : Nat) (at' : Option Addr) (l t : List Nat) (ty : TypeId) (hl : Lentb w B g n cap l) (hr : Rd w at' n t) (hb : Below B w0 w) :
    ∃ w', (Builtin.copy_ #[22, 22] ty #[.slice (some ⟨g, 0, none⟩) n cap, .slice at' n ct]).run Try.prog w = .ok (goInt n) w' ∧ Lentb w' B g n cap t ∧ Below B w0 w' ∧ w'.heap.size = w.heap.size ∧ ∀ k, k ≠ g → w'.heap[k]? = w.heap[k]? := by
  obtain ⟨hBg, r, h1, h2, ⟨fz, hgg, hfz⟩, h4, h5⟩ := hl
  have htl := hr.1
  by_cases h0 : n = 0
  · subst h0
    have hl0 : l = [] := List.length_eq_zero_iff.1 h1
    have ht0 : t = [] := List.length_eq_zero_iff.1 htl
    have hrun := run_copy_none (P := Try.prog) w 22 22 ty 5 (some ⟨g, 0, none⟩) at' 0 cap 0 ct Try.underlying22 Try.size5 rfl
    subst hl0 ht0
    exact ⟨w, hrun, ⟨hBg, r, rfl, h2, ⟨fz, hgg, hfz⟩, h4, h5⟩, hb, rfl, fun _ _ => rfl⟩
  · obtain ⟨ad, rfl, hsrc⟩ := copy_of hr (by simp [htl]; omega)
    have hl' := run_loadCells_list (P := Try.prog) w ad (t.map byteV) hsrc
    have hst := run_storeCells_G Try.prog g 0 5 fz (t.map byteV) 0 _ w hgg (by simpa using hfz) (by simp [htl, h1]) (oneCell_bytes t)
    obtain ⟨i0, hi, hz0, hz1, hz2⟩ := info_parts Try.info5
    rw [List.length_map, htl] at hl'
    have el : (List.take (0 + 0) (List.map byteV (l ++ spareL ++ r)) ++ List.map byteV t ++ List.drop (0 + 0 + (List.map byteV t).length) (List.map byteV (l ++ spareL ++ r))) = (t ++ spareL ++ r).map byteV := by
      rw [← lent_splice l t r (by omega)]
      simp [List.map_drop]
    rw [el] at hst
    have hmin : Nat.min n n = n := Nat.min_self n
    refine ⟨w.setRow g ((t ++ spareL ++ r).map byteV).toArray, ?_, ⟨hBg, r, htl, h2, ⟨fz, setRow_heap w g _ _ _ _ hgg, ?_⟩, hr.2.1, h5⟩, below_setRow hb hBg _, by simp, fun k hk => setRow_other w g k _ hk⟩
    · simp [Builtin.copy_, run_underlying Try.underlying22, Builtin.lenOf, Builtin.firstCells, sizeOf, typeInfo, hi, hz1, hmin, hl', hst, -List.map_append]
    · simp [htl, h1] at hfz ⊢
      omega
theorem rd_other {w w' : World} {a : Option Addr} {n g : Nat} {l : List Nat} (h : Rd w a n l) (hk : ∀ k, k ≠ g → w'.heap[k]? = w.heap[k]?) (hg : ∀ b o, a = some ⟨b, o, none⟩ → b ≠ g) (hs : w.heap.size ≤ w'.heap.size) : Rd w' a n l := by
  obtain ⟨h1, h2, h3⟩ := h
  refine ⟨h1, h2, fun hn => ?_⟩
  obtain ⟨b, off, ha, hlt, hc⟩ := h3 hn
  exact ⟨b, off, ha, Nat.lt_of_lt_of_le hlt hs, fun j hj => (World.cell?_of_block (a := ⟨b, off + j, none⟩) (hk b (hg b off ha))).trans (hc j hj)⟩
theorem Lentb.below {w w' : World} {B g n cap : Nat} {l : List Nat} (h : Lentb w B g n cap l) (hb : Below w.heap.size w w') : Lentb w' B g n cap l := by
  obtain ⟨g1, r1, g2, g3, g4, g5, g6⟩ := h
  exact ⟨g1, r1, g2, g3, g4.below hb g4.lt, g5, g6⟩
theorem Lentb.room {w : World} {B g n cap : Nat} {l : List Nat} (h : Lentb w B g n cap l) : n ≤ cap ∧ B ≤ g ∧ g < w.heap.size := by
  obtain ⟨g1, r1, g2, g3, g4, g5, g6⟩ := h
  exact ⟨by omega, g1, g4.lt⟩
end Go.Proofs.Ytboacpneoblklaa
