
/- DiskLoads: the list that is lent, its rows. -/
import Derived.Test.YtgkdecjlanbmhaaJXp
import Derived.Test.YtgkdecjlanbmhaaJAl
import Derived.Test.YtgkdecjlanbmhaaDLstM

namespace Go.Proofs.Ytgkdecjlanbmhaa
open Go.RowKit Go.Maps Go.MuLone
set_option linter.unusedVariables false
set_option linter.unusedSimpArgs false
def bxV (v : Value) : Value := match v with | .slice a n c => .slice a n c | _ => .slice none 0 0
def BX : WK Value := { enc := fun v => [bxV v], n := 1, bs := 24, t := 34, ts := 29 }
theorem Try.infoBX : ∃ i z, Try.prog.info? 34 = some i ∧ i.zero = some z ∧ z.cells.size = 1 ∧ i.size = 1 ∧ i.bytes = 24 := by
  have h : (Try.prog.info? 34).map (fun i => (i.zero, i.size, i.bytes)) = some (some (.slice none 0 0), 1, 24) := by kernel_rfl
  obtain ⟨i, h1, h2, h3, h4⟩ := info_parts h
  exact ⟨i, _, h1, h2, rfl, h3, h4⟩
theorem bxOk : BX.Ok := ⟨fun x => rfl, fun x u hu => by
  simp only [BX, List.mem_cons, List.not_mem_nil, or_false] at hu
  subst hu
  cases x <;> rfl, Try.underlying29, Try.infoBX, by decide, by decide, by decide, by decide⟩
/-- a file whose bytes are lent, in memory made since B -/
def LentV (B : Nat) (w : World) (f : Lf) : Prop := ∃ g, f.2.2.2 = .slice (some ⟨g, 0, none⟩) f.2.1.length (f.2.1.length + 9) ∧ w.rowIs g 5 (f.2.1.length + 9) (fun i => bW ((f.2.1 ++ lnM).getD i 0)) ∧ B ≤ g ∧ g < w.heap.size
theorem rowIs_keep {w w' : World} {g n : Nat} {t : TypeId} {r : Nat → Value} (h : w.rowIs g t n r) (e : w'.heap[g]? = w.heap[g]?) : w'.rowIs g t n r := by
  obtain ⟨cs, h1, h2⟩ := h
  exact ⟨cs, e.trans h1, h2⟩
theorem LentV.keep {B : Nat} {w w' : World} {f : Lf} (h : LentV B w f) (hz : w.heap.size ≤ w'.heap.size) (hk : ∀ g, f.2.2.2.ownBlock = some g → w'.heap[g]? = w.heap[g]?) : LentV B w' f := by
  obtain ⟨g, e, h1, h2, h3⟩ := h
  exact ⟨g, e, rowIs_keep h1 (hk g (by rw [e]; rfl)), h2, Nat.lt_of_lt_of_le h3 hz⟩
theorem LentV.typ {B : Nat} {w : World} {f : Lf} (h : LentV B w f) {g : Nat} (e : f.2.2.2.ownBlock = some g) : ∃ cs, w.heap[g]? = some (.cells cs 5 (0, 0)) := by
  obtain ⟨g', e', ⟨cs, h1, _⟩, _⟩ := h
  rw [e'] at e
  cases e
  exact ⟨cs, h1⟩
theorem LentV.lt {B : Nat} {w : World} {f : Lf} (h : LentV B w f) {g : Nat} (e : f.2.2.2.ownBlock = some g) : B ≤ g ∧ g < w.heap.size := by
  obtain ⟨g', e', _, h2, h3⟩ := h
  rw [e'] at e
  cases e
  exact ⟨h2, h3⟩
/-- a row of files, of byte lists: no bytes stand in its block -/
theorem LentV.nx {B b2 : Nat} {w : World} {f : Lf} {v : Value} {U : List Lf} (h : LentV B w f) (hw : Wy KX w b2 v U) {g : Nat} (e : f.2.2.2.ownBlock = some g) : v.ownBlock ≠ some g := fun e2 => by
  obtain ⟨cs, h1⟩ := h.typ e
  obtain ⟨cur, h2⟩ := hw.typ e2
  rw [h1] at h2
  simp [KX] at h2
theorem LentV.nb {B b2 : Nat} {w : World} {f : Lf} {v : Value} {U : List Value} (h : LentV B w f) (hw : Wy BX w b2 v U) {g : Nat} (e : f.2.2.2.ownBlock = some g) : v.ownBlock ≠ some g := fun e2 => by
  obtain ⟨cs, h1⟩ := h.typ e
  obtain ⟨cur, h2⟩ := hw.typ e2
  rw [h1] at h2
  simp [BX] at h2
theorem xb_apart {b1 b2 : Nat} {w : World} {v u : Value} {U : List Lf} {V : List Value} (hw : Wy KX w b1 v U) (hu : Wy BX w b2 u V) {g : Nat} (e : v.ownBlock = some g) : u.ownBlock ≠ some g := fun e2 => by
  obtain ⟨cs, h1⟩ := hw.typ e
  obtain ⟨cur, h2⟩ := hu.typ e2
  rw [h1] at h2
  simp [BX, KX] at h2
/-- the same names, bytes and Safes -/
def SmF (L M : List Lf) : Prop := ∀ i (h : i < L.length) (h2 : i < M.length), M[i].1 = L[i].1 ∧ M[i].2.1 = L[i].2.1 ∧ M[i].2.2.1 = L[i].2.2.1
/-- what stands behind so many rounds of the first loop -/
structure L1 (B : Nat) (w : World) (L : List Lf) (j : Nat) (ov bv : Value) (M : List Lf) : Prop where
  len : M.length = j
  sm : SmF L M
  row : Wy KX w B ov M
  byt : Wy BX w B bv (M.map (·.2.2.2))
  lnt : ∀ f ∈ M, LentV B w f
  apt : M.Pairwise fun a b => ∀ g, a.2.2.2.ownBlock = some g → b.2.2.2.ownBlock ≠ some g
theorem L1.nil (B : Nat) (w : World) (L : List Lf) : L1 B w L 0 (.slice none 0 0) (.slice none 0 0) [] := ⟨rfl, fun i h h2 => absurd h2 (Nat.not_lt_zero _), .inl ⟨rfl, rfl⟩, .inl ⟨rfl, rfl⟩, by simp, by simp⟩
theorem L1.push {B : Nat} {w w4 w5 w6 w7 : World} {L : List Lf} {j : Nat} {ov bv ov' bv' : Value} {M : List Lf} (h : L1 B w L j ov bv M) (hj : j < L.length) {f : Lf} (hf1 : f.1 = L[j].1) (hf2 : f.2.1 = L[j].2.1) (hf3 : f.2.2.1 = L[j].2.2.1)
    (hb4 : Below w.heap.size w w4) (hf : LentV w.heap.size w4 f) (hB : B ≤ w.heap.size)
    (hr5 : Wy KX w5 B ov' (M ++ [f])) (hg5 : w4.grownBy w5 ov.ownBlock) (hb6 : Below w5.heap.size w5 w6) (hr7 : Wy BX w7 B bv' (M.map (·.2.2.2) ++ [f.2.2.2])) (hg7 : w6.grownBy w7 bv.ownBlock) (hov : ∀ q, ov'.ownBlock = some q → bv.ownBlock ≠ some q) : L1 B w7 L (j + 1) ov' bv' (M ++ [f]) := by
  have hz4 := hb4.size
  have hz5 := hg5.size
  have hz6 := hb6.size
  have hz7 := hg7.size
  have hw4 : Wy KX w4 B ov M := h.row.at fun q e => hb4.block q (h.row.lt e).2
  have hb4' : Wy BX w4 B bv (M.map (·.2.2.2)) := h.byt.at fun q e => hb4.block q (h.byt.lt e).2
  have hl4 : ∀ q ∈ M, LentV B w4 q := fun q hq => (h.lnt q hq).keep hz4 (fun g e => hb4.block g ((h.lnt q hq).lt e).2)
  have key : ∀ q : Lf, ∀ b, LentV b w4 q → LentV b w7 q := fun q b hq => by
    refine hq.keep (by omega) (fun g e => ?_)
    have h1 : w5.heap[g]? = w4.heap[g]? := hg5.block g (hq.lt e).2 (fun e2 => hq.nx hw4 e e2.symm)
    have h2 : w6.heap[g]? = w5.heap[g]? := hb6.block g (by have := (hq.lt e).2; omega)
    have h3 : w7.heap[g]? = w6.heap[g]? := hg7.block g (by have := (hq.lt e).2; omega) (fun e2 => hq.nb hb4' e e2.symm)
    rw [h3, h2, h1]
  refine ⟨by rw [List.length_append, h.len]; rfl, fun i hi hi2 => ?_, hr5.at fun q e => ?_, by rw [List.map_append]; exact hr7, fun q hq => ?_, List.pairwise_append.2 ⟨h.apt, by simp, fun a ha b hb g hg hbg => ?_⟩⟩
  · rcases Nat.lt_or_ge i j with hij | hij
    · have hiM : i < M.length := by rw [h.len]; exact hij
      rw [List.getElem_append_left hiM]
      exact h.sm i hi hiM
    · have hij2 : i = j := by
        rw [List.length_append, h.len] at hi2
        have : [f].length = 1 := rfl
        omega
      subst hij2
      rw [List.getElem_append_right (by rw [h.len]; exact Nat.le_refl _)]
      simp only [h.len, Nat.sub_self, List.getElem_cons_zero]
      exact ⟨hf1, hf2, hf3⟩
  · have h2 : w6.heap[q]? = w5.heap[q]? := hb6.block q (hr5.lt e).2
    have h3 : w7.heap[q]? = w6.heap[q]? := hg7.block q (by have := (hr5.lt e).2; omega) (fun e2 => hov q e e2.symm)
    rw [h3, h2]
  · rcases List.mem_append.1 hq with hq | hq
    · exact key q B (hl4 q hq)
    · rw [List.mem_singleton.1 hq]
      obtain ⟨g, e1, e2, e3, e4⟩ := key f _ hf
      exact ⟨g, e1, e2, Nat.le_trans hB e3, e4⟩
  · rw [List.mem_singleton.1 hb] at hbg
    have h1 := (h.lnt a ha).lt hg
    have h2 := hf.lt hbg
    omega
end Go.Proofs.Ytgkdecjlanbmhaa
