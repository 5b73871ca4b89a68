
/- LinkAgree: the walk. -/
import Derived.Test.YtjipcdknkghoaaaLAgT
import Derived.Test.YtjipcdknkghoaaaLAwW
namespace Go.Proofs.Ytjipcdknkghoaaa
open Go.RowKit Go.Maps
set_option linter.unusedVariables false
set_option linter.unusedSimpArgs false

theorem cf_rm {w : World} {N : Nat} {nm : ByteArray} {rc : Bool} {sm rm ic mm : Int} {t : TypeId} (h : w.heap[N]? = some (.cells (cfA nm rc sm rm ic mm) t (0, 0))) (b : Int) : (w.setCell ⟨N, 3, none⟩ (.int .i64 b)).heap[N]? = some (.cells (cfA nm rc sm b ic mm) t (0, 0)) := by
  simp [World.setCell, Array.getElem?_modify, h, cfA]
theorem md_is {md : Int} (h : md = 0 ∨ md = 1 ∨ md = 2) : isIn md 2 = true := by rcases h with rfl | rfl | rfl <;> decide
theorem isIn_c {c : Int} (h : 0 ≤ c ∧ c ≤ 4294967295) : isIn c 4294967295 = true := by simp [isIn]; omega
theorem last_of {sec : Bool} {md n0 e p L a b : Int} {N M : Nat} {s r : Lk} {Ts Tr : List (ByteArray × Dv)} {vO vB vG : Value} {G : List ByteArray} {z : Nat} {w0 w : World} {k gs gr : Nat} (hp : Pm z w0 w k gs gr N s r Ts Tr vO vB vG [] [] G) (ha : Al sec md N M n0 e p L a b s r Ts Tr [] [] G) (hM : M ≤ 1000000000) : Lst sec z w0 w k gs gr s r Ts Tr vG G := by
  have h1 := ha.ag.last
  have h2 := ha.tg.last
  have h3 := ha.tg.lt
  have h4 := ha.ln
  exact ⟨⟨N, vO, vB, [], [], hp⟩, h1.1, h1.2, h2.1, h2.2, by omega⟩
theorem Lst.go {sec : Bool} {z : Nat} {w0 w w' : World} {k gs gr : Nat} {s r : Lk} {Ts Tr : List (ByteArray × Dv)} {vG : Value} {G : List ByteArray} (h : Lst sec z w0 w k gs gr s r Ts Tr vG G) (hb : Below w.heap.size w w') : Lst sec z w0 w' k gs gr s r Ts Tr vG G := by
  obtain ⟨N, vO, vB, O, B, hp⟩ := h.pm
  exact ⟨⟨N, vO, vB, O, B, hp.go hb⟩, h.ct, h.cr, h.ks, h.ln, h.sm⟩
theorem Lst.facts {sec : Bool} {z : Nat} {w0 w : World} {k gs gr : Nat} {s r : Lk} {Ts Tr : List (ByteArray × Dv)} {vG : Value} {G : List ByteArray} (h : Lst sec z w0 w k gs gr s r Ts Tr vG G) : Lnk w gs s Ts ∧ Lnk w gr r Tr ∧ w.cell? ⟨k, 5, none⟩ = some vG ∧ k < w.heap.size ∧ (∃ x c, vG = .slice x G.length c) ∧ Below z w0 w := by
  obtain ⟨N, vO, vB, O, B, hp⟩ := h.pm
  exact ⟨hp.ls, hp.lr, hp.facts.2.2.2.2.2.1, hp.lt, hp.wg.shape, hp.bel⟩
theorem keys_len (T : List (ByteArray × Dv)) : (keys T).length = T.length := by simp [keys]
theorem uns_same {w1 w2 w3 : World} {Ts Tr : List (ByteArray × Dv)} {v v' : Value} (h1 : UnsP w1 w2 Ts v) (h2 : UnsP w2 w3 Tr v') (hk : (keys Ts).Perm (keys Tr)) : ∃ ts a c b d, ts.length = Ts.length ∧ v = .slice a ts.length c ∧ v' = .slice b ts.length d ∧ RdU w3 a ts ∧ RdU w3 b ts := by
  obtain ⟨a, c, ts, rfl, p1, s1, r1, b1⟩ := h1
  obtain ⟨b, d, us, rfl, p2, s2, r2, b2⟩ := h2
  have e : ts = us := sorted_one ((p1.trans hk).trans p2.symm) s1 s2
  subst e
  refine ⟨ts, a, c, b, d, by rw [p1.length_eq, keys_len], rfl, rfl, fun j hj => ?_, r2⟩
  obtain ⟨q, off, e1, e2, e3⟩ := r1 j hj
  exact ⟨q, off, e1, Nat.lt_of_lt_of_le e2 b2.size, (b2.cell (p := ⟨q, off + j * 20, none⟩) e2).trans e3⟩
theorem uns_shape {w1 w2 : World} {T : List (ByteArray × Dv)} {v : Value} (h : UnsP w1 w2 T v) : (∃ a c, v = .slice a T.length c) ∧ Below w1.heap.size w1 w2 := by
  obtain ⟨a, c, ts, rfl, p1, s1, r1, b1⟩ := h
  exact ⟨⟨a, c, by rw [p1.length_eq, keys_len]⟩, b1⟩
end Go.Proofs.Ytjipcdknkghoaaa
