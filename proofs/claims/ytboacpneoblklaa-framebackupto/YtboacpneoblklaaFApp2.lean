/- The append of bytes as a step of a region that draws its order; x[i:j]. -/
import Derived.Test.YtboacpneoblklaaFApp
import Derived.Test.YtboacpneoblklaaFSpec
namespace Go.Proofs.Ytboacpneoblklaa
open Go.RowKit Go.Deep
set_option linter.unusedVariables false
set_option linter.unusedSimpArgs false

theorem step_append_any {ops : Array Oper} {o : Oper} {a : Act} {w : World} {K : Act → World → Prop} {Q : Exit → Act → World → Prop} {E : Prop} (hgd : o.guard = none) (s x : Operand)
    (ho : o.op = .call { callee := .builtin .append, args := #[s, x], argTypes := #[22, 22] })
    (base : Nat) (v : Value) (n : Nat) (l : List Nat) (hs : a.eval s = v) (hown : w.ownsRow base 5 1 v n (l.map byteV))
    (ad : Addr) (m c : Nat) (t : List Nat) (hx : a.eval x = .slice (some ad) m c) (hr : Rd w (some ad) m t) (hz : n + m ≤ 140737488355328) (hbase : base ≤ w.heap.size)
    (h : ∀ v' w', w'.ownsRow base 5 1 v' (n + m) ((l ++ t).map byteV) → w.grownBy w' v.ownBlock → K (a.put o.dst v') w') :
    if Region.wanted o (yielded ops a.tmps) = true then Oper.wp Try.prog o a w K Q else E := by
  obtain ⟨i0, hi, hz0, hz1, hz2⟩ := info_parts Try.info5
  have hw : Region.wanted o (yielded ops a.tmps) = true := by simp [Region.wanted, hgd]
  rw [if_pos hw]
  refine wp_append_own w s x 22 ho base 5 i0 (.int .u8 0) 1 1 Try.underlying22 hi hz0 hz1 hz2 rfl (by omega) v n _ hs hown ad m c (t.map byteV) hx (by simp [hr.1]) (fun j u hj => ?_) (oneCell_bytes t) (by unfold maxLen; omega) (by omega) hbase (fun v' w' r1 r2 _ => h v' w' (by rw [List.map_append]; exact r1) r2)
  have hjt : j < t.length := by have := (List.getElem?_eq_some_iff.1 hj).1; simpa using this
  obtain ⟨ad', he, hc⟩ := copy_of hr (by simp; omega)
  simp only [Option.some.injEq] at he
  subst he
  exact hc j u hj
/-- x[i:j] -/
theorem cut2 (ad : Addr) (n cap i j : Nat) (x y : Int) (hx : x = i) (hy : y = j) (hij : i ≤ j) (hj : j ≤ cap) : ∃ ad', (cap ≠ i → ad' = ad.add i) ∧ ∀ w, (Instr.slice 22 (.slice (some ad) n cap) (some (.int .i64 x)) (some (.int .i64 y)) none).run Try.prog w = .ok (.slice (some ad') (j - i) (cap - i)) w := by
  subst hx hy
  refine ⟨if cap = i then ad else ad.add i, fun h => by rw [if_neg h], fun w => ?_⟩
  obtain ⟨i0, hi, hz0, hz1, hz2⟩ := info_parts Try.info5
  have h1 : ((i : Int) ≤ (j : Int)) := by omega
  have h2 : ((j : Int) ≤ (cap : Int)) := by omega
  simp [Instr.slice, run_underlying Try.underlying22, Instr.sliceBounds, Instr.sliceBound, asIntOf, sizeOf, typeInfo, hi, hz1, hij, hj, go_sem]
  split <;> simp_all
end Go.Proofs.Ytboacpneoblklaa
