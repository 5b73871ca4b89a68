
/- Stages 19, 20: the append of bytes as a step of a region that draws its order. -/
import Derived.Test.YtgkdecjlanbmhaaJXg
import Derived.Deep.RegionHeldLaw
import Derived.Laws.AppendOwnNone
namespace Go.Proofs.Ytgkdecjlanbmhaa
open Go.RowKit Go.Maps Go.MuLone
set_option linter.unusedVariables false
set_option linter.unusedSimpArgs false
theorem step_app {ops : Array Oper} {o : Oper} {a : Act} {w : World} {K : Act → World → Prop} {Q : Exit → Act → World → Prop} {E : Prop} (hgd : o.guard = none) (s x : Operand)
    (ho : o.op = .call { callee := .builtin .append, args := #[s, x], argTypes := #[34, 34] })
    (base : Nat) (v : Value) (l : List Nat) (hs : a.eval s = v) (hown : Ob base w v l)
    (u : Value) (t : List Nat) (hx : a.eval x = u) (hr : Rb w u t) (hz : l.length + t.length ≤ 140737488355328) (hbase : base ≤ w.heap.size)
    (h : ∀ v' w', Ob base w' v' (l ++ t) → w.grownBy w' v.ownBlock → K (a.put o.dst v') w') :
    if Region.wanted o (yielded ops a.tmps) = true then Oper.wp Try.prog o a w K Q else E := by
  obtain ⟨src, c, rfl, hnil, hcap, hrd⟩ := hr
  obtain ⟨i0, hi, hz0, hz1, hz2⟩ := info_parts Try.info5
  have hlt : ∀ c ∈ l ++ t, c < 256 := fun c hc => (List.mem_append.1 hc).elim (hown.2 c) (hrd.2.1 c)
  have hw : Region.wanted o (yielded ops a.tmps) = true := by simp [Region.wanted, hgd]
  rw [if_pos hw]
  cases src with
  | none =>
    have hc := hnil rfl
    subst hc
    have ht : t = [] := List.length_eq_zero_iff.1 (by omega)
    subst ht
    have hrun := run_append_owned_none (P := Try.prog) (w := w) base 34 o.type 5 i0 1 Try.underlying34 hi v l.length _ hown.1
    unfold Oper.wp
    simp [execOp, ho, resolve, invoke, builtin, hs, hx, hrun, Result.andThen]
    exact h v w (by simpa using hown) ⟨rfl, rfl, rfl, Nat.le_refl _, fun _ _ _ => rfl⟩
  | some ad =>
    refine wp_append_own w s x 34 ho base 5 i0 (.int .u8 0) 1 1 Try.underlying34 hi hz0 hz1 hz2 rfl (by omega) v l.length _ hs hown.1 ad t.length c (t.map bV) hx (by simp) (fun j u hj => ?_) (map_news t) (by unfold maxLen; omega) (by omega) hbase (fun v' w' r1 r2 _ => h v' w' ⟨by rw [List.map_append, List.length_append]; exact r1, hlt⟩ r2)
    have hjt : j < t.length := by have := (List.getElem?_eq_some_iff.1 hj).1; simpa using this
    obtain ⟨b, off, he, hb, hc⟩ := hrd.2.2 (by omega)
    simp only [Option.some.injEq] at he
    subst he
    have h1 := hc j hjt
    rw [List.getElem?_map, List.getElem?_eq_getElem hjt] at hj
    simp only [Option.map_some, Option.some.injEq] at hj
    rw [← hj]
    have e : (⟨b, off, none⟩ : Addr).add j = ⟨b, off + j, none⟩ := by by_cases h : j = 0 <;> simp [Addr.add, h]
    rw [e, h1, List.getD_eq_getElem?_getD, List.getElem?_eq_getElem hjt]
    rfl
end Go.Proofs.Ytgkdecjlanbmhaa
