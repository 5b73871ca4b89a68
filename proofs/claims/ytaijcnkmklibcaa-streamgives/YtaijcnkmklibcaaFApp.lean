
/- An append of bytes onto bytes of the call's own. -/
import Derived.Test.YtaijcnkmklibcaaFBase
import Derived.Laws.AppendOwnNone
namespace Go.Proofs.Ytaijcnkmklibcaa
open Go.RowKit Go.Deep
set_option linter.unusedVariables false
set_option linter.unusedSimpArgs false

theorem wpList_append_any (w : World) {ops : Array Oper} {rest : List Oper} {o : Oper} {a : Act} {Q : Exit → Act → World → Prop} (hgd : o.guard = none) (s x : Operand)
    (ho : o.op = .call { callee := .builtin .append, args := #[s, x], argTypes := #[33, 33] })
    (base : Nat) (v : Value) (n : Nat) (l : List Nat) (hs : a.eval s = v) (hown : w.ownsRow base 5 1 v n (l.map byteV))
    (src : Option Addr) (m c : Nat) (t : List Nat) (hx : a.eval x = .slice src m c) (hnil : src = none → c = 0) (hr : Rd w src m t) (hz : n + m ≤ 140737488355328) (hbase : base ≤ w.heap.size)
    (h : ∀ v' w', w'.ownsRow base 5 1 v' (n + m) ((l ++ t).map byteV) → w.grownBy w' v.ownBlock → wpList Try.prog ops Q rest (a.put o.dst v') w') :
    wpList Try.prog ops Q (o :: rest) a w := by
  obtain ⟨i0, hi, hz0, hz1, hz2⟩ := info_parts Try.info5
  cases src with
  | some ad =>
    refine wpList_append_own w hgd s x 33 ho base 5 i0 (.int .u8 0) 1 1 Try.underlying33 hi hz0 hz1 hz2 rfl (by omega) v n _ hs hown ad m c (t.map byteV) hx (by simp [hr.1]) (fun j u hj => ?_) (oneCell_bytes t) (by unfold maxLen; omega) (by omega) hbase (fun v' w' r1 r2 _ => h v' w' (by rw [List.map_append]; exact r1) r2)
    have hjt : j < t.length := by have := (List.getElem?_eq_some_iff.1 hj).1; simpa using this
    obtain ⟨ad', he, hc⟩ := copy_of hr (by simp; omega)
    simp only [Option.some.injEq] at he
    subst he
    exact hc j u hj
  | none =>
    have hc := hnil rfl
    subst hc
    have hm : m = 0 := by
      rcases Nat.eq_zero_or_pos m with h0 | h0
      · exact h0
      · obtain ⟨b, off, he, _⟩ := hr.2.2 h0
        cases he
    subst hm
    have ht : t = [] := List.length_eq_zero_iff.1 hr.1
    subst ht
    refine wpList_append_own_none hgd s x 33 ho base 5 i0 1 Try.underlying33 hi v n _ hs hown hx ?_
    exact h v w (by simpa using hown) ⟨rfl, rfl, rfl, Nat.le_refl _, fun _ _ _ => rfl⟩
end Go.Proofs.Ytaijcnkmklibcaa
