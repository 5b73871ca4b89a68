
/- RouteLeads: the order of what Bindings tells. -/
import Derived.Test.YtmanfakdbmlfeaaDoorRLedN
namespace Go.Proofs.YtmanfakdbmlfeaaDoor
open Go.RowKit Go.Maps
set_option linter.unusedVariables false
theorem toL_inj {a b : ByteArray} (h : a.toList = b.toList) : a = b := by
  have := str_eq a b
  rw [h] at this
  simpa using this.symm
theorem less_of {a b : ByteArray} (h : a ≠ b) (hc : 0 ≤ cmpB b.toList a.toList) : Op.bytesLess a.toList b.toList = true := by
  rw [cmpB_less, decide_eq_true_eq]
  have h0 : cmpB a.toList b.toList ≠ 0 := fun e => h (toL_inj ((cmpB_zero _ _).1 e))
  have h1 := neg_cmpB a.toList b.toList
  have h2 := sgn_cmpB a.toList b.toList
  unfold Sgn at h2
  omega
theorem ord_of {W : List Bd} (hS : SrtB W) (hn : W.Nodup) (i : Nat) (x y : Bd) (hx : W[i]? = some x) (hy : W[i + 1]? = some y) : (x.1 ≠ y.1 → Op.bytesLess x.1.toList y.1.toList = true) ∧ (x.1 = y.1 → Op.bytesLess x.2.toList y.2.toList = true) := by
  obtain ⟨hi, rfl⟩ := List.getElem?_eq_some_iff.1 hx
  obtain ⟨hj, rfl⟩ := List.getElem?_eq_some_iff.1 hy
  have h := hS i (i + 1) hi hj (by omega)
  have hne : W[i] ≠ W[i + 1] := fun e => by
    have := (List.getElem_inj hn).1 e
    omega
  generalize W[i] = x at h hne ⊢
  generalize W[i + 1] = y at h hne ⊢
  unfold bCf lex at h
  constructor
  · intro e
    rw [if_neg (fun k => e (toL_inj ((cmpB_zero _ _).1 k)).symm)] at h
    exact less_of e h
  · intro e
    rw [if_pos ((cmpB_zero _ _).2 (by rw [e]))] at h
    exact less_of (fun k => hne (Prod.ext e k)) h
end Go.Proofs.YtmanfakdbmlfeaaDoor
