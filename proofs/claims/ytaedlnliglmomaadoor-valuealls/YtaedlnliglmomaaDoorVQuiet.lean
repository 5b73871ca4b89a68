/- A region that draws its order and only reads, within a round: the order of the text serves for all (the library's law asks that there be no round; what it needs of that is only that no operation defers a call). -/
import Derived.Sort.QuietThIn
import Derived.Sort.BigQuietIn
import Derived.AtR
import Derived.Test.YtaedlnliglmomaaDoorVMem
namespace Go.Proofs.YtaedlnliglmomaaDoor.B
open Go.RowKit
set_option linter.unusedVariables false

/-- no operation defers a call -/
def noDefer (l : List Oper) : Bool := l.all fun o => match o.op with
  | .defer _ => false
  | _ => true
theorem noDefer_mem {l : List Oper} (h : noDefer l = true) {o : Oper} (ho : o ∈ l) (c : Call) : o.op ≠ .defer c := fun e => by
  have := List.all_eq_true.1 h o ho
  rw [e] at this
  cases this
theorem op_quiet {F : Fence} {n : Nat} {P : Program} {C : World → Prop} {o : Oper} {a : Act} {K : Act → Prop} {K' : Act → World → Prop} {Q' : Exit → Act → World → Prop} {w : World} (hnd : ∀ c, o.op ≠ .defer c) (hw : C w) (h : ∀ a w', C w' → K a → K' a w')
    (ha : o.askedIn F P a C) (hh : o.quietIn F n P a C K) : o.wpIn F n P a w K' Q' := by
  obtain ⟨v, h1, h2⟩ := hh
  refine ⟨ha w hw, ?_⟩
  rw [Oper.semAt_eq _ _ _ hnd]
  have h3 : Oper.quietUponIn F n P C w v ((execOp a.eval o).run P w) := h1 w hw
  revert h3
  cases (execOp a.eval o).run P w with
  | halt x w' => exact fun h3 => h3.elim
  | ok x w' =>
    cases x with
    | value u =>
      rintro ⟨rfl, rfl⟩
      exact h _ _ hw h2
    | skip =>
      rintro ⟨rfl, rfl⟩
      exact h _ _ hw h2
    | enter f args =>
      rintro ⟨rfl, hd, hc⟩
      exact ⟨hd, hc.mono fun e w'' he => by obtain ⟨rfl, hw''⟩ := he; exact h _ _ hw'' h2⟩
    | _ => exact fun h3 => h3.elim
theorem any_quiet {F : Fence} {n : Nat} {P : Program} {l : List Oper} {md : Region.Mode} {C : World → Prop} {Q : Act → Prop} {Q' : Exit → Act → World → Prop} (hnd : noDefer l = true) (hQ : ∀ a w, C w → Q a → Q' .normal a w) (fuel : Nat) : ∀ (listed : Array Bool) (a : Act) (w : World), C w →
    wpAnyQIn F n P md l.toArray C Q fuel listed a → wpAnyIn F n P md l.toArray Q' fuel listed a w := by
  induction fuel with
  | zero => exact fun _ _ _ hw h => ⟨h.1, hQ _ _ hw h.2⟩
  | succ fuel ih =>
    intro listed a w hw h
    refine ⟨fun h0 => hQ _ _ hw (h.1 h0), fun i hi => ?_⟩
    have hq := h.2 i hi
    unfold qOpIn at hq
    unfold wpOpIn
    cases ho : l.toArray[i]? with
    | none =>
      rw [ho] at hq
      exact ih _ _ _ hw hq
    | some o =>
      rw [ho] at hq
      obtain ⟨ha, hq⟩ := hq
      have hm : o ∈ l := by
        rw [List.getElem?_toArray] at ho
        exact List.mem_of_getElem? ho
      by_cases hwt : Region.wanted o (yielded l.toArray a.tmps) = true
      · simp only [hwt, if_true] at hq ⊢
        exact op_quiet (noDefer_mem hnd hm) hw (fun a' w' hw' => ih _ a' w' hw') ha hq
      · simp only [hwt] at hq ⊢
        exact ⟨ha w hw, ih _ _ _ hw hq⟩
theorem region_quiet {F : Fence} {n : Nat} {P : Program} {id : Nat} {Q : Exit → Act → World → Prop} {a : Act} {w : World} {l : List Oper} (hnd : noDefer l = true) (hm : P.follows .mixedOrders = true) (hB : Region.lexB .any l.toArray = true)
    (h : wpQuietIn F n P l.toArray (fun w' => ∃ n, w' = w.drewN n) (fun a' => ∀ w', (∃ n, w' = w.drewN n) → Q .normal a' w') l a) : (Code.region id l.toArray true).wpIn F n P Q a w := by
  simp only [Region.lexB, Bool.and_eq_true] at hB
  refine wpIn_region_any hm (any_quiet (C := fun w' => ∃ n, w' = w.drewN n) (Q := fun a' => ∀ w', (∃ n, w' = w.drewN n) → Q .normal a' w') hnd (fun _ w' hw' h => h w' hw') _ _ _ _ ⟨1, rfl⟩ ?_)
  have := wpAnyQIn_lex (F := F) (n := n) (P := P) (C := fun w' => ∃ n, w' = w.drewN n) (md := .any) (ops := l.toArray) hB.1 l 0 (Array.replicate l.toArray.size false) a (by simp) (by simpa using hB.2) h
  simpa using this
/-- a world that has grown out of W -/
structure Grw (W : World) where
  w : World
  h : Below W.heap.size W w
/-- the same over any class of worlds that all operations, calls among them, keep: the worlds are named by a type -/
theorem region_class {F : Fence} {n : Nat} {P : Program} {id : Nat} {Q : Exit → Act → World → Prop} {a : Act} {w : World} {l : List Oper} {β : Type} (g : β → World) (m0 : β) (h0 : g m0 = w.drewN 1) (hnd : noDefer l = true) (hm : P.follows .mixedOrders = true) (hB : Region.lexB .any l.toArray = true)
    (h : wpQuietIn F n P l.toArray (fun w' => ∃ m, w' = g m) (fun a' => ∀ w', (∃ m, w' = g m) → Q .normal a' w') l a) : (Code.region id l.toArray true).wpIn F n P Q a w := by
  simp only [Region.lexB, Bool.and_eq_true] at hB
  refine wpIn_region_any hm (any_quiet (C := fun w' => ∃ m, w' = g m) (Q := fun a' => ∀ w', (∃ m, w' = g m) → Q .normal a' w') hnd (fun _ w' hw' h => h w' hw') _ _ _ _ ⟨m0, h0.symm⟩ ?_)
  have := wpAnyQIn_lex (F := F) (n := n) (P := P) (C := fun w' => ∃ m, w' = g m) (md := .any) (ops := l.toArray) hB.1 l 0 (Array.replicate l.toArray.size false) a (by simp) (by simpa using hB.2) h
  simpa using this
theorem drewN_heap (w : World) (n : Nat) : (w.drewN n).heap = w.heap := by
  first | rfl | (induction n with
    | zero => rfl
    | succ n ih => exact ih)
theorem below_drewN (w : World) (n : Nat) : Below w.heap.size w (w.drewN n) := by
  first | exact ⟨rfl, rfl, rfl, Nat.le_refl _, fun _ _ => rfl⟩ | (constructor <;> simp [World.drewN])
end Go.Proofs.YtaedlnliglmomaaDoor.B
