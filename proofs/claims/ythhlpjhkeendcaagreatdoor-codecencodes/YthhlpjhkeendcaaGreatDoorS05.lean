/- VLaw -/
import Derived.Test.YthhlpjhkeendcaaGreatDoorS01
import Derived.RangeFuncNested
import Derived.RangeFuncLeaves
import Derived.WalkKit
namespace Go.Proofs.YthhlpjhkeendcaaGreatDoor
open Go.RowKit
set_option linter.unusedVariables false
theorem room_w (k : Nat) : Fence.wide.room k := fun d h => by cases h
theorem round_w {m m' : Nat} {P : Program} {l : Nat} {f : FuncId} {tmps : Array Value} {assign body : Code} {w : World} {R : Ending → World → Prop}
    (h : RoundIn Fence.wide m P l f tmps assign body w R) : RoundIn Fence.wide m' P l f tmps assign body w R := ⟨h.1, fun c cs _ => h.2 c cs (room_w _)⟩
theorem yield_w {m : Nat} (m' : Nat) {P : Program} {l : Nat} {args : Array Value} {W : World} {R : Ending → World → Prop} (h : YieldAt Fence.wide m P l args W R) : YieldAt Fence.wide m' P l args W R := by
  obtain ⟨fn, tmps, assign, body, hy, hR⟩ := h
  exact ⟨fn, tmps, assign, body, hy, round_w hR⟩
def KpX (X : Nat → Prop) (W W' : World) : Prop := W.heap.size ≤ W'.heap.size ∧ ∀ b o, ¬ X b → W.heap[b]? = some o → W'.heap[b]? = some o
theorem KpX.refl (X : Nat → Prop) (W : World) : KpX X W W := ⟨Nat.le_refl _, fun _ _ _ h => h⟩
theorem KpX.trans {X : Nat → Prop} {A B C : World} (h : KpX X A B) (k : KpX X B C) : KpX X A C := ⟨Nat.le_trans h.1 k.1, fun b o hx hb => k.2 b o hx (h.2 b o hx hb)⟩
theorem KpX.alloc {X : Nat → Prop} {A B : World} (h : KpX X A B) (o : Obj) : KpX X A (B.alloc o) := by
  refine ⟨by have := h.1; simp; omega, fun b o hx hb => ?_⟩
  have := h.2 b o hx hb
  rw [Below.heap_alloc _ _ _ (Array.getElem?_eq_some_iff.1 this).1]; exact this
theorem KpX.setCell {X : Nat → Prop} {A W : World} (h : KpX X A W) {b : Nat} (hx : X b) (o : Nat) (u : Value) : KpX X A (W.setCell ⟨b, o, none⟩ u) := by
  refine ⟨by have := h.1; simp [World.setCell]; omega, fun b' o' hx' hb => ?_⟩
  have hne : b' ≠ b := fun e => hx' (by rw [e]; exact hx)
  rw [Below.heap_setCell _ _ _ _ hne]
  exact h.2 b' o' hx' hb
theorem KpX.of_below {X : Nat → Prop} {A B : World} (h : Below A.heap.size A B) : KpX X A B :=
  ⟨h.size, fun b o _ hb => (h.block b (Array.getElem?_eq_some_iff.1 hb).1).trans hb⟩
theorem cells_of_cell {W : World} {b o : Nat} {v : Value} (h : W.cell? ⟨b, o, none⟩ = some v) : ∃ cs t f, W.heap[b]? = some (.cells cs t f) := by
  unfold World.cell? at h
  cases hb : W.heap[b]? with
  | none => simp [hb] at h
  | some ob =>
    cases ob with
    | cells cs t f => exact ⟨cs, t, f, rfl⟩
    | _ => simp [hb] at h
theorem KpX.same {X : Nat → Prop} {A B : World} (h : KpX X A B) {b o : Nat} {v : Value} (hx : ¬ X b) (hc : A.cell? ⟨b, o, none⟩ = some v) : Same A B b := by
  obtain ⟨cs, t, f, hb⟩ := cells_of_cell hc
  have := h.2 b _ hx hb
  intro o'
  exact World.cell?_of_block (this.trans hb.symm)
theorem KpX.cell {X : Nat → Prop} {A B : World} (h : KpX X A B) {b o : Nat} {v : Value} (hx : ¬ X b) (hc : A.cell? ⟨b, o, none⟩ = some v) : B.cell? ⟨b, o, none⟩ = some v := (h.same hx hc o).trans hc
theorem LiesIn.kp {X Q : Nat → Prop} {A B : World} {v : V} (h : LiesIn Q A v) (hk : KpX X A B) (hq : ∀ b, Q b → ¬ X b) : LiesIn Q B v := by
  refine V.ind (Q := fun v => LiesIn Q A v → LiesIn Q B v) ?_ v h
  intro k n s a c e l ih h
  obtain ⟨ok, row, sub⟩ := (LiesIn.iff _ _ _ _ _ _ _ _ _).1 h
  refine .mk ok (fun h0 => ?_) (fun x hx => ih x hx (sub x hx))
  obtain ⟨b, o, ha, hlt, hr⟩ := row h0
  exact ⟨b, o, ha, hlt, hr.same (hk.same (hq b hlt) (hr 0 h0).1)⟩
def postK {α : Type} (X Y : Nat → Prop) (I : List α → World → Prop) (Ix : Code → List α → World → Prop) (xs : List α) (W : World) : Exit → Act → World → Prop
  | .normal, _, W' => KpX X W W' ∧ I xs W'
  | .ret, _, W' => KpX Y W W' ∧ Ix .ret xs W'
  | .exit id, _, W' => KpX Y W W' ∧ Ix (.exit id) xs W'
  | .goto t, _, W' => KpX Y W W' ∧ Ix (.goto t) xs W'
  | .panic _, _, _ => False
  | .outgrown, _, _ => False
def SeqW {α : Type} (P : Program) (gf : Nat) (lb : Array Value) (encs : α → Array Value) (R : α → World → Prop) (X Y : Nat → Prop) (S Sp : List α → Prop) (N : Nat) (w : World) : Prop :=
  ∀ (l n : Nat) (J Jx : List α → World → Prop) (W : World), l < W.heap.size → Below w.heap.size w W → OwnFrom W.heap.size J → OwnFrom W.heap.size Jx →
    (∀ (m : Nat) (pre : List α) (x : α) (W1 : World), R x W1 → J pre W1 → pre.length < N → YieldAt Fence.wide m P l (encs x) W1 fun e W' => (e = .returned (.bool true) ∧ J (pre ++ [x]) W' ∧ KpX X W1 W') ∨ (e = .returned (.bool false) ∧ Jx (pre ++ [x]) W' ∧ KpX (fun b => Y b ∨ b = l) W1 W')) →
    J [] W → CallsIn Fence.wide n P gf (#[.func (.yield l) #[] #[]] ++ lb) W fun e W' => (∃ v, e = .returned v) ∧ ((∃ xs, S xs ∧ J xs W') ∨ (∃ pre, Sp pre ∧ Jx pre W'))
theorem range_own {α : Type} {P : Program} {n : Nat} {g : Operand} {ps : Array Tmp} {assign body : Code} {Q : Exit → Act → World → Prop} {a : Act} {w : World}
    {gf : Nat} {lb : Array Value} (hg : a.eval g = .func (.func gf) #[] lb) (eg : ∀ args w, (callFunc gf args).run P w = .ok (.enter gf args) w)
    {encs : α → Array Value} {R : α → World → Prop} {X Y : Nat → Prop} {S Sp : List α → Prop} {N : Nat} (hseq : SeqW P gf lb encs R X Y S Sp N w)
    (hX : ∀ b, X b → b < w.heap.size) (hXY : ∀ b, X b → Y b) (hY : ∀ b, Y b → b < w.heap.size) (hps : ∀ x, (encs x).size = ps.size)
    (I : List α → World → Prop) (Ix : Code → List α → World → Prop) (hI : OwnFrom w.heap.size I) (hIx : ∀ c, OwnFrom w.heap.size (Ix c)) (h0 : I [] w) (Ax : α → Act → World → Prop) (hAx : ∀ x a', OwnFrom w.heap.size (fun (_ : Unit) W => Ax x a' W))
    (hassign : ∀ (l : Nat) (pre : List α) (x : α) (W : World) (K : Act → World → Prop), R x W → I pre W → (∀ a' W', KpX X W W' → I pre W' → Ax x a' W' → K a' W') →
      assign.wpIn (Fence.wide.inRound l) n P (Exit.then K (fun _ _ _ => False)) { tmps := (ps.zip (encs x)).foldl (fun t (p, v) => t.setIfInBounds p v) a.tmps, defers := [] } W)
    (hbody : ∀ (l : Nat) (pre : List α) (x : α) (a' : Act) (W : World), w.heap.size ≤ l → (∃ r, W.heap[l]? = some (.loop r)) → I pre W → Ax x a' W → pre.length < N → body.wpIn (Fence.wide.inRound l) n P (postK X Y I Ix (pre ++ [x]) W) a' W)
    (hdone : ∀ (D : Nat) (xs : List α) (W : World), w.heap.size ≤ D → S xs → I xs W → W.heap[D]? = some (.deferred (some [])) → Q .normal { a with defers := { target := .collected D, args := #[] } :: a.defers } W)
    (hstop : ∀ (D : Nat) (c : Code) (pre : List α) (W : World), w.heap.size ≤ D → Sp pre → Ix c pre W → W.heap[D]? = some (.deferred (some [])) → c.wpIn Fence.wide n P Q { a with defers := { target := .collected D, args := #[] } :: a.defers } W) :
    (Code.rangeFunc g ps assign body).wpIn Fence.wide n P Q a w := by
  refine wpIn_rangeFunc ?_
  intro fn hfn
  -- the two blocks: the deferred calls' (at w.heap.size), and the loop's own record (behind it)
  obtain ⟨rc, hrc⟩ : ∃ rc : LoopState → Option Code → Loop, rc = fun st pe => { state := st, pending := pe, fn := fn, tmps := a.tmps, params := ps, assign := assign, body := body, defers := w.heap.size } := ⟨_, rfl⟩
  obtain ⟨W1, hW1⟩ : ∃ W1, (w.alloc (.deferred (some []))).alloc (.loop (rc .ready none)) = W1 := ⟨_, rfl⟩
  have hD1 : W1.heap[w.heap.size]? = some (.deferred (some [])) := by rw [← hW1]; exact heap_past (World.alloc_heap_new w _) _
  have hL1 : W1.heap[w.heap.size + 1]? = some (.loop (rc .ready none)) := by rw [← hW1]; exact heap_at1 _ _ _
  have hs1 : W1.heap.size = w.heap.size + 2 := by rw [← hW1]; simp
  have hb1 : Below w.heap.size w W1 := by rw [← hW1]; exact bel2 (Below.refl _ _) (Nat.le_refl _) _ _
  have hI1 : I [] W1 := by rw [← hW1]; exact hI.alloc _ (hI.alloc _ h0)
  have keep : ∀ {A B : World} {row : Option Nat} {k : Nat} {o : Obj}, A.grownBy B row → (∀ r, row = some r → W1.heap.size ≤ r ∧ ∃ o : Obj, A.heap[r]? = some o ∧ o.isCells = false) → k < W1.heap.size → A.heap[k]? = some o → B.heap[k]? = some o := fun {A B row k o} hg hr hk ho =>
    (hg.block k (Array.getElem?_eq_some_iff.1 ho).1 (fun e => by have := (hr k e.symm).1; omega)).trans ho
  have wide : ∀ {A : World} {row : Option Nat}, (∀ r, row = some r → W1.heap.size ≤ r ∧ ∃ o : Obj, A.heap[r]? = some o ∧ o.isCells = false) → ∀ r, row = some r → w.heap.size ≤ r ∧ ∃ o : Obj, A.heap[r]? = some o ∧ o.isCells = false := fun hr r e => ⟨by have := (hr r e).1; omega, (hr r e).2⟩
  refine ⟨w.heap.size + 1, [{ target := .collected w.heap.size, args := #[] }], W1, { target := .fn (.func gf) lb, args := #[.func (.yield (w.heap.size + 1)) #[] #[]] }, W1, gf,
    #[.func (.yield (w.heap.size + 1)) #[] #[]] ++ lb, W1, ?_, ?_, fun _ _ => trivial, ?_, (fun h => by cases h), ?_⟩
  · rw [← hW1, hrc]; exact run_enterLoop_outer _ _ _ _ _
  · simp only [resolve, hg]
    simp [go_sem]
  · simp [invoke, go_sem, eg]
  refine (hseq (w.heap.size + 1) (n - 1)
    (fun pre W => I pre W ∧ W.heap[w.heap.size + 1]? = some (.loop (rc .ready none)) ∧ W.heap[w.heap.size]? = some (.deferred (some [])))
    (fun pre W => ∃ c, Ix c pre W ∧ W.heap[w.heap.size + 1]? = some (.loop (rc .done (some c))) ∧ W.heap[w.heap.size]? = some (.deferred (some [])))
    W1 (by omega) hb1 (fun s A B row hs hg' hr => ⟨hI s A B row hs.1 hg' (wide hr), keep hg' hr (by omega) hs.2.1, keep hg' hr (by omega) hs.2.2⟩)
    (fun s A B row hs hg' hr => by
      obtain ⟨c, h1, h2, h3⟩ := hs
      exact ⟨c, hIx c s A B row h1 hg' (wide hr), keep hg' hr (by omega) h2, keep hg' hr (by omega) h3⟩)
    ?_ ⟨hI1, hL1, hD1⟩).mono ?_
  · -- one round
    rintro m pre x W hR ⟨hi, hl, hd⟩ hlen
    have hy := run_yield (P := P) (args := encs x) hl (by rw [hrc]; exact hps x)
    rw [hrc] at hy
    refine yield_w m (m := n) ⟨fn, _, assign, body, hy, roundIn_of_wpIn hfn (hassign _ pre x W _ hR hi ?_)⟩
    clear hy
    intro a' Wa k1 hia hax
    have nX : ∀ k, w.heap.size ≤ k → ¬ X k := fun k hk h => by have := hX k h; omega
    have nY : ∀ k, w.heap.size ≤ k → ¬ Y k := fun k hk h => by have := hY k h; omega
    have hla := k1.2 _ _ (nX _ (by omega)) hl
    have hda := k1.2 _ _ (nX _ (Nat.le_refl _)) hd
    have hlt : w.heap.size + 1 < Wa.heap.size := (Array.getElem?_eq_some_iff.1 hla).1
    refine ⟨_, run_beginRound hla (by rw [hrc]), ?_⟩
    have hlb : (Wa.putObj (w.heap.size + 1) (.loop { rc .ready none with state := .busy })).heap[w.heap.size + 1]? = some (.loop { rc .ready none with state := .busy }) := World.putObj_heap_same hlt
    have hdb : (Wa.putObj (w.heap.size + 1) (.loop { rc .ready none with state := .busy })).heap[w.heap.size]? = some (.deferred (some [])) := (World.putObj_heap_other (by omega)).trans hda
    refine wpIn_mono (hbody _ pre x a' _ (by omega) ⟨_, hlb⟩ (hI.putObj _ hia (by omega) hla rfl) ((hAx x a').putObj (s := ()) _ hax (by omega) hla rfl) hlen) ?_
    -- what a round's end does, whatever the jump
    have fin : ∀ (jump : Option Code) (W3 : World), KpX Y (Wa.putObj (w.heap.size + 1) (.loop { rc .ready none with state := .busy })) W3 →
        ∃ W4, (Instr.endRound (w.heap.size + 1) jump).run P W3 = .ok (.bool jump.isNone) W4 ∧ W4 = W3.putObj (w.heap.size + 1) (.loop (rc (if jump.isNone then .ready else .done) jump)) ∧ W3.heap[w.heap.size + 1]? = some (.loop { rc .ready none with state := .busy }) ∧
          W4.heap[w.heap.size + 1]? = some (.loop (rc (if jump.isNone then .ready else .done) jump)) ∧ W4.heap[w.heap.size]? = some (.deferred (some [])) := fun jump W3 k3 => by
      have hl3 := k3.2 _ _ (nY _ (by omega)) hlb
      have hr3 := run_endRound (P := P) jump hl3
      rw [hrc] at hr3 hl3 ⊢
      exact ⟨_, hr3, rfl, hl3, World.putObj_heap_same (Array.getElem?_eq_some_iff.1 hl3).1, (World.putObj_heap_other (by omega)).trans (k3.2 _ _ (nY _ (Nat.le_refl _)) hdb)⟩
    have leave : ∀ (c : Code) (W3 : World), KpX Y (Wa.putObj (w.heap.size + 1) (.loop { rc .ready none with state := .busy })) W3 → Ix c (pre ++ [x]) W3 →
        ∃ v W4, (Instr.endRound (w.heap.size + 1) (some c)).run P W3 = .ok v W4 ∧ ((Ending.returned v = .returned (.bool true) ∧ (I (pre ++ [x]) W4 ∧ W4.heap[w.heap.size + 1]? = some (.loop (rc .ready none)) ∧ W4.heap[w.heap.size]? = some (.deferred (some []))) ∧ KpX X W W4) ∨
          (Ending.returned v = .returned (.bool false) ∧ (∃ c', Ix c' (pre ++ [x]) W4 ∧ W4.heap[w.heap.size + 1]? = some (.loop (rc .done (some c'))) ∧ W4.heap[w.heap.size]? = some (.deferred (some []))) ∧ KpX (fun b => Y b ∨ b = w.heap.size + 1) W W4)) := fun c W3 k3 hx => by
      obtain ⟨W4, e1, e2, e3, e4, e5⟩ := fin (some c) W3 k3
      refine ⟨_, W4, e1, .inr ⟨rfl, ⟨c, by rw [e2]; exact (hIx c).putObj _ hx (by omega) e3 rfl, e4, e5⟩, by have h1 := k1.1; have h3 := k3.1; rw [e2]; simp at h3 ⊢; omega, fun b o hb' hb => ?_⟩⟩
      have eb : b ≠ w.heap.size + 1 := fun e => hb' (.inr e)
      rw [e2, World.putObj_heap_other eb]
      exact k3.2 b o (fun h => hb' (.inl h)) ((World.putObj_heap_other eb).trans (k1.2 b o (fun h => hb' (.inl (hXY b h))) hb))
    rintro e a3 W3 hp
    cases e with
    | normal =>
      obtain ⟨k3, hi3⟩ := hp
      obtain ⟨W4, e1, e2, e3, e4, e5⟩ := fin none W3 ⟨k3.1, fun b o hb h => k3.2 b o (fun hx => hb (hXY b hx)) h⟩
      refine ⟨_, W4, e1, .inl ⟨rfl, ⟨by rw [e2]; exact hI.putObj _ hi3 (by omega) e3 rfl, e4, e5⟩, ?_⟩⟩
      -- the record is ready again, as it was
      refine ⟨by have h1 := k1.1; have h3 := k3.1; rw [e2]; simp at h3 ⊢; omega, fun b o hx hb => ?_⟩
      by_cases eb : b = w.heap.size + 1
      · subst eb
        rw [hl] at hb
        cases hb
        exact e4
      · rw [e2, World.putObj_heap_other eb]
        exact k3.2 b o hx ((World.putObj_heap_other eb).trans (k1.2 b o hx hb))
    | ret => exact leave .ret W3 hp.1 hp.2
    | exit id => exact leave (.exit id) W3 hp.1 hp.2
    | goto t => exact leave (.goto t) W3 hp.1 hp.2
    | panic ch => exact hp.elim
    | outgrown => exact hp.elim
  · -- behind the iterator
    rintro e W2 ⟨⟨v, rfl⟩, (⟨xs, hS, hi, hl, hd⟩ | ⟨pre, hSp, c, hi, hl, hd⟩)⟩
    · have he := run_endLoop (P := P) hl (by rw [hrc]; simp)
      rw [hrc] at he
      exact ⟨none, _, he, hdone _ xs _ (Nat.le_refl _) hS (hI.putObj _ hi (by omega) hl rfl) ((World.putObj_heap_other (by omega)).trans hd)⟩
    · have he := run_endLoop (P := P) hl (by rw [hrc]; simp)
      rw [hrc] at he
      exact ⟨some c, _, he, hstop _ c pre _ (Nat.le_refl _) hSp ((hIx c).putObj _ hi (by omega) hl rfl) ((World.putObj_heap_other (by omega)).trans hd)⟩
end Go.Proofs.YthhlpjhkeendcaaGreatDoor
