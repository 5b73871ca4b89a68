import Derived.RangeFuncNested
import Derived.RangeFuncLeaves
import Derived.WalkKit
import Derived.Test.YtdcoafpenkofoaaGreatDoorJFirstM9
import Derived.LoopIn
import Derived.LoopNIn
import Derived.OwnWalkIn
import Derived.RangeFuncCalls
import Derived.RangeFuncRecord
import Derived.TacticsInMore
import Derived.Shelf.RegionOpen
import Derived.RangeFuncBound

/- Stage 6: a range over a function that writes as it goes: what it promises (SeqJ), and the range (range_j). -/
namespace Go.Proofs.YtdcoafpenkofoaaGreatDoor
open Go.RowKit
set_option linter.unusedVariables false

theorem room_w (k : Nat) : Fence.wide.room k := fun d h => by cases h
theorem round_w {m m' : Nat} {P : Program} {l : Nat} {f : FuncId} {tmps : Array Value} {assign body : Code} {w : World} {R : Ending → World → Prop}
    (h : RoundIn Fence.wide m P l f tmps assign body w R) : RoundIn Fence.wide m' P l f tmps assign body w R := ⟨h.1, fun c cs _ => h.2 c cs (room_w _)⟩
theorem yield_w {m : Nat} (m' : Nat) {P : Program} {l : Nat} {args : Array Value} {W : World} {R : Ending → World → Prop} (h : YieldAt Fence.wide m P l args W R) : YieldAt Fence.wide m' P l args W R := by
  obtain ⟨fn, tmps, assign, body, hy, hR⟩ := h
  exact ⟨fn, tmps, assign, body, hy, round_w hR⟩
theorem round_in {m : Nat} {P : Program} {l : Nat} {f : FuncId} {tmps : Array Value} {assign body : Code} {w : World} {R : Ending → World → Prop} (l' : Nat)
    (h : RoundIn Fence.wide m P l f tmps assign body w R) : RoundIn (Fence.wide.inRound l') m P l f tmps assign body w R := h
theorem heap_at1 (w : World) (o p : Obj) : ((w.alloc o).alloc p).heap[w.heap.size + 1]? = some p := by
  have := World.alloc_heap_new (w.alloc o) p
  rwa [World.size_alloc] at this


/-- what is no cells stays, but for the blocks of Y -/
def Nc (Y : Nat → Prop) (A B : World) : Prop := A.heap.size ≤ B.heap.size ∧ ∀ k o, ¬ Y k → o.isCells = false → A.heap[k]? = some o → B.heap[k]? = some o
def NcN : Nat → Prop := fun _ => False
theorem Nc.refl (Y : Nat → Prop) (A : World) : Nc Y A A := ⟨Nat.le_refl _, fun _ _ _ _ h => h⟩
theorem Nc.trans {Y : Nat → Prop} {A B C : World} (h : Nc Y A B) (k : Nc Y B C) : Nc Y A C := ⟨Nat.le_trans h.1 k.1, fun b o hy ho hb => k.2 b o hy ho (h.2 b o hy ho hb)⟩
theorem Nc.wider {Y Z : Nat → Prop} {A B : World} (h : Nc Y A B) (hy : ∀ b, Y b → Z b) : Nc Z A B := ⟨h.1, fun b o hz ho hb => h.2 b o (fun k => hz (hy b k)) ho hb⟩
theorem Nc.nn {Y : Nat → Prop} {A B : World} (h : Nc NcN A B) : Nc Y A B := h.wider (fun _ k => k.elim)
theorem Nc.alloc {Y : Nat → Prop} {A B : World} (h : Nc Y A B) (o : Obj) : Nc Y A (B.alloc o) :=
  ⟨by have := h.1; simp; omega, fun b o' hy ho hb => heap_past (h.2 b o' hy ho hb) o⟩
theorem Nc.of_below {Y : Nat → Prop} {A B : World} (h : Below A.heap.size A B) : Nc Y A B := ⟨h.size, fun b o _ _ hb => (h.block b (Array.getElem?_eq_some_iff.1 hb).1).trans hb⟩
theorem Nc.drew {Y : Nat → Prop} {A B : World} (h : Nc Y A B) : Nc Y A B.drew := h
/-- a write into a block of cells -/
theorem Nc.setCell {Y : Nat → Prop} {A B : World} (h : Nc Y A B) {b : Nat} {cs : Array Value} {t : TypeId} {f : Nat × Nat} (hb : B.heap[b]? = some (.cells cs t f)) (o : Nat) (u : Value) : Nc Y A (B.setCell ⟨b, o, none⟩ u) := by
  refine ⟨by have := h.1; simp [World.setCell]; omega, fun k o' hy ho hk => ?_⟩
  have h2 := h.2 k o' hy ho hk
  have hne : k ≠ b := fun e => by subst e; rw [hb] at h2; cases h2; cases ho
  rw [Below.heap_setCell _ _ _ _ hne]; exact h2
theorem Nc.kp {Y Q : Nat → Prop} {A B : World} (h : Kp Q A B) (hq : ∀ k, Q k → k < A.heap.size → ∃ cs t f, A.heap[k]? = some (.cells cs t f)) : Nc Y A B := by
  refine ⟨h.2.2.2.1, fun k o hy ho hk => ?_⟩
  have hlt := (Array.getElem?_eq_some_iff.1 hk).1
  refine (h.2.2.2.2 k hlt (fun hQ => ?_)).trans hk
  obtain ⟨cs, t, f, e⟩ := hq k hQ hlt
  rw [hk] at e; cases e; cases ho

/-- what was laid since a call began stays, but for rows of bytes and of items -/
def KpB (N : Nat) (A B : World) : Prop := A.heap.size ≤ B.heap.size ∧ ∀ k o, N ≤ k → (∀ cs f, o ≠ Obj.cells cs 29 f ∧ o ≠ Obj.cells cs 29 f) → A.heap[k]? = some o → B.heap[k]? = some o
theorem KpB.refl (N : Nat) (A : World) : KpB N A A := ⟨Nat.le_refl _, fun _ _ _ _ h => h⟩
theorem KpB.trans {N : Nat} {A B C : World} (h : KpB N A B) (k : KpB N B C) : KpB N A C := ⟨Nat.le_trans h.1 k.1, fun b o hy ho hb => k.2 b o hy ho (h.2 b o hy ho hb)⟩
theorem KpB.mono {N N' : Nat} {A B : World} (h : KpB N A B) (hn : N ≤ N') : KpB N' A B := ⟨h.1, fun b o hy ho hb => h.2 b o (Nat.le_trans hn hy) ho hb⟩
theorem KpB.alloc {N : Nat} {A B : World} (h : KpB N A B) (o : Obj) : KpB N A (B.alloc o) :=
  ⟨by have := h.1; simp; omega, fun b o' hy ho hb => heap_past (h.2 b o' hy ho hb) o⟩
theorem KpB.of_below {N : Nat} {A B : World} (h : Below A.heap.size A B) : KpB N A B := ⟨h.size, fun b o _ _ hb => (h.block b (Array.getElem?_eq_some_iff.1 hb).1).trans hb⟩
theorem KpB.set {N : Nat} {A B : World} (h : KpB N A B) {b : Nat} (hb : b < N) (o : Nat) (u : Value) : KpB N A (B.setCell ⟨b, o, none⟩ u) := by
  refine ⟨by have := h.1; simp [World.setCell]; omega, fun k o' hy ho hk => ?_⟩
  rw [Below.heap_setCell _ _ _ _ (show k ≠ b by omega)]; exact h.2 k o' hy ho hk
theorem KpB.put {N : Nat} {A B : World} (h : KpB N A B) {b : Nat} (hb : b < N) (o : Obj) : KpB N A (B.putObj b o) := by
  refine ⟨by have := h.1; simp; omega, fun k o' hy ho hk => ?_⟩
  rw [World.putObj_heap_other (show k ≠ b by omega)]; exact h.2 k o' hy ho hk
theorem no_u8 {o : Obj} (h : o.isCells = false) : ∀ cs f, o ≠ Obj.cells cs 29 f ∧ o ≠ Obj.cells cs 29 f := fun cs f => ⟨fun e => (by subst e; cases h), fun e => (by subst e; cases h)⟩

/-- what an iterator promises that goes from state to state: G what it must find of its own; Sil a step that tells nothing, Tol one that tells x; Bod what a round's body may make of a state; Ini where it begins, Fin where it ends -/
def SeqJ {α θ : Type} (P : Program) (gf : Nat) (lb : Array Value) (encs : α → Array Value) (G : θ → World → Prop) (Sil : θ → θ → World → World → Prop) (Tol : θ → α → θ → World → World → Prop) (Bod : θ → θ → Prop) (Ini Fin : θ → Prop) : Prop :=
  ∀ (l n : Nat) (t0 : θ) (J : θ → World → Prop) (Jx : World → Prop) (W : World), l < W.heap.size → OwnFrom W.heap.size J → OwnFrom W.heap.size (fun (_ : Unit) => Jx) →
    (∀ t A, J t A → G t A) → (∀ t t' A A', J t A → Sil t t' A A' → J t' A') →
    (∀ (m : Nat) (t : θ) (x : α) (t' : θ) (A A' : World), J t A → Tol t x t' A A' → YieldAt Fence.wide m P l (encs x) A' fun e W' => KpB W.heap.size A' W' ∧ ((e = .returned (.bool true) ∧ ∃ t'', Bod t' t'' ∧ J t'' W') ∨ (e = .returned (.bool false) ∧ Jx W'))) →
    Ini t0 → J t0 W → CallsIn Fence.wide n P gf (#[.func (.yield l) #[] #[]] ++ lb) W fun e W' => (∃ v, e = .returned v) ∧ ((∃ t, Fin t ∧ J t W') ∨ Jx W')

/-- what a round must leave behind -/
def postJ {θ : Type} (N : Nat) (I : θ → World → Prop) (Ix : Code → World → Prop) (Bod : θ → θ → Prop) (t : θ) (W : World) : Exit → Act → World → Prop
  | .normal, _, W' => KpB N W W' ∧ ∃ t', Bod t t' ∧ I t' W'
  | .ret, _, W' => KpB N W W' ∧ Ix .ret W'
  | .exit id, _, W' => KpB N W W' ∧ Ix (.exit id) W'
  | .goto t, _, W' => KpB N W W' ∧ Ix (.goto t) W'
  | .panic _, _, _ => False
  | .outgrown, _, _ => False

theorem range_j {α θ : Type} {P : Program} {n : Nat} {g : Operand} {ps : Array Tmp} {assign body : Code} {Q : Exit → Act → World → Prop} {a : Act} {w : World}
    {gf : Nat} {lb : Array Value} (hg : a.eval g = .func (.func gf) #[] lb) (eg : ∀ args w, (callFunc gf args).run P w = .ok (.enter gf args) w)
    {encs : α → Array Value} {G : θ → World → Prop} {Sil : θ → θ → World → World → Prop} {Tol : θ → α → θ → World → World → Prop} {Bod : θ → θ → Prop} {Ini Fin : θ → Prop} (hseq : SeqJ P gf lb encs G Sil Tol Bod Ini Fin)
    (hps : ∀ x, (encs x).size = ps.size)
    (I : θ → World → Prop) (Ix : Code → World → Prop) (hI : OwnFrom w.heap.size I) (hIx : ∀ c, OwnFrom w.heap.size (fun (_ : Unit) => Ix c)) (hIG : ∀ t A, I t A → G t A)
    (hSn : ∀ t t' A A', I t A → Sil t t' A A' → Nc NcN A A') (hTn : ∀ t x t' A A', I t A → Tol t x t' A A' → Nc NcN A A') (hIs : ∀ t t' A A', I t A → Sil t t' A A' → I t' A')
    (t0 : θ) (h0 : I t0 w) (hini : Ini t0) (Ax : θ → α → θ → World → Act → World → Prop)
    (hassign : ∀ (l : Nat) (t : θ) (x : α) (t' : θ) (A A' : World) (K : Act → World → Prop), I t A → Tol t x t' A A' → (∀ a' W', KpB w.heap.size A' W' → Ax t x t' A a' W' → K a' W') →
      assign.wpIn (Fence.wide.inRound l) n P (Exit.then K (fun _ _ _ => False)) { tmps := (ps.zip (encs x)).foldl (fun t (p, v) => t.setIfInBounds p v) a.tmps, defers := [] } A')
    (hbody : ∀ (l : Nat) (t : θ) (x : α) (t' : θ) (A : World) (a' : Act) (W : World) (r r' : Loop), w.heap.size ≤ l → A.heap[l]? = some (.loop r) → W.heap[l]? = some (.loop r) → I t A → Ax t x t' A a' W → body.wpIn (Fence.wide.inRound l) n P (postJ w.heap.size I Ix Bod t' (W.putObj l (.loop r'))) a' (W.putObj l (.loop r')))
    (hdone : ∀ (D : Nat) (t : θ) (W : World), w.heap.size ≤ D → Fin t → I t W → W.heap[D]? = some (.deferred (some [])) → Q .normal { a with defers := { target := .collected D, args := #[] } :: a.defers } W)
    (hstop : ∀ (D : Nat) (c : Code) (W : World), w.heap.size ≤ D → Ix c W → W.heap[D]? = some (.deferred (some [])) → c.wpIn Fence.wide n P Q { a with defers := { target := .collected D, args := #[] } :: a.defers } W) :
    (Code.rangeFunc g ps assign body).wpIn Fence.wide n P Q a w := by
  refine wpIn_rangeFunc ?_
  intro fn hfn
  obtain ⟨rc, hrc⟩ : ∃ rc : LoopState → Option Code → Loop, rc = fun st pe => { state := st, pending := pe, fn := fn, tmps := a.tmps, params := ps, assign := assign, body := body, defers := w.heap.size } := ⟨_, rfl⟩
  obtain ⟨W1, hW1⟩ : ∃ W1, (w.alloc (.deferred (some []))).alloc (.loop (rc .ready none)) = W1 := ⟨_, rfl⟩
  have hD1 : W1.heap[w.heap.size]? = some (.deferred (some [])) := by rw [← hW1]; exact heap_past (World.alloc_heap_new w _) _
  have hL1 : W1.heap[w.heap.size + 1]? = some (.loop (rc .ready none)) := by rw [← hW1]; exact heap_at1 _ _ _
  have hs1 : W1.heap.size = w.heap.size + 2 := by rw [← hW1]; simp
  have hI1 : I t0 W1 := by rw [← hW1]; exact hI.alloc _ (hI.alloc _ h0)
  have keep : ∀ {A B : World} {row : Option Nat} {k : Nat} {o : Obj}, A.grownBy B row → (∀ r, row = some r → W1.heap.size ≤ r ∧ ∃ o : Obj, A.heap[r]? = some o ∧ o.isCells = false) → k < W1.heap.size → A.heap[k]? = some o → B.heap[k]? = some o := fun {A B row k o} hg hr hk ho =>
    (hg.block k (Array.getElem?_eq_some_iff.1 ho).1 (fun e => by have := (hr k e.symm).1; omega)).trans ho
  have wide : ∀ {A : World} {row : Option Nat}, (∀ r, row = some r → W1.heap.size ≤ r ∧ ∃ o : Obj, A.heap[r]? = some o ∧ o.isCells = false) → ∀ r, row = some r → w.heap.size ≤ r ∧ ∃ o : Obj, A.heap[r]? = some o ∧ o.isCells = false := fun hr r e => ⟨by have := (hr r e).1; omega, (hr r e).2⟩
  refine ⟨w.heap.size + 1, [{ target := .collected w.heap.size, args := #[] }], W1, { target := .fn (.func gf) lb, args := #[.func (.yield (w.heap.size + 1)) #[] #[]] }, W1, gf,
    #[.func (.yield (w.heap.size + 1)) #[] #[]] ++ lb, W1, ?_, ?_, fun _ _ => trivial, ?_, (fun h => by cases h), ?_⟩
  · rw [← hW1, hrc]; exact run_enterLoop_outer _ _ _ _ _
  · simp only [resolve, hg]
    simp [go_sem]
  · simp [invoke, go_sem, eg]
  refine (hseq (w.heap.size + 1) (n - 1) t0
    (fun t W => I t W ∧ W.heap[w.heap.size + 1]? = some (.loop (rc .ready none)) ∧ W.heap[w.heap.size]? = some (.deferred (some [])))
    (fun W => ∃ c, Ix c W ∧ W.heap[w.heap.size + 1]? = some (.loop (rc .done (some c))) ∧ W.heap[w.heap.size]? = some (.deferred (some [])))
    W1 (by omega) (fun s A B row hs hg' hr => ⟨hI s A B row hs.1 hg' (wide hr), keep hg' hr (by omega) hs.2.1, keep hg' hr (by omega) hs.2.2⟩)
    (fun s A B row hs hg' hr => by
      obtain ⟨c, h1, h2, h3⟩ := hs
      exact ⟨c, hIx c s A B row h1 hg' (wide hr), keep hg' hr (by omega) h2, keep hg' hr (by omega) h3⟩)
    (fun t A h => hIG t A h.1)
    (fun t t' A A' h hs => ⟨hIs t t' A A' h.1 hs, (hSn t t' A A' h.1 hs).2 _ _ (fun k => k) rfl h.2.1, (hSn t t' A A' h.1 hs).2 _ _ (fun k => k) rfl h.2.2⟩)
    ?_ hini ⟨hI1, hL1, hD1⟩).mono ?_
  · -- one round
    rintro m t x t' Wp W ⟨hip, hlp, hdp⟩ hT
    have hn := hTn t x t' Wp W hip hT
    have hl := hn.2 _ _ (fun k => k) rfl hlp
    have hd := hn.2 _ _ (fun k => k) rfl hdp
    have hy := run_yield (P := P) (args := encs x) hl (by rw [hrc]; exact hps x)
    rw [hrc] at hy
    refine yield_w m (m := n) ⟨fn, _, assign, body, hy, roundIn_of_wpIn hfn (hassign _ t x t' Wp W _ hip hT ?_)⟩
    clear hy
    intro a' Wa k1 hax
    have hla := k1.2 _ _ (by omega) (no_u8 rfl) hl
    have hda := k1.2 _ _ (Nat.le_refl _) (no_u8 rfl) hd
    have hlt : w.heap.size + 1 < Wa.heap.size := (Array.getElem?_eq_some_iff.1 hla).1
    refine ⟨_, run_beginRound hla (by rw [hrc]), ?_⟩
    have hlb : (Wa.putObj (w.heap.size + 1) (.loop { rc .ready none with state := .busy })).heap[w.heap.size + 1]? = some (.loop { rc .ready none with state := .busy }) := World.putObj_heap_same hlt
    have hdb : (Wa.putObj (w.heap.size + 1) (.loop { rc .ready none with state := .busy })).heap[w.heap.size]? = some (.deferred (some [])) := (World.putObj_heap_other (by omega)).trans hda
    refine wpIn_mono (hbody _ t x t' Wp a' Wa _ _ (by omega) hlp hla hip hax) ?_
    have fin : ∀ (jump : Option Code) (W3 : World), KpB w.heap.size (Wa.putObj (w.heap.size + 1) (.loop { rc .ready none with state := .busy })) W3 →
        ∃ W4, (Instr.endRound (w.heap.size + 1) jump).run P W3 = .ok (.bool jump.isNone) W4 ∧ W4 = W3.putObj (w.heap.size + 1) (.loop (rc (if jump.isNone then .ready else .done) jump)) ∧ W3.heap[w.heap.size + 1]? = some (.loop { rc .ready none with state := .busy }) ∧
          W4.heap[w.heap.size + 1]? = some (.loop (rc (if jump.isNone then .ready else .done) jump)) ∧ W4.heap[w.heap.size]? = some (.deferred (some [])) := fun jump W3 k3 => by
      have hl3 := k3.2 _ _ (by omega) (no_u8 rfl) hlb
      have hr3 := run_endRound (P := P) jump hl3
      rw [hrc] at hr3 hl3 ⊢
      exact ⟨_, hr3, rfl, hl3, World.putObj_heap_same (Array.getElem?_eq_some_iff.1 hl3).1, (World.putObj_heap_other (by omega)).trans (k3.2 _ _ (Nat.le_refl _) (no_u8 rfl) hdb)⟩
    have keeps : ∀ (W3 W4 : World) (o : Obj), KpB w.heap.size (Wa.putObj (w.heap.size + 1) (.loop { rc .ready none with state := .busy })) W3 → W4 = W3.putObj (w.heap.size + 1) o → KpB W1.heap.size W W4 := fun W3 W4 o k3 e => by
      rw [e]
      exact (((k1.mono (by omega)).put (by omega) _).trans (k3.mono (by omega))).put (by omega) _
    have leave : ∀ (c : Code) (W3 : World), KpB w.heap.size (Wa.putObj (w.heap.size + 1) (.loop { rc .ready none with state := .busy })) W3 → Ix c W3 →
        ∃ v W4, (Instr.endRound (w.heap.size + 1) (some c)).run P W3 = .ok v W4 ∧ KpB W1.heap.size W W4 ∧ ((Ending.returned v = .returned (.bool true) ∧ ∃ t'', Bod t' t'' ∧ (I t'' W4 ∧ W4.heap[w.heap.size + 1]? = some (.loop (rc .ready none)) ∧ W4.heap[w.heap.size]? = some (.deferred (some [])))) ∨
          (Ending.returned v = .returned (.bool false) ∧ (∃ c', Ix c' W4 ∧ W4.heap[w.heap.size + 1]? = some (.loop (rc .done (some c'))) ∧ W4.heap[w.heap.size]? = some (.deferred (some []))))) := fun c W3 k3 hx => by
      obtain ⟨W4, e1, e2, e3, e4, e5⟩ := fin (some c) W3 k3
      exact ⟨_, W4, e1, keeps W3 W4 _ k3 e2, .inr ⟨rfl, c, by rw [e2]; exact (hIx c).putObj (s := ()) _ hx (by omega) e3 rfl, e4, e5⟩⟩
    rintro e a3 W3 hp
    cases e with
    | normal =>
      obtain ⟨k3, t'', hb', hi3⟩ := hp
      obtain ⟨W4, e1, e2, e3, e4, e5⟩ := fin none W3 k3
      exact ⟨_, W4, e1, keeps W3 W4 _ k3 e2, .inl ⟨rfl, t'', hb', by rw [e2]; exact hI.putObj _ hi3 (by omega) e3 rfl, e4, e5⟩⟩
    | ret => exact leave .ret W3 hp.1 hp.2
    | exit id => exact leave (.exit id) W3 hp.1 hp.2
    | goto t => exact leave (.goto t) W3 hp.1 hp.2
    | panic ch => exact hp.elim
    | outgrown => exact hp.elim
  · -- behind the iterator
    rintro e W2 ⟨⟨v, rfl⟩, (⟨t, hF, hi, hl, hd⟩ | ⟨c, hi, hl, hd⟩)⟩
    · have he := run_endLoop (P := P) hl (by rw [hrc]; simp)
      rw [hrc] at he
      exact ⟨none, _, he, hdone _ t _ (Nat.le_refl _) hF (hI.putObj _ hi (by omega) hl rfl) ((World.putObj_heap_other (by omega)).trans hd)⟩
    · have he := run_endLoop (P := P) hl (by rw [hrc]; simp)
      rw [hrc] at he
      exact ⟨some c, _, he, hstop _ c _ (Nat.le_refl _) ((hIx c).putObj (s := ()) _ hi (by omega) hl rfl) ((World.putObj_heap_other (by omega)).trans hd)⟩
end Go.Proofs.YtdcoafpenkofoaaGreatDoor


/- Stage 20: the iterator that batchesOf makes. -/
namespace Go.Proofs.YtdcoafpenkofoaaGreatDoor
open Go.RowKit Go.Shelf
set_option linter.unusedVariables false
set_option linter.unusedSimpArgs false
attribute [local go_sem] Oper.semAt_some
def encB (x : Value × Value) : Array Value := #[x.1, x.2]
/-- a pointer to a fault, as an error -/
def ftV (p : Nat) : Value := .iface 130 (.pointer (some ⟨p, 0, none⟩))
def fltA (g : Addr) (t c : Nat) : Array Value := #[.int .i64 (t : Int), errV g c]
def GB (g : Addr) (bL : Nat) (a : Option Addr) (cap : Nat) (l : List Nat) (t : Nat × Nat) (W : World) : Prop := t.1 ≤ l.length ∧ W.heap[bL]? = some (.cells #[.slice a l.length cap] 23 (0, 0)) ∧ Rd W a l.length l ∧ Eb W g
/-- what is told at a place -/
def TolB (g : Addr) (l : List Nat) (t : Nat × Nat) (x : Value × Value) (t' : Nat × Nat) (A A' : World) : Prop :=
  Below A.heap.size A A' ∧ t.2 = 0 ∧ t.1 < l.length ∧
  (((fst1 (l.drop t.1)).1 ≠ 0 ∧ t' = (t.1, (fst1 (l.drop t.1)).1) ∧ ∃ p, x = (.slice none 0 0, ftV p) ∧ A.heap.size ≤ p ∧ A'.heap[p]? = some (.cells (fltA g t.1 (fst1 (l.drop t.1)).1) 134 (0, 0))) ∨
   ((fst1 (l.drop t.1)).1 = 0 ∧ t' = (t.1 + (fst1 (l.drop t.1)).2.2, 0) ∧ ∃ v, x = (v, .nilIface) ∧ Bat A.heap.size A' v (fst1 (l.drop t.1)).2.1))
def FinB (l : List Nat) (t : Nat × Nat) : Prop := t.1 = l.length ∨ t.2 ≠ 0
theorem errV_form (g : Addr) {c : Nat} (h : c ≠ 0) : ∃ tx vx, errV g c = .iface tx vx := by
  match c, h with
  | 0, h => exact absurd rfl h
  | 1, _ => exact ⟨_, _, rfl⟩
  | c + 2, _ => exact ⟨_, _, rfl⟩
theorem own_belowJ {β : Type} {N : Nat} {I : β → World → Prop} (h : OwnFrom N I) {s : β} {A W : World} (hs : I s A) (hb : Below A.heap.size A W) : I s W :=
  h s A W none hs ⟨hb.os, hb.tape, hb.output, hb.size, fun k hk _ => hb.block k hk⟩ (fun r e => by cases e)
set_option maxRecDepth 100000 in
set_option maxHeartbeats 4000000 in
theorem batches_seq (g : Addr) (bL : Nat) (a : Option Addr) (cap : Nat) (l : List Nat) (hc : l.length ≤ cap) (hn : l.length ≤ 140737488355328) :
    SeqJ Tryz.prog 116 #[.pointer (some ⟨bL, 0, none⟩)] encB (GB g bL a cap l) (fun _ _ _ _ => False) (TolB g l) (fun t t' => t' = t) (fun t => t = (0, 0)) (FinB l) := by
  intro yl n t0 J Jx W hyl hJ hJx hG hS hY hini h0
  subst hini
  have hdd : ∀ k : Nat, (Fence.wide.depth.isSome = true → 1 ≤ k) := fun k h => by cases h
  have HJ := hide hJ
  have HG := hide hG
  have HY := hide hY
  have H0 := hide h0
  clear hJ hG hY h0 hJx hS
  refine callsIn_of_wp Tryz.func116 rfl trivial ?_ rfl
  simp only [Tryz.ntmps116, List.size_toArray, List.length_cons, List.length_nil, Nat.reduceAdd, Nat.reduceSub, Array.replicate_succ, Array.replicate_zero, List.push_toArray, List.append_toArray, List.nil_append, List.cons_append]
  gi_wp2
  gi_loopw [3] (fun v3 wr => ∃ t : Nat × Nat, v3 = .int .i64 (t.1 : Int) ∧ t.2 = 0 ∧ t.1 ≤ l.length ∧ Hid (J t wr)) (fun v3 _ => l.length - (intOf v3).toNat)
  case atStart => exact ⟨(0, 0), rfl, rfl, Nat.zero_le _, H0⟩
  case round =>
    obtain ⟨t, rfl, ht2, hle, HJr⟩ := hrel
    clear H0
    rename World => wr
    obtain ⟨_, hbl, hrd, hE⟩ := HG.out t wr HJr.out
    have hcl : wr.cell? ⟨bL, 0, none⟩ = some (.slice a l.length cap) := cellOf hbl 0 _ rfl
    by_cases hi : t.1 < l.length
    · obtain ⟨b, off, rfl, _⟩ := hrd.2.2 (by omega)
      have hq : ¬ cap = t.1 := by omega
      have HF := hide (first_any g b (off + t.1) (l.length - t.1) (cap - t.1) (l.drop t.1) wr hE (hrd.drop (by omega)) (by omega) (by omega))
      have HT2 := hide ht2
      clear hbl hrd hE ht2
      gi_wp2_with fail
      refine ⟨trivial, hdd _, ?_⟩
      refine (callsIn_wide.2 HF.out).mono ?_
      rintro e w1 ⟨hfs, hb1⟩
      have HB1 := hide hb1
      clear hb1 hcl HF
      rcases hfs with ⟨hne, z, rfl⟩ | ⟨he, v, rfl, hbt⟩
      · obtain ⟨tx, vx, hev⟩ := errV_form g hne
        have HNE := hide hne
        have HEV := hide hev
        rw [hev]
        clear hne hev
        have hT : TolB g l t (.slice none 0 0, ftV w1.heap.size) (t.1, (fst1 (l.drop t.1)).1) wr (w1.alloc (.cells #[.int .i64 (t.1 : Int), .iface tx vx] 134)) :=
          ⟨bel1 HB1.out HB1.out.size _, HT2.out, hi, .inl ⟨HNE.out, rfl, w1.heap.size, rfl, HB1.out.size, by rw [fltA, HEV.out]; exact heap_new _ _⟩⟩
        obtain ⟨fn, tm, asg, bdy, hy, hR⟩ := HY.out (n - 1) t (.slice none 0 0, ftV w1.heap.size) (t.1, (fst1 (l.drop t.1)).1) wr _ HJr.out hT
        simp only [encB, ftV] at hy
        have HR := hide hR
        clear hR hT
        gi_wp2_with fail
        refine ⟨hdd _, ?_⟩
        refine HR.out.mono ?_
        rintro e W3 ⟨hkp, (⟨rfl, t'', ht, hJ1⟩ | ⟨rfl, hx1⟩)⟩
        · subst ht
          have HJ1 := hide hJ1
          clear hJ1 hkp
          gi_wp2
          refine bodyPost_ret (results_none rfl _ _ _) rfl ?_
          exact ⟨⟨_, rfl⟩, .inl ⟨_, .inr HNE.out, HJ1.out⟩⟩
        · have HX1 := hide hx1
          clear hx1 hkp
          gi_wp2
          refine bodyPost_ret (results_none rfl _ _ _) rfl ?_
          exact ⟨⟨_, rfl⟩, .inr HX1.out⟩
      · have hsz := fst1_size _ he
        rw [List.length_drop] at hsz
        have hT : TolB g l t (v, .nilIface) (t.1 + (fst1 (l.drop t.1)).2.2, 0) wr w1 :=
          ⟨HB1.out, HT2.out, hi, .inr ⟨he, rfl, v, rfl, hbt⟩⟩
        obtain ⟨fn, tm, asg, bdy, hy, hR⟩ := HY.out (n - 1) t (v, .nilIface) (t.1 + (fst1 (l.drop t.1)).2.2, 0) wr _ HJr.out hT
        simp only [encB] at hy
        obtain ⟨sz, hszz⟩ : ∃ sz, (fst1 (l.drop t.1)).2.2 = sz := ⟨_, rfl⟩
        rw [hszz] at hsz hR ⊢
        obtain ⟨hs1, hs2, _⟩ := hsz
        have hwn : IntKind.i64.wrap ((t.1 : Int) + (sz : Int)) = (t.1 : Int) + (sz : Int) := by rw [IntKind.wrap_i64]; omega
        have HR := hide hR
        clear hR hT hbt he hszz
        gi_wp2_with fail
        refine ⟨hdd _, ?_⟩
        refine HR.out.mono ?_
        rintro e W3 ⟨hkp, (⟨rfl, t'', ht, hJ1⟩ | ⟨rfl, hx1⟩)⟩
        · subst ht
          have HJ1 := hide hJ1
          clear hJ1 hkp
          gi_wp2_with fail
          go_roundw
          case rel => exact ⟨_, by go_num, rfl, by omega, HJ1.out⟩
          case measure => simp [intOf]; omega
        · have HX1 := hide hx1
          clear hx1 hkp
          gi_wp2
          refine bodyPost_ret (results_none rfl _ _ _) rfl ?_
          exact ⟨⟨_, rfl⟩, .inr HX1.out⟩
    · have hil : t.1 = l.length := by omega
      gi_wp2_with fail
      go_end0
      exact ⟨⟨_, rfl⟩, .inl ⟨t, .inl hil, HJr.out⟩⟩
end Go.Proofs.YtdcoafpenkofoaaGreatDoor
