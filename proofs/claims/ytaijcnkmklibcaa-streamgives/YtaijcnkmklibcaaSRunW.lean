
/- Stage 6: run, of longshorelaw06. -/
import Derived.Test.YtaijcnkmklibcaaSOut
import Derived.Sort.CutIn
namespace Go.Proofs.Ytaijcnkmklibcaa
open Go.RowKit Go.Deep Go.Shelf
set_option linter.unusedVariables false
set_option linter.unusedSimpArgs false
attribute [local go_sem] Oper.semAt_some

/-- a range whose variable has a block of its own -/
theorem range_ja {α θ : Type} {P : Program} {n : Nat} {g : Operand} {ps : Array Tmp} {assign body : Code} {Q : Exit → Act → World → Prop} {a : Act} {w : World}
    {gf : Nat} {lb : Array Value} (hg : a.eval g = .func (.func gf) #[] lb) (eg : ∀ args w, (callFunc gf args).run P w = .ok (.enter gf args) w)
    {encs : α → Array Value} {G : θ → World → Prop} {Sil : θ → θ → World → World → Prop} {Tol : θ → α → θ → World → World → Prop} {Bod : θ → θ → Prop} {Ini Fin : θ → Prop} (hseq : SeqJ P gf lb encs G Sil Tol Bod Ini Fin)
    (hps : ∀ x, (encs x).size = ps.size) (sl : Nat)
    (I : θ → World → Prop) (Ix : Code → World → Prop) (hI : OwnFrom w.heap.size I) (hIx : ∀ c, OwnFrom w.heap.size (fun (_ : Unit) => Ix c)) (hIG : ∀ t A, I t A → G t A)
    (hSn : ∀ t t' A A', I t A → Sil t t' A A' → Nc NcN A A') (hTn : ∀ t x t' A A', I t A → Tol t x t' A A' → Nc NcN A A') (hIs : ∀ t t' A A', I t A → Sil t t' A A' → I t' A')
    (t0 : θ) (h0 : I t0 w) (hini : Ini t0) (Ax : θ → α → θ → World → Nat → World → Prop)
    (hassign : ∀ (l : Nat) (t : θ) (x : α) (t' : θ) (A A' : World) (K : Act → World → Prop), I t A → Tol t x t' A A' → (∀ Bx W', KpB w.heap.size A' W' → Ax t x t' A Bx W' → K { tmps := ((ps.zip (encs x)).foldl (fun t (p, v) => t.setIfInBounds p v) a.tmps).setIfInBounds sl (.pointer (some ⟨Bx, 0, none⟩)), defers := [] } W') →
      assign.wpIn (Fence.wide.inRound l) n P (Exit.then K (fun _ _ _ => False)) { tmps := (ps.zip (encs x)).foldl (fun t (p, v) => t.setIfInBounds p v) a.tmps, defers := [] } A')
    (hbody : ∀ (l : Nat) (t : θ) (x : α) (t' : θ) (A : World) (Bx : Nat) (W : World) (r r' : Loop), w.heap.size ≤ l → A.heap[l]? = some (.loop r) → W.heap[l]? = some (.loop r) → I t A → Ax t x t' A Bx W → body.wpIn (Fence.wide.inRound l) n P (postJ w.heap.size I Ix Bod t' (W.putObj l (.loop r'))) { tmps := ((ps.zip (encs x)).foldl (fun t (p, v) => t.setIfInBounds p v) a.tmps).setIfInBounds sl (.pointer (some ⟨Bx, 0, none⟩)), defers := [] } (W.putObj l (.loop r')))
    (hdone : ∀ (D : Nat) (t : θ) (W : World), w.heap.size ≤ D → Fin t → I t W → W.heap[D]? = some (.deferred (some [])) → Q .normal { a with defers := { target := .collected D, args := #[] } :: a.defers } W)
    (hstop : ∀ (D : Nat) (c : Code) (W : World), w.heap.size ≤ D → Ix c W → W.heap[D]? = some (.deferred (some [])) → c.wpIn Fence.wide n P Q { a with defers := { target := .collected D, args := #[] } :: a.defers } W) :
    (Code.rangeFunc g ps assign body).wpIn Fence.wide n P Q a w := by
  refine range_j hg eg hseq hps I Ix hI hIx hIG hSn hTn hIs t0 h0 hini (fun t x t' A a' W => ∃ Bx, Ax t x t' A Bx W ∧ a' = { tmps := ((ps.zip (encs x)).foldl (fun t (p, v) => t.setIfInBounds p v) a.tmps).setIfInBounds sl (.pointer (some ⟨Bx, 0, none⟩)), defers := [] }) ?_ ?_ hdone hstop
  · intro l t x t' A A' K h1 h2 h3
    exact hassign l t x t' A A' K h1 h2 (fun Bx W' k1 k2 => h3 _ _ k1 ⟨Bx, k2, rfl⟩)
  · rintro l t x t' A a' W r r' h1 h2 h3 h4 ⟨Bx, h5, rfl⟩
    exact hbody l t x t' A Bx W r r' h1 h2 h3 h4 h5
set_option maxRecDepth 100000 in
theorem eq_nil_sq (lb : Array Value) (w : World) : (binOp BinOp.eql 55 (.func (.func 36) #[] lb) .nilFunc).run Try.prog w = .ok (.bool false) w := by
  first
  | rfl
  | kernel_rfl
  | simp [binOp, run_underlying Try.underlying55, go_sem]
/-- the marks of ranges that are over -/
def Marks (N : Nat) (W : World) (ds : List Deferred) : Prop := ∃ Ds : List Nat, ds = Ds.map (fun D => ({ target := .collected D, args := #[] } : Deferred)) ∧ Ds.Nodup ∧ ∀ D ∈ Ds, N ≤ D ∧ W.heap[D]? = some (.deferred (some []))
theorem Marks.nil (N : Nat) (W : World) : Marks N W [] := ⟨[], rfl, List.nodup_nil, fun D h => by cases h⟩
theorem Marks.keep {N : Nat} {W W' : World} {ds : List Deferred} (h : Marks N W ds) (hk : ∀ (k : Nat) (o : Obj), o.isCells = false → W.heap[k]? = some o → W'.heap[k]? = some o) : Marks N W' ds := by
  obtain ⟨Ds, h1, h2, h3⟩ := h
  exact ⟨Ds, h1, h2, fun D hD => ⟨(h3 D hD).1, hk D _ rfl (h3 D hD).2⟩⟩
theorem Marks.cons {N : Nat} {w W : World} {ds : List Deferred} (h0 : Marks N w ds) (h : Marks N W ds) {D : Nat} (hD : w.heap.size ≤ D) (hN : N ≤ w.heap.size) (hd : W.heap[D]? = some (.deferred (some []))) : Marks N W ({ target := .collected D, args := #[] } :: ds) := by
  obtain ⟨Ds, rfl, h2, h3⟩ := h
  obtain ⟨Ds', e, _, h3'⟩ := h0
  have he : Ds = Ds' := by
    have := congrArg (List.map (fun d : Deferred => match d.target with | .collected D => D | _ => 0)) e
    simpa [Function.comp_def] using this
  subst he
  refine ⟨D :: Ds, rfl, List.nodup_cons.2 ⟨fun hm => ?_, h2⟩, fun D' hD' => ?_⟩
  · have := (Array.getElem?_eq_some_iff.1 (h3' D hm).2).1
    omega
  · rcases List.mem_cons.1 hD' with rfl | h
    · exact ⟨by omega, hd⟩
    · exact h3 D' h
/-- blocks from N on that are no cells have turned, nothing else -/
def Tn (N : Nat) (W W' : World) : Prop := W'.heap.size = W.heap.size ∧ W'.os = W.os ∧ W'.tape = W.tape ∧ W'.output = W.output ∧ (∀ k, k < N → W'.heap[k]? = W.heap[k]?) ∧ (∀ (k : Nat) (cs : Array Value) (t : TypeId) (f : Nat × Nat), W.heap[k]? = some (Obj.cells cs t f) → W'.heap[k]? = W.heap[k]?)
theorem Tn.refl (N : Nat) (W : World) : Tn N W W := ⟨rfl, rfl, rfl, rfl, fun _ _ => rfl, fun _ _ _ _ _ => rfl⟩
theorem Tn.put {N : Nat} {W W' : World} {D : Nat} {o o' : Obj} (hD : N ≤ D) (hd : W.heap[D]? = some o) (ho : o.isCells = false) (h : Tn N (W.putObj D o') W') : Tn N W W' := by
  obtain ⟨h1, h2, h3, h4, h5, h6⟩ := h
  refine ⟨by simpa using h1, h2, h3, h4, fun k hk => (h5 k hk).trans (World.putObj_heap_other (by omega)), fun k cs t f hk => ?_⟩
  have hne : k ≠ D := fun e => by subst e; rw [hk] at hd; cases hd; cases ho
  have e := World.putObj_heap_other (w := W) (o := o') hne
  exact (h6 k cs t f (e.trans hk)).trans e
theorem leave_marks {F : Fence} {n : Nat} {P : Program} {fn : Func} {tmps : Array Value} {R : Ending → World → Prop} {N : Nat} {ds : List Deferred} {W : World} (h : Marks N W ds) (hR : ∀ W', Tn N W W' → ∃ v, (results fn tmps).run P W' = .ok v W' ∧ R (.returned v) W') : LeavesInM F n P fn tmps R ds .returning W := by
  obtain ⟨Ds, rfl, h2, h3⟩ := h
  induction Ds generalizing W with
  | nil =>
    obtain ⟨v, h1, h2⟩ := hR W (Tn.refl N W)
    exact ⟨v, h1, h2⟩
  | cons D Ds ih =>
    obtain ⟨hm, h2⟩ := List.nodup_cons.1 h2
    obtain ⟨hN, hd⟩ := h3 D (List.mem_cons_self ..)
    refine ⟨by simp, .inl ⟨D, _, rfl, run_takeDeferred hd, ih (fun W' hT => hR W' (hT.put hN hd rfl)) h2 (fun D' hD' => ?_)⟩⟩
    have hne : D' ≠ D := fun e => hm (e ▸ hD')
    exact ⟨(h3 D' (List.mem_cons_of_mem _ hD')).1, (World.putObj_heap_other hne).trans (h3 D' (List.mem_cons_of_mem _ hD')).2⟩
/-- ints that came in -/
def Ri (w : World) (a : Option Addr) (n : Nat) (zs : List Int) : Prop := 0 < n → ∃ b off, a = some ⟨b, off, none⟩ ∧ b < w.heap.size ∧ ∀ j, j < n → w.cell? ⟨b, off + j, none⟩ = some (.int .i64 (zs.getD j 0))

/-- the state that State tells -/
def Sg.st (s : Sg) : Value := .agg #[.int .i64 s.1.2.1, .int .i64 (s.2.1.length : Int), .bool s.2.2.2.1.1, .int .i64 s.2.2.2.1.2, .int .i64 s.1.2.2]
/-- what run answers -/
def RunP (most : Int) (lb : List Nat) (w : World) (e : Ending) (W : World) : Prop :=
  Below w.heap.size w W ∧ ∃ (ys : List Ev) (vo : Value), W.ownsRow w.heap.size 51 6 vo ys.length (ys.flatMap Ev.cs) ∧ (∀ y ∈ ys, y.ok W w.heap.size) ∧
    ((512 ≤ most ∧ most ≤ 1048576 → ys.map (·.2) = (sNew most).its lb ∧ e = .returned (.tuple #[vo, ((sNew most).go lb).st, .bool true])) ∧
     (¬ (512 ≤ most ∧ most ≤ 1048576) → ys = [] ∧ e = .returned (.tuple #[vo, .agg #[.int .i64 0, .int .i64 0, .bool false, .int .i64 0, .int .i64 0], .bool true])))

def onlyN (Q : Exit → Act → World → Prop) : Exit → Act → World → Prop
  | .normal, a, w => Q .normal a w
  | _, _, _ => False
theorem onlyN_out {Q : Exit → Act → World → Prop} : ∀ e a w, onlyN Q e a w → Q e a w
  | .normal, _, _, h => h
  | .ret, _, _, h => h.elim
  | .exit _, _, _, h => h.elim
  | .goto _, _, _, h => h.elim
  | .panic _, _, _, h => h.elim
  | .outgrown, _, _, h => h.elim
def lenOf : Value → Nat
  | .slice _ n _ => n
  | _ => 0
theorem go_tk (s : Sg) (l : List Nat) : s.1.2.1 ≤ (s.go l).1.2.1 ∧ (s.go l).1.2.1 ≤ s.1.2.1 + (l.length : Int) := by
  unfold Sg.go
  induction l generalizing s with
  | nil => simp
  | cons c r ih =>
    rw [List.foldl_cons]
    have h := ih (s.nz c)
    have h2 : s.1.2.1 ≤ (s.nz c).1.2.1 ∧ (s.nz c).1.2.1 ≤ s.1.2.1 + 1 := by
      unfold Sg.nz
      by_cases he : s.er = 0
      · rw [if_pos he]
        show s.1.2.1 ≤ s.1.2.1 + 1 ∧ s.1.2.1 + 1 ≤ s.1.2.1 + 1
        omega
      · rw [if_neg he]
        omega
    simp only [List.length_cons]
    omega
/-- how it stands at the loop's head -/
def RunC (most : Int) (lb : List Nat) (nc : Nat) (w : World) (off i : Nat) (a1 : Option Addr) (c1 : Nat) (vo : Value) (ys : List Ev) (ds : List Deferred) (W : World) : Prop :=
  (off ≤ lb.length ∧ i ≤ nc + 1 ∧ (nc < i → off = lb.length)) ∧ (Rd W a1 (lb.length - off) (lb.drop off) ∧ lb.length - off ≤ c1 ∧ (a1 = none → c1 = 0) ∧ (0 < lb.length - off → ∀ b o, a1 = some ⟨b, o, none⟩ → b < w.heap.size)) ∧ (∃ v, SR W (w.heap.size + 1 + 1) (w.heap.size + 1 + 1) most ((sNew most).go (lb.take off)) v) ∧
  OutI w.heap.size (w.heap.size + 1) vo ys W ∧ ApI (w.heap.size + 1 + 1) (w.heap.size + 1 + 1) most ((sNew most).go (lb.take off)) ys W ∧ ys.map (·.2) = (sNew most).its (lb.take off) ∧ Below w.heap.size w W ∧ Marks w.heap.size W ds ∧ W.heap[w.heap.size]? = some (.cells #[.int .i64 0, .int .i64 0, .bool false, .int .i64 0, .int .i64 0] 40 (0, 0))
theorem st_facts {W : World} {R : Nat} {a b c d e : Value} (h : W.heap[R]? = some (.cells #[a, b, c, d, e] 40 (0, 0))) : W.cell? ⟨R, 0, none⟩ = some a ∧ W.cell? ⟨R, 1, none⟩ = some b ∧ W.cell? ⟨R, 2, none⟩ = some c ∧ W.cell? ⟨R, 3, none⟩ = some d ∧ W.cell? ⟨R, 4, none⟩ = some e ∧ W.frozen? ⟨R, 0, none⟩ = false ∧ W.frozen? ⟨R, 1, none⟩ = false ∧ W.frozen? ⟨R, 2, none⟩ = false ∧ W.frozen? ⟨R, 3, none⟩ = false ∧ W.frozen? ⟨R, 4, none⟩ = false := by
  simp [World.cell?, World.frozen?, h]
theorem OutI.setR {N Bo R : Nat} {vo : Value} {ys : List Ev} {W : World} {cs : Array Value} {f : Nat × Nat} (h : OutI N Bo vo ys W) (hR : W.heap[R]? = some (Obj.cells cs 40 f)) (o : Nat) (u : Value) : OutI N Bo vo ys (W.setCell ⟨R, o, none⟩ u) := by
  obtain ⟨h1, h2, h3⟩ := h
  have keep : ∀ (k : Nat) (cs : Array Value) (ty : TypeId) (f : Nat × Nat), W.heap[k]? = some (Obj.cells cs ty f) → ty ≠ 40 → (W.setCell ⟨R, o, none⟩ u).heap[k]? = W.heap[k]? := fun k cs ty f e e1 => by
    refine blk_setCell_other _ _ _ _ (fun hq => ?_)
    have hq : k = R := hq
    subst hq
    rw [hR] at e
    cases e
    exact e1 rfl
  exact ⟨(keep _ _ _ _ h1 (by decide)).trans h1, row_keep h2 (fun k cs e => keep _ _ _ _ e (by decide)), fun y hy => (h3 y hy).keep (fun g l _ hb => keep _ _ _ _ hb (by decide))⟩
theorem Marks.setR {N R : Nat} {W : World} {ds : List Deferred} {cs : Array Value} {t : TypeId} {f : Nat × Nat} (h : Marks N W ds) (hR : W.heap[R]? = some (Obj.cells cs t f)) (o : Nat) (u : Value) : Marks N (W.setCell ⟨R, o, none⟩ u) ds :=
  h.keep (fun k o' ho hk => (blk_setCell_other _ _ _ _ (fun hq => by
    have hq : k = R := hq
    subst hq
    rw [hR] at hk
    cases hk
    cases ho)).trans hk)
set_option maxRecDepth 100000 in
theorem run_end {n : Nat} {most : Int} {lb : List Nat} {w wr w5 : World} {a : Act} {vo : Value} {ys : List Ev} {sa sb : Int} {sc : Bool} {sd se : Int} (hm : 512 ≤ most ∧ most ≤ 1048576) (ha6 : a.tmps[6]? = some vo) (ha7 : a.tmps[7]? = some (.pointer (some ⟨w.heap.size, 0, none⟩))) (ha8 : a.tmps[8]? = some (.bool true))
    (hO : OutI w.heap.size (w.heap.size + 1) vo ys wr) (hits : ys.map (·.2) = (sNew most).its lb) (hbel : Below w.heap.size w wr) (hmk : Marks w.heap.size wr a.defers) (hs5 : w5.heap[w.heap.size]? = some (.cells #[.int .i64 0, .int .i64 0, .bool false, .int .i64 0, .int .i64 0] 40 (0, 0))) (hb5 : Below wr.heap.size wr w5) (hSS : ((sNew most).go lb).st = .agg #[.int .i64 sa, .int .i64 sb, .bool sc, .int .i64 sd, .int .i64 se]) :
    bodyPostM Fence.wide n Try.prog Try.f13 (RunP most lb w) Exit.ret a (((((w5.setCell ⟨w.heap.size, 0, none⟩ (.int .i64 sa)).setCell ⟨w.heap.size, 1, none⟩ (.int .i64 sb)).setCell ⟨w.heap.size, 2, none⟩ (.bool sc)).setCell ⟨w.heap.size, 3, none⟩ (.int .i64 sd)).setCell ⟨w.heap.size, 4, none⟩ (.int .i64 se)) := by
  have hN : w.heap.size ≤ wr.heap.size := hbel.size
  have e0 := cells_set hs5 0 (.int .i64 sa)
  have e1 := cells_set e0 1 (.int .i64 sb)
  have e2 := cells_set e1 2 (.bool sc)
  have e3 := cells_set e2 3 (.int .i64 sd)
  have e4 := cells_set e3 4 (.int .i64 se)
  have hO6 := (((((hO.below hb5).setR hs5 0 (.int .i64 sa)).setR e0 1 (.int .i64 sb)).setR e1 2 (.bool sc)).setR e2 3 (.int .i64 sd)).setR e3 4 (.int .i64 se)
  have hm5 : Marks w.heap.size w5 a.defers := hmk.keep (fun k o _ hk => (hb5.block k (Array.getElem?_eq_some_iff.1 hk).1).trans hk)
  have hm6 := ((((hm5.setR hs5 0 (.int .i64 sa)).setR e0 1 (.int .i64 sb)).setR e1 2 (.bool sc)).setR e2 3 (.int .i64 sd)).setR e3 4 (.int .i64 se)
  have hb6 : Below w.heap.size w (((((w5.setCell ⟨w.heap.size, 0, none⟩ (.int .i64 sa)).setCell ⟨w.heap.size, 1, none⟩ (.int .i64 sb)).setCell ⟨w.heap.size, 2, none⟩ (.bool sc)).setCell ⟨w.heap.size, 3, none⟩ (.int .i64 sd)).setCell ⟨w.heap.size, 4, none⟩ (.int .i64 se)) := (((((hbel.trans (hb5.mono hN)).setCell (Nat.le_refl _) _).setCell (Nat.le_refl _) _).setCell (Nat.le_refl _) _).setCell (Nat.le_refl _) _).setCell (Nat.le_refl _) _
  generalize (((((w5.setCell ⟨w.heap.size, 0, none⟩ (.int .i64 sa)).setCell ⟨w.heap.size, 1, none⟩ (.int .i64 sb)).setCell ⟨w.heap.size, 2, none⟩ (.bool sc)).setCell ⟨w.heap.size, 3, none⟩ (.int .i64 sd)).setCell ⟨w.heap.size, 4, none⟩ (.int .i64 se)) = W6 at *
  refine leave_marks hm6 (fun W' hT => ?_)
  have e5 : W'.heap[w.heap.size]? = some (.cells #[.int .i64 sa, .int .i64 sb, .bool sc, .int .i64 sd, .int .i64 se] 40 (0, 0)) := (hT.2.2.2.2.2 _ _ _ _ e4).trans e4
  obtain ⟨z0, z1, z2, z3, z4, _⟩ := st_facts e5
  have hO7 := hO6.keep hT.2.2.2.2.2
  refine ⟨.tuple #[vo, .agg #[.int .i64 sa, .int .i64 sb, .bool sc, .int .i64 sd, .int .i64 se], .bool true], ?_, ⟨hT.2.1.trans hb6.os, hT.2.2.1.trans hb6.tape, hT.2.2.2.1.trans hb6.output, by have := hb6.size; have := hT.1; omega, fun k hk => (hT.2.2.2.2.1 k hk).trans (hb6.block k hk)⟩, ys, vo, hO7.2.1, hO7.2.2, fun _ => ⟨hits, by rw [hSS]⟩, fun h => absurd hm h⟩
  simp [results, Try.f13, go_sem, z0, z1, z2, z3, z4, ha6, ha7, ha8]
theorem rem_neg (z : Int) (m : Nat) (h : z < 0) : ∃ nn : Nat, -(z + 1).tmod ((m : Int) + 1) = (nn : Int) ∧ nn ≤ m := by
  have h1 : -(z + 1).tmod ((m : Int) + 1) = (-(z + 1)) % ((m : Int) + 1) := by
    rw [← Int.neg_tmod, Int.tmod_eq_emod_of_nonneg (by omega)]
  have h2 := Int.emod_nonneg (-(z + 1)) (show ((m : Int) + 1) ≠ 0 by omega)
  have h3 := Int.emod_lt_of_pos (-(z + 1)) (show 0 < (m : Int) + 1 by omega)
  refine ⟨((-(z + 1)) % ((m : Int) + 1)).toNat, ?_, ?_⟩
  · rw [h1]; omega
  · omega
theorem rem_pos (z : Int) (m : Nat) : ∃ nn : Nat, z % ((m : Int) + 1) = (nn : Int) ∧ nn ≤ m := by
  have h2 := Int.emod_nonneg z (show ((m : Int) + 1) ≠ 0 by omega)
  have h3 := Int.emod_lt_of_pos z (show 0 < (m : Int) + 1 by omega)
  exact ⟨(z % ((m : Int) + 1)).toNat, by omega, by omega⟩
theorem Try.infoI : (Try.prog.info? 51).map (fun i => (i.zero, i.size, i.bytes)) = some (some (.agg #[.int .i64 0, .int .i64 0, .int .i64 0, .int .i64 0, .slice none 0 0, .slice none 0 0]), 6, 80) := by kernel_rfl
theorem info_six : ∃ iI, Try.prog.info? 51 = some iI ∧ iI.zero = some (.agg #[.int .i64 0, .int .i64 0, .int .i64 0, .int .i64 0, .slice none 0 0, .slice none 0 0]) ∧ iI.size = 6 ∧ iI.bytes = 80 := by
  have h := Try.infoI
  cases hi : Try.prog.info? 51 with
  | none => rw [hi] at h; cases h
  | some iI =>
    rw [hi] at h
    simp at h
    exact ⟨iI, rfl, h⟩
theorem new6 (w : World) (v0 v1 v2 v3 v4 v5 : Value) : ∀ j u, ([v0, v1, v2, v3, v4, v5] : List Value)[j]? = some u → (w.alloc (.cells #[v0, v1, v2, v3, v4, v5] 51)).cell? ((⟨w.heap.size, 0, none⟩ : Addr).add j) = some u := fun j u hj => by
  rw [add_none, Nat.zero_add, World.cell?_alloc_at _ _ _ _ rfl]
  simpa using hj
theorem one6 (y : Ev) : ∀ u ∈ y.cs, u.oneCell' = true := fun u hu => by
  simp [Ev.cs] at hu
  rcases hu with rfl | rfl | rfl | rfl | rfl | rfl <;> rfl
theorem row_slice {W : World} {N n : Nat} {v : Value} {xs : List Value} (h : W.ownsRow N 51 6 v n xs) : ∃ a c, v = .slice a n c := by
  obtain ⟨_, (⟨rfl, rfl⟩ | ⟨g, cap, cur, rfl, _⟩)⟩ := h
  · exact ⟨none, 0, rfl⟩
  · exact ⟨_, cap, rfl⟩
theorem out_box {N Bo : Nat} {vo : Value} {ys : List Ev} {W Wn : World} (h : OutI N Bo vo ys W) (hg : W.grownBy Wn vo.ownBlock) : Wn.heap[Bo]? = some (.cells #[vo] 29 (0, 0)) := by
  refine (hg.block Bo (Array.getElem?_eq_some_iff.1 h.1).1 (fun e => ?_)).trans h.1
  obtain ⟨cs, e', _⟩ := own_type h.2.1 e.symm
  rw [h.1] at e'
  cases e'
/-- an item appended, while the stream stands -/
theorem out_append {S B : Nat} {M : Int} {N Bo : Nat} {vo vo' vn : Value} {ys' : List Ev} {y : Ev} {w3 W2 Wn : World} {v : Value} {s : Sg} {l : List Nat} {t : Nat × Sg} {o : Obj} (hRn : Rn S B M (fun k => k = Bo ∨ vo.ownBlock = some k) w3 v s l t W2) (hO : OutI N Bo vo' ys' W2) (hok : y.ok W2 N) (hAp : ApI S B M t.2 (ys' ++ [y]) W2) (hOw : OwnR w3 vo vo') (hg : (W2.alloc o).grownBy Wn vo'.ownBlock)
    (r1 : Wn.ownsRow N 51 6 vn (ys'.length + 1) (ys'.flatMap Ev.cs ++ y.cs)) (r4 : vn.ownBlock = vo'.ownBlock ∨ vn.ownBlock = some (W2.alloc o).heap.size) (hBo : Bo < w3.heap.size) :
    KpB w3.heap.size W2 (Wn.setCell ⟨Bo, 0, none⟩ vn) ∧ Rn S B M (fun k => k = Bo ∨ vo.ownBlock = some k) w3 v s l t (Wn.setCell ⟨Bo, 0, none⟩ vn) ∧ OutI N Bo vn (ys' ++ [y]) (Wn.setCell ⟨Bo, 0, none⟩ vn) ∧ ApI S B M t.2 (ys' ++ [y]) (Wn.setCell ⟨Bo, 0, none⟩ vn) ∧ OwnR w3 vo vn := by
  have hz3 : w3.heap.size ≤ W2.heap.size := by
    obtain ⟨_, v1, _, _, h6⟩ := hRn
    exact h6.2.2.2.1
  have hzn := hg.size
  simp only [World.size_alloc] at hzn
  have hblk : ∀ k, k < W2.heap.size → k ≠ Bo → vo'.ownBlock ≠ some k → (Wn.setCell ⟨Bo, 0, none⟩ vn).heap[k]? = W2.heap[k]? := fun k hk h1 h2 => by
    rw [blk_setCell_other _ _ _ _ h1, hg.block k (by simp; omega) (fun e => h2 e.symm)]
    exact Below.heap_alloc _ _ _ hk
  have hcel : ∀ (k : Nat) (cs : Array Value) (ty : TypeId) (f : Nat × Nat), W2.heap[k]? = some (Obj.cells cs ty f) → ty ≠ 29 → ty ≠ 51 → (Wn.setCell ⟨Bo, 0, none⟩ vn).heap[k]? = W2.heap[k]? := fun k cs ty f hk h1 h2 => by
    refine hblk k (Array.getElem?_eq_some_iff.1 hk).1 (fun e => ?_) (fun e => ?_)
    · subst e
      rw [hO.1] at hk
      cases hk
      exact h1 rfl
    · obtain ⟨cs', e', _⟩ := own_type hO.2.1 e
      rw [hk] at e'
      cases e'
      exact h2 rfl
  have hsz : W2.heap.size ≤ (Wn.setCell ⟨Bo, 0, none⟩ vn).heap.size := by simp [World.setCell]; omega
  refine ⟨⟨hsz, fun k o' hk ho hb => ?_⟩, ?_, OutI.push (hO.alloc o) (hok.keep (fun g l' _ hb => Below.heap_alloc _ _ _ hb.lt)) r1 hg, ?_, ?_⟩
  · refine (hblk k (Array.getElem?_eq_some_iff.1 hb).1 (by omega) (fun e => ?_)).trans hb
    obtain ⟨cs', e', _⟩ := own_type hO.2.1 e
    rw [hb] at e'
    injection e' with e'
    exact (ho cs' (0, 0)).2 e'
  · refine hRn.keep hsz ⟨hg.os, hg.tape, hg.output⟩ (fun k hk hx => hblk k (by omega) (fun e => hx (.inl e)) (fun e => ?_)) (fun k cs f ty hk hh => hcel k cs ty f hk ?_ ?_)
    · rcases hOw with h | h | ⟨g, h, hg'⟩
      · rw [h] at e; cases e
      · exact hx (.inr (h ▸ e))
      · rw [h] at e; injection e with e; omega
    · rcases hh with rfl | rfl <;> decide
    · rcases hh with rfl | rfl <;> decide
  · obtain ⟨_, v1, hv1, _⟩ := hRn
    refine hAp.of hv1 (hv1.keep hsz (fun k cs ty f hk hh => ?_))
    obtain ⟨cs', t', f', e', e2⟩ := hv1.own_cells hh
    refine hcel k cs' t' f' e' ?_ ?_
    · rcases e2 with rfl | rfl <;> decide
    · rcases e2 with rfl | rfl <;> decide
  · rcases r4 with e | e
    · rcases hOw with h | h | ⟨g, h, hg'⟩
      · exact .inl (e.trans h)
      · exact .inr (.inl (e.trans h))
      · exact .inr (.inr ⟨g, e.trans h, hg'⟩)
    · exact .inr (.inr ⟨_, e, by simp; omega⟩)
set_option maxRecDepth 100000 in
set_option maxHeartbeats 2000000 in
theorem run_any (most : Int) (ab : Option Addr) (cb : Nat) (lb : List Nat) (ac : Option Addr) (nc cc : Nat) (zs : List Int) (w : World) (hrb : Rd w ab lb.length lb) (hrc : Ri w ac nc zs) (hwz : ∀ j, j < nc → -9223372036854775808 ≤ zs.getD j 0 ∧ zs.getD j 0 < 9223372036854775808) (hnb : lb.length ≤ cb) (hab : ab = none → cb = 0) (hzb : lb.length ≤ 100000000) (hzc : nc ≤ 140737488351232) :
    Calls Try.prog 13 #[.int .i64 most, .slice ab lb.length cb, .slice ac nc cc] w (RunP most lb w) := by
  suffices h : ∀ n, CallsIn Fence.wide n Try.prog 13 #[.int .i64 most, .slice ab lb.length cb, .slice ac nc cc] w (RunP most lb w) from callsIn_wide.1 (h 1)
  intro n
  have hdd : ∀ k : Nat, (Fence.wide.depth.isSome = true → 1 ≤ k) := fun k h => by cases h
  refine callsIn_of_wp_marks Try.func13 rfl trivial ?_ rfl
  simp only [Try.ntmps13, List.size_toArray, List.length_cons, List.length_nil, Nat.reduceAdd, Nat.reduceSub, Array.replicate_succ, Array.replicate_zero, List.push_toArray, List.append_toArray, List.nil_append, List.cons_append]
  have HIN := hide (And.intro hrb (And.intro hrc (And.intro hwz (And.intro hnb (And.intro hab (And.intro hzb hzc))))))
  clear hrb hrc hwz hnb hab hzb hzc
  gi_wp2_with fail
  refine ⟨trivial, hdd _, ?_⟩
  by_cases hm : 512 ≤ most ∧ most ≤ 1048576
  · refine (callsIn_wide.2 (new_yes most _ hm)).mono ?_
    rintro e w2 ⟨rfl, hS2, hB2⟩
    simp only [World.size_alloc] at hS2
    have HR2 := hide (SR.new hS2 hm)
    have HB2 := hide hB2
    clear hS2 hB2
    have HM := hide hm
    have HB3 : Hid (Below w.heap.size w w2) := (((Below.refl _ _).alloc (Nat.le_refl _) _).alloc (by simp) _).trans (HB2.out.mono (by simp; omega))
    have HS3 : Hid (w2.heap[w.heap.size]? = some (.cells #[.int .i64 0, .int .i64 0, .bool false, .int .i64 0, .int .i64 0] 40 (0, 0))) := (HB2.out.block _ (by simp; omega)).trans (heap_past (World.alloc_heap_new _ _) _)
    have HO3 : Hid (w2.heap[w.heap.size + 1]? = some (.cells #[.slice none 0 0] 29 (0, 0))) := (HB2.out.block _ (by simp)).trans (heap_at1 _ _ _)
    gi_wp2_with fail
    refine wpIn_loop (fun a' W => ∃ (u12 u13 u14 u15 u21 u22 u23 u24 u25 u26 u27 u28 u29 u30 u31 u32 u33 u34 u35 u36 u37 u38 u39 u40 u41 u42 u43 u44 u45 u46 u47 u48 u49 u50 u51 u52 u53 u54 u55 u56 u57 u58 u59 u60 u61 u62 u63 u64 u65 u66 u67 u68 u69 : Value) (ds : List Deferred) (off i : Nat) (a1 : Option Addr) (c1 : Nat) (vo : Value) (ys : List Ev), a' = { tmps := #[.int .i64 most, .slice a1 (lb.length - off) c1, .slice ac nc cc, undef, undef, undef, .slice none 0 0, .pointer (some ⟨w.heap.size, 0, none⟩), .bool false, .pointer (some ⟨w.heap.size + 1, 0, none⟩), .pointer (some ⟨w.heap.size + 1 + 1, 0, none⟩), .int .i64 (i : Int), u12, u13, u14, u15, .int .i64 most, .pointer (some ⟨w.heap.size + 1 + 1, 0, none⟩), .pointer (some ⟨w.heap.size + 1 + 1, 0, none⟩), .bool false, undef, u21, u22, u23, u24, u25, u26, u27, u28, u29, u30, u31, u32, u33, u34, u35, u36, u37, u38, u39, u40, u41, u42, u43, u44, u45, u46, u47, u48, u49, u50, u51, u52, u53, u54, u55, u56, u57, u58, u59, u60, u61, u62, u63, u64, u65, u66, u67, u68, u69, undef, undef, undef], defers := ds } ∧ Hid (RunC most lb nc w off i a1 c1 vo ys ds W)) (fun a' W => (nc - (intOf (a'.tmps.getD 11 undef)).toNat) + min (lenOf (a'.tmps.getD 1 undef)) 1) ?start ?round
    case start =>
      obtain ⟨hrb, hrc, hwz, hnb, hab, hzb, hzc⟩ := HIN.out
      refine ⟨_, _, _, _, _, _, _, _, _, _, _, _, _, _, _, _, _, _, _, _, _, _, _, _, _, _, _, _, _, _, _, _, _, _, _, _, _, _, _, _, _, _, _, _, _, _, _, _, _, _, _, _, _, [], 0, 0, ab, cb, .slice none 0 0, [], rfl, ⟨Nat.zero_le _, Nat.zero_le _, fun h => by omega⟩, ⟨?_, by omega, hab, fun hn b o e => ?_⟩, ⟨_, HR2.out⟩, ⟨HO3.out, World.ownsRow_nil _ _ _ _, (fun y h => by cases h)⟩, (fun v hv y h => by cases h), rfl, HB3.out, Marks.nil _ _, HS3.out⟩
      · simpa using hrb.below HB3.out
      · obtain ⟨b', o', e', h, _⟩ := hrb.2.2 (by omega)
        rw [e] at e'
        cases e'
        exact h
    case round =>
      rintro a' wr ⟨u12, u13, u14, u15, u21, u22, u23, u24, u25, u26, u27, u28, u29, u30, u31, u32, u33, u34, u35, u36, u37, u38, u39, u40, u41, u42, u43, u44, u45, u46, u47, u48, u49, u50, u51, u52, u53, u54, u55, u56, u57, u58, u59, u60, u61, u62, u63, u64, u65, u66, u67, u68, u69, ds, off, i, a1, c1, vo, ys, rfl, HC⟩
      clear HB2 HR2 HB3 HS3 HO3
      obtain ⟨hoff, hi, hie⟩ := HC.out.1
      have hzc := HIN.out.2.2.2.2.2.2
      have hzb := HIN.out.2.2.2.2.2.1
      by_cases hgo : 0 < lb.length - off ∨ i < nc
      · obtain ⟨hRI, hwz⟩ := And.intro HIN.out.2.1 HIN.out.2.2.1
        generalize hM' : lb.length - off = m at hgo
        have hmz : m ≤ 100000000 := by omega
        have HME := hide hM'
        clear hM'
        have hcond : (decide (0 < m) || decide (i < nc)) = true := by
          rcases hgo with h | h
          · simp [h]
          · simp [h]
        have HCZ : Hid (∀ h : i < nc, ∃ b o, ac = some ⟨b, o, none⟩ ∧ wr.cell? ⟨b, o + i, none⟩ = some (.int .i64 (zs.getD i 0)) ∧ -9223372036854775808 ≤ zs.getD i 0 ∧ zs.getD i 0 < 9223372036854775808) := by
          intro h
          obtain ⟨b, o, e1, e2, e3⟩ := hRI (by omega)
          refine ⟨b, o, e1, ?_, hwz i h⟩
          rw [HC.out.2.2.2.2.2.2.1.cell (p := ⟨b, o + i, none⟩) e2]
          exact e3 i h
        clear hRI hwz
        dsimp only
        gi_upto_region 6 with fail
        gi_cut [29] from 73 (fun v wx => v = .bool true ∧ wx = wr)
        case first =>
          clear HC HIN HCZ
          by_cases h0 : 0 < m
          · gi_wp2_with fail
            gi_meet
            exact ⟨rfl, rfl⟩
          · have hinc : i < nc := by omega
            have hm0 : m = 0 := by omega
            subst hm0
            gi_wp2_with fail
            gi_meet
            exact ⟨by simp [hinc], rfl⟩
        case rest =>
          obtain ⟨rfl, rfl⟩ := hcut
          clear hcond
          gi_upto_if 37 with fail
          gi_cut [12, 37] from 73 (fun v _ wx => ∃ nn : Nat, v = .int .i64 (nn : Int) ∧ nn ≤ m ∧ (¬ i < nc → nn = m) ∧ wx = wc)
          case first =>
            clear HC HIN
            by_cases hinc : i < nc
            · obtain ⟨b, o, rfl, hcz, hz1, hz2⟩ := HCZ.out hinc
              clear HCZ
              generalize zs.getD i 0 = z at hcz hz1 hz2
              have HIC := hide hinc
              by_cases hzn : z < 0
              · obtain ⟨nn, e1, e2⟩ := rem_neg z m hzn
                have HE := hide (And.intro e1 e2)
                clear e1 e2
                gi_wp2_with fail
                gi_meet
                exact ⟨nn, by rw [HE.out.1], HE.out.2, fun h => absurd HIC.out h, rfl⟩
              · obtain ⟨nn, e1, e2⟩ := rem_pos z m
                have HE := hide (And.intro e1 e2)
                clear e1 e2
                gi_wp2_with fail
                gi_meet
                exact ⟨nn, by rw [HE.out.1], HE.out.2, fun h => absurd HIC.out h, rfl⟩
            · gi_wp2_with fail
              gi_meet
              exact ⟨m, rfl, Nat.le_refl _, fun _ => rfl, rfl⟩
          case rest =>
            obtain ⟨nn, rfl, hnn, hnm, rfl⟩ := hcut
            rename World => wr
            clear HCZ
            have hmc : m ≤ c1 := by have := HC.out.2.1.2.1; have := HME.out; omega
            have hac := HC.out.2.1.2.2.1
            gi_upto_region 14 with fail
            gi_cut [13] from 73 (fun v wx => v = .slice a1 nn c1 ∧ wx = wr)
            case first =>
              clear HC HIN
              cases a1 with
              | none =>
                have hc0 := hac rfl
                subst hc0
                have hm0 : m = 0 := by omega
                subst hm0
                have hn0 : nn = 0 := by omega
                subst hn0
                gi_wp2_with fail
                gi_meet
                exact ⟨rfl, rfl⟩
              | some ad =>
                gi_wp2_with fail
                gi_meet
                exact ⟨rfl, rfl⟩
            case rest =>
              obtain ⟨rfl, rfl⟩ := hcut
              gi_upto_region 15 with fail
              gi_cut [1] from 73 (fun v wx => ∃ a3, v = .slice a3 (m - nn) (c1 - nn) ∧ (0 < m - nn → ∀ b o, a1 = some ⟨b, o, none⟩ → a3 = some ⟨b, o + nn, none⟩) ∧ (a3 = none → a1 = none) ∧ wx = wc)
              case first =>
                clear HC HIN
                cases a1 with
                | none =>
                  have hc0 := hac rfl
                  subst hc0
                  have hm0 : m = 0 := by omega
                  subst hm0
                  have hn0 : nn = 0 := by omega
                  subst hn0
                  gi_wp2_with fail
                  gi_meet
                  exact ⟨none, rfl, (fun h => by omega), (fun _ => by trivial), rfl⟩
                | some ad =>
                  by_cases hcn : nn = c1
                  · subst hcn
                    gi_wp2_with fail
                    gi_meet
                    exact ⟨some ad, by rw [show m - nn = 0 by omega]; simp, (fun h => by omega), (fun h => by cases h), rfl⟩
                  · gi_wp2_with fail
                    gi_meet
                    exact ⟨some (ad.add nn), rfl, (fun _ b o e => by cases e; simp [Addr.add]), (fun h => by cases h), rfl⟩
              case rest =>
                obtain ⟨a3, rfl, h32, h33, rfl⟩ := hcut
                rename World => wr
                obtain ⟨hC1, ⟨hRb, _, _, hRlt⟩, ⟨v, hv⟩, hO, hAp, hits, hbel, hmk, hst⟩ := HC.out
                rw [HME.out] at hRb hRlt
                have hl2 : ((lb.drop off).take nn).length = nn := by have := HME.out; simp; omega
                have hR2 : Rd wr a1 nn ((lb.drop off).take nn) := hRb.take hnn
                have hR3 : Rd wr a3 (m - nn) (((lb.drop off).drop nn).take (m - nn)) := hRb.cut (i := nn) (m := m - nn) (by omega) h32
                have hA3 : 0 < m - nn → ∀ b o, a3 = some ⟨b, o, none⟩ → b < w.heap.size := fun hn b o e => by
                  obtain ⟨b1, o1, e1, _⟩ := hRb.2.2 (by omega)
                  have e2 := h32 hn b1 o1 e1
                  rw [e] at e2
                  injection e2 with e2
                  have e3 : b = b1 := congrArg Addr.block e2
                  rw [e3]
                  exact hRlt (by omega) b1 o1 e1
                have HALL := hide (all_any (some ⟨w.heap.size + 1 + 1, 0, none⟩) a1 nn c1 ((lb.drop off).take nn) wr hR2 (by omega) (by omega) hac)
                have HX := hide (And.intro hC1 (And.intro hRlt (And.intro hv (And.intro hO (And.intro hAp (And.intro hits (And.intro hbel (And.intro hmk (And.intro hst (And.intro hl2 (And.intro hR3 (And.intro hA3 h33))))))))))))
                clear hC1 hRb hRlt hv hO hAp hits hbel hmk hst hl2 hR2 hR3 h32 h33 HC hA3
                gi_wp2_with fail
                refine ⟨trivial, hdd _, ?_⟩
                refine (callsIn_wide.2 HALL.out).mono ?_
                rintro e w3 ⟨bo, a4, c4, rfl, hs3, ho3, hbo, hr3, hc3, ha3, hb3⟩
                have hq := eq_nil_sq #[.pointer (some ⟨wr.heap.size, 0, none⟩), .pointer (some ⟨bo, 0, none⟩)] w3
                have HY := hide (And.intro hs3 (And.intro ho3 (And.intro hbo (And.intro hr3 (And.intro ha3 hb3)))))
                clear hs3 ho3 hbo hr3 hc3 ha3 hb3 HALL
                gi_wp2_with fail
                obtain ⟨hC1, hRlt, hv, hO, hAp, hits, hbel, hmk, hst, hl2, hR3, hA3, h33⟩ := HX.out
                obtain ⟨hs3, ho3, hbo, hr3, ha3, hb3⟩ := HY.out
                clear hq
                have hz3 := hb3.size
                have hN0 : w.heap.size + 1 < wr.heap.size := (Array.getElem?_eq_some_iff.1 hO.1).1
                have hS0 : w.heap.size + 1 + 1 < wr.heap.size := hv.1.lt
                have hv3 := hv.keep hz3 (fun k cs t f hk _ => hb3.block k (Array.getElem?_eq_some_iff.1 hk).1)
                have hO3 := hO.below hb3
                have hAp3 : ApI (w.heap.size + 1 + 1) (w.heap.size + 1 + 1) most ((sNew most).go (lb.take off)) ys w3 := hAp.of hv hv3
                have hvo : ∀ k, vo.ownBlock = some k → w.heap.size ≤ k ∧ k < wr.heap.size := fun k hk => by
                  obtain ⟨cs, e, h⟩ := own_type hO.2.1 hk
                  exact ⟨h, (Array.getElem?_eq_some_iff.1 e).1⟩
                have hlo3 : bo < w3.heap.size := (Array.getElem?_eq_some_iff.1 ho3).1
                have ht0 : 0 ≤ ((sNew most).go (lb.take off)).1.2.1 := (go_tk (sNew most) (lb.take off)).1
                have ht1 : ((sNew most).go (lb.take off)).1.2.1 ≤ 100000000 := by
                  have h1 := (go_tk (sNew most) (lb.take off)).2
                  rw [show (sNew most).1.2.1 = 0 from rfl, List.length_take] at h1
                  omega
                have hlt2 : ∀ c ∈ (lb.drop off).take nn, c < 256 := hr3.2.1
                have ho3' : w3.heap[bo]? = some (.cells #[.slice a4 ((lb.drop off).take nn).length c4] 33 (0, 0)) := by rw [hl2]; exact ho3
                have hr3' : Rd w3 a4 ((lb.drop off).take nn).length ((lb.drop off).take nn) := by rw [hl2]; exact hr3
                have hlz : ((((lb.drop off).take nn).length : Nat) : Int) ≤ 100000000 := by rw [hl2]; omega
                refine range_ja (gf := 36) (lb := #[.pointer (some ⟨wr.heap.size, 0, none⟩), .pointer (some ⟨bo, 0, none⟩)]) rfl (enters_of Try.func36 (by kernel_rfl) rfl) (all_seq (w.heap.size + 1 + 1) (w.heap.size + 1 + 1) most bo wr.heap.size a4 c4 ((lb.drop off).take nn)) (fun _ => rfl) 15
                  (fun t W' => Rn (w.heap.size + 1 + 1) (w.heap.size + 1 + 1) most (fun k => k = w.heap.size + 1 ∨ vo.ownBlock = some k) w3 v ((sNew most).go (lb.take off)) ((lb.drop off).take nn) t W' ∧ ∃ vo' ys', OutI w.heap.size (w.heap.size + 1) vo' ys' W' ∧ ApI (w.heap.size + 1 + 1) (w.heap.size + 1 + 1) most t.2 ys' W' ∧ ys'.map (·.2) = ys.map (·.2) ++ ((sNew most).go (lb.take off)).its (((lb.drop off).take nn).take t.1) ∧ OwnR w3 vo vo')
                  (fun _ _ => False) ?hI (fun c => fun _ _ _ _ h => h.elim) ?hIG (fun _ _ _ _ _ h => h.1.nc) (fun _ _ _ _ _ _ h => h.1.nc) ?hIs (0, (sNew most).go (lb.take off)) ⟨Rn.start hv3, vo, ys, hO3, hAp3, by simp [Sg.its], .inr (.inl rfl)⟩ rfl
                  (fun t x t' A Bx W' => TolA (w.heap.size + 1 + 1) (w.heap.size + 1 + 1) most ((lb.drop off).take nn) t x t' A W' ∧ ∃ y : Ev, x = y.val ∧ y.2 = t.2.ct (((lb.drop off).take nn).getD t.1 0) ∧ y.ok W' A.heap.size ∧ IB W' Bx (.int .i64 y.2.1.1) (.int .i64 y.2.1.2.1) (.int .i64 y.2.1.2.2.1) (.int .i64 y.2.1.2.2.2) (.slice (adr y.1.1) y.2.2.1.length y.2.2.1.length) (.slice (adr y.1.2) y.2.2.2.length y.2.2.2.length))
                  ?assign ?body ?done (fun _ _ _ _ h => h.elim)
                case hI =>
                  rintro t A A2 row ⟨h1, vo', ys', h2, h3, h4, h5⟩ hg hr
                  refine ⟨h1.grown hg hr, vo', ys', h2.grown hg (fun r e => (hr r e).2), h3.grown ?_ hg (fun r e => (hr r e).2), h4, h5⟩
                  obtain ⟨_, v1, hv1, _⟩ := h1
                  exact ⟨v1, hv1⟩
                case hIG =>
                  rintro t A ⟨h1, _⟩
                  refine h1.gi hv3 ho3' hs3 (fun h => ?_) (fun h => ?_) hr3' (fun hn b o e hb hh => ?_) ht0 (by omega)
                  · rcases h with h | h
                    · omega
                    · have := hvo _ h; omega
                  · rcases h with h | h
                    · omega
                    · have := hvo _ h; omega
                  · have h1 := ha3 b o e
                    rcases hh with h | h | h | h
                    · omega
                    · have := hv.own_lt h; omega
                    · omega
                    · have := hvo _ h; omega
                case hIs =>
                  rintro t t' A A' ⟨h1, vo', ys', h2, h3, h4, h5⟩ hs
                  obtain ⟨q1, q2⟩ := h2.step h3 hs.1
                  refine ⟨h1.step hs.1, vo', ys', q1, q2, ?_, h5⟩
                  have e1 := hs.1.2.2.1
                  have e2 := h1.1.2.1
                  rw [e1, h4, its_take _ _ hs.1.1, ← e2]
                  have e3 : t.2.one (((lb.drop off).take nn).getD t.1 0) = [] := by unfold Sg.one; rw [if_neg (fun h => h.2 hs.2)]
                  rw [e3, List.append_nil]
                case assign =>
                  rintro lp t x t' A A' K hI1 ⟨hst', hit⟩ hK
                  obtain ⟨y, rfl, hy1, hy2⟩ := it_ev hst' hit hlt2
                  have hsa := hst'.alloc (Obj.cells #[.int .i64 y.2.1.1, .int .i64 y.2.1.2.1, .int .i64 y.2.1.2.2.1, .int .i64 y.2.1.2.2.2, .slice (adr y.1.1) y.2.2.1.length y.2.2.1.length, .slice (adr y.1.2) y.2.2.2.length y.2.2.2.length] 51)
                  have hia := hit.alloc (Obj.cells #[.int .i64 y.2.1.1, .int .i64 y.2.1.2.1, .int .i64 y.2.1.2.2.1, .int .i64 y.2.1.2.2.2, .slice (adr y.1.1) y.2.2.1.length y.2.2.1.length, .slice (adr y.1.2) y.2.2.2.length y.2.2.2.length] 51)
                  have hoka : y.ok (A'.alloc (Obj.cells #[.int .i64 y.2.1.1, .int .i64 y.2.1.2.1, .int .i64 y.2.1.2.2.1, .int .i64 y.2.1.2.2.2, .slice (adr y.1.1) y.2.2.1.length y.2.2.1.length, .slice (adr y.1.2) y.2.2.2.length y.2.2.2.length] 51)) A.heap.size := hy2.keep (fun g l' _ hb => (below_box A' _).block g hb.lt)
                  have HKK := hide (hK A'.heap.size _ ((KpB.refl _ A').alloc _) ⟨⟨hsa, hia⟩, y, rfl, hy1, hoka, World.alloc_heap_new _ _⟩)
                  clear hK hsa hia hoka hy1 hy2 hst' hit hI1
                  simp only [encA, Ev.val, itV] at HKK ⊢
                  gi_wp2_with fail
                  simpa using HKK.out
                case body =>
                  rintro lp t x t' A Bx W1 r r' hl' hA hW1 ⟨hRn, vo', ys', hO', hAp', hm', hOw⟩ ⟨⟨hst', hit⟩, y, rfl, hy1, hok, hIB⟩
                  have hzA : w3.heap.size ≤ A.heap.size := by
                    obtain ⟨_, v1, _, _, h6⟩ := hRn
                    exact h6.2.2.2.1
                  have hRn1 := (hRn.step hst').put hl' hW1 rfl (.loop r')
                  have hO1 := (hO'.step hAp' hst').1.put hW1 rfl (.loop r')
                  have keep : ∀ {k : Nat} {cs : Array Value} {ty : TypeId} {f : Nat × Nat}, W1.heap[k]? = some (Obj.cells cs ty f) → (W1.putObj lp (.loop r')).heap[k]? = some (Obj.cells cs ty f) := fun {k cs ty f} hk => by
                    refine (World.putObj_heap_other (fun e => ?_)).trans hk
                    subst e
                    rw [hk] at hW1
                    cases hW1
                  have hok1 : y.ok (W1.putObj lp (.loop r')) w.heap.size := (hok.low (by omega)).keep (fun g l' _ hb => (keep hb).trans (show W1.heap[g]? = _ from hb).symm)
                  have hAp1 : ApI (w.heap.size + 1 + 1) (w.heap.size + 1 + 1) most t'.2 (ys' ++ [y]) (W1.putObj lp (.loop r')) := by
                    refine (ApI.new hst' hit.1 (ys' ++ [y])).grown ?_ (grownBy_putObj' W1 lp (.loop r')) (fun r0 e => by cases e; exact ⟨_, hW1, rfl⟩)
                    obtain ⟨_, _, _, _, v2, _, h2, _⟩ := hst'
                    exact ⟨v2, h2⟩
                  have hIB1 : IB (W1.putObj lp (.loop r')) Bx (.int .i64 y.2.1.1) (.int .i64 y.2.1.2.1) (.int .i64 y.2.1.2.2.1) (.int .i64 y.2.1.2.2.2) (.slice (adr y.1.1) y.2.2.1.length y.2.2.1.length) (.slice (adr y.1.2) y.2.2.2.length y.2.2.2.length) := keep hIB
                  have hits' : (ys' ++ [y]).map (·.2) = ys.map (·.2) ++ ((sNew most).go (lb.take off)).its (((lb.drop off).take nn).take t'.1) := by
                    have e1 := hst'.2.2.1
                    have e2 := hRn.1.2.1
                    have e3 : t.2.one (((lb.drop off).take nn).getD t.1 0) = [y.2] := by
                      unfold Sg.one
                      rw [if_pos ⟨hst'.2.1, hit.1⟩, hy1]
                    rw [e1, its_take _ _ hst'.1, ← e2, e3, List.map_append, hm', List.append_assoc]
                    rfl
                  have hlen : ys'.length ≤ 200000000 := by
                    have h1 := congrArg List.length hm'
                    have h2 := congrArg List.length hits
                    have h3 := its_length ((sNew most).go (lb.take off)) (((lb.drop off).take nn).take t.1)
                    have h4 := its_length (sNew most) (lb.take off)
                    simp at h1 h2 h3 h4
                    omega
                  clear hst' hit hok hIB hW1 hA keep hRn hO' hAp' hm' hy1
                  generalize W1.putObj lp (.loop r') = W2 at *
                  obtain ⟨⟨c0, c1', c2, c3, c4', c5⟩, _⟩ := hIB1.facts
                  have cB : W2.cell? ⟨w.heap.size + 1, 0, none⟩ = some vo' := by simp [World.cell?, hO1.1]
                  obtain ⟨iI, hi0, hi1, hi2, hi3⟩ := info_six
                  have hnW := new6 W2 (.int .i64 y.2.1.1) (.int .i64 y.2.1.2.1) (.int .i64 y.2.1.2.2.1) (.int .i64 y.2.1.2.2.2) (.slice (adr y.1.1) y.2.2.1.length y.2.2.1.length) (.slice (adr y.1.2) y.2.2.2.length y.2.2.2.length)
                  have hz2 : w.heap.size + 1 < W2.heap.size := (Array.getElem?_eq_some_iff.1 hO1.1).1
                  have HQ := hide (And.intro hRn1 (And.intro hO1 (And.intro hok1 (And.intro hAp1 (And.intro hits' hOw)))))
                  have HI := hide (And.intro hi0 (And.intro hi1 (And.intro hi2 (And.intro hi3 (And.intro hnW hlen)))))
                  clear hRn1 hO1 hok1 hAp1 hits' hOw hi0 hi1 hi2 hi3 hnW hlen hIB1 ho3 hr3 ho3' hr3' ha3 hb3 hs3 hlt2 hvo hO3 hAp3 hv3 hR3 hA3 h33 hlz hO hAp hits hbel hmk hst hv hRlt hC1
                  generalize hPQ : postJ w3.heap.size _ _ BodI t' W2 = Q
                  have HPQ := hide hPQ
                  clear hPQ
                  simp only [encA, Ev.val, itV]
                  gi_wp2_with (gi_at_builtin; refine wpListIn_append_own_at _ rfl (.tmp 66) (.tmp 68) 29 rfl w.heap.size 51 iI (.agg #[.int .i64 0, .int .i64 0, .int .i64 0, .int .i64 0, .slice none 0 0, .slice none 0 0]) 6 80 Try.underlying29 HI.out.1 HI.out.2.1 HI.out.2.2.1 HI.out.2.2.2.1 rfl (by omega) vo' ys'.length (ys'.flatMap Ev.cs) rfl (HQ.out.2.1.2.1.alloc _) ⟨W2.heap.size, 0, none⟩ 1 1 y.cs rfl rfl HI.out.2.2.2.2.1 (one6 y) (by have := HI.out.2.2.2.2.2; unfold maxLen; omega) (by have := HI.out.2.2.2.2.2; omega) (by simp; omega) ?_; intro vn Wn r1 r2 r3 r4; obtain ⟨an, cn, rfl⟩ := row_slice r1; have hB2 := out_box (HQ.out.2.1.alloc _) r2; have cB2 : Wn.cell? ⟨w.heap.size + 1, 0, none⟩ = some vo' := (by simp [World.cell?, hB2]); have fB2 : Wn.frozen? ⟨w.heap.size + 1, 0, none⟩ = false := (by simp [World.frozen?, hB2]); have HR := hide (And.intro r1 (And.intro r2 (And.intro r4 hB2))); clear r1 r2 r3 r4 hB2)
                  rw [← HPQ.out]
                  obtain ⟨hRn1, hO1, hok1, hAp1, hits', hOw⟩ := HQ.out
                  obtain ⟨r1, r2, r4, hB2⟩ := HR.out
                  obtain ⟨p1, p2, p3, p4, p5⟩ := out_append hRn1 hO1 hok1 hAp1 hOw r2 r1 r4 (by omega)
                  exact ⟨p1, t', rfl, p2, _, _, p3, p4, hits', p5⟩
                case done =>
                  rintro D t W' hD hF ⟨hRn, vo', ys', hO', hAp', hm', hOw⟩ hK
                  have hF' : t.1 = ((lb.drop off).take nn).length ∨ ¬ (((sNew most).go (lb.take off)).go (((lb.drop off).take nn).take t.1)).er = 0 := by rw [← hRn.1.2.1]; exact hF
                  have hcat : lb.take (off + nn) = lb.take off ++ (lb.drop off).take nn := by rw [List.take_add]
                  have hsE : t.2 = (sNew most).go (lb.take (off + nn)) := by
                    rw [hcat, go_append, ← go_end _ _ t.1 hF', ← hRn.1.2.1]
                  have hitE : ys'.map (·.2) = (sNew most).its (lb.take (off + nn)) := by
                    rw [hm', hits, its_end _ _ t.1 hF', hcat, its_append]
                  have hst' := hRn.block hv3 ((hb3.block _ (by omega)).trans hst) (by decide) (by decide) (fun h => by
                    rcases h with h | h
                    · omega
                    · obtain ⟨cs, e', _⟩ := own_type hO.2.1 h
                      rw [hst] at e'
                      cases e')
                  have hmk3 : Marks w.heap.size w3 ds := hmk.keep (fun k o _ hk => (hb3.block k (Array.getElem?_eq_some_iff.1 hk).1).trans hk)
                  have hmk' : Marks w.heap.size W' ds := by
                    refine hmk3.keep (fun k o ho hk => ?_)
                    obtain ⟨_, v1, _, _, h6⟩ := hRn
                    refine (h6.2.2.2.2 k (Array.getElem?_eq_some_iff.1 hk).1 (fun hh => ?_)).trans hk
                    rcases hh with h | h | h | h
                    · obtain ⟨cs, ty, f, e, _⟩ := hv3.own_cells (.inl h)
                      rw [hk] at e; cases e; cases ho
                    · obtain ⟨cs, ty, f, e, _⟩ := hv3.own_cells (.inr h)
                      rw [hk] at e; cases e; cases ho
                    · rw [h, hO3.1] at hk; cases hk; cases ho
                    · obtain ⟨cs, e, _⟩ := own_type hO3.2.1 h
                      rw [hk] at e; cases e; cases ho
                  have hmkD := hmk3.cons hmk' hD (by omega) hK
                  obtain ⟨v', hv', _, hX'⟩ := hRn.out (w := w) (hbel.trans (hb3.mono (by omega))) (fun k h => by
                    rcases h with h | h
                    · omega
                    · exact (hvo k h).1)
                  have hbel' : Below w.heap.size w W' := Kp.toBelow hX' (Nat.le_refl _) (fun k hk hh => by
                    rcases hh with h | h | h
                    · omega
                    · have := hv.2.1
                      obtain ⟨_, (⟨rfl, _⟩ | ⟨g, cap, cur, rfl, q1, _⟩)⟩ := this
                      · simp [Value.ownBlock] at h
                      · simp [Value.ownBlock] at h
                        omega
                    · exact h)
                  have HC' : Hid (RunC most lb nc w (off + nn) (i + 1) a3 (c1 - nn) vo' ys' ({ target := .collected D, args := #[] } :: ds) W') := by
                    have hMEq := HME.out
                    refine ⟨⟨by omega, ?_, ?_⟩, ⟨?_, by omega, ?_, ?_⟩, ⟨v', by rw [← hsE]; exact hv'⟩, hO', by rw [← hsE]; exact hAp', hitE, hbel', hmkD, hst'⟩
                    · rcases Nat.lt_or_ge i nc with h | h
                      · omega
                      · have := hgo
                        omega
                    · intro h
                      have : ¬ i < nc := by omega
                      have := hnm this
                      omega
                    · have e1 : lb.length - (off + nn) = m - nn := by omega
                      have e2 : lb.drop (off + nn) = ((lb.drop off).drop nn).take (m - nn) := by
                        rw [List.drop_drop, List.take_of_length_le (by simp; omega)]
                      rw [e1, e2]
                      obtain ⟨g1, g2, g3⟩ := hR3
                      refine ⟨g1, g2, fun hn => ?_⟩
                      obtain ⟨b, o', ea, hb', hc⟩ := g3 hn
                      have hbw : b < w.heap.size := hA3 hn b o' ea
                      refine ⟨b, o', ea, ?_, fun j hj => ?_⟩
                      · have := hbel'.size
                        omega
                      · rw [hbel'.cell (p := ⟨b, o' + j, none⟩) hbw, ← hbel.cell (p := ⟨b, o' + j, none⟩) hbw]
                        exact hc j hj
                    · intro h
                      have h0 := hac (h33 h)
                      omega
                    · intro hn b o e
                      exact hA3 (by omega) b o e
                  have HMU : Hid (i < nc ∨ nn = m) := by
                    rcases Nat.lt_or_ge i nc with h | h
                    · exact .inl h
                    · exact .inr (hnm (by omega))
                  have hii : i + 1 ≤ 140737488351234 := by omega
                  clear hRn hO' hAp' hm' hOw hF hF' hcat hsE hitE hst' hmk3 hmk' hmkD hv' hX' hbel' hK
                  clear ho3 hr3 ho3' hr3' ha3 hb3 hs3 hlt2 hvo hO3 hAp3 hv3 hR3 hA3 h33 hlz hO hAp hits hbel hmk hst hv hRlt hC1
                  have e1 : lb.length - (off + nn) = m - nn := by have := HME.out; omega
                  have e2 : ((i + 1 : Nat) : Int) = (i : Int) + 1 := by omega
                  have HE := hide (And.intro e1 e2)
                  clear e1 e2
                  gi_wp2_with fail
                  refine ⟨?inv, ?mu⟩
                  case inv =>
                    iterate 53 apply Exists.intro
                    refine ⟨{ target := .collected D, args := #[] } :: ds, off + nn, i + 1, a3, c1 - nn, vo', ys', ?_, HC'⟩
                    rw [HE.out.1, HE.out.2]
                  case mu =>
                    change nc - (intOf (.int .i64 ((i : Int) + 1))).toNat + min (lenOf (.slice a3 (m - nn) (c1 - nn))) 1 < nc - (intOf (.int .i64 (i : Int))).toNat + min (lenOf (.slice a1 m c1)) 1
                    have h1 : (intOf (.int .i64 ((i : Int) + 1))).toNat = i + 1 := by simp [intOf]
                    have h2 : (intOf (.int .i64 (i : Int))).toNat = i := by simp [intOf]
                    rw [h1, h2]
                    show nc - (i + 1) + min (m - nn) 1 < nc - i + min m 1
                    have := HMU.out
                    omega
      · have hoffe : off = lb.length := by omega
        obtain ⟨_, _, ⟨v, hv⟩, hO, _, hits, hbel, hmk, hst⟩ := HC.out
        obtain ⟨av, cv, rfl⟩ := hv.slice
        have HCS : Hid (∀ W2, Below wr.heap.size wr W2 → Calls Try.prog 18 #[.pointer (some ⟨w.heap.size + 1 + 1, 0, none⟩)] W2 fun e w' => e = .returned ((sNew most).go lb).st ∧ w'.cell? ⟨w.heap.size + 1, 0, none⟩ = some vo ∧ w'.heap[w.heap.size]? = some (.cells #[.int .i64 0, .int .i64 0, .bool false, .int .i64 0, .int .i64 0] 40 (0, 0)) ∧ Hid (Below wr.heap.size wr w')) := by
          intro W2 hb2
          rw [hoffe, List.take_length] at hv
          refine (state_any _ _ _ _ av _ cv _ _ _ _ _ W2 ((hb2.block _ hv.1.lt).trans hv.1)).mono ?_
          rintro e w' ⟨rfl, hb'⟩
          have hbb : Below wr.heap.size wr w' := hb2.trans (hb'.mono hb2.size)
          refine ⟨rfl, ?_, (hbb.block _ (Array.getElem?_eq_some_iff.1 hst).1).trans hst, hbb⟩
          simp [World.cell?, (hbb.block _ (Array.getElem?_eq_some_iff.1 hO.1).1).trans hO.1]
        have hcO : wr.cell? ⟨w.heap.size + 1, 0, none⟩ = some vo := by simp [World.cell?, hO.1]
        have HH := hide (And.intro hO (And.intro hits (And.intro hbel hmk)))
        have HHo := hide hoffe
        clear HC hv hO hits hbel hmk hst hoffe
        have hmx : Try.prog.follows .mixedOrders = true := by kernel_rfl
        gi_wp2_with fail
        obtain ⟨sa, sb, sc, sd, se, hSS⟩ : ∃ (sa sb : Int) (sc : Bool) (sd se : Int), ((sNew most).go lb).st = .agg #[.int .i64 sa, .int .i64 sb, .bool sc, .int .i64 sd, .int .i64 se] := ⟨_, _, _, _, _, rfl⟩
        rw [hSS] at HCS
        have HSS := hide hSS
        clear hSS
        generalize hQQ : Exit.then _ (bodyPostM _ _ _ _ _) = QQ
        refine wpIn_mono (Q := onlyN QQ) ?_ onlyN_out
        gi_region_with_o ((try refine ⟨trivial, hdd _, ?_⟩); gi_at_call 18; refine (callsIn_wide.2 (HCS.out _ (by first | exact Below.refl _ _ | exact (Below.refl _ _).drew | exact (Below.refl _ _).drew.drew))).mono ?_; rintro e w5 ⟨rfl, hc5, hs5, HB5⟩; obtain ⟨z0, z1, z2, z3, z4, y0, y1, y2, y3, y4⟩ := st_facts hs5)
        all_goals simp only [onlyN]
        all_goals rw [← hQQ]
        all_goals clear hQQ
        all_goals gi_wp2_with fail
        all_goals
          obtain ⟨hO, hits, hbel, hmk⟩ := HH.out
          exact run_end (wr := wr) (ys := ys) HM.out rfl rfl rfl hO (by rw [hits, HHo.out, List.take_length]) hbel hmk hs5 HB5.out HSS.out
  · refine (callsIn_wide.2 (new_no most _ hm)).mono ?_
    rintro e w2 ⟨rfl, rfl⟩
    have HM := hide hm
    have HB : Hid (Below w.heap.size w ((w.alloc (.cells #[.int .i64 0, .int .i64 0, .bool false, .int .i64 0, .int .i64 0] 40)).alloc (.cells #[.slice none 0 0] 29))) := ((Below.refl _ _).alloc (Nat.le_refl _) _).alloc (by simp) _
    gi_wp2_with fail
    refine ⟨.tuple #[.slice none 0 0, .agg #[.int .i64 0, .int .i64 0, .bool false, .int .i64 0, .int .i64 0], .bool true], by simp [results, Try.f13, go_sem], HB.out, [], .slice none 0 0, World.ownsRow_nil _ _ _ _, (fun y h => by cases h), fun h => absurd h HM.out, fun _ => ⟨rfl, rfl⟩⟩
end Go.Proofs.Ytaijcnkmklibcaa
