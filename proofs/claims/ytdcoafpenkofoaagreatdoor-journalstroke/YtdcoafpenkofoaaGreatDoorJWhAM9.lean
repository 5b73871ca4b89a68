import Derived.Test.YtdcoafpenkofoaaGreatDoorJLstM9
import Derived.Test.YtdcoafpenkofoaaGreatDoorJAsFM9
import Derived.RegionIn
import Derived.BigRegionIn

/- Stage 20: a log's whole batches: what a round leaves. -/
namespace Go.Proofs.YtdcoafpenkofoaaGreatDoor
open Go.RowKit Go.Shelf
set_option linter.unusedVariables false
set_option linter.unusedSimpArgs false
attribute [local go_sem] Oper.semAt_some
/-- the handle of the type error stands where it must -/
def Er (w : World) : Prop := w.cell? ⟨0, 0, none⟩ = some (.iface 187 (.agg #[.pointer (some ⟨2, 78, none⟩)]))
theorem Er.below {w w' : World} (h : Er w) (hb : Below w.heap.size w w') : Er w' := (hb.cell (p := ⟨0, 0, none⟩) (block_lt_of_cell h)).trans h
theorem batchesOf_any (a : Option Addr) (n c : Nat) (w : World) : Calls Tryz.prog 77 #[.slice a n c] w fun e w' => e = .returned (.func (.func 116) #[] #[.pointer (some ⟨w.heap.size, 0, none⟩)]) ∧ w' = w.alloc (.cells #[.slice a n c] 23) := by
  go_enter Tryz.func77, Tryz.ntmps77
  go_wp2
  go_ret
  exact ⟨rfl, rfl⟩
/-- what whole tells -/
def WhP (base : Nat) (g : Addr) (l : List Nat) (e : Ending) (w' : World) : Prop := ∃ v Z er, e = .returned (.tuple #[v, .int .i64 ((wl l).2.1 : Int), er]) ∧ Wy AK w' base v Z ∧ ToldL base w' Z ∧ batches Z = (wl l).1 ∧ (((wl l).2.2 = 0 ∧ er = .nilIface) ∨ ((wl l).2.2 ≠ 0 ∧ ∃ p, er = ftV p ∧ base ≤ p ∧ w'.heap[p]? = some (.cells (fltA g (wl l).2.1 (wl l).2.2) 134 (0, 0))))
/-- ahead of a round: wS where the range began, b the variable's block -/
def IW (wS : World) (b : Nat) (l : List Nat) (t : Nat × Nat) (W : World) : Prop :=
  t.2 = 0 ∧ t.1 ≤ l.length ∧ Kp (fun k => k = b) wS W ∧ ∃ v Z, W.heap[b]? = some (.cells #[v] 24 (0, 0)) ∧ Wy AK W wS.heap.size v Z ∧ ToldL wS.heap.size W Z ∧
    batches Z ++ (wl (l.drop t.1)).1 = (wl l).1 ∧ t.1 + (wl (l.drop t.1)).2.1 = (wl l).2.1 ∧ (wl (l.drop t.1)).2.2 = (wl l).2.2 ∧ Z.length * 17 ≤ t.1
/-- behind a range that a fault has left; B the first result's block -/
def XW (wS : World) (B : Nat) (g : Addr) (l : List Nat) (W : World) : Prop :=
  Kp (fun k => B ≤ k) wS W ∧ (wl l).2.2 ≠ 0 ∧ ∃ v Z p, W.heap[B]? = some (.cells #[v] 24 (0, 0)) ∧ W.heap[B + 1]? = some (.cells #[.int .i64 ((wl l).2.1 : Int)] 3 (0, 0)) ∧ W.heap[B + 2]? = some (.cells #[ftV p] 78 (0, 0)) ∧
    B ≤ p ∧ W.heap[p]? = some (.cells (fltA g (wl l).2.1 (wl l).2.2) 134 (0, 0)) ∧ Wy AK W wS.heap.size v Z ∧ ToldL wS.heap.size W Z ∧ batches Z = (wl l).1
theorem Wy.cells {A : Type} {K : WK A} {w w' : World} {base : Nat} {v : Value} {W : List A} (h : Wy K w base v W) (hk : ∀ k cs f, base ≤ k → w.heap[k]? = some (.cells cs K.t f) → w'.heap[k]? = w.heap[k]?) : Wy K w' base v W :=
  h.at fun k e => by
    obtain ⟨cur, h1⟩ := h.typ e
    exact hk k cur _ (h.lt e).1 h1
/-- cells stay where what turns is none -/
theorem cells_stay {A A2 : World} {row : Option Nat} (hg : A.grownBy A2 row) (hr : ∀ r, row = some r → ∃ o : Obj, A.heap[r]? = some o ∧ o.isCells = false) {k : Nat} {cs : Array Value} {ty : TypeId} {f : Nat × Nat} (hk : A.heap[k]? = some (Obj.cells cs ty f)) : A2.heap[k]? = A.heap[k]? := by
  refine hg.block k (Array.getElem?_eq_some_iff.1 hk).1 (fun e => ?_)
  obtain ⟨o, e1, e2⟩ := hr k e.symm
  rw [hk] at e1
  cases e1
  cases e2
theorem IW.own (wS : World) (b : Nat) (l : List Nat) : OwnFrom wS.heap.size (IW wS b l) := by
  rintro t A A2 row ⟨h1, h2, h3, v, Z, h4, h5, h6, h7⟩ hg hr
  have hst : ∀ k cs ty f, A.heap[k]? = some (Obj.cells cs ty f) → A2.heap[k]? = A.heap[k]? := fun k cs ty f hk => cells_stay hg (fun r e => (hr r e).2) hk
  exact ⟨h1, h2, h3.grown hg (fun j e => .inr (hr j e).1), v, Z, (hst _ _ _ _ h4).trans h4, h5.cells (fun k cs f _ hk => hst k _ _ _ hk), h6.keep (fun k cs t f _ hk _ => hst k _ _ _ hk), h7⟩
theorem XW.own (wS : World) (B : Nat) (g : Addr) (l : List Nat) (c : Code) : OwnFrom wS.heap.size (fun (_ : Unit) W => c = .ret ∧ XW wS B g l W) := by
  rintro t A A2 row ⟨h0, h1, h2, v, Z, p, h3, h4, h5, hp, h6, h7, h8, h9⟩ hg hr
  have hst : ∀ k cs ty f, A.heap[k]? = some (Obj.cells cs ty f) → A2.heap[k]? = A.heap[k]? := fun k cs ty f hk => cells_stay hg (fun r e => (hr r e).2) hk
  exact ⟨h0, h1.grown hg (fun j e => .inr (hr j e).1), h2, v, Z, p, (hst _ _ _ _ h3).trans h3, (hst _ _ _ _ h4).trans h4, (hst _ _ _ _ h5).trans h5, hp, (hst _ _ _ _ h6).trans h6, h7.cells (fun k cs f _ hk => hst k _ _ _ hk), h8.keep (fun k cs t f _ hk _ => hst k _ _ _ hk), h9⟩
theorem XW.put {wS W : World} {B : Nat} {g : Addr} {l : List Nat} (h : XW wS B g l W) {D : Nat} {o : Obj} (hD : wS.heap.size ≤ D) (hW : W.heap[D]? = some o) (ho : o.isCells = false) (o' : Obj) : XW wS B g l (W.putObj D o') :=
  ((XW.own wS B g l .ret).putObj (s := ()) o' ⟨rfl, h⟩ hD hW ho).2
theorem frozen_ofJ {w : World} {n : Nat} {cs : Array Value} {t : TypeId} (h : w.heap[n]? = some (.cells cs t (0, 0))) (o : Nat) : w.frozen? ⟨n, o, none⟩ = false := by simp [World.frozen?, h]
theorem frozen_new (w : World) (cs : Array Value) (t : TypeId) : (w.alloc (.cells cs t)).frozen? ⟨w.heap.size, 0, none⟩ = false := frozen_ofJ (heap_new w _) 0
theorem cell_set {w : World} {b : Nat} {v0 : Value} {t : TypeId} {f : Nat × Nat} (h : w.heap[b]? = some (.cells #[v0] t f)) (v : Value) : (w.setCell ⟨b, 0, none⟩ v).cell? ⟨b, 0, none⟩ = some v := by
  have : (w.setCell ⟨b, 0, none⟩ v).heap[b]? = some (.cells #[v] t f) := by simp [World.setCell, Array.getElem?_modify, h]
  exact cellOf this 0 _ rfl
theorem fin_whole {w1 W2 w3 W4 : World} {B p : Nat} {g : Addr} {l : List Nat} {t : Nat × Nat} {va : Option Addr} {vc : Nat} {Z : List Bt} {q : Nat}
    (hb : Below W2.heap.size W2 w3) (hH : Kp (fun k => k = B + 3) w1 W2 ∧ W2.heap[B + 3]? = some (.cells #[.slice va Z.length vc] 24 (0, 0)) ∧ Wy AK W2 w1.heap.size (.slice va Z.length vc) Z ∧ ToldL w1.heap.size W2 Z ∧ W2.heap[p]? = some (.cells (fltA g t.1 (fst1 (l.drop t.1)).1) 134 (0, 0)) ∧ q ≤ W2.heap.size ∧ w1.heap.size ≤ q)
    (hZ : batches Z ++ ([] : List (List (List Nat))) = (wl l).1 ∧ t.1 + 0 = (wl l).2.1 ∧ (fst1 (l.drop t.1)).1 = (wl l).2.2 ∧ (fst1 (l.drop t.1)).1 ≠ 0)
    (m0 : w3.heap[B]? = some (.cells #[.slice none 0 0] 24 (0, 0))) (m1 : w3.heap[B + 1]? = some (.cells #[.int .i64 0] 3 (0, 0))) (m2 : w3.heap[B + 1 + 1]? = some (.cells #[.nilIface] 78 (0, 0))) (hs : w1.heap.size = B + 5) (hp : w1.heap.size ≤ p)
    (e1 : W4.heap = (((w3.setCell ⟨B, 0, none⟩ (.slice va Z.length vc)).setCell ⟨B + 1, 0, none⟩ (.int .i64 (t.1 : Int))).setCell ⟨B + 1 + 1, 0, none⟩ (ftV p)).heap) (e2 : W4.os = w3.os) (e3 : W4.tape = w3.tape) (e4 : W4.output = w3.output) :
    KpB w1.heap.size W2 W4 ∧ Code.ret = Code.ret ∧ XW w1 B g l W4 := by
  obtain ⟨h1, h2, h3, h4, h5, h6, h7⟩ := hH
  obtain ⟨z1, z2, z3, z4⟩ := hZ
  have hk3 : KpB w1.heap.size W2 (((w3.setCell ⟨B, 0, none⟩ (.slice va Z.length vc)).setCell ⟨B + 1, 0, none⟩ (.int .i64 (t.1 : Int))).setCell ⟨B + 1 + 1, 0, none⟩ (ftV p)) := (((KpB.of_below hb).set (by omega) _ _).set (by omega) _ _).set (by omega) _ _
  have hoth : ∀ k, k ≠ B → k ≠ B + 1 → k ≠ B + 1 + 1 → W4.heap[k]? = w3.heap[k]? := fun k a1 a2 a3 => by
    rw [e1]
    exact (blk_set_other _ ⟨B + 1 + 1, 0, none⟩ _ k a3).trans ((blk_set_other _ ⟨B + 1, 0, none⟩ _ k a2).trans (blk_set_other _ ⟨B, 0, none⟩ _ k a1))
  have g0 : W4.heap[B]? = some (.cells #[.slice va Z.length vc] 24 (0, 0)) := by
    rw [e1, blk_set_other _ ⟨B + 1 + 1, 0, none⟩ _ B (by show B ≠ B + 1 + 1; omega), blk_set_other _ ⟨B + 1, 0, none⟩ _ B (by show B ≠ B + 1; omega)]
    simp [World.setCell, Array.getElem?_modify, m0]
  have g1 : W4.heap[B + 1]? = some (.cells #[.int .i64 (t.1 : Int)] 3 (0, 0)) := by
    rw [e1, blk_set_other _ ⟨B + 1 + 1, 0, none⟩ _ (B + 1) (by show B + 1 ≠ B + 1 + 1; omega)]
    have : (w3.setCell ⟨B, 0, none⟩ (.slice va Z.length vc)).heap[B + 1]? = _ := (blk_set_other _ ⟨B, 0, none⟩ _ (B + 1) (by show B + 1 ≠ B; omega)).trans m1
    generalize w3.setCell ⟨B, 0, none⟩ (.slice va Z.length vc) = X at this ⊢
    simp [World.setCell, Array.getElem?_modify, this]
  have g2 : W4.heap[B + 1 + 1]? = some (.cells #[ftV p] 78 (0, 0)) := by
    rw [e1]
    have : ((w3.setCell ⟨B, 0, none⟩ (.slice va Z.length vc)).setCell ⟨B + 1, 0, none⟩ (.int .i64 (t.1 : Int))).heap[B + 1 + 1]? = _ := (blk_set_other _ ⟨B + 1, 0, none⟩ _ (B + 1 + 1) (by show B + 1 + 1 ≠ B + 1; omega)).trans ((blk_set_other _ ⟨B, 0, none⟩ _ (B + 1 + 1) (by show B + 1 + 1 ≠ B; omega)).trans m2)
    generalize (w3.setCell ⟨B, 0, none⟩ (.slice va Z.length vc)).setCell ⟨B + 1, 0, none⟩ (.int .i64 (t.1 : Int)) = X at this ⊢
    simp [World.setCell, Array.getElem?_modify, this]
  have hlt : ∀ k, w1.heap.size ≤ k → k < W2.heap.size → W4.heap[k]? = W2.heap[k]? := fun k a1 a2 => (hoth k (by omega) (by omega) (by omega)).trans (hb.block k a2)
  have ht : t.1 = (wl l).2.1 := by omega
  refine ⟨⟨?_, fun k o hk1 hk2 hk3' => ?_⟩, rfl, ?_, by rw [← z3]; exact z4, .slice va Z.length vc, Z, p, g0, by rw [← ht]; exact g1, g2, by omega, ?_, h3.cells (fun k cs f hk _ => ?_), h4.keep (fun k cs ty f hk hk' _ => ?_), by rw [← z1, List.append_nil]⟩
  · have := hk3.1; rw [e1]; exact this
  · have := hk3.2 k o hk1 hk2 hk3'
    rw [e1]; exact this
  · obtain ⟨q1, q2, q3, q4, q5⟩ := h1
    have hz : W4.heap.size = w3.heap.size := by rw [e1]; simp
    refine ⟨e2.trans (hb.os.trans q1), e3.trans (hb.tape.trans q2), e4.trans (hb.output.trans q3), by rw [hz]; exact Nat.le_trans q4 hb.size, fun k hk1 hk2 => ?_⟩
    exact (hoth k (by omega) (by omega) (by omega)).trans ((hb.block k (by omega)).trans (q5 k hk1 (by omega)))
  · rw [hlt p hp (Array.getElem?_eq_some_iff.1 h5).1, h5, ← ht, ← z3]
  · exact hlt k hk (Array.getElem?_eq_some_iff.1 (by assumption)).1
  · exact hlt k hk (Array.getElem?_eq_some_iff.1 hk').1
def actW (a : Option Addr) (n cap B : Nat) (x : Value × Value) : Act := { tmps := #[.slice a n cap, undef, .pointer (some ⟨B, 0, none⟩), .pointer (some ⟨B + 1, 0, none⟩), .pointer (some ⟨B + 1 + 1, 0, none⟩), .pointer (some ⟨B + 1 + 1 + 1, 0, none⟩), x.1, x.2, undef, .slice a n cap, .func (.func 116) #[] #[.pointer (some ⟨B + 1 + 1 + 1 + 1, 0, none⟩)], x.1, x.2, undef, undef, undef, undef, undef, undef, undef, undef, undef, undef, undef, undef, undef, undef, undef, undef], defers := [] }
theorem wpListIn_append_way {A : Type} {K : WK A} (hK : K.Ok) {F : Fence} {n : Nat} {ops : Array Oper} {rest : List Oper} {o : Oper} {a : Act} {Q : Exit → Act → World → Prop} (w : World) (hg : o.guard = none) (s y : Operand) (ho : o.op = .call { callee := .builtin .append, args := #[s, y], argTypes := #[K.ts, K.ts] }) (base : Nat) (v : Value) (W : List A) (x : A) (hs : a.eval s = v) (hw : Wy K w base v W) (B c : Nat) (hy : a.eval y = .slice (some ⟨B, 0, none⟩) 1 c) (hB : w.heap[B]? = some (.cells ⟨K.enc x⟩ K.t (0, 0))) (hb : base ≤ w.heap.size) (hn : (W.length + 1) * K.bs ≤ 140737488355328)
    (h : ∀ v' w', Wy K w' base v' (W ++ [x]) → w.grownBy w' v.ownBlock → ((∃ g off cap, v = .slice (some ⟨g, off, none⟩) W.length cap ∧ v' = .slice (some ⟨g, off, none⟩) (W.length + 1) cap) ∨ ((∀ k, v'.ownBlock = some k → w.heap.size ≤ k) ∧ w.grownBy w' none)) → wpListIn F n Tryz.prog ops Q rest (a.put o.dst v') w') : wpListIn F n Tryz.prog ops Q (o :: rest) a w := by
  refine wpListIn_plain hg fun J hJ => ?_
  obtain ⟨v', w', hr, h2, h3, h4⟩ := run_append_way hK w o.type base v W x hw B c hB hb hn
  unfold Oper.wpIn
  refine ⟨?_, ?_⟩
  · simp [Oper.about, ho, resolve, Target.leads, Sem.run_pure]
  · rw [Oper.semAt_plain F _ _ (by rw [ho]; intro c hc'; cases hc')]
    simp [execOp, ho, resolve, invoke, builtin, hs, hy, hr, Result.andThen]
    exact hJ _ _ (h v' w' h2 h3 h4)
theorem nil_whole (fb : Nat) (W : World) : Calls Tryz.prog 78 #[.nilIface, .iface 132 (.pointer (some ⟨fb, 0, none⟩))] W fun e w' => e = .returned (.bool false) ∧ w' = W := AsF.as_nil _ W
/-- one batch more -/
theorem fin_next {w1 W2 w5 : World} {B q : Nat} {l : List Nat} {t : Nat × Nat} {va : Option Addr} {vc : Nat} {Z : List Bt} {Wb : List Rc} {vb v5 : Value} {o1 o2 : Obj}
    (hH : Kp (fun k => k = B + 3) w1 W2 ∧ W2.heap[B + 3]? = some (.cells #[.slice va Z.length vc] 24 (0, 0)) ∧ Wy AK W2 w1.heap.size (.slice va Z.length vc) Z ∧ ToldL w1.heap.size W2 Z ∧ w1.heap.size ≤ q ∧ (∀ z ∈ Z, ∀ g, z.2.ownBlock = some g → g < q) ∧ (∀ z ∈ Z, ∀ o ∈ z.1, ∀ g, o.2.ownBlock = some g → g < q) ∧ Wy BK W2 q vb Wb ∧ ToldR q W2 Wb ∧ q ≤ W2.heap.size ∧ Wb.map (·.1) = (fst1 (l.drop t.1)).2.1)
    (hZ : batches Z ++ ((fst1 (l.drop t.1)).2.1 :: (wl (l.drop (t.1 + (fst1 (l.drop t.1)).2.2))).1) = (wl l).1 ∧ t.1 + ((fst1 (l.drop t.1)).2.2 + (wl (l.drop (t.1 + (fst1 (l.drop t.1)).2.2))).2.1) = (wl l).2.1 ∧ (wl (l.drop (t.1 + (fst1 (l.drop t.1)).2.2))).2.2 = (wl l).2.2 ∧ Z.length * 17 ≤ t.1 ∧ 17 ≤ (fst1 (l.drop t.1)).2.2 ∧ t.1 + (fst1 (l.drop t.1)).2.2 ≤ l.length)
    (hs : w1.heap.size = B + 5) (hw5 : Wy AK w5 w1.heap.size v5 (Z ++ [(Wb, vb)])) (hg5 : ((W2.alloc o1).alloc o2).grownBy w5 (Value.slice va Z.length vc).ownBlock) :
    KpB w1.heap.size W2 (w5.setCell ⟨B + 3, 0, none⟩ v5) ∧ ∃ t', t' = (t.1 + (fst1 (l.drop t.1)).2.2, 0) ∧ IW w1 (B + 3) l t' (w5.setCell ⟨B + 3, 0, none⟩ v5) := by
  obtain ⟨h1, h2, h3, h4, h5, h6, h7, h8, h9, h10, h11⟩ := hH
  obtain ⟨z1, z2, z3, z4, z5, z6⟩ := hZ
  have hw1 := h1.size
  have hba : Below W2.heap.size W2 ((W2.alloc o1).alloc o2) := bel1 (bel1 (Below.refl _ _) (Nat.le_refl _) _) (by simp only [World.size_alloc]; omega) _
  have hrow : ∀ k, (Value.slice va Z.length vc).ownBlock = some k → w1.heap.size ≤ k ∧ ∃ cur, W2.heap[k]? = some (.cells cur 29 (0, 0)) := fun k hk => ⟨(h3.lt hk).1, h3.typ hk⟩
  -- what is no row of batches stays
  have hst : ∀ k cs ty f, W2.heap[k]? = some (Obj.cells cs ty f) → ty ≠ 29 → w5.heap[k]? = W2.heap[k]? := fun k cs ty f hk hty => by
    have hlt := (Array.getElem?_eq_some_iff.1 hk).1
    refine (hg5.block k (by have := hba.size; omega) (fun e => ?_)).trans (hba.block k hlt)
    obtain ⟨_, cur, hc⟩ := hrow k e.symm
    rw [hk] at hc
    simp at hc
    exact hty hc.2.1
  have hb5 : w5.heap[B + 3]? = some (.cells #[.slice va Z.length vc] 24 (0, 0)) := (hst _ _ _ _ h2 (by decide)).trans h2
  have hset : ∀ k, k ≠ B + 3 → (w5.setCell ⟨B + 3, 0, none⟩ v5).heap[k]? = w5.heap[k]? := fun k hk => blk_set_other _ ⟨B + 3, 0, none⟩ _ k hk
  have hb6 : (w5.setCell ⟨B + 3, 0, none⟩ v5).heap[B + 3]? = some (.cells #[v5] 24 (0, 0)) := by simp [World.setCell, Array.getElem?_modify, hb5]
  have hsz5 : W2.heap.size ≤ w5.heap.size := Nat.le_trans hba.size hg5.size
  have k5 : Kp (fun k => k = B + 3) w1 w5 := (h1.below hba).grown hg5 (fun j hj => .inr (hrow j hj).1)
  have hst6 : ∀ k cs ty f, w1.heap.size ≤ k → W2.heap[k]? = some (Obj.cells cs ty f) → ty ≠ 29 → (w5.setCell ⟨B + 3, 0, none⟩ v5).heap[k]? = W2.heap[k]? := fun k cs ty f hk hk' hty => (hset k (by omega)).trans (hst k cs ty f hk' hty)
  refine ⟨⟨by simp; omega, fun k o hk ho hko => ?_⟩, _, rfl, rfl, z6, k5.setCell rfl _, v5, Z ++ [(Wb, vb)], hb6, hw5.cells (fun k cs f hk _ => hset k (by omega)), ?_, ?_, ?_, z3, ?_⟩
  · have hlt := (Array.getElem?_eq_some_iff.1 hko).1
    refine (hset k (by omega)).trans (((hg5.block k (by have := hba.size; omega) (fun e => ?_)).trans (hba.block k hlt)).trans hko)
    obtain ⟨_, cur, hc⟩ := hrow k e.symm
    rw [hko] at hc
    simp only [Option.some.injEq] at hc
    exact (ho _ _).1 hc
  · have t4 : ToldL w1.heap.size (w5.setCell ⟨B + 3, 0, none⟩ v5) Z := h4.keep fun k cs ty f hk hk' hty => hst6 k cs ty f hk hk' (by rcases hty with rfl | rfl <;> decide)
    have w8 : Wy BK (w5.setCell ⟨B + 3, 0, none⟩ v5) w1.heap.size vb Wb := (h8.mono h5).cells (fun k cs f hk hk' => hst6 k cs _ f hk hk' (by decide))
    have r9 : ToldR w1.heap.size (w5.setCell ⟨B + 3, 0, none⟩ v5) Wb := (h9.mono h5).keep (fun o ho g hg => by
      obtain ⟨cs, f, hc⟩ := (h9.own o ho).blk hg
      exact hst6 g cs _ f (Nat.le_trans h5 ((h9.own o ho).lt g hg).1) hc (by decide))
    exact t4.push w8 r9 (fun g hg => (h8.lt hg).1) (fun o ho g hg => ((h9.own o ho).lt g hg).1) h6 h7
  · show batches (Z ++ [(Wb, vb)]) ++ _ = _
    rw [← z1]
    simp only [batches, List.map_append, List.map_cons, List.map_nil, h11, List.append_assoc, List.cons_append, List.nil_append]
  · show t.1 + (fst1 (l.drop t.1)).2.2 + (wl (l.drop (t.1 + (fst1 (l.drop t.1)).2.2))).2.1 = _
    omega
  · simp only [List.length_append, List.length_cons, List.length_nil]
    omega
theorem results_three {P : Program} {fn : Func} {p q u : Tmp} {t1 t2 t3 : TypeId} {tmps : Array Value} {w : World} {b1 b2 b3 : Nat} {v1 v2 v3 : Value} (h : fn.results = #[.cell p t1, .cell q t2, .cell u t3]) (hp : tmps.getD p undef = .pointer (some ⟨b1, 0, none⟩)) (hq : tmps.getD q undef = .pointer (some ⟨b2, 0, none⟩)) (hu : tmps.getD u undef = .pointer (some ⟨b3, 0, none⟩))
    (c1 : w.cell? ⟨b1, 0, none⟩ = some v1) (c2 : w.cell? ⟨b2, 0, none⟩ = some v2) (c3 : w.cell? ⟨b3, 0, none⟩ = some v3) (a1 : ∀ W, (isAgg t1).run P W = .ok false W) (a2 : ∀ W, (isAgg t2).run P W = .ok false W) (a3 : ∀ W, (isAgg t3).run P W = .ok false W) : (results fn tmps).run P w = .ok (.tuple #[v1, v2, v3]) w := by
  have hp' : tmps[p]?.getD undef = .pointer (some ⟨b1, 0, none⟩) := by simpa using hp
  have hq' : tmps[q]?.getD undef = .pointer (some ⟨b2, 0, none⟩) := by simpa using hq
  have hu' : tmps[u]?.getD undef = .pointer (some ⟨b3, 0, none⟩) := by simpa using hu
  simp [results, h, hp', hq', hu', asAddr, loadVar, a1, a2, a3, c1, c2, c3, Result.andThen]
theorem done_whole {w1 W' : World} {B D : Nat} {g : Addr} {l : List Nat} {va : Option Addr} {vc : Nat} {Z : List Bt} (hs : w1.heap.size = B + 5) (hK : W'.heap[D]? = some (.deferred (some []))) (hD : w1.heap.size ≤ D)
    (m0 : W'.heap[B]? = some (.cells #[.slice none 0 0] 24 (0, 0))) (m1 : W'.heap[B + 1]? = some (.cells #[.int .i64 0] 3 (0, 0))) (m2 : W'.heap[B + 1 + 1]? = some (.cells #[.nilIface] 78 (0, 0)))
    (hk : Kp (fun k => k = B + 3) w1 W') (hwy : Wy AK W' w1.heap.size (.slice va Z.length vc) Z) (htz : ToldL w1.heap.size W' Z) (z1 : batches Z = (wl l).1) (z2 : l.length = (wl l).2.1) (z3 : (wl l).2.2 = 0) :
    (((W'.setCell ⟨B, 0, none⟩ (.slice va Z.length vc)).setCell ⟨B + 1, 0, none⟩ (.int .i64 (l.length : Int))).setCell ⟨B + 1 + 1, 0, none⟩ .nilIface).heap[D]? = some (.deferred (some [])) ∧
    ((((W'.setCell ⟨B, 0, none⟩ (.slice va Z.length vc)).setCell ⟨B + 1, 0, none⟩ (.int .i64 (l.length : Int))).setCell ⟨B + 1 + 1, 0, none⟩ .nilIface).putObj D (.deferred none)).cell? ⟨B, 0, none⟩ = some (.slice va Z.length vc) ∧
    ((((W'.setCell ⟨B, 0, none⟩ (.slice va Z.length vc)).setCell ⟨B + 1, 0, none⟩ (.int .i64 (l.length : Int))).setCell ⟨B + 1 + 1, 0, none⟩ .nilIface).putObj D (.deferred none)).cell? ⟨B + 1, 0, none⟩ = some (.int .i64 (l.length : Int)) ∧
    ((((W'.setCell ⟨B, 0, none⟩ (.slice va Z.length vc)).setCell ⟨B + 1, 0, none⟩ (.int .i64 (l.length : Int))).setCell ⟨B + 1 + 1, 0, none⟩ .nilIface).putObj D (.deferred none)).cell? ⟨B + 1 + 1, 0, none⟩ = some .nilIface ∧
    Wy AK ((((W'.setCell ⟨B, 0, none⟩ (.slice va Z.length vc)).setCell ⟨B + 1, 0, none⟩ (.int .i64 (l.length : Int))).setCell ⟨B + 1 + 1, 0, none⟩ .nilIface).putObj D (.deferred none)) w1.heap.size (.slice va Z.length vc) Z ∧
    ToldL w1.heap.size ((((W'.setCell ⟨B, 0, none⟩ (.slice va Z.length vc)).setCell ⟨B + 1, 0, none⟩ (.int .i64 (l.length : Int))).setCell ⟨B + 1 + 1, 0, none⟩ .nilIface).putObj D (.deferred none)) Z ∧
    Kp (fun k => B ≤ k) w1 ((((W'.setCell ⟨B, 0, none⟩ (.slice va Z.length vc)).setCell ⟨B + 1, 0, none⟩ (.int .i64 (l.length : Int))).setCell ⟨B + 1 + 1, 0, none⟩ .nilIface).putObj D (.deferred none)) := by
  have hw1 := hk.size
  obtain ⟨X, hX⟩ : ∃ X, ((W'.setCell ⟨B, 0, none⟩ (.slice va Z.length vc)).setCell ⟨B + 1, 0, none⟩ (.int .i64 (l.length : Int))).setCell ⟨B + 1 + 1, 0, none⟩ .nilIface = X := ⟨_, rfl⟩
  have hoth : ∀ k, k ≠ B → k ≠ B + 1 → k ≠ B + 1 + 1 → X.heap[k]? = W'.heap[k]? := fun k a1 a2 a3 => by
    rw [← hX]
    exact (blk_set_other _ ⟨B + 1 + 1, 0, none⟩ _ k a3).trans ((blk_set_other _ ⟨B + 1, 0, none⟩ _ k a2).trans (blk_set_other _ ⟨B, 0, none⟩ _ k a1))
  have g0 : X.heap[B]? = some (.cells #[.slice va Z.length vc] 24 (0, 0)) := by
    rw [← hX, blk_set_other _ ⟨B + 1 + 1, 0, none⟩ _ B (by show B ≠ B + 1 + 1; omega), blk_set_other _ ⟨B + 1, 0, none⟩ _ B (by show B ≠ B + 1; omega)]
    simp [World.setCell, Array.getElem?_modify, m0]
  have g1 : X.heap[B + 1]? = some (.cells #[.int .i64 (l.length : Int)] 3 (0, 0)) := by
    rw [← hX, blk_set_other _ ⟨B + 1 + 1, 0, none⟩ _ (B + 1) (by show B + 1 ≠ B + 1 + 1; omega)]
    have : (W'.setCell ⟨B, 0, none⟩ (.slice va Z.length vc)).heap[B + 1]? = _ := (blk_set_other _ ⟨B, 0, none⟩ _ (B + 1) (by show B + 1 ≠ B; omega)).trans m1
    generalize W'.setCell ⟨B, 0, none⟩ (.slice va Z.length vc) = Y at this ⊢
    simp [World.setCell, Array.getElem?_modify, this]
  have g2 : X.heap[B + 1 + 1]? = some (.cells #[.nilIface] 78 (0, 0)) := by
    rw [← hX]
    have : ((W'.setCell ⟨B, 0, none⟩ (.slice va Z.length vc)).setCell ⟨B + 1, 0, none⟩ (.int .i64 (l.length : Int))).heap[B + 1 + 1]? = _ := (blk_set_other _ ⟨B + 1, 0, none⟩ _ (B + 1 + 1) (by show B + 1 + 1 ≠ B + 1; omega)).trans ((blk_set_other _ ⟨B, 0, none⟩ _ (B + 1 + 1) (by show B + 1 + 1 ≠ B; omega)).trans m2)
    generalize (W'.setCell ⟨B, 0, none⟩ (.slice va Z.length vc)).setCell ⟨B + 1, 0, none⟩ (.int .i64 (l.length : Int)) = Y at this ⊢
    simp [World.setCell, Array.getElem?_modify, this]
  have gD : X.heap[D]? = some (.deferred (some [])) := (hoth D (by omega) (by omega) (by omega)).trans hK
  have hkX : Kp (fun k => B ≤ k) w1 X := by
    rw [← hX]
    exact (((hk.mono (fun k e => by omega)).setCell (Nat.le_refl _) _).setCell (by omega) _).setCell (by omega) _
  rw [hX]
  have hput : ∀ k, k ≠ D → (X.putObj D (.deferred none)).heap[k]? = X.heap[k]? := fun k hk => World.putObj_heap_other hk
  have hcs : ∀ k cs ty f, w1.heap.size ≤ k → W'.heap[k]? = some (Obj.cells cs ty f) → (X.putObj D (.deferred none)).heap[k]? = W'.heap[k]? := fun k cs ty f hk hk' =>
    (hput k (fun e => by subst e; rw [hK] at hk'; cases hk')).trans (hoth k (by omega) (by omega) (by omega))
  refine ⟨gD, cellOf ((hput B (by omega)).trans g0) 0 _ rfl, cellOf ((hput (B + 1) (by omega)).trans g1) 0 _ rfl, cellOf ((hput (B + 1 + 1) (by omega)).trans g2) 0 _ rfl, hwy.cells (fun k cs f hk hk' => hcs k _ _ _ hk hk'), htz.keep (fun k cs t f hk hk' _ => hcs k _ _ _ hk hk'), ?_⟩
  obtain ⟨q1, q2, q3, q4, q5⟩ := hkX
  exact ⟨q1, q2, q3, by simpa using q4, fun k hk1 hk2 => (hput k (by omega)).trans (q5 k hk1 hk2)⟩
end Go.Proofs.YtdcoafpenkofoaaGreatDoor
