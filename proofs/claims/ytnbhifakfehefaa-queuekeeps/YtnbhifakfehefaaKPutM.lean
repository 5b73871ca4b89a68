
/- Stage 17: what Put leaves, outside the walk. -/
import Derived.Test.YtnbhifakfehefaaKMay
namespace Go.Proofs.Ytnbhifakfehefaa
open Go.RowKit
set_option linter.unusedVariables false
set_option linter.unusedSimpArgs false
/-- a queue with its entries: L all by rising Seq, H the line of the free ones, E what stands in an item's block, D its bytes -/
structure Qs (w : World) (B qb : Nat) (c : Cf) (hi : Int) (A F : Value) (L H : List Nat) (E : Nat → It) (D : Nat → List Nat) : Prop where
  q : QB w qb c hi A F
  ra : w.ownsRow B 67 1 A L.length (L.map ptr)
  lx : Lx w B F H E
  ne : ∀ g, A.ownBlock = some g → F.ownBlock ≠ some g
  it : ∀ b ∈ L, ∃ p, IB w b ((E b).at p)
  ok : HeapOk (leE E) H H.length
  mem : ∀ b, b ∈ H ↔ b ∈ L ∧ (E b).hol = 0
  nd : L.Nodup
  srt : L.Pairwise (fun a b => (E a).seq < (E b).seq)
  top : ∀ b ∈ L, (E b).seq ≤ hi
  len : L.length ≤ 4096
  lo : B ≤ qb ∧ ∀ b ∈ L, B ≤ b
  dat : ∀ b ∈ L, Ob B w (E b).dat (D b)
  dl : ∀ b ∈ L, (D b).length ≤ 1048576
/-- the blocks that a queue's calls may turn -/
def inQ (qb : Nat) (A F : Value) (L : List Nat) (k : Nat) : Prop := k = qb ∨ k ∈ L ∨ A.ownBlock = some k ∨ F.ownBlock = some k
theorem Qs.empty {w : World} {B qb : Nat} {c : Cf} (h : QB w qb c 0 (.slice none 0 0) (.slice none 0 0)) (hB : B ≤ qb) (E : Nat → It) (D : Nat → List Nat) : Qs w B qb c 0 (.slice none 0 0) (.slice none 0 0) [] [] E D := by
  refine ⟨h, World.ownsRow_nil _ _ _ _, ⟨World.ownsRow_nil _ _ _ _, fun k b hk => by simp at hk, by simp, by simp⟩, fun g e => (by cases e), fun b hb => by simp at hb, fun k k0 kn => by simp at kn, fun b => by simp, by simp, by simp, fun b hb => by simp at hb, by simp, ⟨hB, fun b hb => by simp at hb⟩, fun b hb => by simp at hb, fun b hb => by simp at hb⟩
theorem Qs.below {w w' : World} {B qb : Nat} {c : Cf} {hi : Int} {A F : Value} {L H : List Nat} {E : Nat → It} {D : Nat → List Nat} (h : Qs w B qb c hi A F L H E D) (hb : Below w.heap.size w w') : Qs w' B qb c hi A F L H E D :=
  ⟨(hb.block _ h.q.lt).trans h.q, h.ra.kept (row := none) ⟨hb.os, hb.tape, hb.output, hb.size, fun k hk _ => hb.block k hk⟩ (by cases h0 : A.ownBlock <;> simp), h.lx.below hb, h.ne, fun b hbL => (h.it b hbL).imp fun p hp => (hb.block _ (IB.lt hp)).trans hp, h.ok, h.mem, h.nd, h.srt, h.top, h.len, h.lo, fun b hbL => (h.dat b hbL).below hb, h.dl⟩
theorem QB.set5 {w : World} {qb : Nat} {c : Cf} {hi : Int} {A F : Value} (h : QB w qb c hi A F) (v : Int) : QB (w.setCell ⟨qb, 5, none⟩ (.int .i64 v)) qb c v A F := by
  unfold QB at *
  rw [blk_set w qb 5 _ h]
  simp
theorem QB.set6 {w : World} {qb : Nat} {c : Cf} {hi : Int} {A F : Value} (h : QB w qb c hi A F) (v : Value) : QB (w.setCell ⟨qb, 6, none⟩ v) qb c hi v F := by
  unfold QB at *
  rw [blk_set w qb 6 _ h]
  simp
theorem Ob.keep {B : Nat} {w w' : World} {v : Value} {l : List Nat} (h : Ob B w v l) (hk : ∀ k, v.ownBlock = some k → w'.heap[k]? = w.heap[k]?) : Ob B w' v l := by
  refine ⟨⟨h.1.1, ?_⟩, h.2⟩
  rcases h.1.2 with hn | ⟨g, cap, cur, rfl, hbg, hg, hrest⟩
  · exact .inl hn
  · exact .inr ⟨g, cap, cur, rfl, hbg, (hk g rfl).trans hg, hrest⟩
theorem rows_keep {B n : Nat} {w w' : World} {v : Value} {xs : List Value} (h : w.ownsRow B 67 1 v n xs) (hk : ∀ k, v.ownBlock = some k → w'.heap[k]? = w.heap[k]?) : w'.ownsRow B 67 1 v n xs := by
  refine ⟨h.1, ?_⟩
  rcases h.2 with hn | ⟨g, cap, cur, rfl, hbg, hg, hrest⟩
  · exact .inl hn
  · exact .inr ⟨g, cap, cur, rfl, hbg, (hk g rfl).trans hg, hrest⟩
/-- an item's entry, put anew at one block -/
def upd (E : Nat → It) (b : Nat) (x : It) (k : Nat) : It := if k = b then x else E k
theorem upd_at (E : Nat → It) (b : Nat) (x : It) : upd E b x b = x := if_pos rfl
theorem upd_ne (E : Nat → It) (b : Nat) (x : It) (k : Nat) (h : k ≠ b) : upd E b x k = E k := if_neg h
def updL (D : Nat → List Nat) (b : Nat) (l : List Nat) (k : Nat) : List Nat := if k = b then l else D k
theorem HeapOk.congr {E E' : Nat → It} {H : List Nat} (h : HeapOk (leE E) H H.length) (he : ∀ k ∈ H, E' k = E k) : HeapOk (leE E') H H.length := fun k k0 kn => by
  have hp : par k < k := by unfold par; omega
  have := h k k0 kn
  unfold leE at *
  rw [he _ (by rw [hv_eq H k kn]; exact List.getElem_mem _), he _ (by rw [hv_eq H (par k) (by omega)]; exact List.getElem_mem _)]
  exact this
theorem Lx.congr {w : World} {B : Nat} {F : Value} {H : List Nat} {E E' : Nat → It} (h : Lx w B F H E) (he : ∀ k ∈ H, E' k = E k) : Lx w B F H E' :=
  ⟨h.row, fun k b hk => by rw [he b (List.mem_of_getElem? hk)]; exact h.it k b hk, h.nd, h.len⟩
theorem Lx.keep {w w' : World} {B : Nat} {F : Value} {H : List Nat} {E : Nat → It} (h : Lx w B F H E) (hk : ∀ k, inF F H k → w'.heap[k]? = w.heap[k]?) : Lx w' B F H E :=
  ⟨rows_keep h.row (fun k e => hk k (.inl e)), fun k b hb => (hk b (.inr (List.mem_of_getElem? hb))).trans (h.it k b hb), h.nd, h.len⟩
/-- ahead of the push: the new item is in its block, all has grown -/
structure PreP (w8 : World) (B qb b : Nat) (c : Cf) (hi : Int) (A' F : Value) (L H : List Nat) (E : Nat → It) (D : Nat → List Nat) (x : It) (l : List Nat) : Prop where
  q : QB w8 qb c hi A' F
  ra : w8.ownsRow B 67 1 A' (L.length + 1) (L.map ptr ++ [ptr b])
  lx : Lx w8 B F H E
  it : ∀ k ∈ L, ∃ p, IB w8 k ((E k).at p)
  ib : IB w8 b (x.at 0)
  dat : ∀ k ∈ L, Ob B w8 (E k).dat (D k)
  db : Ob B w8 x.dat l
  ne : ∀ g, A'.ownBlock = some g → F.ownBlock ≠ some g
theorem pre_of {w5 w7 : World} {B qb : Nat} {c : Cf} {hi : Int} {A F A' : Value} {L H : List Nat} {E : Nat → It} {D : Nat → List Nat} {x : It} {l : List Nat} {o : Obj} (hs : Qs w5 B qb c hi A F L H E D) (hx : Ob B w5 x.dat l)
    (r1 : w7.ownsRow B 67 1 A' (L.length + 1) (L.map ptr ++ [ptr w5.heap.size])) (r2 : (((w5.setCell ⟨qb, 5, none⟩ (.int .i64 x.seq)).alloc (.cells (x.at 0).cells 70)).alloc o).grownBy w7 A.ownBlock)
    (r3 : A'.ownBlock = A.ownBlock ∨ ∃ g, A'.ownBlock = some g ∧ (((w5.setCell ⟨qb, 5, none⟩ (.int .i64 x.seq)).alloc (.cells (x.at 0).cells 70)).alloc o).heap.size ≤ g) :
    PreP (w7.setCell ⟨qb, 6, none⟩ A') B qb w5.heap.size c x.seq A' F L H E D x l ∧ Kp (fun k => k = qb ∨ A.ownBlock = some k) w5 (w7.setCell ⟨qb, 6, none⟩ A') := by
  have hsz : (((w5.setCell ⟨qb, 5, none⟩ (.int .i64 x.seq)).alloc (.cells (x.at 0).cells 70)).alloc o).heap.size = w5.heap.size + 2 := by simp
  have hs1 : ((w5.setCell ⟨qb, 5, none⟩ (.int .i64 x.seq)).alloc (.cells (x.at 0).cells 70)).heap.size = w5.heap.size + 1 := by simp
  have hs0 : (w5.setCell ⟨qb, 5, none⟩ (.int .i64 x.seq)).heap.size = w5.heap.size := by simp
  have h7 := r2.size
  have hold : ∀ k, k < w5.heap.size → A.ownBlock ≠ some k → w7.heap[k]? = (w5.setCell ⟨qb, 5, none⟩ (.int .i64 x.seq)).heap[k]? := fun k hk hne => by
    rw [r2.block k (by omega) (fun e => hne e.symm)]
    rw [((Below.refl _ ((w5.setCell ⟨qb, 5, none⟩ (.int .i64 x.seq)).alloc (.cells (x.at 0).cells 70))).alloc (Nat.le_refl _) o).block k (by omega)]
    exact ((Below.refl _ (w5.setCell ⟨qb, 5, none⟩ (.int .i64 x.seq))).alloc (Nat.le_refl _) _).block k (by omega)
  have hA : ∀ k, A.ownBlock = some k → k < w5.heap.size := fun k e => by
    obtain ⟨cur, hg⟩ := row_blk hs.ra e
    exact (Array.getElem?_eq_some_iff.1 hg).1
  have hqA : A.ownBlock ≠ some qb := fun e => (hs.q.ne_row hs.ra e) rfl
  have hq7 : QB w7 qb c x.seq A F := (hold qb hs.q.lt hqA).trans (hs.q.set5 x.seq)
  have hkeep : ∀ k, k < w5.heap.size → k ≠ qb → A.ownBlock ≠ some k → (w7.setCell ⟨qb, 6, none⟩ A').heap[k]? = w5.heap[k]? := fun k hk h1 h2 =>
    ((blk_set_other _ ⟨qb, 6, none⟩ _ k h1).trans (hold k hk h2)).trans (blk_set_other _ ⟨qb, 5, none⟩ _ k h1)
  have hb7 : w7.heap[w5.heap.size]? = some (.cells (x.at 0).cells 70 (0, 0)) := by
    rw [r2.block w5.heap.size (by omega) (fun e => by have := hA _ e.symm; omega)]
    rw [((Below.refl _ ((w5.setCell ⟨qb, 5, none⟩ (.int .i64 x.seq)).alloc (.cells (x.at 0).cells 70))).alloc (Nat.le_refl _) o).block _ (by omega)]
    have := heap_new (w5.setCell ⟨qb, 5, none⟩ (.int .i64 x.seq)) (.cells (x.at 0).cells 70)
    rw [hs0] at this
    exact this
  have hql := hs.q.lt
  have hdk : ∀ v l', Ob B w5 v l' → Ob B (w7.setCell ⟨qb, 6, none⟩ A') v l' := fun v l' h => h.keep (fun k e => hkeep k (h.lt k e).2 (fun e2 => (h.ne (b := qb) hs.q (by decide)) (by rw [← e2]; exact e)) (fun e2 => by
    obtain ⟨cur, hg⟩ := row_blk hs.ra e2
    exact (h.ne hg (by decide)) e))
  refine ⟨⟨hq7.set6 A', rows_set r1 (fun e => (hq7.ne_row r1 e) rfl), hs.lx.keep (fun k hk => ?_), fun k hk => ?_, ?_, fun k hk => hdk _ _ (hs.dat k hk), hdk _ _ hx, fun g hg => ?_⟩, ?_⟩
  · rcases hk with e | e
    · obtain ⟨cur, hg⟩ := row_blk hs.lx.row e
      exact hkeep k (Array.getElem?_eq_some_iff.1 hg).1 (fun e2 => (hs.q.ne_row hs.lx.row e) e2.symm) (fun e2 => hs.ne k e2 e)
    · obtain ⟨p, hp⟩ := hs.it k ((hs.mem k).1 e).1
      exact hkeep k hp.lt (fun e2 => (hs.q.ne_item hp) e2.symm) (fun e2 => (hp.ne_row hs.ra e2) rfl)
  · obtain ⟨p, hp⟩ := hs.it k hk
    exact ⟨p, (hkeep k hp.lt (fun e2 => (hs.q.ne_item hp) e2.symm) (fun e2 => (hp.ne_row hs.ra e2) rfl)).trans hp⟩
  · exact (blk_set_other _ ⟨qb, 6, none⟩ _ w5.heap.size (by show w5.heap.size ≠ qb; omega)).trans hb7
  · rcases r3 with e | ⟨g', e1, e2⟩
    · exact hs.ne g (by rw [← e]; exact hg)
    · intro e3
      rw [hg] at e1
      simp only [Option.some.injEq] at e1
      obtain ⟨cur, hgg⟩ := row_blk hs.lx.row e3
      have := (Array.getElem?_eq_some_iff.1 hgg).1
      omega
  · refine ⟨r2.os, r2.tape, r2.output, by simp; omega, fun k hk hn => hkeep k hk (fun e => hn (.inl e)) (fun e => hn (.inr e))⟩
end Go.Proofs.Ytnbhifakfehefaa
