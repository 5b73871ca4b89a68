
/- Stage 17: the queue behind a Take. -/
import Derived.Test.YtnbhifakfehefaaKFirst
namespace Go.Proofs.Ytnbhifakfehefaa
open Go.RowKit
set_option linter.unusedVariables false
set_option linter.unusedSimpArgs false
def It.held (x : It) (h : Int) : It := { x with hol := h }
theorem ib_held {w : World} {b : Nat} {x : It} {p : Int} (h : IB w b (x.at p)) (v : Int) : IB (w.setCell ⟨b, 5, none⟩ (.int .i64 v)) b ((x.held v).at p) := by
  unfold IB at *
  rw [blk_set w b 5 _ h]
  simp [It.cells, It.at, It.held]
theorem take_state {w w2 : World} {B qb : Nat} {c : Cf} {hi : Int} {A F F' : Value} {L H H' : List Nat} {E : Nat → It} {D : Nat → List Nat} {h : Int} (hs : Qs w B qb c hi A F L H E D) (hh : HPopP B qb c hi A F H E w w2 F' H') (h0 : 0 < H.length) (hne : h ≠ 0) :
    Qs (w2.setCell ⟨hv H 0, 5, none⟩ (.int .i64 h)) B qb c hi A F' L H' (upd E (hv H 0) ((E (hv H 0)).held h)) D ∧ hv H 0 ∈ L := by
  obtain ⟨g1, g2, g3, g4, g5, g6, p, g7⟩ := hh
  obtain ⟨b, hb⟩ : ∃ b, hv H 0 = b := ⟨_, rfl⟩
  rw [hb] at g3 g7 ⊢
  have hbH : b ∈ H := by rw [← hb, hv_eq H 0 h0]; exact List.getElem_mem _
  have hbL : b ∈ L := ((hs.mem b).1 hbH).1
  have hnd : (H' ++ [b]).Nodup := g3.nodup_iff.2 hs.lx.nd
  have hbn : b ∉ H' := fun e => by
    have := (List.nodup_append.1 hnd).2.2 b e b (by simp)
    exact this rfl
  have hmem : ∀ k, k ∈ H' ↔ k ∈ H ∧ k ≠ b := fun k => by
    rw [← g3.mem_iff, List.mem_append]
    constructor
    · intro hk
      exact ⟨.inl hk, fun e => hbn (by rw [← e]; exact hk)⟩
    · rintro ⟨hk | hk, hn⟩
      · exact hk
      · simp at hk
        exact absurd hk hn
  have hE : ∀ k, k ≠ b → upd E b ((E b).held h) k = E k := fun k hk => upd_ne E _ _ k hk
  have hqb : b ≠ qb := fun e => (g1.ne_item g7) e.symm
  have hset : ∀ k, k ≠ b → (w2.setCell ⟨b, 5, none⟩ (.int .i64 h)).heap[k]? = w2.heap[k]? := fun k hk => blk_set_other _ ⟨b, 5, none⟩ _ k hk
  have hkeep : ∀ k, k < w.heap.size → k ≠ qb → F.ownBlock ≠ some k → k ∉ H → (w2.setCell ⟨b, 5, none⟩ (.int .i64 h)).heap[k]? = w.heap[k]? := fun k h1 h2 h3 h4 =>
    (hset k (fun e => h4 (by rw [e]; exact hbH))).trans (g6.block h1 (fun hk => hk.elim h2 (fun hk => hk.elim h3 h4)))
  have hdat : ∀ v l', Ob B w v l' → Ob B (w2.setCell ⟨b, 5, none⟩ (.int .i64 h)) v l' := fun v l' ho => ho.keep (fun k e => hkeep k (ho.lt k e).2 (fun e2 => (ho.ne (b := qb) hs.q (by decide)) (by rw [← e2]; exact e)) (fun e2 => by
      obtain ⟨cur, hg⟩ := row_blk hs.lx.row e2
      exact (ho.ne hg (by decide)) e) (fun e2 => by
      obtain ⟨p', hp'⟩ := hs.it k ((hs.mem k).1 e2).1
      exact (ho.ne hp' (by decide)) e))
  refine ⟨⟨(hset qb (fun e => hqb e.symm)).trans g1, ?_, ?_, fun g e e2 => hs.ne g e (by rw [← g5]; exact e2), ?_, ?_, ?_, hs.nd, ?_, ?_, hs.len, hs.lo, ?_, hs.dl⟩, hbL⟩
  · refine rows_keep hs.ra (fun k e => ?_)
    obtain ⟨cur, hg⟩ := row_blk hs.ra e
    refine hkeep k (Array.getElem?_eq_some_iff.1 hg).1 (fun e2 => (hs.q.ne_row hs.ra e) e2.symm) (hs.ne k e) (fun e2 => ?_)
    obtain ⟨p', hp'⟩ := hs.it k ((hs.mem k).1 e2).1
    exact (hp'.ne_row hs.ra e) rfl
  · refine (g2.keep (fun k hk => hset k (fun e => ?_))).congr (fun k hk => hE k ((hmem k).1 hk).2)
    subst e
    rcases hk with hk | hk
    · exact (g7.ne_row g2.row hk) rfl
    · exact hbn hk
  · intro k hk
    by_cases e : k = b
    · subst e
      rw [upd_at]
      exact ⟨p, ib_held g7 h⟩
    · rw [hE k e]
      by_cases hkH : k ∈ H'
      · obtain ⟨i, hi', he⟩ := List.mem_iff_getElem.1 hkH
        exact ⟨_, (hset k e).trans (g2.it i k (by rw [List.getElem?_eq_getElem hi', he]))⟩
      · obtain ⟨p', hp'⟩ := hs.it k hk
        exact ⟨p', (hkeep k hp'.lt (fun e2 => (hs.q.ne_item hp') e2.symm) (fun e2 => (hp'.ne_row hs.lx.row e2) rfl) (fun e2 => hkH ((hmem k).2 ⟨e2, e⟩))).trans hp'⟩
  · exact g4.congr (fun k hk => hE k ((hmem k).1 hk).2)
  · intro k
    rw [hmem]
    constructor
    · rintro ⟨h1, h2⟩
      have := (hs.mem k).1 h1
      exact ⟨this.1, by rw [hE k h2]; exact this.2⟩
    · rintro ⟨h1, h2⟩
      by_cases e : k = b
      · subst e
        rw [upd_at] at h2
        exact absurd h2 hne
      · rw [hE k e] at h2
        exact ⟨(hs.mem k).2 ⟨h1, h2⟩, e⟩
  · refine hs.srt.imp (fun {a d} hx => ?_)
    have es : ∀ k, (upd E b ((E b).held h) k).seq = (E k).seq := fun k => by
      by_cases e : k = b
      · subst e; rw [upd_at]; rfl
      · rw [hE k e]
    rw [es, es]
    exact hx
  · intro k hk
    by_cases e : k = b
    · subst e; rw [upd_at]; exact hs.top k hk
    · rw [hE k e]; exact hs.top k hk
  · intro k hk
    by_cases e : k = b
    · subst e; rw [upd_at]; exact hdat _ _ (hs.dat k hk)
    · rw [hE k e]; exact hdat _ _ (hs.dat k hk)
/-- a store into an entry's own variable leaves a queue as it is -/
theorem Qs.other {w w' : World} {B qb n : Nat} {c : Cf} {hi : Int} {A F : Value} {L H : List Nat} {E : Nat → It} {D : Nat → List Nat} (h : Qs w B qb c hi A F L H E D) {cur : Array Value} {fr : Nat × Nat} (hn : w.heap[n]? = some (.cells cur 37 fr)) (hk : ∀ k, k ≠ n → w'.heap[k]? = w.heap[k]?) : Qs w' B qb c hi A F L H E D := by
  have nq : qb ≠ n := fun e => by
    have := h.q
    unfold QB at this
    rw [e, hn] at this
    simp at this
  have ni : ∀ k x, IB w k x → k ≠ n := fun k x hi e => by
    unfold IB at hi
    rw [e, hn] at hi
    simp at hi
  have nr : ∀ G m xs k, w.ownsRow B 67 1 G m xs → G.ownBlock = some k → k ≠ n := fun G m xs k hr e e2 => by
    obtain ⟨cur', hg⟩ := row_blk hr e
    rw [e2, hn] at hg
    simp at hg
  refine ⟨(hk qb nq).trans h.q, rows_keep h.ra (fun k e => hk k (nr _ _ _ k h.ra e)), h.lx.keep (fun k e => hk k ?_), h.ne, fun k hkL => ?_, h.ok, h.mem, h.nd, h.srt, h.top, h.len, h.lo, fun k hkL => (h.dat k hkL).keep (fun j e => hk j (fun e2 => ?_)), h.dl⟩
  · rcases e with e | e
    · exact nr _ _ _ k h.lx.row e
    · obtain ⟨p, hp⟩ := h.it k ((h.mem k).1 e).1
      exact ni k _ hp
  · obtain ⟨p, hp⟩ := h.it k hkL
    exact ⟨p, (hk k (ni k _ hp)).trans hp⟩
  · exact ((h.dat k hkL).ne hn (by decide)) (by rw [← e2]; exact e)
/-- seven stores into an entry's variable -/
def set7 (w : World) (n : Nat) (v0 v1 v2 v3 v4 v5 v6 : Value) : World := ((((((w.setCell ⟨n, 0, none⟩ v0).setCell ⟨n, 1, none⟩ v1).setCell ⟨n, 2, none⟩ v2).setCell ⟨n, 3, none⟩ v3).setCell ⟨n, 4, none⟩ v4).setCell ⟨n, 5, none⟩ v5).setCell ⟨n, 6, none⟩ v6
theorem set7_at {w : World} {n : Nat} {u0 u1 u2 u3 u4 u5 u6 : Value} {t : TypeId} {fr : Nat × Nat} (h : w.heap[n]? = some (.cells #[u0, u1, u2, u3, u4, u5, u6] t fr)) (v0 v1 v2 v3 v4 v5 v6 : Value) : (set7 w n v0 v1 v2 v3 v4 v5 v6).heap[n]? = some (.cells #[v0, v1, v2, v3, v4, v5, v6] t fr) := by
  unfold set7
  rw [blk_set _ n 6 v6 (blk_set _ n 5 v5 (blk_set _ n 4 v4 (blk_set _ n 3 v3 (blk_set _ n 2 v2 (blk_set _ n 1 v1 (blk_set _ n 0 v0 h))))))]
  simp
theorem set7_other (w : World) (n k : Nat) (hk : k ≠ n) (v0 v1 v2 v3 v4 v5 v6 : Value) : (set7 w n v0 v1 v2 v3 v4 v5 v6).heap[k]? = w.heap[k]? := by
  unfold set7
  rw [blk_set_other _ ⟨n, 6, none⟩ _ k hk, blk_set_other _ ⟨n, 5, none⟩ _ k hk, blk_set_other _ ⟨n, 4, none⟩ _ k hk, blk_set_other _ ⟨n, 3, none⟩ _ k hk, blk_set_other _ ⟨n, 2, none⟩ _ k hk, blk_set_other _ ⟨n, 1, none⟩ _ k hk, blk_set_other _ ⟨n, 0, none⟩ _ k hk]
theorem set7_kp (w : World) (n B : Nat) (hB : B ≤ n) (v0 v1 v2 v3 v4 v5 v6 : Value) : Below B w (set7 w n v0 v1 v2 v3 v4 v5 v6) := by
  exact ((((((((Below.refl B w).setCell (p := ⟨n, 0, none⟩) hB v0).setCell (p := ⟨n, 1, none⟩) hB v1).setCell (p := ⟨n, 2, none⟩) hB v2).setCell (p := ⟨n, 3, none⟩) hB v3).setCell (p := ⟨n, 4, none⟩) hB v4).setCell (p := ⟨n, 5, none⟩) hB v5).setCell (p := ⟨n, 6, none⟩) hB v6)
end Go.Proofs.Ytnbhifakfehefaa
