
/- Stage 17: the queue behind a Back. -/
import Derived.Test.YtnbhifakfehefaaKFind
namespace Go.Proofs.Ytnbhifakfehefaa
open Go.RowKit
set_option linter.unusedVariables false
set_option linter.unusedSimpArgs false
/-- ahead of the push: the item has been given back, its block alone has turned -/
theorem back_pre {w w2 : World} {B qb b : Nat} {c : Cf} {hi : Int} {A F : Value} {L H : List Nat} {E : Nat → It} {D : Nat → List Nat} {x : It} {p : Int} (hs : Qs w B qb c hi A F L H E D) (hbL : b ∈ L) (hbH : b ∉ H) (hib : IB w2 b (x.at p)) (hk : ∀ k, k ≠ b → w2.heap[k]? = w.heap[k]?) :
    QB w2 qb c hi A F ∧ Lx w2 B F H (upd E b x) ∧ HeapOk (leE (upd E b x)) H H.length := by
  obtain ⟨p0, h0⟩ := hs.it b hbL
  have hE : ∀ k ∈ H, upd E b x k = E k := fun k hkH => upd_ne E b x k (fun e => hbH (by rw [← e]; exact hkH))
  refine ⟨(hk qb (hs.q.ne_item h0)).trans hs.q, (hs.lx.keep (fun k hkF => hk k (fun e => ?_))).congr hE, hs.ok.congr hE⟩
  subst e
  rcases hkF with e | e
  · exact (h0.ne_row hs.lx.row e) rfl
  · exact hbH e
set_option maxHeartbeats 1000000 in
theorem back_state {w w2 w3 : World} {B qb b : Nat} {c : Cf} {hi : Int} {A F F' : Value} {L H H' : List Nat} {E : Nat → It} {D : Nat → List Nat} {x : It} {p : Int} (hs : Qs w B qb c hi A F L H E D) (hbL : b ∈ L) (hbH : b ∉ H) (hib : IB w2 b (x.at p)) (hk : ∀ k, k ≠ b → w2.heap[k]? = w.heap[k]?) (hsz : w2.heap.size = w.heap.size)
    (hx1 : x.seq = (E b).seq) (hx2 : x.dat = (E b).dat) (hx3 : x.hol = 0) (hh : HPushP B qb b c hi A F H (upd E b x) w2 w3 F' H') : Qs w3 B qb c hi A F' L H' (upd E b x) D := by
  obtain ⟨g1, g2, g3, g4, g5, g6⟩ := hh
  obtain ⟨p0, h0⟩ := hs.it b hbL
  have hE : ∀ k, k ≠ b → upd E b x k = E k := fun k h => upd_ne E b x k h
  have hmem : ∀ k, k ∈ H' ↔ k ∈ H ∨ k = b := fun k => by rw [g3.mem_iff, List.mem_append]; simp
  have hkeep : ∀ k, k < w.heap.size → k ≠ qb → k ≠ b → F.ownBlock ≠ some k → k ∉ H → w3.heap[k]? = w.heap[k]? := fun k h1 h2 h3 h4 h5 =>
    (g6.block (by omega) (fun hx => by
      rcases hx with e | e | e | e
      · exact h2 e
      · exact h3 e
      · exact h4 e
      · exact h5 e)).trans (hk k h3)
  have hdat : ∀ v l', Ob B w v l' → Ob B w3 v l' := fun v l' ho => ho.keep (fun k e => hkeep k (ho.lt k e).2 (fun e2 => (ho.ne (b := qb) hs.q (by decide)) (by rw [← e2]; exact e)) (fun e2 => (ho.ne (b := b) h0 (by decide)) (by rw [← e2]; exact e)) (fun e2 => by
      obtain ⟨cur, hg⟩ := row_blk hs.lx.row e2
      exact (ho.ne hg (by decide)) e) (fun e2 => by
      obtain ⟨p', hp'⟩ := hs.it k ((hs.mem k).1 e2).1
      exact (ho.ne hp' (by decide)) e))
  have hra : ∀ k, A.ownBlock = some k → w3.heap[k]? = w.heap[k]? := fun k e => by
    obtain ⟨cur, hg⟩ := row_blk hs.ra e
    refine hkeep k (Array.getElem?_eq_some_iff.1 hg).1 (fun e2 => (hs.q.ne_row hs.ra e) e2.symm) (fun e2 => (h0.ne_row hs.ra e) e2.symm) (hs.ne k e) (fun e2 => ?_)
    obtain ⟨p', hp'⟩ := hs.it k ((hs.mem k).1 e2).1
    exact (hp'.ne_row hs.ra e) rfl
  refine ⟨g1, rows_keep hs.ra hra, g2, ?_, ?_, g4, ?_, hs.nd, ?_, ?_, hs.len, hs.lo, ?_, hs.dl⟩
  · intro g e e2
    rcases g5 with e3 | ⟨g', e3, e4⟩
    · exact hs.ne g e (by rw [← e3]; exact e2)
    · rw [e2] at e3
      simp only [Option.some.injEq] at e3
      obtain ⟨cur, hg⟩ := row_blk hs.ra e
      have := (Array.getElem?_eq_some_iff.1 hg).1
      omega
  · intro k hkL
    by_cases hkH : k ∈ H'
    · obtain ⟨i, hi', he⟩ := List.mem_iff_getElem.1 hkH
      exact ⟨_, g2.it i k (by rw [List.getElem?_eq_getElem hi', he])⟩
    · have hkb : k ≠ b := fun e => hkH ((hmem k).2 (.inr e))
      obtain ⟨p', hp'⟩ := hs.it k hkL
      rw [hE k hkb]
      exact ⟨p', (hkeep k hp'.lt (fun e2 => (hs.q.ne_item hp') e2.symm) hkb (fun e2 => (hp'.ne_row hs.lx.row e2) rfl) (fun e2 => hkH ((hmem k).2 (.inl e2)))).trans hp'⟩
  · intro k
    rw [hmem]
    constructor
    · rintro (h | h)
      · have := (hs.mem k).1 h
        exact ⟨this.1, by rw [hE k (fun e => hbH (by rw [← e]; exact h))]; exact this.2⟩
      · subst h
        exact ⟨hbL, by rw [upd_at]; exact hx3⟩
    · rintro ⟨h1, h2⟩
      by_cases e : k = b
      · exact .inr e
      · rw [hE k e] at h2
        exact .inl ((hs.mem k).2 ⟨h1, h2⟩)
  · refine hs.srt.imp (fun {a d} hx => ?_)
    have es : ∀ k, (upd E b x k).seq = (E k).seq := fun k => by
      by_cases e : k = b
      · subst e; rw [upd_at]; exact hx1
      · rw [hE k e]
    rw [es, es]
    exact hx
  · intro k hkL
    by_cases e : k = b
    · subst e; rw [upd_at, hx1]; exact hs.top k hkL
    · rw [hE k e]; exact hs.top k hkL
  · intro k hkL
    by_cases e : k = b
    · subst e; rw [upd_at, hx2]; exact hdat _ _ (hs.dat k hkL)
    · rw [hE k e]; exact hdat _ _ (hs.dat k hkL)
/-- where a search finds an item -/
theorem split_find {L : List Nat} {E : Nat → It} {t hol : Int} {i k : Nat} (h : Split L E t i) (hs : L.Pairwise (fun a b => (E a).seq < (E b).seq)) (hk : k < L.length) (h1 : (E (hv L k)).seq = t) (h2 : (E (hv L k)).hol = hol) : i = k ∧ findZ L E t hol i = (k : Int) := by
  have hik : i = k := by
    by_cases e : k < i
    · have := h.2.1 k e
      omega
    · by_cases e2 : i < k
      · have := h.2.2 i (Nat.le_refl _) (by omega)
        have h3 := List.pairwise_iff_getElem.1 hs i k (by omega) hk e2
        rw [hv_eq L i (by omega)] at this
        rw [hv_eq L k hk] at h1
        omega
      · omega
  subst hik
  exact ⟨rfl, if_pos ⟨hk, h1, h2⟩⟩
end Go.Proofs.Ytnbhifakfehefaa
