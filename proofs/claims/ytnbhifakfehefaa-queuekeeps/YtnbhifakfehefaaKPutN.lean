
/- Stage 17: the queue behind a Put. -/
import Derived.Test.YtnbhifakfehefaaKPutM
namespace Go.Proofs.Ytnbhifakfehefaa
open Go.RowKit
set_option linter.unusedVariables false
set_option linter.unusedSimpArgs false
theorem sub_len : ∀ (H L : List Nat), H.Nodup → (∀ b ∈ H, b ∈ L) → H.length ≤ L.length := by
  intro H
  induction H with
  | nil => intro L _ _; simp
  | cons a H ih =>
    intro L hn hs
    have ha : a ∈ L := hs a (by simp)
    have hn' := List.nodup_cons.1 hn
    have := ih (L.erase a) hn'.2 (fun b hb => (List.mem_erase_of_ne (fun e => hn'.1 (by rw [← e]; exact hb))).2 (hs b (by simp [hb])))
    rw [List.length_erase_of_mem ha] at this
    have h0 : 0 < L.length := List.length_pos_of_mem ha
    simp only [List.length_cons]
    omega
theorem H_le {w : World} {B qb : Nat} {c : Cf} {hi : Int} {A F : Value} {L H : List Nat} {E : Nat → It} {D : Nat → List Nat} (hs : Qs w B qb c hi A F L H E D) : H.length ≤ L.length := by
  exact sub_len H L hs.lx.nd (fun b hb => ((hs.mem b).1 hb).1)
theorem row_same {w : World} {B n m b : Nat} {G : Value} {xs : List Value} {x : It} (h : IB w b x) (hr : w.ownsRow B 67 1 G n xs) : G.ownBlock ≠ some b := fun e => (h.ne_row hr e) rfl
set_option maxHeartbeats 1000000 in
theorem put_state {w5 w8 w9 : World} {B qb : Nat} {c : Cf} {hi : Int} {A F A' F' : Value} {L H H' : List Nat} {E : Nat → It} {D : Nat → List Nat} {x : It} {l : List Nat} (hs : Qs w5 B qb c hi A F L H E D)
    (hp : PreP w8 B qb w5.heap.size c x.seq A' F L H E D x l) (h58 : w5.heap.size < w8.heap.size) (hh : HPushP B qb w5.heap.size c x.seq A' F H (upd E w5.heap.size x) w8 w9 F' H') (hx0 : x.hol = 0) (hsq : hi < x.seq) (hB : B ≤ w5.heap.size) (hL : L.length < 4096) (hll : l.length ≤ 1048576) :
    Qs w9 B qb c x.seq A' F' (L ++ [w5.heap.size]) H' (upd E w5.heap.size x) (updL D w5.heap.size l) := by
  obtain ⟨g1, g2, g3, g4, g5, g6⟩ := hh
  have hbL : w5.heap.size ∉ L := fun h => by
    obtain ⟨p, hp'⟩ := hs.it _ h
    have := hp'.lt
    omega
  have hbH : w5.heap.size ∉ H := fun h => hbL ((hs.mem _).1 h).1
  have hne : ∀ k ∈ L, k ≠ w5.heap.size := fun k hk e => hbL (by rw [← e]; exact hk)
  have hE : ∀ k ∈ L, upd E w5.heap.size x k = E k := fun k hk => upd_ne E _ x k (hne k hk)
  have hD : ∀ k ∈ L, updL D w5.heap.size l k = D k := fun k hk => if_neg (hne k hk)
  have hmem : ∀ k, k ∈ H' ↔ k ∈ H ∨ k = w5.heap.size := fun k => by rw [g3.mem_iff, List.mem_append]; simp
  have hql := hp.q.lt
  have hdk : ∀ v l', Ob B w8 v l' → Ob B w9 v l' := fun v l' h => h.keep (fun k e => g6.block (h.lt k e).2 (fun hk => by
    rcases hk with rfl | rfl | e2 | e2
    · exact (h.ne hp.q (by decide)) e
    · exact (h.ne hp.ib (by decide)) e
    · obtain ⟨cur, hg⟩ := row_blk hp.lx.row e2
      exact (h.ne hg (by decide)) e
    · obtain ⟨p, hp'⟩ := hp.it k ((hs.mem k).1 e2).1
      exact (h.ne hp' (by decide)) e))
  refine ⟨g1, ?_, g2, ?_, ?_, g4, ?_, ?_, ?_, ?_, ?_, ⟨hs.lo.1, ?_⟩, ?_, ?_⟩
  · rw [List.length_append, List.map_append]
    refine rows_keep hp.ra (fun k e => ?_)
    obtain ⟨cur, hg⟩ := row_blk hp.ra e
    refine g6.block (Array.getElem?_eq_some_iff.1 hg).1 (fun hk => ?_)
    rcases hk with rfl | rfl | e2 | e2
    · exact (hp.q.ne_row hp.ra e) rfl
    · exact (hp.ib.ne_row hp.ra e) rfl
    · exact hp.ne k e e2
    · obtain ⟨p, hp'⟩ := hp.it k ((hs.mem k).1 e2).1
      exact (hp'.ne_row hp.ra e) rfl
  · intro g e e2
    rcases g5 with e3 | ⟨g', e3, e4⟩
    · exact hp.ne g e (by rw [← e3]; exact e2)
    · rw [e2] at e3
      simp only [Option.some.injEq] at e3
      obtain ⟨cur, hg⟩ := row_blk hp.ra e
      have := (Array.getElem?_eq_some_iff.1 hg).1
      omega
  · intro k hk
    by_cases hkH : k ∈ H'
    · obtain ⟨i, hi', he⟩ := List.mem_iff_getElem.1 hkH
      exact ⟨_, g2.it i k (by rw [List.getElem?_eq_getElem hi', he])⟩
    · rcases List.mem_append.1 hk with hk | hk
      · obtain ⟨p, hp'⟩ := hp.it k hk
        rw [hE k hk]
        refine ⟨p, (g6.block hp'.lt (fun hx => ?_)).trans hp'⟩
        rcases hx with e | e | e | e
        · exact (hp.q.ne_item hp') e.symm
        · exact hne k hk e
        · exact (hp'.ne_row hp.lx.row e) rfl
        · exact hkH ((hmem k).2 (.inl e))
      · simp at hk
        exact absurd ((hmem k).2 (.inr hk)) hkH
  · intro k
    rw [hmem, List.mem_append]
    constructor
    · rintro (h | h)
      · have := (hs.mem k).1 h
        exact ⟨.inl this.1, by rw [hE k this.1]; exact this.2⟩
      · exact ⟨.inr (by simp [h]), by rw [h, upd_at]; exact hx0⟩
    · rintro ⟨h | h, h2⟩
      · rw [hE k h] at h2
        exact .inl ((hs.mem k).2 ⟨h, h2⟩)
      · simp at h
        exact .inr h
  · rw [List.nodup_append]
    exact ⟨hs.nd, by simp, by simpa using fun a ha e => hbL (by rw [← e]; exact ha)⟩
  · rw [List.pairwise_append]
    refine ⟨hs.srt.imp_of_mem (fun {a b} ha hb h => by rw [hE a ha, hE b hb]; exact h), by simp, fun a ha b hb => ?_⟩
    simp at hb
    subst hb
    rw [hE a ha, upd_at]
    have := hs.top a ha
    omega
  · intro k hk
    rcases List.mem_append.1 hk with hk | hk
    · rw [hE k hk]
      have := hs.top k hk
      omega
    · simp at hk
      subst hk
      rw [upd_at]
      omega
  · simp; omega
  · intro k hk
    rcases List.mem_append.1 hk with hk | hk
    · exact hs.lo.2 k hk
    · simp at hk
      subst hk
      exact hB
  · intro k hk
    rcases List.mem_append.1 hk with hk | hk
    · rw [hE k hk, hD k hk]
      exact hdk _ _ (hp.dat k hk)
    · simp at hk
      subst hk
      rw [upd_at]
      have : updL D w5.heap.size l w5.heap.size = l := if_pos rfl
      rw [this]
      exact hdk _ _ hp.db
  · intro k hk
    rcases List.mem_append.1 hk with hk | hk
    · rw [hD k hk]
      exact hs.dl k hk
    · simp at hk
      subst hk
      have : updL D w5.heap.size l w5.heap.size = l := if_pos rfl
      rw [this]
      exact hll
end Go.Proofs.Ytnbhifakfehefaa
