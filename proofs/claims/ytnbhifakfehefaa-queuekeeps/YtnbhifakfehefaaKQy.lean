
/- A queue, some of whose free entries do not stand in the line. -/
import Derived.Test.YtnbhifakfehefaaKHrem
namespace Go.Proofs.Ytnbhifakfehefaa
open Go.RowKit
set_option linter.unusedVariables false
set_option linter.unusedSimpArgs false
structure Qy (w : World) (B qb : Nat) (c : Cf) (hi : Int) (A F : Value) (L H : List Nat) (E : Nat → It) (D : Nat → List Nat) (X : Nat → Prop) : Prop where
  q : QB w qb c hi A F
  ra : w.ownsRow B 67 1 A L.length (L.map ptr)
  lx : Lx w B F H E
  ne : ∀ g, A.ownBlock = some g → F.ownBlock ≠ some g
  it : ∀ b ∈ L, ∃ p, IB w b ((E b).at p)
  ok : HeapOk (leE E) H H.length
  mem : ∀ b, b ∈ H ↔ b ∈ L ∧ (E b).hol = 0 ∧ ¬ X b
  nd : L.Nodup
  srt : L.Pairwise (fun a b => (E a).seq < (E b).seq)
  top : ∀ b ∈ L, (E b).seq ≤ hi
  len : L.length ≤ 4096
  lo : B ≤ qb ∧ ∀ b ∈ L, B ≤ b
  dat : ∀ b ∈ L, Ob B w (E b).dat (D b)
  dl : ∀ b ∈ L, (D b).length ≤ 1048576
section
variable {w w' : World} {B qb : Nat} {c : Cf} {hi : Int} {A F : Value} {L H : List Nat} {E : Nat → It} {D : Nat → List Nat} {X : Nat → Prop}
theorem Qs.qy (h : Qs w B qb c hi A F L H E D) : Qy w B qb c hi A F L H E D (fun _ => False) := ⟨h.q, h.ra, h.lx, h.ne, h.it, h.ok, fun b => by rw [h.mem]; simp, h.nd, h.srt, h.top, h.len, h.lo, h.dat, h.dl⟩
theorem Qy.qs (h : Qy w B qb c hi A F L H E D X) (hx : ∀ b ∈ L, (E b).hol = 0 → ¬ X b) : Qs w B qb c hi A F L H E D := ⟨h.q, h.ra, h.lx, h.ne, h.it, h.ok, fun b => by
  rw [h.mem]
  exact ⟨fun e => ⟨e.1, e.2.1⟩, fun e => ⟨e.1, e.2, hx b e.1 e.2⟩⟩, h.nd, h.srt, h.top, h.len, h.lo, h.dat, h.dl⟩
theorem Qy.below (h : Qy w B qb c hi A F L H E D X) (hb : Below w.heap.size w w') : Qy w' B qb c hi A F L H E D X :=
  ⟨(hb.block _ h.q.lt).trans h.q, h.ra.kept (row := none) ⟨hb.os, hb.tape, hb.output, hb.size, fun k hk _ => hb.block k hk⟩ (by cases h0 : A.ownBlock <;> simp), h.lx.below hb, h.ne, fun b hbL => (h.it b hbL).imp fun p hp => (hb.block _ (IB.lt hp)).trans hp, h.ok, h.mem, h.nd, h.srt, h.top, h.len, h.lo, fun b hbL => (h.dat b hbL).below hb, h.dl⟩
theorem Qy.rem {F' : Value} {H' : List Nat} {b : Nat} (hs : Qy w B qb c hi A F L H E D X) (hbH : b ∈ H) (hh : HRemP B qb b c hi A F H E w w' F' H') : Qy w' B qb c hi A F' L H' E D (fun k => X k ∨ k = b) ∧ Kp (inQ qb A F L) w w' := by
  obtain ⟨g1, g2, g3, g4, g5, g6, p, g7⟩ := hh
  have hbL : b ∈ L := ((hs.mem b).1 hbH).1
  have hnd : (H' ++ [b]).Nodup := g3.nodup_iff.2 hs.lx.nd
  have hbn : b ∉ H' := fun e => by
    have := (List.nodup_append.1 hnd).2.2 b e b (by simp)
    exact this rfl
  have hmem : ∀ k, k ∈ H' ↔ k ∈ H ∧ k ≠ b := fun k => by
    rw [← g3.mem_iff, List.mem_append]
    constructor
    · intro hk
      exact ⟨.inl hk, fun e => hbn (by rw [← e]; exact hk)⟩
    · rintro ⟨hk | hk, hn⟩
      · exact hk
      · simp at hk
        exact absurd hk hn
  have hkeep : ∀ k, k < w.heap.size → k ≠ qb → F.ownBlock ≠ some k → k ∉ H → w'.heap[k]? = w.heap[k]? := fun k h1 h2 h3 h4 =>
    g6.block h1 (fun hk => hk.elim h2 (fun hk => hk.elim h3 h4))
  refine ⟨⟨g1, ?_, g2, fun g e e2 => hs.ne g e (by rw [← g5]; exact e2), ?_, g4, ?_, hs.nd, hs.srt, hs.top, hs.len, hs.lo, ?_, hs.dl⟩, g6.mono (fun k hk => ?_)⟩
  · refine rows_keep hs.ra (fun k e => ?_)
    obtain ⟨cur, hg⟩ := row_blk hs.ra e
    refine hkeep k (Array.getElem?_eq_some_iff.1 hg).1 (fun e2 => (hs.q.ne_row hs.ra e) e2.symm) (hs.ne k e) (fun e2 => ?_)
    obtain ⟨p', hp'⟩ := hs.it k ((hs.mem k).1 e2).1
    exact (hp'.ne_row hs.ra e) rfl
  · intro k hk
    by_cases e : k = b
    · subst e
      exact ⟨p, g7⟩
    · by_cases hkH : k ∈ H'
      · obtain ⟨i, hi', he⟩ := List.mem_iff_getElem.1 hkH
        exact ⟨_, g2.it i k (by rw [List.getElem?_eq_getElem hi', he])⟩
      · obtain ⟨p', hp'⟩ := hs.it k hk
        exact ⟨p', (hkeep k hp'.lt (fun e2 => (hs.q.ne_item hp') e2.symm) (fun e2 => (hp'.ne_row hs.lx.row e2) rfl) (fun e2 => hkH ((hmem k).2 ⟨e2, e⟩))).trans hp'⟩
  · intro k
    rw [hmem, hs.mem]
    constructor
    · rintro ⟨⟨h1, h2, h3⟩, h4⟩
      exact ⟨h1, h2, fun h => h.elim h3 h4⟩
    · rintro ⟨h1, h2, h3⟩
      exact ⟨⟨h1, h2, fun h => h3 (.inl h)⟩, fun h => h3 (.inr h)⟩
  · intro k hk
    have ho := hs.dat k hk
    exact ho.keep (fun k e => hkeep k (ho.lt k e).2 (fun e2 => (ho.ne (b := qb) hs.q (by decide)) (by rw [← e2]; exact e)) (fun e2 => by
      obtain ⟨cur, hg⟩ := row_blk hs.lx.row e2
      exact (ho.ne hg (by decide)) e) (fun e2 => by
      obtain ⟨p', hp'⟩ := hs.it k ((hs.mem k).1 e2).1
      exact (ho.ne hp' (by decide)) e))
  · rcases hk with h | h | h
    · exact .inl h
    · exact .inr (.inr (.inr h))
    · exact .inr (.inl ((hs.mem k).1 h).1)
/-- all is put anew: some are left out -/
theorem Qy.fewer {A' : Value} {L' : List Nat} (hs : Qy w B qb c hi A F L H E D X) (hl : L'.Sublist L) (hH : ∀ b ∈ H, b ∈ L') (hX : ∀ b ∈ L', (E b).hol = 0 → ¬ X b) (hq : QB w' qb c hi A' F) (hr : w'.ownsRow B 67 1 A' L'.length (L'.map ptr)) (ho : A'.ownBlock = A.ownBlock) (hkp : Kp (fun j => j = qb ∨ A.ownBlock = some j) w w') :
    Qs w' B qb c hi A' F L' H E D := by
  have hkeep : ∀ j, j < w.heap.size → j ≠ qb → A.ownBlock ≠ some j → w'.heap[j]? = w.heap[j]? := fun j h1 h2 h3 => hkp.block h1 (fun h => h.elim h2 h3)
  have hmem : ∀ x, x ∈ L' → x ∈ L := fun x hx => hl.subset hx
  have hitem : ∀ b ∈ L, w'.heap[b]? = w.heap[b]? := fun b hbL => by
    obtain ⟨p, hp⟩ := hs.it b hbL
    exact hkeep b hp.lt (fun e => (hs.q.ne_item hp) e.symm) (fun e => (hp.ne_row hs.ra e) rfl)
  refine ⟨hq, hr, hs.lx.keep (fun j hj => ?_), fun g e => by rw [ho] at e; exact hs.ne g e, fun b hbL => ?_, hs.ok, fun b => ?_, hs.nd.sublist hl, hs.srt.sublist hl, fun b hbL => hs.top b (hmem b hbL), Nat.le_trans hl.length_le hs.len, ⟨hs.lo.1, fun b hbL => hs.lo.2 b (hmem b hbL)⟩, fun b hbL => ?_, fun b hbL => hs.dl b (hmem b hbL)⟩
  · rcases hj with e | e
    · obtain ⟨cur, hg⟩ := row_blk hs.lx.row e
      exact hkeep j (Array.getElem?_eq_some_iff.1 hg).1 (fun e2 => (hs.q.ne_row hs.lx.row e) e2.symm) (fun e2 => hs.ne j e2 e)
    · exact hitem j ((hs.mem j).1 e).1
  · obtain ⟨p, hp⟩ := hs.it b (hmem b hbL)
    exact ⟨p, (hitem b (hmem b hbL)).trans hp⟩
  · constructor
    · intro h
      exact ⟨hH b h, ((hs.mem b).1 h).2.1⟩
    · rintro ⟨h1, h2⟩
      exact (hs.mem b).2 ⟨hmem b h1, h2, hX b h1 h2⟩
  · have ho' := hs.dat b (hmem b hbL)
    refine ho'.keep (fun j e => hkeep j (ho'.lt j e).2 (fun e2 => (ho'.ne (b := qb) hs.q (by decide)) (by rw [← e2]; exact e)) (fun e2 => ?_))
    obtain ⟨cur, hg⟩ := row_blk hs.ra e2
    exact (ho'.ne hg (by decide)) e
end
set_option maxRecDepth 100000 in
set_option maxHeartbeats 2000000 in
theorem drop_raw (B qb : Nat) (c : Cf) (hi : Int) (A F : Value) (L : List Nat) (k : Nat) (w : World) (hsq : QB w qb c hi A F) (hsra : w.ownsRow B 67 1 A L.length (L.map ptr)) (hslen : L.length ≤ 4096) (hk : k < L.length) :
    Calls Try.prog 31 #[.pointer (some ⟨qb, 0, none⟩), .int .i64 (k : Int)] w fun e w' => e = .returned (.tuple #[]) ∧ ∃ A', Hid (QB w' qb c hi A' F ∧ w'.ownsRow B 67 1 A' (L.eraseIdx k).length ((L.eraseIdx k).map ptr) ∧ A'.ownBlock = A.ownBlock ∧ Kp (fun j => j = qb ∨ A.ownBlock = some j) w w') := by
  have HDL := hide (delete_row hsra k hk)
  have c6 := hsq.cell.2.2.2.2.2.2.1
  have hql := hsq.lt
  have HQ := hide hsq
  have HNE : Hid (∀ j, A.ownBlock = some j → qb ≠ j) := fun j e => hsq.ne_row hsra e
  obtain ⟨a, cap, hA⟩ := row_form hsra
  have hL4 := hslen
  have hw1 : IntKind.i64.wrap ((k : Int) + 1) = (k : Int) + 1 := by rw [IntKind.wrap_i64]; omega
  subst hA
  obtain ⟨nL, hnL⟩ : ∃ nL, L.length = nL := ⟨_, rfl⟩
  rw [hnL] at c6 hL4 hk HDL HQ HNE
  rw [hnL]
  clear hsq hsra hslen hnL
  go_enter Try.func31, Try.ntmps31
  go_wp2_with fail
  refine Calls.mono HDL.out ?_
  rintro e w1 ⟨A', rfl, HA⟩
  obtain ⟨r1, r2, r3⟩ := HA.out
  have hq1 : QB w1 qb c hi (.slice a nL cap) F := (r3.block qb hql (fun e => HNE.out qb e.symm rfl)).trans HQ.out
  obtain ⟨a', cap', hA'⟩ := row_form r1
  subst hA'
  have c6' := hq1.cell.2.2.2.2.2.2.1
  have f6' := hq1.free 6
  have hql' := hq1.lt
  have HQ1 := hide hq1
  have HR1 := hide r1
  have HR2 := hide r2
  have HR3 := hide r3
  clear hq1 r1 r2 r3 HA
  go_wp2
  go_end0
  refine ⟨rfl, _, HQ1.out.set6 _, rows_set' HR1.out (fun e => HNE.out qb (by rw [← HR2.out]; exact e) rfl) _, HR2.out, ?_⟩
  exact ((Kp.refl _ w).grown HR3.out (fun j e => .inl (.inr e))).setCell (.inl rfl) _
end Go.Proofs.Ytnbhifakfehefaa
