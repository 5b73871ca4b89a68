
/- QueueOrder: its calls of the queue. -/
import Derived.Test.YtnbhifakfehefaaKOrdM
namespace Go.Proofs.Ytnbhifakfehefaa
open Go.RowKit
set_option linter.unusedVariables false
set_option linter.unusedSimpArgs false
theorem kp_up {w W W' : World} {qb : Nat} {c : Cf} {hi : Int} {A F : Value} {L H : List Nat} {E : Nat → It} {D : Nat → List Nat} (h0 : Below w.heap.size w W) (hs : Qs W w.heap.size qb c hi A F L H E D) (hk : Kp (inQ qb A F L) W W') : Below w.heap.size w W' :=
  h0.trans (hk.toBelow h0.size (fun k hk hq => by have := hs.high k hq; omega))
theorem put_or {w W : World} {qb : Nat} {hi : Int} {ls : List Ev} (h : OQ w qb hi ls W) (x : Ev) (l : List Nat) (hn : x.n = l.length) (hr : Rd w x.a x.n l) (hnil : x.a = none → x.c = 0) (hcap : x.n ≤ x.c) (hsq : hi < x.seq) :
    Calls Try.prog 12 #[.pointer (some ⟨qb, 0, none⟩), .agg #[.int .i64 x.seq, .int .i64 x.pri, .int .i64 x.exp, .bool x.dur, .int .i64 x.cnt, .int .i64 x.hol, .slice x.a x.n x.c]] W fun e W' => ∃ z : Int, e = .returned (.int .i64 z) ∧ Hid (KE W W') ∧ Hid (((z == 0) = false ∧ OQ w qb hi ls W') ∨ (z = 0 ∧ OQ w qb x.seq (ls ++ [x]) W')) := by
  obtain ⟨h0, A, F, L, H, E, D, hs, hl, hm⟩ := h
  have hrb : Rb W x.it.dat l := ⟨x.a, x.c, by unfold Ev.it; rw [hn], hnil, by omega, by rw [← hn]; exact ⟨hr.1, hr.2.1, fun hp => by
    obtain ⟨b, off, e1, e2, e3⟩ := hr.2.2 hp
    exact ⟨b, off, e1, Nat.lt_of_lt_of_le e2 h0.size, fun j hj => (h0.cell (p := ⟨b, off + j, none⟩) e2).trans (e3 j hj)⟩⟩⟩
  by_cases hz : putZ x.it hi L.length cO.m l.length = 0
  · have hA : ¬ (x.it.may = false ∨ x.it.seq ≤ hi) ∧ ¬ 1048576 < l.length ∧ ¬ (L.length : Int) = cO.m := by
      unfold putZ at hz
      by_cases a1 : x.it.may = false ∨ x.it.seq ≤ hi
      · rw [if_pos a1] at hz
        omega
      · rw [if_neg a1] at hz
        by_cases a2 : 1048576 < l.length
        · rw [if_pos a2] at hz
          omega
        · rw [if_neg a2] at hz
          by_cases a3 : (L.length : Int) = cO.m
          · rw [if_pos a3] at hz
            omega
          · exact ⟨a1, a2, a3⟩
    have hmy : x.it.may = true := by
      cases e : x.it.may
      · exact absurd (.inl e) hA.1
      · rfl
    have h4 := hs.len
    have hm4 : cO.m = 4096 := rfl
    have q := put_ok w.heap.size qb cO hi A F L H E D x.it l W hs hrb hmy hsq (by omega) (by have := hA.2.2; omega) (by decide)
    refine Calls.mono q ?_
    rintro e W' ⟨rfl, b, v, A', F', H', HP⟩
    obtain ⟨p1, p2, p3⟩ := HP.out
    refine ⟨0, rfl, KE.kp hs p3, .inr ⟨rfl, ⟨kp_up h0 hs p3, A', F', L ++ [b], H', _, _, p1, by simp [hl], fun k y hk => ?_⟩⟩⟩
    have hbL : ∀ j, j < L.length → hv L j ≠ b := fun j hj e => by
      obtain ⟨p, hp⟩ := hs.it _ (hv_mem L j hj)
      have := hp.lt
      omega
    by_cases hkl : k < ls.length
    · rw [List.getElem?_append_left hkl] at hk
      rw [hv_app L b k (by omega), upd_ne E b _ _ (hbL k (by omega))]
      unfold updL
      rw [if_neg (hbL k (by omega))]
      exact hm k y hk
    · have hke : k = ls.length := by
        have := (List.getElem?_eq_some_iff.1 hk).1
        simp at this
        omega
      subst hke
      rw [List.getElem?_append_right (Nat.le_refl _), Nat.sub_self] at hk
      simp only [List.getElem?_cons_zero, Option.some.injEq] at hk
      subst hk
      rw [← hl, hv_last, upd_at]
      unfold updL
      rw [if_pos rfl]
      refine ⟨⟨⟨rfl, rfl, rfl, rfl, rfl, rfl⟩, hn, hr⟩, ?_⟩
      unfold It.may at hmy
      exact (of_decide_eq_true hmy).2.2.2.2.2.2.2
  · have q := put_no w.heap.size qb cO hi A F L H E D x.it l W hs hrb hz
    refine Calls.mono q ?_
    rintro e W' ⟨rfl, hb⟩
    exact ⟨_, rfl, KE.below hb, .inl ⟨by rw [beq_eq_false_iff_ne]; exact hz, OQ.below ⟨h0, A, F, L, H, E, D, hs, hl, hm⟩ hb⟩⟩
theorem OQ.free {w W : World} {qb : Nat} {hi : Int} {A F : Value} {L H : List Nat} {E : Nat → It} {D : Nat → List Nat} {ls : List Ev} (hs : Qs W w.heap.size qb cO hi A F L H E D) (hl : L.length = ls.length) (hm : ∀ k x, ls[k]? = some x → Mt w x (E (hv L k)) (D (hv L k)) ∧ x.hol = 0) (b : Nat) : b ∈ H ↔ b ∈ L := by
  rw [hs.mem]
  constructor
  · exact fun h => h.1
  · intro h
    refine ⟨h, ?_⟩
    obtain ⟨k, hk, rfl⟩ := List.mem_iff_getElem.1 h
    have := hm k ls[k] (List.getElem?_eq_getElem (by omega))
    rw [hv_eq L k hk] at this
    rw [← this.1.1.2.2.2.2.2]
    exact this.2
theorem pr_get {ls : List Ev} {j : Nat} (hj : j < ls.length) : pr ls j = ls[j].pri := by
  unfold pr
  rw [List.getElem?_eq_getElem hj]
  rfl
theorem take_or {w W : World} {qb : Nat} {hi : Int} {ls : List Ev} (h : OQ w qb hi ls W) (t : Int) (ht : 1 ≤ t) :
    Calls Try.prog 13 #[.pointer (some ⟨qb, 0, none⟩), .int .i64 t, .nilFunc] W fun e W' => (ls = [] ∧ e = .returned (.tuple #[.agg #[.int .i64 0, .int .i64 0, .int .i64 0, .bool false, .int .i64 0, .int .i64 0, .slice none 0 0], .bool false]) ∧ Hid (OQ w qb hi ls W') ∧ Hid (KE W W')) ∨
      (∃ (k : Nat) (x : Ev) (a : Option Addr) (c : Nat), ls[k]? = some x ∧ e = .returned (.tuple #[.agg #[.int .i64 x.seq, .int .i64 x.pri, .int .i64 x.exp, .bool x.dur, .int .i64 x.cnt, .int .i64 t, .slice a x.n c], .bool true]) ∧ Hid (Best ls ls.length k ∧ OM w qb hi ls k t W' ∧ KE W W' ∧ ∃ l, Rd W' a x.n l ∧ Rd w x.a x.n l)) := by
  obtain ⟨h0, A, F, L, H, E, D, hs, hl, hm⟩ := h
  have hfree := OQ.free hs hl hm
  by_cases hL : L = []
  · subst hL
    have hls : ls = [] := List.eq_nil_of_length_eq_zero (by simpa using hl.symm)
    have hH : H = [] := by
      cases H with
      | nil => rfl
      | cons b H => exact absurd ((hfree b).1 (by simp)) (by simp)
    subst hH
    refine Calls.mono (take_none w.heap.size qb cO hi A F [] E D t W hs) ?_
    rintro e W' ⟨rfl, hb⟩
    exact .inl ⟨hls, rfl, OQ.below ⟨h0, A, F, [], [], E, D, hs, hl, hm⟩ hb, KE.below hb⟩
  · have hH0 : 0 < H.length := by
      cases L with
      | nil => exact absurd rfl hL
      | cons b L => exact List.length_pos_of_mem ((hfree b).2 (by simp))
    refine Calls.mono (take_nil w.heap.size qb cO hi A F L H E D t W hs ht hH0) ?_
    rintro e W' ⟨v, rfl, F', H', HP⟩
    obtain ⟨p1, p2, p3, p4⟩ := HP.out
    have hbL : hv H 0 ∈ L := (hfree _).1 (hv_mem H 0 hH0)
    obtain ⟨k, hk, hke⟩ := List.mem_iff_getElem.1 hbL
    have hkv : hv L k = hv H 0 := by rw [hv_eq L k hk, hke]
    have hkl : k < ls.length := by omega
    have hx := List.getElem?_eq_getElem hkl
    obtain ⟨⟨⟨e1, e2, e3, e4, e5, e6⟩, e7, e8⟩, e9⟩ := hm k ls[k] hx
    rw [hkv] at e1 e2 e3 e4 e5 e6 e7 e8
    obtain ⟨a, c, hv'⟩ := row_form p2.1
    subst hv'
    refine .inr ⟨k, ls[k], a, c, hx, ?_, ⟨hkl, fun j hj => ?_⟩, ⟨kp_up h0 hs p4, A, F', L, H', _, D, p1, hl, fun j y hy => ?_⟩, KE.kp hs p4, D (hv H 0), ?_, e8⟩
    · unfold It.held It.put It.ent
      simp only
      rw [e1, e2, e3, e4, e5, e7]
    · obtain ⟨⟨⟨f1, f2, _⟩, _⟩, _⟩ := hm j ls[j] (List.getElem?_eq_getElem hj)
      have hjH : hv L j ∈ H := (hfree _).2 (hv_mem L j (by omega))
      obtain ⟨m, hmH, hme⟩ := List.mem_iff_getElem.1 hjH
      have hle := heap_first (leE_trans E) (leE_refl E) hs.ok m hmH
      rw [hv_eq H m hmH, hme] at hle
      unfold leE Ahead at hle
      rw [pr_get hj, pr_get hkl, e2, f2]
      refine ⟨by omega, fun hjk => ?_⟩
      have hsr := List.pairwise_iff_getElem.1 hs.srt j k (by omega) hk hjk
      rw [← hv_eq L j (by omega), hke] at hsr
      omega
    · refine ⟨(hm j y hy).2, fun hne => ?_, fun he => ?_⟩
      · have : hv L j ≠ hv H 0 := fun e => hne (hv_inj L hs.nd j k (by have := (List.getElem?_eq_some_iff.1 hy).1; omega) hk (e.trans hkv.symm))
        rw [upd_ne E _ _ _ this]
        exact (hm j y hy).1
      · subst he
        rw [hx] at hy
        simp only [Option.some.injEq] at hy
        subst hy
        rw [hkv, upd_at]
        exact ⟨⟨e1, e2, e3, e4, e5, rfl⟩, e7, e8⟩
    · rw [e7]
      obtain ⟨a', c', q1, _, _, q2⟩ := p2.rb
      simp only [Value.slice.injEq] at q1
      obtain ⟨rfl, _, rfl⟩ := q1
      exact q2
theorem rem_or {w W : World} {qb : Nat} {hi t : Int} {ls : List Ev} {k : Nat} {x : Ev} (h : OM w qb hi ls k t W) (hx : ls[k]? = some x) (ht : 1 ≤ t) :
    Calls Try.prog 15 #[.pointer (some ⟨qb, 0, none⟩), .int .i64 x.seq, .int .i64 t] W fun e W' => ∃ (a : Option Addr) (c : Nat), e = .returned (.tuple #[.agg #[.int .i64 x.seq, .int .i64 x.pri, .int .i64 x.exp, .bool x.dur, .int .i64 x.cnt, .int .i64 t, .slice a x.n c], .int .i64 0]) ∧ Hid (OQ w qb hi (ls.eraseIdx k) W' ∧ KE W W' ∧ ∃ l, Rd W' a x.n l ∧ Rd w x.a x.n l) := by
  obtain ⟨h0, A, F, L, H, E, D, hs, hl, hm⟩ := h
  have hkl := (List.getElem?_eq_some_iff.1 hx).1
  have hk : k < L.length := by omega
  obtain ⟨⟨e1, e2, e3, e4, e5, e6⟩, e7, e8⟩ := (hm k x hx).2.2 rfl
  simp only at e1 e2 e3 e4 e5 e6 e7 e8
  have q := remove_held w.heap.size qb cO hi A F L H E D k W hs hk (by rw [← e6]; exact ht)
  rw [← e1, ← e6] at q
  refine Calls.mono q ?_
  rintro e W' ⟨v, rfl, A', HP⟩
  obtain ⟨p1, p2, p3⟩ := HP.out
  obtain ⟨a, c, hv'⟩ := row_form p2.1
  subst hv'
  refine ⟨a, c, ?_, ⟨kp_up h0 hs p3, A', F, L.eraseIdx k, H, E, D, p1, by rw [List.length_eraseIdx, List.length_eraseIdx, hl], fun j y hy => ?_⟩, KE.kp hs p3, D (hv L k), ?_, e8⟩
  · unfold It.put It.ent
    simp only
    rw [← e1, ← e2, ← e3, ← e4, ← e5, ← e6, e7]
  · rw [hv_erase L k j (by rw [List.length_eraseIdx, hl]; have := (List.getElem?_eq_some_iff.1 hy).1; rw [List.length_eraseIdx] at this; exact this)]
    rw [List.getElem?_eraseIdx] at hy
    by_cases hjk : j < k
    · rw [if_pos hjk] at hy ⊢
      have := hm j y hy
      exact ⟨this.2.1 (by omega), this.1⟩
    · rw [if_neg hjk] at hy ⊢
      have := hm (j + 1) y hy
      exact ⟨this.2.1 (by omega), this.1⟩
  · rw [e7]
    obtain ⟨a', c', q1, _, _, q2⟩ := p2.rb
    simp only [Value.slice.injEq] at q1
    obtain ⟨rfl, _, rfl⟩ := q1
    exact q2
theorem len_or {w W : World} {qb : Nat} {hi : Int} (h : OQ w qb hi [] W) : Calls Try.prog 10 #[.pointer (some ⟨qb, 0, none⟩)] W fun e W' => e = .returned (.tuple #[.int .i64 0, .int .i64 0]) ∧ Below w.heap.size w W' := by
  obtain ⟨h0, A, F, L, H, E, D, hs, hl, hm⟩ := h
  have hL : L = [] := List.eq_nil_of_length_eq_zero (by simpa using hl)
  subst hL
  have hH : H = [] := by
    cases H with
    | nil => rfl
    | cons b H => exact absurd ((hs.mem b).1 (by simp)).1 (by simp)
  subst hH
  refine Calls.mono (len_any w.heap.size qb cO hi A F [] [] E D W hs) ?_
  rintro e W' ⟨rfl, hb⟩
  exact ⟨rfl, belOn h0 h0.size hb⟩
theorem Qs.grown {w w' : World} {B qb : Nat} {row : Option Nat} {c : Cf} {hi : Int} {A F : Value} {L H : List Nat} {E : Nat → It} {D : Nat → List Nat} (h : Qs w B qb c hi A F L H E D) (hg : w.grownBy w' row) (hr : ∀ g, row = some g → ∃ cur fr, w.heap[g]? = some (.cells cur 37 fr)) : Qs w' B qb c hi A F L H E D := by
  have hk : ∀ k o, w.heap[k]? = some o → (∀ cur fr, o ≠ Obj.cells cur 37 fr) → w'.heap[k]? = w.heap[k]? := fun k o ho hn => hg.block k (Array.getElem?_eq_some_iff.1 ho).1 (fun e => by
    obtain ⟨cur, fr, h1⟩ := hr k e.symm
    rw [ho] at h1
    exact hn cur fr (by simpa using h1))
  have ki : ∀ k x, IB w k x → w'.heap[k]? = w.heap[k]? := fun k x hx => hk k _ hx (fun cur fr e => by simp at e)
  have kr : ∀ G m xs k, w.ownsRow B 67 1 G m xs → G.ownBlock = some k → w'.heap[k]? = w.heap[k]? := fun G m xs k hx e => by
    obtain ⟨cur', hg'⟩ := row_blk hx e
    exact hk k _ hg' (fun cur fr e => by simp at e)
  refine ⟨(hk qb _ h.q (fun cur fr e => by simp at e)).trans h.q, rows_keep h.ra (fun k e => kr _ _ _ k h.ra e), h.lx.keep (fun k e => ?_), h.ne, fun k hkL => ?_, h.ok, h.mem, h.nd, h.srt, h.top, h.len, h.lo, fun k hkL => (h.dat k hkL).keep (fun j e => ?_), h.dl⟩
  · rcases e with e | e
    · exact kr _ _ _ k h.lx.row e
    · obtain ⟨p, hp⟩ := h.it k ((h.mem k).1 e).1
      exact ki k _ hp
  · obtain ⟨p, hp⟩ := h.it k hkL
    exact ⟨p, (ki k _ hp).trans hp⟩
  · have ho := h.dat k hkL
    rcases ho.1.2 with ⟨hv, _⟩ | ⟨g, cap, cur, hv, _, hgg, _⟩
    · rw [hv] at e
      cases e
    · rw [hv] at e
      cases e
      exact hk g _ hgg (fun cur fr e => by simp at e)
theorem OQ.grown {w W W' : World} {qb : Nat} {hi : Int} {ls : List Ev} {row : Option Nat} (h : OQ w qb hi ls W) (hg : W.grownBy W' row) (hr : ∀ g, row = some g → w.heap.size ≤ g ∧ ∃ cur fr, W.heap[g]? = some (.cells cur 37 fr)) : OQ w qb hi ls W' := by
  obtain ⟨h0, A, F, L, H, E, D, h1, h2⟩ := h
  refine ⟨⟨hg.os.trans h0.os, hg.tape.trans h0.tape, hg.output.trans h0.output, Nat.le_trans h0.size hg.size, fun k hk => ?_⟩, A, F, L, H, E, D, h1.grown hg (fun g e => (hr g e).2), h2⟩
  exact (hg.block k (Nat.lt_of_lt_of_le hk h0.size) (fun e => by have := (hr k e.symm).1; omega)).trans (h0.block k hk)
/-- the entries that came in -/
structure InE (w : World) (a0 : Option Addr) (n0 : Nat) (f : Nat → Ev) : Prop where
  row : 0 < n0 → ∃ g off, a0 = some ⟨g, off, none⟩ ∧ g < w.heap.size ∧ ∀ j, j < n0 → ∀ i u, (f j).enc[i]? = some u → w.cell? ⟨g, off + j * 7 + i, none⟩ = some u
  dat : ∀ j, j < n0 → ∃ l, (f j).n = l.length ∧ Rd w (f j).a (f j).n l ∧ ((f j).a = none → (f j).c = 0) ∧ (f j).n ≤ (f j).c
/-- numbers that came in -/
def Ri (w : World) (a : Option Addr) (n : Nat) (zs : List Int) : Prop := 0 < n → ∃ b off, a = some ⟨b, off, none⟩ ∧ b < w.heap.size ∧ ∀ j, j < n → w.cell? ⟨b, off + j, none⟩ = some (.int .i64 (zs.getD j 0))
end Go.Proofs.Ytnbhifakfehefaa
