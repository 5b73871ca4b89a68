import Derived.Test.YtnbhifakfehefaaKAllA
import Derived.Test.YtnbhifakfehefaaKOrdC
import Derived.Test.YtnbhifakfehefaaKLive
import Derived.Test.YtnbhifakfehefaaKSame

/- QueueKeeps: what holds between the law and the queue; its calls. -/
namespace Go.Proofs.Ytnbhifakfehefaa
open Go.RowKit
set_option linter.unusedVariables false
set_option linter.unusedSimpArgs false
def cK (m : Int) : Cf := ⟨⟨#[113]⟩, m, ⟨#[]⟩, 3, false⟩
theorem cK_ok (m : Int) : (cK m).ok = decide (1 ≤ m ∧ m ≤ 4096) := by
  have h1 : nameOk ⟨#[113]⟩ = true := by first | rfl | decide | kernel_rfl
  unfold Cf.ok cK
  simp only
  rw [h1, nil_list]
  simp
/-- an item is the j-th entry that came in, perhaps counted up -/
def Itm (w : World) (f : Nat → Ev) (i : Nat) (x : It) (l : List Nat) : Prop := ∃ j, j < i ∧ x.seq = (j : Int) + 1 ∧ x.pri = (f j).pri ∧ x.exp = (f j).exp ∧ x.dur = (f j).dur ∧ (f j).cnt ≤ x.cnt ∧ (0 ≤ x.cnt ∧ x.cnt ≤ 4294967295) ∧ 0 ≤ x.hol ∧ (f j).n = l.length ∧ Rd w (f j).a (f j).n l
theorem Itm.more {w : World} {f : Nat → Ev} {i i' : Nat} {x : It} {l : List Nat} (h : Itm w f i x l) (hi : i ≤ i') : Itm w f i' x l := by
  obtain ⟨j, h1, h2⟩ := h
  exact ⟨j, by omega, h2⟩
theorem Itm.hold {w : World} {f : Nat → Ev} {i : Nat} {x : It} {l : List Nat} (h : Itm w f i x l) (t : Int) (ht : 0 ≤ t) : Itm w f i (x.held t) l := by
  obtain ⟨j, h1, h2, h3, h4, h5, h6, h7, h8, h9⟩ := h
  exact ⟨j, h1, h2, h3, h4, h5, h6, h7, ht, h9⟩
theorem Itm.back {w : World} {f : Nat → Ev} {i : Nat} {x : It} {l : List Nat} (h : Itm w f i x l) (n : Int) (h1 : x.cnt ≤ n) (h2 : n ≤ 4294967295) : Itm w f i (x.back n) l := by
  obtain ⟨j, g1, g2, g3, g4, g5, g6, g7, g8, g9⟩ := h
  exact ⟨j, g1, g2, g3, g4, g5, Int.le_trans g6 h1, ⟨Int.le_trans g7.1 h1, h2⟩, Int.le_refl _, g9⟩
def KSt (w w0 : World) (qb : Nat) (mo : Int) (f : Nat → Ev) (i m h : Nat) (W : World) : Prop :=
  Below w0.heap.size w0 W ∧ (m : Int) ≤ mo ∧ ∃ hi A F L H E D, Qs W w0.heap.size qb (cK mo) hi A F L H E D ∧ hi ≤ (i : Int) ∧ L.length = m ∧ H.length = h ∧ ∀ b ∈ L, Itm w f i (E b) (D b)
section
variable {w w0 W W' : World} {qb : Nat} {mo : Int} {f : Nat → Ev} {i m h : Nat}
theorem KSt.below (hk : KSt w w0 qb mo f i m h W) (hb : Below W.heap.size W W') : KSt w w0 qb mo f i m h W' := by
  obtain ⟨h0, h1, hi, A, F, L, H, E, D, hs, hr⟩ := hk
  exact ⟨belOn h0 h0.size hb, h1, hi, A, F, L, H, E, D, hs.below hb, hr⟩
theorem KSt.bnd (hk : KSt w w0 qb mo f i m h W) : h ≤ m ∧ m ≤ 4096 := by
  obtain ⟨h0, h1, hi, A, F, L, H, E, D, hs, _, hl, hh, _⟩ := hk
  have a := hs.qy.line_le
  have b := hs.len
  omega
theorem kq_up {c : Cf} {hi : Int} {A F : Value} {L H : List Nat} {E : Nat → It} {D : Nat → List Nat} (h0 : Below w0.heap.size w0 W) (hs : Qs W w0.heap.size qb c hi A F L H E D) (hk : Kp (inQ qb A F L) W W') : Below w0.heap.size w0 W' :=
  h0.trans (hk.toBelow h0.size (fun k hk hq => by have := hs.high k hq; omega))
theorem nodup_eq {A B : List Nat} (ha : A.Nodup) (hb : B.Nodup) (h : ∀ x, x ∈ A ↔ x ∈ B) : A.length = B.length :=
  Nat.le_antisymm (nodup_le A B ha (fun x hx => (h x).1 hx)) (nodup_le B A hb (fun x hx => (h x).2 hx))
theorem len_k (hk : KSt w w0 qb mo f i m h W) (p q : Int) (hp : p = (h : Int)) (hq : q = (m : Int) - (h : Int)) : Calls Try.prog 10 #[.pointer (some ⟨qb, 0, none⟩)] W fun e W' => e = .returned (.tuple #[.int .i64 p, .int .i64 q]) ∧ Hid (KSt w w0 qb mo f i m h W' ∧ Below W.heap.size W W') := by
  have hk0 := hk
  obtain ⟨h0, h1, hi, A, F, L, H, E, D, hs, hr, hl, hh, _⟩ := hk
  refine Calls.mono (len_any _ qb _ hi A F L H E D W hs) ?_
  rintro e W' ⟨rfl, hb⟩
  rw [hl, hh, hp, hq]
  exact ⟨rfl, hk0.below hb, hb⟩
theorem put_k (hw0 : Below w.heap.size w w0) (hk : KSt w w0 qb mo f i m h W) (l : List Nat) (hn : (f i).n = l.length) (hr : Rd w (f i).a (f i).n l) (hnil : (f i).a = none → (f i).c = 0) (hcap : (f i).n ≤ (f i).c) (hmo : mo ≤ 4096) :
    Calls Try.prog 12 #[.pointer (some ⟨qb, 0, none⟩), .agg #[.int .i64 ((i : Int) + 1), .int .i64 (f i).pri, .int .i64 (f i).exp, .bool (f i).dur, .int .i64 (f i).cnt, .int .i64 (f i).hol, .slice (f i).a (f i).n (f i).c]] W fun e W' => ∃ z : Int, e = .returned (.int .i64 z) ∧ Hid (((z == 0) = false ∧ (z = 170 → (m : Int) = mo) ∧ KSt w w0 qb mo f (i + 1) m h W') ∨ (z = 0 ∧ KSt w w0 qb mo f (i + 1) (m + 1) (h + 1) W')) := by
  have hk0 := hk
  obtain ⟨h0, h1, hi, A, F, L, H, E, D, hs, hh, hl, hh', hm⟩ := hk
  obtain ⟨x, hx⟩ : ∃ x : It, (⟨(i : Int) + 1, (f i).pri, (f i).exp, (f i).dur, (f i).cnt, (f i).hol, .slice (f i).a (f i).n (f i).c, 0⟩ : It) = x := ⟨_, rfl⟩
  have hent : (.agg #[.int .i64 ((i : Int) + 1), .int .i64 (f i).pri, .int .i64 (f i).exp, .bool (f i).dur, .int .i64 (f i).cnt, .int .i64 (f i).hol, .slice (f i).a (f i).n (f i).c] : Value) = x.ent := by rw [← hx]; rfl
  rw [hent]
  have hrW : Rd W (f i).a (f i).n l := (hr.below hw0).below h0
  have hrb : Rb W x.dat l := ⟨(f i).a, (f i).c, by rw [← hx, ← hn], hnil, by omega, by rw [← hn]; exact hrW⟩
  have hsq : x.seq = (i : Int) + 1 := by rw [← hx]
  have hcm : (cK mo).m = mo := rfl
  by_cases hz : putZ x hi L.length (cK mo).m l.length = 0
  · have hA : ¬ (x.may = false ∨ x.seq ≤ hi) ∧ ¬ 1048576 < l.length ∧ ¬ (L.length : Int) = (cK mo).m := by
      unfold putZ at hz
      by_cases a1 : x.may = false ∨ x.seq ≤ hi
      · rw [if_pos a1] at hz
        omega
      · rw [if_neg a1] at hz
        by_cases a2 : 1048576 < l.length
        · rw [if_pos a2] at hz
          omega
        · rw [if_neg a2] at hz
          by_cases a3 : (L.length : Int) = (cK mo).m
          · rw [if_pos a3] at hz
            omega
          · exact ⟨a1, a2, a3⟩
    have hmy : x.may = true := by
      cases e : x.may
      · exact absurd (.inl e) hA.1
      · rfl
    have h4 := hs.len
    have q := put_ok w0.heap.size qb (cK mo) hi A F L H E D x l W hs hrb hmy (by omega) (by omega) (by have := hA.2.2; omega) (by rw [hcm]; exact hmo)
    refine Calls.mono q ?_
    rintro e W' ⟨rfl, b, v, A', F', H', HP⟩
    obtain ⟨p1, p2, p3⟩ := HP.out
    have hbL : b ∉ L := fun e => by
      obtain ⟨p, hp⟩ := hs.it _ e
      have := hp.lt
      omega
    have hbH : b ∉ H := fun e => hbL ((hs.mem b).1 e).1
    unfold It.may at hmy
    have hmy' := of_decide_eq_true hmy
    have hHl : H'.length = H.length + 1 := by
      have := nodup_eq (A := H') (B := b :: H) p1.lx.nd (List.nodup_cons.2 ⟨hbH, hs.lx.nd⟩) (fun y => by
        rw [p1.mem, List.mem_cons, List.mem_append, List.mem_singleton]
        constructor
        · rintro ⟨e1 | e1, e2⟩
          · have hyb : y ≠ b := fun e => hbL (by rw [← e]; exact e1)
            rw [upd_ne _ _ _ _ hyb] at e2
            exact .inr ((hs.mem y).2 ⟨e1, e2⟩)
          · exact .inl e1
        · rintro (e1 | e1)
          · subst e1
            refine ⟨.inr rfl, ?_⟩
            rw [upd_at]
            show x.hol = 0
            exact hmy'.2.2.2.2.2.2.2
          · have h2 := (hs.mem y).1 e1
            have hyb : y ≠ b := fun e => hbL (by rw [← e]; exact h2.1)
            rw [upd_ne _ _ _ _ hyb]
            exact ⟨.inl h2.1, h2.2⟩)
      simpa using this
    refine ⟨0, rfl, .inr ⟨rfl, kq_up h0 hs p3, ?_, x.seq, A', F', L ++ [b], H', _, _, p1, by rw [hsq]; omega, by simp [hl], by rw [hHl, hh'], fun y hy => ?_⟩⟩
    · have := hA.2.2
      rw [hcm] at this
      omega
    · rw [List.mem_append, List.mem_singleton] at hy
      by_cases e : y = b
      · subst e
        rw [upd_at]
        unfold updL
        rw [if_pos rfl]
        subst hx
        exact ⟨i, by omega, rfl, rfl, rfl, rfl, Int.le_refl _, ⟨hmy'.2.2.2.2.2.1, hmy'.2.2.2.2.2.2.1⟩, by show (0 : Int) ≤ (f i).hol; have h9 : (f i).hol = 0 := hmy'.2.2.2.2.2.2.2; omega, hn, hr⟩
      · rw [upd_ne _ _ _ _ e]
        unfold updL
        rw [if_neg e]
        exact (hm y (hy.resolve_right e)).more (by omega)
  · have q := put_no w0.heap.size qb (cK mo) hi A F L H E D x l W hs hrb hz
    refine Calls.mono q ?_
    rintro e W' ⟨rfl, hb⟩
    refine ⟨_, rfl, .inl ⟨by rw [beq_eq_false_iff_ne]; exact hz, fun e => ?_, ?_⟩⟩
    · unfold putZ at e
      by_cases a1 : x.may = false ∨ x.seq ≤ hi
      · rw [if_pos a1] at e
        omega
      · rw [if_neg a1] at e
        by_cases a2 : 1048576 < l.length
        · rw [if_pos a2] at e
          omega
        · rw [if_neg a2] at e
          by_cases a3 : (L.length : Int) = (cK mo).m
          · rw [hcm] at a3
            omega
          · rw [if_neg a3] at e
            omega
    · have hk1 : KSt w w0 qb mo f (i + 1) m h W := ⟨h0, h1, hi, A, F, L, H, E, D, hs, by omega, hl, hh', fun b hb => (hm b hb).more (by omega)⟩
      exact hk1.below hb
theorem take_k (hk : KSt w w0 qb mo f i m h W) (t : Int) : Calls Try.prog 13 #[.pointer (some ⟨qb, 0, none⟩), .int .i64 t, .nilFunc] W fun e W' => ∃ v, e = .returned v ∧ Hid (∃ h', KSt w w0 qb mo f i m h' W') := by
  have hk0 := hk
  obtain ⟨h0, h1, hi, A, F, L, H, E, D, hs, hh, hl, hh', hm⟩ := hk
  by_cases ht : t < 1
  · refine Calls.mono (take_low qb t W ht) ?_
    rintro e W' ⟨rfl, hb⟩
    exact ⟨_, rfl, h, hk0.below hb⟩
  · by_cases hH : 0 < H.length
    · refine Calls.mono (take_nil w0.heap.size qb (cK mo) hi A F L H E D t W hs (by omega) hH) ?_
      rintro e W' ⟨v, rfl, F', H', HP⟩
      obtain ⟨p1, p2, p3, p4⟩ := HP.out
      refine ⟨_, rfl, _, kq_up h0 hs p4, h1, hi, A, F', L, H', _, D, p1, hh, hl, rfl, fun y hy => ?_⟩
      by_cases e : y = hv H 0
      · rw [e, upd_at]
        exact (hm _ (by rw [← e]; exact hy)).hold t (by omega)
      · rw [upd_ne _ _ _ _ e]
        exact hm y hy
    · have hH0 : H = [] := List.eq_nil_of_length_eq_zero (by omega)
      subst hH0
      refine Calls.mono (take_none w0.heap.size qb (cK mo) hi A F L E D t W hs) ?_
      rintro e W' ⟨rfl, hb⟩
      exact ⟨_, rfl, h, hk0.below hb⟩
theorem found (L : List Nat) (E : Nat → It) (t hol : Int) : (∃ k, k < L.length ∧ (E (hv L k)).seq = t ∧ (E (hv L k)).hol = hol) ∨ ∀ k, k < L.length → ¬ ((E (hv L k)).seq = t ∧ (E (hv L k)).hol = hol) := by
  by_cases h : ∃ k, k < L.length ∧ (E (hv L k)).seq = t ∧ (E (hv L k)).hol = hol
  · exact .inl h
  · exact .inr (fun k hk e => h ⟨k, hk, e⟩)
theorem back_k (hk : KSt w w0 qb mo f i m h W) (t hol : Int) : Calls Try.prog 16 #[.pointer (some ⟨qb, 0, none⟩), .int .i64 t, .int .i64 hol, .bool true] W fun e W' => ∃ (y : Ev) (d : Bool) (z : Int), e = .returned (.tuple #[.agg #[.int .i64 y.seq, .int .i64 y.pri, .int .i64 y.exp, .bool y.dur, .int .i64 y.cnt, .int .i64 y.hol, .slice y.a y.n y.c], .bool d, .int .i64 z]) ∧ Hid ((d = false ∧ ∃ h', KSt w w0 qb mo f i m h' W') ∨ (d = true ∧ z = 0 ∧ 1 ≤ m ∧ ∃ h', KSt w w0 qb mo f i (m - 1) h' W')) := by
  have hk0 := hk
  obtain ⟨h0, h1, hi, A, F, L, H, E, D, hs, hh, hl, hh', hm⟩ := hk
  by_cases hno : hol < 1 ∨ ∀ k, k < L.length → ¬ ((E (hv L k)).seq = t ∧ (E (hv L k)).hol = hol)
  · refine Calls.mono (back_no w0.heap.size qb (cK mo) hi A F L H E D t hol true W hs hno) ?_
    rintro e W' ⟨rfl, hb⟩
    exact ⟨⟨0, 0, 0, false, 0, 0, none, 0, 0⟩, false, 171, rfl, .inl ⟨rfl, h, hk0.below hb⟩⟩
  · have hf := (found L E t hol).resolve_right (fun e => hno (.inr e))
    have hh1 : 1 ≤ hol := by
      have := fun e => hno (.inl e)
      omega
    obtain ⟨k, hk, rfl, rfl⟩ := hf
    have hbL := hv_mem L k hk
    have hI := hm _ hbL
    have hc : 0 ≤ (E (hv L k)).cnt ∧ (E (hv L k)).cnt ≤ 4294967295 := by
      obtain ⟨j, _, _, _, _, _, _, h7, _⟩ := hI
      exact h7
    have hbH : hv L k ∉ H := fun e => by
      have := ((hs.mem _).1 e).2
      omega
    have h4 : H.length < 4096 := by have := hs.qy.line_lt hbL hbH; have := hs.len; omega
    by_cases hd : min ((E (hv L k)).cnt + 1) 4294967295 < 3
    · refine Calls.mono (back_alive w0.heap.size qb (cK mo) hi A F L H E D k _ W hs hk hh1 hc.1 hc.2 rfl (by show (0 : Int) < 3; decide) hd h4) ?_
      rintro e W' ⟨v, rfl, F', H', HP⟩
      obtain ⟨p1, p2, p3, p4⟩ := HP.out
      obtain ⟨av, cv, hv'⟩ := row_form p2.1
      subst hv'
      refine ⟨⟨(E (hv L k)).seq, (E (hv L k)).pri, (E (hv L k)).exp, (E (hv L k)).dur, min ((E (hv L k)).cnt + 1) 4294967295, 0, av, (D (hv L k)).length, cv⟩, false, 0, rfl, .inl ⟨rfl, _, kq_up h0 hs p4, h1, hi, A, F', L, H', _, D, p1, hh, hl, rfl, fun y hy => ?_⟩⟩
      by_cases e : y = hv L k
      · rw [e, upd_at]
        exact hI.back _ (by omega) (by omega)
      · rw [upd_ne _ _ _ _ e]
        exact hm y hy
    · refine Calls.mono (back_dead w0.heap.size qb (cK mo) hi A F L H E D k _ W hs hk hh1 hc.1 hc.2 rfl (by show (0 : Int) < 3; decide) (by show (3 : Int) ≤ _; omega)) ?_
      rintro e W' ⟨v, rfl, A', HP⟩
      obtain ⟨p1, p2, p4⟩ := HP.out
      obtain ⟨av, cv, hv'⟩ := row_form p2.1
      subst hv'
      have hle : (L.eraseIdx k).length = m - 1 := by rw [List.length_eraseIdx, if_pos hk, hl]
      refine ⟨⟨(E (hv L k)).seq, (E (hv L k)).pri, (E (hv L k)).exp, (E (hv L k)).dur, min ((E (hv L k)).cnt + 1) 4294967295, 0, av, (D (hv L k)).length, cv⟩, true, 0, rfl, .inr ⟨rfl, rfl, by omega, _, kq_up h0 hs p4, by omega, hi, A', F, L.eraseIdx k, H, _, D, p1, hh, hle, rfl, fun y hy => ?_⟩⟩
      have hy' := (erase_mem hs.nd hk y).1 hy
      rw [upd_ne _ _ _ _ hy'.2]
      exact hm y hy'.1
theorem rem_k (hk : KSt w w0 qb mo f i m h W) (t hol : Int) : Calls Try.prog 15 #[.pointer (some ⟨qb, 0, none⟩), .int .i64 t, .int .i64 hol] W fun e W' => ∃ (y : Ev) (z : Int), e = .returned (.tuple #[.agg #[.int .i64 y.seq, .int .i64 y.pri, .int .i64 y.exp, .bool y.dur, .int .i64 y.cnt, .int .i64 y.hol, .slice y.a y.n y.c], .int .i64 z]) ∧ Hid (((z == 0) = false ∧ ∃ h', KSt w w0 qb mo f i m h' W') ∨ (z = 0 ∧ 1 ≤ m ∧ ∃ h', KSt w w0 qb mo f i (m - 1) h' W')) := by
  have hk0 := hk
  obtain ⟨h0, h1, hi, A, F, L, H, E, D, hs, hh, hl, hh', hm⟩ := hk
  rcases found L E t hol with ⟨k, hk, rfl, rfl⟩ | hno
  · have hbL := hv_mem L k hk
    have hle : (L.eraseIdx k).length = m - 1 := by rw [List.length_eraseIdx, if_pos hk, hl]
    have hI : 0 ≤ (E (hv L k)).hol := by
      obtain ⟨j, _, _, _, _, _, _, _, h8, _⟩ := hm _ hbL
      exact h8
    by_cases hz : (E (hv L k)).hol = 0
    · refine Calls.mono (remove_free w0.heap.size qb (cK mo) hi A F L H E D k W hs hk hz) ?_
      rintro e W' ⟨v, rfl, A', F', H', HP⟩
      obtain ⟨p1, p2, p3, p4⟩ := HP.out
      obtain ⟨av, cv, hv'⟩ := row_form p2.1
      subst hv'
      exact ⟨⟨(E (hv L k)).seq, (E (hv L k)).pri, (E (hv L k)).exp, (E (hv L k)).dur, (E (hv L k)).cnt, (E (hv L k)).hol, av, (D (hv L k)).length, cv⟩, 0, rfl, .inr ⟨rfl, by omega, _, kq_up h0 hs p4, by omega, hi, A', F', L.eraseIdx k, H', E, D, p1, hh, hle, rfl, fun y hy => hm y ((erase_mem hs.nd hk y).1 hy).1⟩⟩
    · refine Calls.mono (remove_held w0.heap.size qb (cK mo) hi A F L H E D k W hs hk (by omega)) ?_
      rintro e W' ⟨v, rfl, A', HP⟩
      obtain ⟨p1, p2, p4⟩ := HP.out
      obtain ⟨av, cv, hv'⟩ := row_form p2.1
      subst hv'
      exact ⟨⟨(E (hv L k)).seq, (E (hv L k)).pri, (E (hv L k)).exp, (E (hv L k)).dur, (E (hv L k)).cnt, (E (hv L k)).hol, av, (D (hv L k)).length, cv⟩, 0, rfl, .inr ⟨rfl, by omega, _, kq_up h0 hs p4, by omega, hi, A', F, L.eraseIdx k, H, E, D, p1, hh, hle, rfl, fun y hy => hm y ((erase_mem hs.nd hk y).1 hy).1⟩⟩
  · refine Calls.mono (remove_no w0.heap.size qb (cK mo) hi A F L H E D t hol W hs hno) ?_
    rintro e W' ⟨rfl, hb⟩
    exact ⟨⟨0, 0, 0, false, 0, 0, none, 0, 0⟩, 171, rfl, .inl ⟨rfl, h, hk0.below hb⟩⟩
theorem exp_k (hk : KSt w w0 qb mo f i m h W) (now : Int) : Calls Try.prog 17 #[.pointer (some ⟨qb, 0, none⟩), .int .i64 now] W fun e W' => ∃ (a : Option Addr) (k c : Nat), e = .returned (.slice a k c) ∧ k ≤ m ∧ Hid (∃ h', KSt w w0 qb mo f i (m - k) h' W') := by
  obtain ⟨h0, h1, hi, A, F, L, H, E, D, hs, hh, hl, hh', hm⟩ := hk
  refine Calls.mono (expire_any w0.heap.size qb (cK mo) hi A F L H E D now W hs) ?_
  rintro e W' ⟨v, rfl, HH⟩
  obtain ⟨A', F', H', gs, ks, p1, p2, p3, p4, p5, p6, p7⟩ := HH.out
  obtain ⟨a, c, hv⟩ := p2.shape
  subst hv
  have e1 := ovs_kept E L now
  have e2 := p3.length_eq
  refine ⟨a, ks.length, c, rfl, by omega, _, kq_up h0 hs p7, by omega, hi, A', F', _, H', E, D, p1, hh, by omega, rfl, fun y hy => ?_⟩
  have : y ∈ L.take L.length := (List.mem_filter.1 hy).1
  rw [List.take_of_length_le (Nat.le_refl _)] at this
  exact hm y this
set_option maxRecDepth 100000 in
theorem release_low (h : Int) (w : World) (qb : Nat) (h1 : h < 1) : Calls Try.prog 18 #[.pointer (some ⟨qb, 0, none⟩), .int .i64 h] w fun e w' => e = .returned (.slice none 0 0) ∧ w' = w := by
  go_enter Try.func18, Try.ntmps18
  go_wp2
  go_ret
  exact ⟨rfl, rfl⟩
theorem rel_k (hk : KSt w w0 qb mo f i m h W) (t : Int) : Calls Try.prog 18 #[.pointer (some ⟨qb, 0, none⟩), .int .i64 t] W fun e W' => ∃ v, e = .returned v ∧ Hid (∃ h', KSt w w0 qb mo f i m h' W') := by
  have hk0 := hk
  obtain ⟨h0, h1, hi, A, F, L, H, E, D, hs, hh, hl, hh', hm⟩ := hk
  by_cases ht : t < 1
  · refine Calls.mono (release_low t W qb ht) ?_
    rintro e W' ⟨rfl, rfl⟩
    exact ⟨_, rfl, h, hk0⟩
  · refine Calls.mono (release_any w0.heap.size qb (cK mo) hi A F L H E D t W hs (by omega)) ?_
    rintro e W' ⟨v, rfl, HP⟩
    obtain ⟨F', H', p1, p2, p3, p4⟩ := HP.out
    refine ⟨v, rfl, _, kq_up h0 hs p3, h1, hi, A, F', L, H', _, D, p1, hh, hl, rfl, fun y hy => ?_⟩
    unfold relE
    by_cases e : y ∈ L.take L.length ∧ (E y).hol = t
    · rw [if_pos e]
      exact (hm y hy).hold 0 (by omega)
    · rw [if_neg e]
      exact hm y hy
end
end Go.Proofs.Ytnbhifakfehefaa


/- QueueKeeps: the range at its end. -/
namespace Go.Proofs.Ytnbhifakfehefaa
open Go.RowKit
set_option linter.unusedVariables false
set_option linter.unusedSimpArgs false
theorem range_jF {α θ : Type} {P : Program} {n : Nat} {g : Operand} {ps : Array Tmp} {assign body : Code} {Q : Exit → Act → World → Prop} {a : Act} {w : World}
    {gf : Nat} {lb : Array Value} (hg : a.eval g = .func (.func gf) #[] lb) (eg : ∀ args w, (callFunc gf args).run P w = .ok (.enter gf args) w)
    {encs : α → Array Value} {G : θ → World → Prop} {Sil : θ → θ → World → World → Prop} {Tol : θ → α → θ → World → World → Prop} {Bod : θ → θ → Prop} {Ini Fin : θ → Prop} (hseq : SeqJ P gf lb encs G Sil Tol Bod Ini Fin)
    (hps : ∀ x, (encs x).size = ps.size)
    (I : θ → World → Prop) (Ix : Code → World → Prop) (hI : OwnFrom w.heap.size I) (hIx : ∀ c, OwnFrom w.heap.size (fun (_ : Unit) => Ix c)) (hIG : ∀ t A, I t A → G t A)
    (hSn : ∀ t t' A A', I t A → Sil t t' A A' → Nc NcN A A') (hTn : ∀ t x t' A A', I t A → Tol t x t' A A' → Nc NcN A A') (hIs : ∀ t t' A A', I t A → Sil t t' A A' → I t' A')
    (t0 : θ) (h0 : I t0 w) (hini : Ini t0) (AX : Array Value → θ → α → θ → World → Act → World → Prop)
    (hassign : ∀ (l : Nat) (t : θ) (x : α) (t' : θ) (A A' : World) (K : Act → World → Prop), I t A → Tol t x t' A A' → (∀ a' W', KpB w.heap.size A' W' → AX a.tmps t x t' A a' W' → K a' W') →
      assign.wpIn (Fence.wide.inRound l) n P (Exit.then K (fun _ _ _ => False)) { tmps := (ps.zip (encs x)).foldl (fun t (p, v) => t.setIfInBounds p v) a.tmps, defers := [] } A')
    (hbody : ∀ (l : Nat) (t : θ) (x : α) (t' : θ) (A : World) (a' : Act) (W : World) (r r' : Loop), w.heap.size ≤ l → A.heap[l]? = some (.loop r) → W.heap[l]? = some (.loop r) → I t A → AX a.tmps t x t' A a' W → body.wpIn (Fence.wide.inRound l) n P (postJ w.heap.size I Ix Bod t' (W.putObj l (.loop r'))) a' (W.putObj l (.loop r')))
    (hdone : ∀ (D : Nat) (t : θ) (W : World), w.heap.size ≤ D → Fin t → I t W → W.heap[D]? = some (.deferred (some [])) → Q .normal { a with defers := { target := .collected D, args := #[] } :: a.defers } W)
    (hstop : ∀ (D : Nat) (c : Code) (W : World), w.heap.size ≤ D → Ix c W → W.heap[D]? = some (.deferred (some [])) → c.wpIn Fence.wide n P Q { a with defers := { target := .collected D, args := #[] } :: a.defers } W) :
    (Code.rangeFunc g ps assign body).wpIn Fence.wide n P Q a w :=
  range_j hg eg hseq hps I Ix hI hIx hIG hSn hTn hIs t0 h0 hini (AX a.tmps) hassign hbody hdone hstop
/-- all that a queue is made of stays -/
theorem Qs.cells {w w' : World} {B qb : Nat} {c : Cf} {hi : Int} {A F : Value} {L H : List Nat} {E : Nat → It} {D : Nat → List Nat} (h : Qs w B qb c hi A F L H E D) (hk : ∀ (k : Nat) (cur : Array Value) (t : TypeId) (fr : Nat × Nat), w.heap[k]? = some (Obj.cells cur t fr) → (t = 63 ∨ t = 70 ∨ t = 67 ∨ t = 5) → w'.heap[k]? = w.heap[k]?) : Qs w' B qb c hi A F L H E D := by
  have ki : ∀ k x, IB w k x → w'.heap[k]? = w.heap[k]? := fun k x hx => hk k _ _ _ hx (.inr (.inl rfl))
  have kr : ∀ G m xs k, w.ownsRow B 67 1 G m xs → G.ownBlock = some k → w'.heap[k]? = w.heap[k]? := fun G m xs k hx e => by
    obtain ⟨cur', hg'⟩ := row_blk hx e
    exact hk k _ _ _ hg' (.inr (.inr (.inl rfl)))
  refine ⟨(hk qb _ _ _ h.q (.inl rfl)).trans h.q, rows_keep h.ra (fun k e => kr _ _ _ k h.ra e), h.lx.keep (fun k e => ?_), h.ne, fun k hkL => ?_, h.ok, h.mem, h.nd, h.srt, h.top, h.len, h.lo, fun k hkL => (h.dat k hkL).keep (fun j e => ?_), h.dl⟩
  · rcases e with e | e
    · exact kr _ _ _ k h.lx.row e
    · obtain ⟨p, hp⟩ := h.it k ((h.mem k).1 e).1
      exact ki k _ hp
  · obtain ⟨p, hp⟩ := h.it k hkL
    exact ⟨p, (ki k _ hp).trans hp⟩
  · have ho := h.dat k hkL
    rcases ho.1.2 with ⟨hv, _⟩ | ⟨g, cap, cur, hv, _, hgg, _⟩
    · rw [hv] at e
      cases e
    · rw [hv] at e
      cases e
      exact hk g _ _ _ hgg (.inr (.inr (.inr rfl)))
/-- which numbers were seen -/
def Seen (W : World) (S n0 : Nat) (E : Nat → It) (t : List Nat) : Prop := ∃ cur, W.heap[S]? = some (.cells cur 3 (0, 0)) ∧ cur.size = n0 + 1 ∧ ∀ k, k < n0 + 1 → ((∃ b ∈ t, (E b).seq = (k : Int)) → cur[k]? = some (.int .i64 1)) ∧ ((¬ ∃ b ∈ t, (E b).seq = (k : Int)) → cur[k]? = some (.int .i64 0))
def KJ (w0 : World) (qb S n0 : Nat) (mo hi : Int) (A F : Value) (L H : List Nat) (E : Nat → It) (D : Nat → List Nat) (N : Nat) (t : List Nat) (W : World) : Prop :=
  (Qs W w0.heap.size qb (cK mo) hi A F L H E D ∧ W.heap[S + 3]? = some (.cells #[.pointer (some ⟨qb, 0, none⟩)] 25 (0, 0))) ∧ Below w0.heap.size w0 W ∧ N ≤ W.heap.size ∧ Seen W S n0 E t ∧ W.heap[S + 1]? = some (.cells #[.slice (some ⟨S, 0, none⟩) (n0 + 1) (n0 + 1)] 34 (0, 0)) ∧ W.heap[S + 2]? = some (.cells #[.int .i64 (t.length : Int)] 3 (0, 0)) ∧ t.Nodup ∧ ∀ b ∈ t, b ∈ L
section
variable {w0 W W' : World} {qb S n0 N : Nat} {mo hi : Int} {A F : Value} {L H : List Nat} {E : Nat → It} {D : Nat → List Nat} {t : List Nat}
theorem KJ.keep (h : KJ w0 qb S n0 mo hi A F L H E D N t W) (hN : w0.heap.size ≤ N) (hos : W'.os = W.os ∧ W'.tape = W.tape ∧ W'.output = W.output) (hz : W.heap.size ≤ W'.heap.size) (hlow : ∀ k, k < N → W'.heap[k]? = W.heap[k]?) (hk : ∀ (k : Nat) (cur : Array Value) (ty : TypeId) (fr : Nat × Nat), W.heap[k]? = some (Obj.cells cur ty fr) → W'.heap[k]? = W.heap[k]?) : KJ w0 qb S n0 mo hi A F L H E D N t W' := by
  obtain ⟨⟨h1, h2⟩, h3, h4, ⟨cur, h5, h6⟩, h7, h8, h9⟩ := h
  exact ⟨⟨h1.cells (fun k cur t fr e _ => hk k cur t fr e), (hk _ _ _ _ h2).trans h2⟩, ⟨hos.1.trans h3.os, hos.2.1.trans h3.tape, hos.2.2.trans h3.output, Nat.le_trans h3.size hz, fun k hk' => (hlow k (by omega)).trans (h3.block k hk')⟩, Nat.le_trans h4 hz, ⟨cur, (hk _ _ _ _ h5).trans h5, h6⟩, (hk _ _ _ _ h7).trans h7, (hk _ _ _ _ h8).trans h8, h9⟩
theorem KJ.below (h : KJ w0 qb S n0 mo hi A F L H E D N t W) (hN : w0.heap.size ≤ N) (hb : Below W.heap.size W W') : KJ w0 qb S n0 mo hi A F L H E D N t W' :=
  h.keep hN ⟨hb.os, hb.tape, hb.output⟩ hb.size (fun k hk => hb.block k (Nat.lt_of_lt_of_le hk h.2.2.1)) (fun k cur ty fr e => hb.block k (Array.getElem?_eq_some_iff.1 e).1)
theorem KJ.own (hN : w0.heap.size ≤ N) : OwnFrom N (KJ w0 qb S n0 mo hi A F L H E D N) := fun t A' B' row h hg hr =>
  h.keep hN ⟨hg.os, hg.tape, hg.output⟩ hg.size (fun k hk => hg.block k (Nat.lt_of_lt_of_le hk h.2.2.1) (fun e => by have := (hr k e.symm).1; omega)) (fun k cur ty fr e => hg.block k (Array.getElem?_eq_some_iff.1 e).1 (fun e2 => by
    obtain ⟨_, o, h1, h2⟩ := hr k e2.symm
    rw [e] at h1
    cases h1
    cases h2))
theorem KJ.put (h : KJ w0 qb S n0 mo hi A F L H E D N t W) (hN : w0.heap.size ≤ N) {l : Nat} {o : Obj} (hl : W.heap[l]? = some o) (ho : o.isCells = false) (hlN : N ≤ l) (o' : Obj) : KJ w0 qb S n0 mo hi A F L H E D N t (W.putObj l o') := (KJ.own hN).putObj _ h hlN hl ho
/-- one more is seen -/
theorem KJ.next (h : KJ w0 qb S n0 mo hi A F L H E D N t W) (hN : w0.heap.size ≤ S) {b sq : Nat} (hb : b ∈ L) (hbt : b ∉ t) (hs : (E b).seq = (sq : Int)) (hsq : sq < n0 + 1) (o : Obj) :
    KJ w0 qb S n0 mo hi A F L H E D N (t ++ [b]) (((W.setCell ⟨S, sq, none⟩ (.int .i64 1)).setCell ⟨S + 2, 0, none⟩ (.int .i64 ((t.length : Int) + 1))).alloc o) := by
  obtain ⟨⟨h1, h2⟩, h3, h4, ⟨cur, h5, h6, h7⟩, h8, h9, h10, h11⟩ := h
  have e1 : (W.setCell ⟨S, sq, none⟩ (.int .i64 1)).heap[S]? = some (.cells (cur.setIfInBounds sq (.int .i64 1)) 3 (0, 0)) := blk_set W S sq _ h5
  have o1 : ∀ k, k ≠ S → (W.setCell ⟨S, sq, none⟩ (.int .i64 1)).heap[k]? = W.heap[k]? := fun k hk => blk_set_other _ ⟨S, sq, none⟩ _ k hk
  obtain ⟨W1, hW1⟩ : ∃ W1, W.setCell ⟨S, sq, none⟩ (.int .i64 1) = W1 := ⟨_, rfl⟩
  rw [hW1] at e1 o1 ⊢
  have z1 : W1.heap.size = W.heap.size := by rw [← hW1]; simp
  have p1 : W1.os = W.os ∧ W1.tape = W.tape ∧ W1.output = W.output := by rw [← hW1]; exact ⟨rfl, rfl, rfl⟩
  have e2 : (W1.setCell ⟨S + 2, 0, none⟩ (.int .i64 ((t.length : Int) + 1))).heap[S + 2]? = some (.cells #[.int .i64 ((t.length : Int) + 1)] 3 (0, 0)) := by
    rw [blk_set W1 (S + 2) 0 _ ((o1 _ (by omega)).trans h9)]
    simp
  have o2 : ∀ k, k ≠ S + 2 → (W1.setCell ⟨S + 2, 0, none⟩ (.int .i64 ((t.length : Int) + 1))).heap[k]? = W1.heap[k]? := fun k hk => blk_set_other _ ⟨S + 2, 0, none⟩ _ k hk
  obtain ⟨W2, hW2⟩ : ∃ W2, W1.setCell ⟨S + 2, 0, none⟩ (.int .i64 ((t.length : Int) + 1)) = W2 := ⟨_, rfl⟩
  rw [hW2] at e2 o2 ⊢
  have z2 : W2.heap.size = W1.heap.size := by rw [← hW2]; simp
  have p2 : W2.os = W1.os ∧ W2.tape = W1.tape ∧ W2.output = W1.output := by rw [← hW2]; exact ⟨rfl, rfl, rfl⟩
  have hba : Below W2.heap.size W2 (W2.alloc o) := bel1 (Below.refl _ _) (Nat.le_refl _) _
  have o3 : ∀ k x, W2.heap[k]? = some x → (W2.alloc o).heap[k]? = some x := fun k x hx => heap_past hx o
  have keep : ∀ k x, k ≠ S → k ≠ S + 2 → W.heap[k]? = some x → (W2.alloc o).heap[k]? = some x := fun k x a1 a2 hx => o3 k x (((o2 k a2).trans (o1 k a1)).trans hx)
  have hSl := (Array.getElem?_eq_some_iff.1 h5).1
  refine ⟨⟨h1.cells (fun k cu ty fr e ht => ?_), keep _ _ (by omega) (by omega) h2⟩, ?_, ?_, ⟨_, o3 _ _ ((o2 S (by omega)).trans e1), by simp [h6], fun k hk => ?_⟩, keep _ _ (by omega) (by omega) h8, ?_, ?_, fun x hx => ?_⟩
  · have n1 : k ≠ S := fun e' => by
      subst e'
      rw [h5] at e
      cases e
      revert ht
      decide
    have n2 : k ≠ S + 2 := fun e' => by
      subst e'
      rw [h9] at e
      cases e
      revert ht
      decide
    rw [e]
    exact keep k _ n1 n2 e
  · refine ⟨hba.os.trans (p2.1.trans (p1.1.trans h3.os)), hba.tape.trans (p2.2.1.trans (p1.2.1.trans h3.tape)), hba.output.trans (p2.2.2.trans (p1.2.2.trans h3.output)), by have := h3.size; have := hba.size; omega, fun k hk => ?_⟩
    rw [hba.block k (by have := h3.size; omega), o2 k (by omega), o1 k (by omega)]
    exact h3.block k hk
  · have := hba.size
    omega
  · rw [Array.getElem?_setIfInBounds]
    by_cases e : sq = k
    · subst e
      rw [if_pos rfl, if_pos (by omega)]
      exact ⟨fun _ => rfl, fun hn => absurd ⟨b, by simp, hs⟩ hn⟩
    · rw [if_neg e]
      have hiff : (∃ x ∈ t ++ [b], (E x).seq = (k : Int)) ↔ ∃ x ∈ t, (E x).seq = (k : Int) := by
        constructor
        · rintro ⟨x, hx, hxs⟩
          rw [List.mem_append, List.mem_singleton] at hx
          rcases hx with hx | hx
          · exact ⟨x, hx, hxs⟩
          · subst hx
            omega
        · rintro ⟨x, hx, hxs⟩
          exact ⟨x, by simp [hx], hxs⟩
      rw [hiff]
      exact h7 k hk
  · rw [List.length_append, List.length_singleton]
    exact o3 _ _ (by
      rw [e2]
      rfl)
  · exact List.nodup_append.2 ⟨h10, by simp, fun x hx y hy e => by
      rw [List.mem_singleton] at hy
      subst hy
      subst e
      exact hbt hx⟩
  · rw [List.mem_append, List.mem_singleton] at hx
    rcases hx with hx | hx
    · exact h11 x hx
    · rw [hx]
      exact hb
/-- what has not been told yet is not seen -/
theorem KJ.fresh (h : KJ w0 qb S n0 mo hi A F L H E D N t W) {b sq : Nat} (hb : b ∈ L) (hbt : b ∉ t) (hs : (E b).seq = (sq : Int)) (hsq : sq < n0 + 1) : W.cell? ⟨S, sq, none⟩ = some (.int .i64 0) ∧ W.frozen? ⟨S, sq, none⟩ = false := by
  obtain ⟨⟨h1, h2⟩, h3, h4, ⟨cur, h5, h6, h7⟩, h8, h9, h10, h11⟩ := h
  refine ⟨cellOf h5 sq _ ((h7 sq hsq).2 ?_), by simp [World.frozen?, h5]⟩
  rintro ⟨x, hx, hxs⟩
  have hxL := h11 x hx
  obtain ⟨p, hp, rfl⟩ := List.mem_iff_getElem.1 hxL
  obtain ⟨q, hq, rfl⟩ := List.mem_iff_getElem.1 hb
  have hsr := List.pairwise_iff_getElem.1 h1.srt
  rcases Nat.lt_trichotomy p q with e | e | e
  · have := hsr p q hp hq e
    omega
  · subst e
    exact hbt hx
  · have := hsr q p hq hp e
    omega
end
end Go.Proofs.Ytnbhifakfehefaa
