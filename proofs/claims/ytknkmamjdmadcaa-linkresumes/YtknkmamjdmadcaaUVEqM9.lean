import Derived.Test.YtknkmamjdmadcaaProg
import Derived.Test.YtknkmamjdmadcaaUVMadeM9
import Derived.WalkLawsBesides
import Derived.Handy
import Derived.Outline

/- cmp.Compare. -/
namespace Go.Proofs.Ytknkmamjdmadcaa.U
open Go.RowKit
set_option linter.unusedVariables false

theorem nan_str (a : ByteArray) (w : World) : Calls Try.prog 55 #[.string a] w fun e w' => e = .returned (.bool false) ∧ w = w' := by
  go_enter Try.func55, Try.ntmps55
  go_wp2
  go_ret
  exact ⟨by simp, rfl⟩
theorem cmp_str (a b : ByteArray) (w : World) : Calls Try.prog 32 #[.string a, .string b] w fun e w' => e = .returned (.int .i64 (cmpB a.toList b.toList)) ∧ w = w' := by
  go_enter Try.func32, Try.ntmps32
  go_wp2_with (go_at_call 55; refine (nan_str _ _).mono ?_; rintro e w' ⟨rfl, rfl⟩)
  all_goals
    go_ret
    refine ⟨ret_int ?_, rfl⟩
    rw [cmpB_less] at *
    have hz := cmpB_zero a.toList b.toList
    have hs := sgn_cmpB a.toList b.toList
    simp only [decide_eq_true_eq, decide_eq_false_iff_not, Bool.not_eq_true', Bool.not_eq_false', beq_eq_false_iff_ne, beq_iff_eq, ne_eq] at *
    unfold Sgn at hs
    grind
end Go.Proofs.Ytknkmamjdmadcaa.U


/- value.Order. -/
namespace Go.Proofs.Ytknkmamjdmadcaa.U
open Go.RowKit
set_option linter.unusedVariables false

theorem ords_step {l m : List V} {k : Nat} (h1 : k < l.length) (h2 : k < m.length) : T.ords (V.ts (l.drop k)) (V.ts (m.drop k)) = lex (T.ord l[k].t m[k].t) (T.ords (V.ts (l.drop (k + 1))) (V.ts (m.drop (k + 1)))) := by
  rw [List.drop_eq_getElem_cons h1, List.drop_eq_getElem_cons h2, V.ts, V.ts, T.ords]

end Go.Proofs.Ytknkmamjdmadcaa.U


/- value.Equal. -/
namespace Go.Proofs.Ytknkmamjdmadcaa.U
open Go.RowKit
set_option linter.unusedVariables false
set_option linter.unusedSimpArgs false

/-- are two values the same? -/
def eqT (x y : T) : Bool := decide (T.ord x y = 0)
def eqsT (l m : List T) : Bool := decide (T.ords l m = 0)
theorem lex_zero (a b : Int) : lex a b = 0 ↔ a = 0 ∧ b = 0 := by unfold lex; split <;> omega
theorem cmpZ_zero (a b : Int) : cmpZ a b = 0 ↔ a = b := by unfold cmpZ; split <;> (try split) <;> omega
theorem eqsT_len {l m : List T} (h : eqsT l m = true) : l.length = m.length := by
  induction l generalizing m with
  | nil => cases m with
    | nil => rfl
    | cons y m => simp [eqsT, T.ords] at h
  | cons x l ih => cases m with
    | nil => simp [eqsT, T.ords] at h
    | cons y m =>
      simp only [eqsT, T.ords, decide_eq_true_eq, lex_zero] at h
      have := ih (m := m) (by simpa [eqsT] using h.2)
      simp [this]
theorem eqsT_step {l m : List V} {k : Nat} (h1 : k < l.length) (h2 : k < m.length) : eqsT (V.ts (l.drop k)) (V.ts (m.drop k)) = (eqT l[k].t m[k].t && eqsT (V.ts (l.drop (k + 1))) (V.ts (m.drop (k + 1)))) := by
  unfold eqsT eqT
  rw [ords_step h1 h2, Bool.eq_iff_iff]
  simp [lex_zero]
theorem eqT_of (k n : Int) (s : ByteArray) (a : Option Addr) (c : Nat) (e : Int) (l : List V) (k' n' : Int) (s' : ByteArray) (a' : Option Addr) (c' : Nat) (e' : Int) (l' : List V) :
    eqT (V.of k n s a c e l).t (V.of k' n' s' a' c' e' l').t = (decide (k = k') && decide (n = n') && decide (s.toList = s'.toList) && decide (e = e') && eqsT (V.ts l) (V.ts l')) := by
  unfold eqT eqsT
  rw [V.t_of, V.t_of, T.of, T.of, T.ord_of, V.l_of, Bool.eq_iff_iff]
  simp only [lex_zero, cmpZ_zero, cmpB_zero, V.k_of, V.n_of, V.s_of, V.e_of, Bool.and_eq_true, decide_eq_true_eq]
  constructor
  · rintro ⟨h1, h2, h3, h4, h5⟩; exact ⟨⟨⟨⟨h1, h2⟩, h3⟩, h5⟩, h4⟩
  · rintro ⟨⟨⟨⟨h1, h2⟩, h3⟩, h5⟩, h4⟩; exact ⟨h1, h2, h3, h4, h5⟩

/-- what Equal is asked, of a value x -/
def EqOk (x : V) : Prop := ∀ (y : V) (n₀ : Nat) (w : World), n₀ ≤ w.heap.size → Lies n₀ w x → Lies n₀ w y →
  Calls Try.prog 61 #[x.val, y.val] w fun e w' => e = .returned (.bool (eqT x.t y.t)) ∧ Below w.heap.size w w'

set_option maxRecDepth 100000 in
set_option maxHeartbeats 1000000 in
theorem eqf_any (l m : List V) (ih : ∀ x ∈ l, EqOk x) (la : Option Addr) (lc : Nat) (ma : Option Addr) (mc n₀ : Nat) (w : World) (hn : n₀ ≤ w.heap.size) (hlc : l.length ≤ 281474976710656) (hmc : m.length ≤ 281474976710656)
    (lr : 0 < l.length → ∃ b o, la = some ⟨b, o, none⟩ ∧ b < n₀ ∧ Row w b o l) (ls : ∀ x ∈ l, Lies n₀ w x) (mr : 0 < m.length → ∃ b o, ma = some ⟨b, o, none⟩ ∧ b < n₀ ∧ Row w b o m) (ms : ∀ x ∈ m, Lies n₀ w x) :
    Calls Try.prog 85 #[.slice la l.length lc, .slice ma m.length mc, .func (.func 61) #[] #[]] w fun e w' =>
      e = .returned (.bool (eqsT (V.ts l) (V.ts m))) ∧ Below w.heap.size w w' := by
  by_cases hlen : l.length = m.length
  · rw [← hlen]
    have hl1 : l.length ≤ m.length := by omega
    have hl2 : m.length ≤ l.length := by omega
    clear hlen
    have LR := hide lr
    have LS := hide ls
    have MR := hide mr
    have MS := hide ms
    have IH := hide ih
    clear lr ls mr ms ih
    go_enter Try.func85, Try.ntmps85
    go_wp2
    go_loopw [17] (fun i wr => ∃ k : Nat, i = .int .i64 k ∧ k ≤ l.length ∧ Below w.heap.size w wr ∧ Hid (eqsT (V.ts l) (V.ts m) = eqsT (V.ts (l.drop k)) (V.ts (m.drop k)))) (fun i _ => l.length - (intOf i).toNat)
    case atStart => exact ⟨0, rfl, Nat.zero_le _, Below.refl _ _, rfl⟩
    case round =>
      obtain ⟨k, rfl, hk, hb, HO⟩ := hrel
      have hsz := hb.size
      by_cases h1 : k < l.length
      · have h2 : k < m.length := by omega
        obtain ⟨b, o, rfl, hlt, hr⟩ := LR.out (by omega)
        obtain ⟨b', o', rfl, hlt', hr'⟩ := MR.out (by omega)
        obtain ⟨x0, x1, x2, x3, x4⟩ := (hr.below hb (by omega)) k h1
        obtain ⟨y0, y1, y2, y3, y4⟩ := (hr'.below hb (by omega)) k h2
        have hA : b < wr.heap.size := by omega
        have hB : b' < wr.heap.size := by omega
        have hA' : b ≠ wr.heap.size := by omega
        have hB' : b' ≠ wr.heap.size := by omega
        have hx := IH.out l[k] (List.getElem_mem h1) m[k]
        rw [V.val_eq, V.val_eq] at hx
        have HX := hide hx
        clear hx hr hr'
        go_wp2_with fail
        have hbb := bel2 hb hsz (Obj.cells #[.int .i64 l[k].k, .int .u64 l[k].n, .string l[k].s, .slice l[k].a l[k].l.length l[k].c, .int .i64 l[k].e] 48) (Obj.cells #[.int .i64 m[k].k, .int .u64 m[k].n, .string m[k].s, .slice m[k].a m[k].l.length m[k].c, .int .i64 m[k].e] 48)
        refine Calls.mono (HX.out n₀ _ ?_ ((LS.out _ (List.getElem_mem h1)).keep hbb hn) ((MS.out _ (List.getElem_mem h2)).keep hbb hn)) ?_
        · simp; omega
        · rintro e w1 ⟨rfl, hb1⟩
          have hbw := belOn hbb (by simp; omega) hb1
          have hst := eqsT_step h1 h2
          generalize eqT l[k].t m[k].t = q at hst ⊢
          have HST := hide hst
          clear hb1 hbb hst
          cases q
          · go_wp2
            go_ret
            exact ⟨by rw [HO.out, HST.out]; rfl, hbw⟩
          · go_wp2
            go_roundw
            case rel => exact ⟨k + 1, by go_num, h1, hbw, by rw [HO.out, HST.out, Bool.true_and]; rfl⟩
            case measure => simp [intOf]; omega
      · obtain rfl : k = l.length := by omega
        go_wp2
        go_ret
        refine ⟨?_, hb⟩
        have e1 : m.drop l.length = [] := List.drop_of_length_le (by omega)
        rw [HO.out, List.drop_length, e1]
        rfl
  · have hlb : ((l.length : Int) == (m.length : Int)) = false := by simp; omega
    have he : eqsT (V.ts l) (V.ts m) = false := by
      cases h : eqsT (V.ts l) (V.ts m) with
      | false => rfl
      | true =>
        have := eqsT_len h
        simp [V.ts_length] at this
        omega
    rw [he]
    clear lr ls mr ms ih
    go_enter Try.func85, Try.ntmps85
    go_wp2
    go_ret
    exact ⟨rfl, Below.refl _ _⟩

set_option maxRecDepth 100000 in
set_option maxHeartbeats 1000000 in
theorem equal_any : ∀ x, EqOk x := by
  refine V.ind ?_
  intro k n s a c e l ih y n₀ w hn hx hy
  obtain ⟨k', n', s', a', c', e', l', rfl⟩ := V.ex y
  rw [eqT_of]
  have hf : ∀ w1, Below w.heap.size w w1 → Calls Try.prog 85 #[.slice a l.length c, .slice a' l'.length c', .func (.func 61) #[] #[]] w1 fun e w' =>
      e = .returned (.bool (eqsT (V.ts l) (V.ts l'))) ∧ Below w1.heap.size w1 w' := by
    intro w1 hb
    have hx1 := hx.keep hb hn
    have hy1 := hy.keep hb hn
    have hsz := hb.size
    exact eqf_any l l' ih a c a' c' n₀ w1 (by omega) (by have := hx1.ok.c; omega) (by have := hy1.ok.c; omega) hx1.row hx1.sub hy1.row hy1.sub
  have HF := hide hf
  clear hf ih hx hy
  generalize eqsT (V.ts l) (V.ts l') = q at HF ⊢
  rw [V.val_of, V.val_of]
  have hbel := fun A B => bel2 (Below.refl w.heap.size w) (Nat.le_refl _) A B
  by_cases hk : k = k'
  · subst hk
    by_cases hnn : n = n'
    · subst hnn
      by_cases hss : s.toList = s'.toList
      · have hsb : (s.toList == s'.toList) = true := by simpa using hss
        by_cases hee : e = e'
        · subst hee
          go_enter Try.func61, Try.ntmps61
          go_wp2_with fail
          refine Calls.mono (HF.out _ (hbel _ _)) ?_
          rintro e1 w1 ⟨rfl, hb1⟩
          go_wp2
          go_ret
          exact ⟨by simp [hss], belOn (hbel _ _) (by simp; omega) hb1⟩
        · have heb : ((e : Int) == e') = false := by simpa using hee
          go_enter Try.func61, Try.ntmps61
          go_wp2
          go_ret
          exact ⟨by simp [hee], hbel _ _⟩
      · have hsb : (s.toList == s'.toList) = false := by simpa using hss
        go_enter Try.func61, Try.ntmps61
        go_wp2
        go_ret
        exact ⟨by simp [hss], hbel _ _⟩
    · have hnb : ((n : Int) == n') = false := by simpa using hnn
      go_enter Try.func61, Try.ntmps61
      go_wp2
      go_ret
      exact ⟨by simp [hnn], hbel _ _⟩
  · have hkb : ((k : Int) == k') = false := by simpa using hk
    go_enter Try.func61, Try.ntmps61
    go_wp2
    go_ret
    exact ⟨by simp [hk], hbel _ _⟩
end Go.Proofs.Ytknkmamjdmadcaa.U
