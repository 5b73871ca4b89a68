import Derived.Test.YtgpimajdcfoigabDoorD34

/- Reading: bytes put ahead and behind. No program. -/
namespace Go.Proofs.YtgpimajdcfoigabDoor
set_option linter.unusedVariables false
set_option linter.unusedSimpArgs false
section
variable (L A : Nat) (H : Prop)
/-- r is what is read, r' is what is read of the same bytes with others around them -/
def Mv {α : Type} (ρ : α → α → Prop) (e : α → Nat) (r r' : Res α) : Prop :=
  (∀ a, r = .ok a → ∃ a', r' = .ok a' ∧ ρ a a') ∧
  (∀ x, r = .error x → x.2 ≠ 10 → r' = .error (x.1 + (A : Int), x.2)) ∧
  (∀ x, r = .error x → x.2 = 10 → x.1 = (L : Int) ∧ (H → r' = .error (x.1 + (A : Int), x.2)) ∧ ∀ a', r' = .ok a' → L + A < e a')
theorem Mv.bind {α β : Type} {ρ : α → α → Prop} {σ : β → β → Prop} {e : α → Nat} {g : β → Nat} {r r' : Res α} {K K' : α → Res β} (h : Mv L A H ρ e r r') (hk : ∀ a a', ρ a a' → r = .ok a → r' = .ok a' → Mv L A H σ g (K a) (K' a')) (hm : ∀ a' b', r' = .ok a' → K' a' = .ok b' → e a' ≤ g b') : Mv L A H σ g (bindR r K) (bindR r' K') := by
  cases r with
  | ok a =>
    obtain ⟨a', h1, h2⟩ := h.1 a rfl
    subst h1
    exact hk a a' h2 rfl rfl
  | error x =>
    refine ⟨fun a h => (by cases h), fun y hy hn => ?_, fun y hy hn => ?_⟩
    · cases hy; rw [h.2.1 x rfl hn]; rfl
    · cases hy
      obtain ⟨h1, h2, h3⟩ := h.2.2 x rfl hn
      refine ⟨h1, fun hH => by rw [h2 hH]; rfl, fun b' hb => ?_⟩
      obtain ⟨a', h4, h5⟩ := bindR_ok hb
      have := h3 a' h4
      have := hm a' b' h4 h5
      omega
theorem Mv.okk {α : Type} {ρ : α → α → Prop} {e : α → Nat} {a a' : α} (h : ρ a a') : Mv L A H ρ e (.ok a) (.ok a') :=
  ⟨fun b hb => (by cases hb; exact ⟨a', rfl, h⟩), fun x hx => (by cases hx), fun x hx => (by cases hx)⟩
theorem Mv.err {α : Type} {ρ : α → α → Prop} {e : α → Nat} {x y : Int × Int} (h : x.2 ≠ 10) (hy : y = (x.1 + (A : Int), x.2)) : Mv (α := α) L A H ρ e (.error x) (.error y) :=
  ⟨fun b hb => (by cases hb), fun z hz _ => (by cases hz; rw [hy]), fun z hz h10 => (by cases hz; exact absurd h10 h)⟩
/-- a pair that is the same, the place moved -/
def Mq {α : Type} (a b : α × Nat) : Prop := a.1 = b.1 ∧ b.2 = a.2 + A
end
section
variable (B : Nat → ByteArray → Int) (W : List T → Bool) (ahead l behind : List Nat)
/-- where the two readers stand -/
structure St (fin fin' : Nat) (sz sz' : Int) : Prop where
  fl : fin ≤ l.length
  st : (sz = -1 ∧ sz' = -1 ∧ fin = l.length ∧ fin' = ahead.length + (l.length + behind.length)) ∨ (0 ≤ sz ∧ sz' = sz + (ahead.length : Int) ∧ fin' = fin + ahead.length)
theorem cut_eq (p w : Nat) (h : p + w ≤ l.length) : ((ahead ++ (l ++ behind)).drop (p + ahead.length)).take w = (l.drop p).take w := by
  rw [Nat.add_comm p, ← List.drop_drop, List.drop_left, List.drop_append_of_le_length (by omega), List.take_append_of_le_length (by rw [List.length_drop]; omega)]
theorem rnum_mv {p fin fin' w : Nat} {sz sz' : Int} (h : St ahead l behind fin fin' sz sz') : Mv l.length ahead.length (behind = []) Eq (fun _ => p + ahead.length + w) (rnum l p fin sz w) (rnum (ahead ++ (l ++ behind)) (p + ahead.length) fin' sz' w) := by
  have fl := h.fl
  unfold rnum
  by_cases h1 : p + w ≤ fin
  · have h2 : p + ahead.length + w ≤ fin' := by rcases h.st with ⟨_, _, e1, e2⟩ | ⟨_, _, e2⟩ <;> omega
    rw [if_pos h1, if_pos h2, cut_eq _ _ _ _ _ (by omega)]
    exact Mv.okk _ _ _ rfl
  · rw [if_neg h1]
    rcases h.st with ⟨e1, e2, e3, e4⟩ | ⟨e1, e2, e3⟩
    · subst e1 e2
      refine ⟨fun a h => (by cases h), fun x hx hn => ?_, fun x hx hn => ?_⟩
      · cases hx
        exact absurd rfl hn
      · cases hx
        refine ⟨rfl, fun hH => ?_, fun a' _ => by (show l.length + ahead.length < p + ahead.length + w); omega⟩
        subst hH
        rw [if_neg (by simp at e4; omega)]
        simp [shortC]
        omega
    · rw [if_neg (by omega)]
      have n1 : sz ≠ -1 := by omega
      have n2 : sz' ≠ -1 := by omega
      refine Mv.err _ _ _ ?_ ?_
      · simp [shortC, n1]
      · (simp [shortC, n1, n2, e2]; omega)
theorem rbytes_mv {p fin fin' w : Nat} {sz sz' : Int} (h : St ahead l behind fin fin' sz sz') : Mv l.length ahead.length (behind = []) Eq (fun _ => p + ahead.length + w) (rbytes l p fin sz w) (rbytes (ahead ++ (l ++ behind)) (p + ahead.length) fin' sz' w) := by
  have fl := h.fl
  unfold rbytes
  by_cases h1 : p + w ≤ fin
  · have h2 : p + ahead.length + w ≤ fin' := by rcases h.st with ⟨_, _, e1, e2⟩ | ⟨_, _, e2⟩ <;> omega
    rw [if_pos h1, if_pos h2, cut_eq _ _ _ _ _ (by omega)]
    exact Mv.okk _ _ _ rfl
  · rw [if_neg h1]
    rcases h.st with ⟨e1, e2, e3, e4⟩ | ⟨e1, e2, e3⟩
    · subst e1 e2
      refine ⟨fun a h => (by cases h), fun x hx hn => ?_, fun x hx hn => ?_⟩
      · cases hx
        exact absurd rfl hn
      · cases hx
        refine ⟨rfl, fun hH => ?_, fun a' _ => by (show l.length + ahead.length < p + ahead.length + w); omega⟩
        subst hH
        rw [if_neg (by simp at e4; omega)]
        simp [shortC]
        omega
    · rw [if_neg (by omega)]
      have n1 : sz ≠ -1 := by omega
      have n2 : sz' ≠ -1 := by omega
      refine Mv.err _ _ _ ?_ ?_
      · simp [shortC, n1]
      · (simp [shortC, n1, n2, e2]; omega)
theorem addI (p A : Nat) : ((p + A : Nat) : Int) = (p : Int) + (A : Int) := by omega
/-- two readers of data -/
def DMv (D D' : Nat → Nat → Nat → Nat → Nat → Int → Res (T × Nat)) : Prop := ∀ k c place p fin fin' sz sz', p ≤ fin → St ahead l behind fin fin' sz sz' →
  Mv l.length ahead.length (behind = []) (Mq ahead.length) Prod.snd (D k c place p fin sz) (D' k c (place + ahead.length) (p + ahead.length) fin' sz')
theorem St.le {fin fin' : Nat} {sz sz' : Int} (h : St ahead l behind fin fin' sz sz') : fin + ahead.length ≤ fin' := by
  rcases h.st with ⟨_, _, e1, e2⟩ | ⟨_, _, e2⟩ <;> omega
theorem rvalG_mv {D D' : Nat → Nat → Nat → Nat → Nat → Int → Res (T × Nat)} {f : Nat} (hD : f ≠ 0 → DMv ahead l behind D D') (hF : Far1 D') {p fin fin' : Nat} {sz sz' : Int} (h : St ahead l behind fin fin' sz sz') :
    Mv l.length ahead.length (behind = []) (Mq ahead.length) Prod.snd (rvalG l D f p fin sz) (rvalG (ahead ++ (l ++ behind)) D' f (p + ahead.length) fin' sz') := by
  rw [rvalG_b, rvalG_b]
  refine Mv.bind _ _ _ (rnum_mv ahead l behind h) ?_ ?_
  · rintro c _ rfl h1 h2
    have := rnum_le l h1
    split
    · exact Mv.err _ _ _ (by simp) (by simp)
    · split
      · exact Mv.err _ _ _ (by simp) (by simp)
      · rw [show p + ahead.length + 1 = p + 1 + ahead.length by omega]
        exact hD (by assumption) _ c p (p + 1) fin fin' sz sz' (by omega) h
  · rintro c ⟨t, q⟩ h1 h2
    have a1 := rnum_le _ h1
    split at h2
    · cases h2
    · split at h2
      · cases h2
      · exact (hF _ _ _ _ _ _ _ _ a1 h2).1
theorem rmany_mv {R R' : Nat → Res (T × Nat)} {fin fin' : Nat} (hle : fin + ahead.length ≤ fin') (hR : ∀ p, p ≤ fin → Mv l.length ahead.length (behind = []) (Mq ahead.length) Prod.snd (R p) (R' (p + ahead.length))) (hF : ∀ p t q, p ≤ fin → R p = .ok (t, q) → p < q ∧ q ≤ fin) (hF' : ∀ p t q, p ≤ fin' → R' p = .ok (t, q) → p < q ∧ q ≤ fin') :
    ∀ n p, p ≤ fin → Mv l.length ahead.length (behind = []) (Mq ahead.length) Prod.snd (rmany R n p) (rmany R' n (p + ahead.length))
  | 0, p, hp => by
    rw [rmany, rmany]
    exact Mv.okk _ _ _ ⟨rfl, rfl⟩
  | n + 1, p, hp => by
    rw [rmany_b, rmany_b]
    refine Mv.bind _ _ _ (hR p hp) ?_ ?_
    · rintro ⟨x, q⟩ ⟨x', q'⟩ ⟨rfl, e2⟩ h1 h2
      simp only at e2 ⊢
      subst e2
      have a1 := hF p x q hp h1
      refine Mv.bind _ _ _ (rmany_mv hle hR hF hF' n q a1.2) ?_ ?_
      · rintro ⟨ys, r⟩ ⟨ys', r'⟩ ⟨rfl, e3⟩ h3 h4
        exact Mv.okk _ _ _ ⟨rfl, e3⟩
      · rintro ⟨ys, r⟩ ⟨zs, r'⟩ h3 h4
        cases h4
        exact Nat.le_refl _
    · rintro ⟨x, q⟩ ⟨zs, r⟩ h1 h2
      obtain ⟨⟨ys, r'⟩, h3, h4⟩ := bindR_ok h2
      cases h4
      have a1 := hF' _ x q (by omega) h1
      have a2 := rmany_far hF' n q ys r' a1.2 h3
      simp only
      omega
theorem rspan_mv {α : Type} {w least p fin fin' : Nat} {sz sz' : Int} {inner inner' : Nat → Nat → Nat → Int → Res (α × Nat)} (h : St ahead l behind fin fin' sz sz')
    (hi : ∀ count q fin fin' sz sz', q ≤ fin → St ahead l behind fin fin' sz sz' → Mv l.length ahead.length (behind = []) (Mq ahead.length) Prod.snd (inner count q fin sz) (inner' count (q + ahead.length) fin' sz'))
    (hF : ∀ count q fin sz x q', q ≤ fin → inner' count q fin sz = .ok (x, q') → q ≤ q' ∧ q' ≤ fin) :
    Mv l.length ahead.length (behind = []) (Mq ahead.length) Prod.snd (rspan l w least p fin sz inner) (rspan (ahead ++ (l ++ behind)) w least (p + ahead.length) fin' sz' inner') := by
  have hfl := h.fl
  rw [rspan_b, rspan_b]
  refine Mv.bind _ _ _ (rnum_mv ahead l behind h) ?_ ?_
  · rintro size _ rfl h1 h2
    by_cases c1 : size < least
    · rw [if_pos c1, if_pos c1]
      exact Mv.err _ _ _ (by simp) (by simp)
    rw [if_neg c1, if_neg c1]
    by_cases c2 : fin < p + w + size
    · rw [if_pos c2]
      rcases h.st with ⟨e1, e2, e3, e4⟩ | ⟨e1, e2, e3⟩
      · subst e1 e2
        refine ⟨fun a h => (by cases h), fun x hx hn => ?_, fun x hx hn => ?_⟩
        · cases hx
          exact absurd rfl hn
        · cases hx
          refine ⟨rfl, fun hH => ?_, fun a' ha => ?_⟩
          · subst hH
            rw [if_pos (by simp at e4; omega)]
            simp [shortC]
            omega
          · by_cases c3 : fin' < p + ahead.length + w + size
            · rw [if_pos c3] at ha; cases ha
            · rw [if_neg c3] at ha
              obtain ⟨count, h3, h4⟩ := bindR_ok ha
              obtain ⟨⟨x, q⟩, h5, h6⟩ := bindR_ok h4
              split at h6
              · cases h6
              · cases h6
                simp only at *
                omega
      · rw [if_pos (by omega)]
        have n1 : sz ≠ -1 := by omega
        have n2 : sz' ≠ -1 := by omega
        refine Mv.err _ _ _ ?_ ?_
        · simp [shortC, n1]
        · (simp [shortC, n1, n2, e2]; omega)
    · have hle := h.le
      rw [if_neg c2, if_neg (by omega)]
      have hs : St ahead l behind (p + w + size) (p + w + size + ahead.length) (p : Int) ((p + ahead.length : Nat) : Int) := ⟨by omega, .inr ⟨by omega, by omega, rfl⟩⟩
      rw [show p + ahead.length + w + size = p + w + size + ahead.length by omega, show p + ahead.length + w + w = p + w + w + ahead.length by omega, show p + ahead.length + w = p + w + ahead.length by omega]
      refine Mv.bind _ _ _ (rnum_mv ahead l behind hs) ?_ ?_
      · rintro count _ rfl h3 h4
        have a3 := rnum_le l h3
        refine Mv.bind _ _ _ (hi count (p + w + w) _ _ _ _ a3 hs) ?_ ?_
        · rintro ⟨x, q⟩ ⟨x', q'⟩ ⟨e1, e2⟩ h5 h6
          simp only at e1 e2 ⊢
          subst e1 e2
          by_cases c3 : q < p + w + size
          · rw [if_pos c3, if_pos (by omega)]
            exact Mv.err _ _ _ (by simp) (by simp)
          · rw [if_neg c3, if_neg (by omega)]
            exact Mv.okk _ _ _ ⟨rfl, rfl⟩
        · rintro ⟨x, q⟩ ⟨x', q'⟩ h5 h6
          simp only at h6
          split at h6
          · cases h6
          · cases h6
            exact Nat.le_refl _
      · rintro count ⟨x, q⟩ h3 h4
        have a3 := rnum_le _ h3
        obtain ⟨⟨x', q'⟩, h5, h6⟩ := bindR_ok h4
        split at h6
        · cases h6
        · cases h6
          have := hF _ _ _ _ _ _ (by omega) h5
          simp only
          omega
  · rintro size ⟨x, q⟩ h1 h2
    split at h2
    · cases h2
    split at h2
    · cases h2
    obtain ⟨count, h3, h4⟩ := bindR_ok h2
    have a3 := rnum_le _ h3
    obtain ⟨⟨x', q'⟩, h5, h6⟩ := bindR_ok h4
    split at h6
    · cases h6
    · cases h6
      simp only at *
      omega
theorem dat_mv : ∀ f, f ≠ 0 → DMv ahead l behind (rdat B W l f) (rdat B W (ahead ++ (l ++ behind)) f)
  | 0 => fun h0 => absurd rfl h0
  | f + 1 => fun _ k c place p fin fin' sz sz' hp h => by
    have ih := dat_mv f
    have far := rdat_far B W l f
    have far' := rdat_far B W (ahead ++ (l ++ behind)) f
    rw [rdat_b, rdat_b]
    split
    · refine Mv.bind _ _ _ (rvalG_mv ahead l behind ih far' h) ?_ ?_
      · rintro ⟨d, q⟩ ⟨d', q'⟩ ⟨e1, e2⟩ h1 h2
        simp only at e1 e2 ⊢
        subst e1 e2
        refine Mv.bind _ _ _ (rvalG_mv ahead l behind ih far' h) ?_ ?_
        · rintro ⟨v, q2⟩ ⟨v', q2'⟩ ⟨e1, e2⟩ h3 h4
          simp only at e1 e2 ⊢
          subst e1 e2
          exact Mv.okk _ _ _ ⟨rfl, rfl⟩
        · rintro ⟨v, q2⟩ ⟨v', q2'⟩ h3 h4
          cases h4
          exact Nat.le_refl _
      · rintro ⟨d, q⟩ ⟨t, r⟩ h1 h2
        obtain ⟨⟨v, q2⟩, h3, h4⟩ := bindR_ok h2
        cases h4
        have := rvalG_far _ far' h3
        simp only at *
        omega
    split
    · exact Mv.okk _ _ _ ⟨rfl, rfl⟩
    split
    · refine Mv.bind _ _ _ (rbytes_mv ahead l behind h) ?_ ?_
      · rintro s _ rfl h1 h2
        exact Mv.okk _ _ _ ⟨rfl, by simp only; omega⟩
      · rintro s ⟨t, q⟩ h1 h2
        cases h2
        exact Nat.le_refl _
    split
    · generalize (if c / 16 = 10 then 1 else 4) = w
      rw [rtext_b, rtext_b]
      refine Mv.bind _ _ _ (?_ : Mv l.length ahead.length (behind = []) (Mq ahead.length) Prod.snd _ _) ?_ ?_
      · refine Mv.bind _ _ _ (rnum_mv ahead l behind h) ?_ ?_
        · rintro n _ rfl h1 h2
          rw [show p + ahead.length + w = p + w + ahead.length by omega]
          refine Mv.bind _ _ _ (rbytes_mv ahead l behind h) ?_ ?_
          · rintro s _ rfl h3 h4
            split
            · exact Mv.err _ _ _ (by simp) (by simp; omega)
            · exact Mv.okk _ _ _ ⟨rfl, by simp only; omega⟩
          · rintro s ⟨t, q⟩ h3 h4
            split at h4
            · cases h4
            · cases h4
              exact Nat.le_refl _
        · rintro n ⟨t, q⟩ h1 h2
          obtain ⟨s, h3, h4⟩ := bindR_ok h2
          split at h4
          · cases h4
          · cases h4
            simp only
            omega
      · rintro ⟨s, q⟩ ⟨s', q'⟩ ⟨e1, e2⟩ h1 h2
        simp only at e1 e2 ⊢
        subst e1 e2
        exact Mv.okk _ _ _ ⟨rfl, rfl⟩
      · rintro ⟨s, q⟩ ⟨t, q'⟩ h1 h2
        cases h2
        exact Nat.le_refl _
    split
    · generalize (if c / 16 = 12 then 1 else 4) = w
      rw [relems_b, relems_b]
      refine Mv.bind _ _ _ (?_ : Mv l.length ahead.length (behind = []) (Mq ahead.length) Prod.snd _ _) ?_ ?_
      · refine Mv.bind _ _ _ (rspan_mv ahead l behind h ?_ ?_) ?_ ?_
        · intro count q fin fin' sz sz' hq hs
          split
          · exact Mv.err _ _ _ (by simp) (by simp)
          split
          · exact Mv.err _ _ _ (by simp) (by simp)
          exact rmany_mv ahead l behind hs.le (fun p hp => rvalG_mv ahead l behind ih far' hs) (fun p t q _ h => rvalG_far _ far h) (fun p t q _ h => rvalG_far _ far' h) count q hq
        · intro count q fin sz x q' hq hi
          split at hi
          · cases hi
          split at hi
          · cases hi
          have := rmany_far (fin := fin) (fun p t q hp h => rvalG_far _ far' h) _ _ _ _ hq hi
          exact ⟨by omega, this.2.1⟩
        · rintro ⟨xs, q⟩ ⟨xs', q'⟩ ⟨e1, e2⟩ h1 h2
          simp only at e1 e2 ⊢
          subst e1 e2
          split
          · exact Mv.err _ _ _ (by simp) (by simp)
          · exact Mv.okk _ _ _ ⟨rfl, rfl⟩
        · rintro ⟨xs, q⟩ ⟨t, q'⟩ h1 h2
          split at h2
          · cases h2
          · cases h2
            exact Nat.le_refl _
      · rintro ⟨s, q⟩ ⟨s', q'⟩ ⟨e1, e2⟩ h1 h2
        simp only at e1 e2 ⊢
        subst e1 e2
        exact Mv.okk _ _ _ ⟨rfl, rfl⟩
      · rintro ⟨s, q⟩ ⟨t, q'⟩ h1 h2
        cases h2
        exact Nat.le_refl _
    split
    · generalize (if c / 16 = 14 then 1 else 4) = w
      rw [rarr_b, rarr_b]
      refine Mv.bind _ _ _ (rspan_mv ahead l behind h ?_ ?_) ?_ ?_
      · intro count q fin fin' sz sz' hq hs
        unfold rarrI
        refine Mv.bind _ _ _ (rnum_mv ahead l behind hs) ?_ ?_
        · rintro c _ rfl h1 h2
          have a1 := rnum_le l h1
          split
          · rename_i hst
            have h4 : c / 16 ≠ 4 := by
              unfold standsC at hst
              simp at hst
              omega
            rw [show q + ahead.length + 1 = q + 1 + ahead.length by omega]
            refine Mv.bind _ _ _ (rmany_mv ahead l behind hs.le (fun p hp => ?_) (fun p t q hp h => ?_) (fun p t q hp h => ?_) count (q + 1) a1) ?_ ?_
            · split
              · exact Mv.err _ _ _ (by simp) (by simp)
              · exact ih (by assumption) _ _ _ _ _ _ _ _ hp hs
            · split at h
              · cases h
              · have := far _ _ _ _ _ _ _ _ hp h
                exact ⟨this.2.2 h4, this.2.1⟩
            · split at h
              · cases h
              · have := far' _ _ _ _ _ _ _ _ hp h
                exact ⟨this.2.2 h4, this.2.1⟩
            · rintro ⟨s, q⟩ ⟨s', q'⟩ ⟨e1, e2⟩ h1 h2
              simp only at e1 e2 ⊢
              subst e1 e2
              exact Mv.okk _ _ _ ⟨rfl, rfl⟩
            · rintro ⟨s, q⟩ ⟨t, q'⟩ h1 h2
              cases h2
              exact Nat.le_refl _
          · exact Mv.err _ _ _ (by simp) (by simp)
        · rintro c ⟨x, q'⟩ h1 h2
          have hh : rarrI (ahead ++ (l ++ behind)) (rdat B W (ahead ++ (l ++ behind)) f) f count (q + ahead.length) fin' sz' = .ok (x, q') := by
            unfold rarrI
            rw [h1]
            exact h2
          have := rarrI_far _ far' hh
          simp only
          omega
      · intro count q fin sz x q' hq hi
        have := rarrI_far _ far' hi
        exact ⟨by omega, this.2.1⟩
      · rintro ⟨s, q⟩ ⟨s', q'⟩ ⟨e1, e2⟩ h1 h2
        simp only at e1 e2 ⊢
        subst e1 e2
        exact Mv.okk _ _ _ ⟨rfl, rfl⟩
      · rintro ⟨s, q⟩ ⟨t, q'⟩ h1 h2
        cases h2
        exact Nat.le_refl _
    · rw [rnumber_b, rnumber_b]
      refine Mv.bind _ _ _ (?_ : Mv l.length ahead.length (behind = []) (Mq ahead.length) Prod.snd _ _) ?_ ?_
      · refine Mv.bind _ _ _ (rnum_mv ahead l behind h) ?_ ?_
        · rintro m _ rfl h1 h2
          split
          · exact Mv.okk _ _ _ ⟨rfl, by simp only; omega⟩
          · split
            · exact Mv.okk _ _ _ ⟨rfl, by simp only; omega⟩
            · exact Mv.err _ _ _ (by simp) (by simp)
        · rintro m ⟨t, q⟩ h1 h2
          split at h2
          · cases h2; exact Nat.le_refl _
          · split at h2
            · cases h2; exact Nat.le_refl _
            · cases h2
      · rintro ⟨s, q⟩ ⟨s', q'⟩ ⟨e1, e2⟩ h1 h2
        simp only at e1 e2 ⊢
        subst e1 e2
        exact Mv.okk _ _ _ ⟨rfl, rfl⟩
      · rintro ⟨s, q⟩ ⟨t, q'⟩ h1 h2
        cases h2
        exact Nat.le_refl _
theorem rdec_mv : ∀ p, p ≤ l.length → Mv l.length ahead.length (behind = []) (Mq ahead.length) Prod.snd (rdec B W l p) (rdec B W (ahead ++ (l ++ behind)) (p + ahead.length)) := by
  intro p hp
  have hs : St ahead l behind l.length (ahead ++ (l ++ behind)).length (-1) (-1) := ⟨Nat.le_refl _, .inl ⟨rfl, rfl, rfl, by simp⟩⟩
  have key : ∀ (b : List Nat) (p : Nat), rdec B W b p = bindR (rval B W b 32 p b.length (-1)) fun vq => if p + 1048576 < vq.2 then .error ((p : Int), 2) else .ok vq := by
    intro b p
    unfold rdec bindR
    cases rval B W b 32 p b.length (-1) <;> rfl
  rw [key, key]
  refine Mv.bind _ _ _ (rvalG_mv ahead l behind (dat_mv B W ahead l behind 32) (rdat_far B W _ 32) hs) ?_ ?_
  · rintro ⟨s, q⟩ ⟨s', q'⟩ ⟨e1, e2⟩ h1 h2
    simp only at e1 e2 ⊢
    subst e1 e2
    by_cases c : p + 1048576 < q
    · rw [if_pos c, if_pos (by omega)]
      exact Mv.err _ _ _ (by simp) (by simp)
    · rw [if_neg c, if_neg (by omega)]
      exact Mv.okk _ _ _ ⟨rfl, rfl⟩
  · rintro ⟨s, q⟩ ⟨t, q'⟩ h1 h2
    simp only at h2
    split at h2
    · cases h2
    · cases h2
      exact Nat.le_refl _
end
/-! ### what comes of it -/
section
variable (B : Nat → ByteArray → Int) (W : List T → Bool)
/-- bytes put ahead move the places alone -/
theorem rdec_ahead (ahead l : List Nat) : (∀ t q, rdec B W l 0 = .ok (t, q) → rdec B W (ahead ++ l) ahead.length = .ok (t, q + ahead.length)) ∧ (∀ x, rdec B W l 0 = .error x → rdec B W (ahead ++ l) ahead.length = .error (x.1 + (ahead.length : Int), x.2)) := by
  have h := rdec_mv B W ahead l [] 0 (Nat.zero_le _)
  rw [List.append_nil, Nat.zero_add] at h
  refine ⟨fun t q hq => ?_, fun x hx => ?_⟩
  · obtain ⟨⟨t', q'⟩, h1, h2, h3⟩ := h.1 _ hq
    simp only at h2 h3
    subst h2 h3
    exact h1
  · by_cases c : x.2 = 10
    · exact (h.2.2 x hx c).2.1 rfl
    · exact h.2.1 x hx c
/-- bytes put behind are not looked at, but where these ended too early -/
theorem rdec_behind (l behind : List Nat) : (∀ t q, rdec B W l 0 = .ok (t, q) → rdec B W (l ++ behind) 0 = .ok (t, q)) ∧ (∀ x, rdec B W l 0 = .error x → x.2 ≠ 10 → rdec B W (l ++ behind) 0 = .error x) := by
  have h := rdec_mv B W [] l behind 0 (Nat.zero_le _)
  rw [List.nil_append] at h
  refine ⟨fun t q hq => ?_, fun x hx hn => ?_⟩
  · obtain ⟨⟨t', q'⟩, h1, h2, h3⟩ := h.1 _ hq
    simp only [List.length_nil, Nat.add_zero] at h2 h3 h1
    subst h2 h3
    exact h1
  · have := h.2.1 x hx hn
    simpa using this
/-- a beginning of a value's bytes ends too early -/
theorem rdec_cut (l behind : List Nat) (t : T) (hb : behind ≠ []) (h : rdec B W (l ++ behind) 0 = .ok (t, (l ++ behind).length)) : rdec B W l 0 = .error ((l.length : Int), 10) := by
  have hm := rdec_mv B W [] l behind 0 (Nat.zero_le _)
  rw [List.nil_append] at hm
  have hl : 0 < behind.length := List.length_pos_iff.2 hb
  cases hr : rdec B W l 0 with
  | ok tq =>
    obtain ⟨t1, q1⟩ := tq
    obtain ⟨⟨t', q'⟩, h1, h2, h3⟩ := hm.1 _ hr
    simp only [List.length_nil, Nat.add_zero] at h2 h3 h1
    rw [h] at h1
    cases h1
    have := (rdec_far B W l hr).2.1
    simp at h3
    omega
  | error x =>
    by_cases c : x.2 = 10
    · have := (hm.2.2 x hr c).1
      obtain ⟨x1, x2⟩ := x
      simp only at this c
      rw [this, c]
    · have := hm.2.1 x hr c
      simp only [List.length_nil, Nat.add_zero] at this
      rw [h] at this
      cases this
/-- a value's bytes alone are read as they were among others -/
theorem rdec_lone (ahead l behind : List Nat) (t : T) (h : rdec B W (ahead ++ (l ++ behind)) ahead.length = .ok (t, ahead.length + l.length)) : rdec B W l 0 = .ok (t, l.length) := by
  have hm := rdec_mv B W ahead l behind 0 (Nat.zero_le _)
  rw [Nat.zero_add] at hm
  cases hr : rdec B W l 0 with
  | ok tq =>
    obtain ⟨t1, q1⟩ := tq
    obtain ⟨⟨t', q'⟩, h1, h2, h3⟩ := hm.1 _ hr
    rw [h] at h1
    cases h1
    simp only at h2 h3
    rw [h2]
    congr 2
    omega
  | error x =>
    by_cases c : x.2 = 10
    · have := (hm.2.2 x hr c).2.2 _ h
      simp only at this
      omega
    · have := hm.2.1 x hr c
      rw [h] at this
      cases this
end
end Go.Proofs.YtgpimajdcfoigabDoor
