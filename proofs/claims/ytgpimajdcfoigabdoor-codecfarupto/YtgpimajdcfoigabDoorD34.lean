import Derived.Test.YtgpimajdcfoigabDoorD05

/- Reading: how far it goes; bytes put ahead and behind. No program. -/
namespace Go.Proofs.YtgpimajdcfoigabDoor
set_option linter.unusedVariables false
set_option linter.unusedSimpArgs false
def bindR {α β : Type} (r : Res α) (K : α → Res β) : Res β := match r with | .error x => .error x | .ok a => K a
theorem bindR_ok {α β : Type} {r : Res α} {K : α → Res β} {b : β} (h : bindR r K = .ok b) : ∃ a, r = .ok a ∧ K a = .ok b := by
  cases r with
  | error x => cases h
  | ok a => exact ⟨a, rfl, h⟩
section
variable (B : Nat → ByteArray → Int) (W : List T → Bool) (l : List Nat)
/-! ### as steps -/
theorem rvalG_b (D : Nat → Nat → Nat → Nat → Nat → Int → Res (T × Nat)) (f p fin : Nat) (sz : Int) : rvalG l D f p fin sz = bindR (rnum l p fin sz 1) fun c => match kindC c with
    | none => .error ((p : Int), 30)
    | some k => if f = 0 then .error ((p : Int), 26) else D k c p (p + 1) fin sz := by
  unfold rvalG bindR
  cases rnum l p fin sz 1 <;> rfl
theorem rmany_b (R : Nat → Res (T × Nat)) (n p : Nat) : rmany R (n + 1) p = bindR (R p) fun xq => bindR (rmany R n xq.2) fun ys => .ok (xq.1 :: ys.1, ys.2) := by
  rw [rmany]
  unfold bindR
  cases R p with
  | error x => rfl
  | ok xq =>
    obtain ⟨x, q⟩ := xq
    simp only
    cases rmany R n q <;> rfl
theorem rspan_b {α : Type} (w least p fin : Nat) (sz : Int) (inner : Nat → Nat → Nat → Int → Res (α × Nat)) : rspan l w least p fin sz inner = bindR (rnum l p fin sz w) fun size =>
    if size < least then .error ((p : Int), 32) else if fin < p + w + size then .error (shortC l.length sz)
    else bindR (rnum l (p + w) (p + w + size) p w) fun count => bindR (inner count (p + w + w) (p + w + size) p) fun xq => if xq.2 < p + w + size then .error ((p : Int), 32) else .ok xq := by
  unfold rspan bindR
  cases rnum l p fin sz w with
  | error x => rfl
  | ok size =>
    simp only
    split
    · rfl
    · split
      · rfl
      · cases rnum l (p + w) (p + w + size) p w with
        | error x => rfl
        | ok count =>
          simp only
          cases inner count (p + w + w) (p + w + size) p <;> rfl
theorem relems_b (R : Nat → Nat → Int → Res (T × Nat)) (k w place p fin : Nat) (sz : Int) : relems W l R k w place p fin sz = bindR (rspan l w w p fin sz (fun count q fin sz => if k = 22 ∧ count % 2 ≠ 0 then .error ((place : Int), 34) else if k = 22 ∧ 1024 < count / 2 then .error ((place : Int), 2) else rmany (fun r => R r fin sz) count q)) fun xq => if k = 22 ∧ W xq.1 = true then .error ((place : Int), 34) else .ok xq := by
  unfold relems bindR
  cases rspan l w w p fin sz (fun count q fin sz => if k = 22 ∧ count % 2 ≠ 0 then .error ((place : Int), 34) else if k = 22 ∧ 1024 < count / 2 then .error ((place : Int), 2) else rmany (fun r => R r fin sz) count q) <;> rfl
def rarrI (D : Nat → Nat → Nat → Nat → Nat → Int → Res (T × Nat)) (f count q fin : Nat) (sz : Int) : Res ((Nat × List T) × Nat) := bindR (rnum l q fin sz 1) fun c => if standsC c = true then
    bindR (rmany (fun r => if f = 0 then .error ((r : Int), 26) else D ((kindC c).getD 0) c r r fin sz) count (q + 1)) fun xq => .ok (((kindC c).getD 0, xq.1), xq.2)
  else .error ((q : Int), 30)
theorem rarr_b (D : Nat → Nat → Nat → Nat → Nat → Int → Res (T × Nat)) (f w p fin : Nat) (sz : Int) : rarr l D f w p fin sz = rspan l w (w + 1) p fin sz (rarrI l D f) := by
  unfold rarr
  congr 1
  funext count q fin sz
  unfold rarrI bindR
  cases rnum l q fin sz 1 with
  | error x => rfl
  | ok c =>
    simp only
    split
    · cases rmany (fun r => if f = 0 then .error ((r : Int), 26) else D ((kindC c).getD 0) c r r fin sz) count (q + 1) <;> rfl
    · rfl
theorem rtext_b (k w p fin : Nat) (sz : Int) : rtext B l k w p fin sz = bindR (rnum l p fin sz w) fun n => bindR (rbytes l (p + w) fin sz n) fun s => if 0 ≤ B k (mkS s) then .error (((p + w : Nat) : Int) + B k (mkS s), 33) else .ok (mkS s, p + w + n) := by
  unfold rtext bindR
  cases rnum l p fin sz w with
  | error x => rfl
  | ok n =>
    simp only
    cases rbytes l (p + w) fin sz n <;> rfl
theorem rnumber_b (k w p fin : Nat) (sz : Int) : rnumber l k w p fin sz = bindR (rnum l p fin sz w) fun m => if k = 6 ∨ k = 7 ∨ k = 8 ∨ k = 9 then .ok (sext w m, p + w) else if formC k m = true then .ok (m, p + w) else .error ((p : Int), 31) := by
  unfold rnumber bindR
  cases rnum l p fin sz w <;> rfl
theorem rdat_b (f k c place p fin : Nat) (sz : Int) : rdat B W l (f + 1) k c place p fin sz =
    if c / 16 = 0 then bindR (rvalG l (rdat B W l f) f p fin sz) fun dq => bindR (rvalG l (rdat B W l f) f dq.2 fin sz) fun vq => .ok (T.of k 0 e0 0 [dq.1, vq.1], vq.2)
    else if c / 16 = 4 then .ok (T.of k (if c = 65 then 1 else 0) e0 0 [], p)
    else if c / 16 = 9 then bindR (rbytes l p fin sz 16) fun s => .ok (T.of k 0 (mkS s) 0 [], p + 16)
    else if c / 16 = 10 ∨ c / 16 = 11 then bindR (rtext B l k (if c / 16 = 10 then 1 else 4) p fin sz) fun sq => .ok (T.of k 0 sq.1 0 [], sq.2)
    else if c / 16 = 12 ∨ c / 16 = 13 then bindR (relems W l (rvalG l (rdat B W l f) f) k (if c / 16 = 12 then 1 else 4) place p fin sz) fun xq => .ok (T.of k 0 e0 0 xq.1, xq.2)
    else if c / 16 = 14 ∨ c / 16 = 15 then bindR (rarr l (rdat B W l f) f (if c / 16 = 14 then 1 else 4) p fin sz) fun xq => .ok (T.of k 0 e0 xq.1.1 xq.1.2, xq.2)
    else bindR (rnumber l k (nwid c) p fin sz) fun nq => .ok (T.of k nq.1 e0 0 [], nq.2) := by
  rw [rdat]
  unfold bindR
  split
  · cases rvalG l (rdat B W l f) f p fin sz with
    | error x => rfl
    | ok dq =>
      obtain ⟨d, q⟩ := dq
      simp only
      cases rvalG l (rdat B W l f) f q fin sz <;> rfl
  split
  · rfl
  split
  · cases rbytes l p fin sz 16 <;> rfl
  split
  · cases rtext B l k (if c / 16 = 10 then 1 else 4) p fin sz <;> rfl
  split
  · cases relems W l (rvalG l (rdat B W l f) f) k (if c / 16 = 12 then 1 else 4) place p fin sz <;> rfl
  split
  · cases rarr l (rdat B W l f) f (if c / 16 = 14 then 1 else 4) p fin sz <;> rfl
  · cases rnumber l k (nwid c) p fin sz <;> rfl
/-! ### how far it goes -/
theorem rnum_le {p fin w m : Nat} {sz : Int} (h : rnum l p fin sz w = .ok m) : p + w ≤ fin := by
  unfold rnum at h
  split at h
  · assumption
  · cases h
theorem rbytes_le {p fin w : Nat} {m : List Nat} {sz : Int} (h : rbytes l p fin sz w = .ok m) : p + w ≤ fin := by
  unfold rbytes at h
  split at h
  · assumption
  · cases h
/-- a reader of data goes on, but not too far -/
def Far1 (D : Nat → Nat → Nat → Nat → Nat → Int → Res (T × Nat)) : Prop := ∀ k c place p fin sz t q, p ≤ fin → D k c place p fin sz = .ok (t, q) → p ≤ q ∧ q ≤ fin ∧ (c / 16 ≠ 4 → p < q)
theorem rvalG_far {D : Nat → Nat → Nat → Nat → Nat → Int → Res (T × Nat)} (hD : Far1 D) {f p fin : Nat} {sz : Int} {t : T} {q : Nat} (h : rvalG l D f p fin sz = .ok (t, q)) : p < q ∧ q ≤ fin := by
  rw [rvalG_b] at h
  obtain ⟨c, h1, h2⟩ := bindR_ok h
  have := rnum_le l h1
  split at h2
  · cases h2
  · split at h2
    · cases h2
    · have := hD _ _ _ _ _ _ _ _ (by omega) h2
      omega
theorem rmany_far {R : Nat → Res (T × Nat)} {fin : Nat} (hR : ∀ p t q, p ≤ fin → R p = .ok (t, q) → p < q ∧ q ≤ fin) : ∀ (n p : Nat) (xs : List T) (q : Nat), p ≤ fin → rmany R n p = .ok (xs, q) → p + n ≤ q ∧ q ≤ fin ∧ xs.length = n
  | 0, p, xs, q, hp, h => by
    rw [rmany] at h
    cases h
    exact ⟨by omega, hp, rfl⟩
  | n + 1, p, xs, q, hp, h => by
    rw [rmany_b] at h
    obtain ⟨⟨x, q1⟩, h1, h2⟩ := bindR_ok h
    obtain ⟨⟨ys, q2⟩, h3, h4⟩ := bindR_ok h2
    cases h4
    have a1 := hR p x q1 hp h1
    have a2 := rmany_far hR n q1 ys q2 a1.2 h3
    exact ⟨by omega, a2.2.1, by simp [a2.2.2]⟩
theorem rspan_far {α : Type} {w least p fin : Nat} {sz : Int} {inner : Nat → Nat → Nat → Int → Res (α × Nat)} {x : α} {q : Nat} (hi : ∀ count q fin sz x q', q ≤ fin → inner count q fin sz = .ok (x, q') → q ≤ q' ∧ q' ≤ fin) (h : rspan l w least p fin sz inner = .ok (x, q)) :
    ∃ size count, rnum l p fin sz w = .ok size ∧ least ≤ size ∧ p + w + size ≤ fin ∧ rnum l (p + w) (p + w + size) p w = .ok count ∧ p + w + w ≤ p + w + size ∧ inner count (p + w + w) (p + w + size) p = .ok (x, q) ∧ q = p + w + size := by
  rw [rspan_b] at h
  obtain ⟨size, h1, h2⟩ := bindR_ok h
  split at h2
  · cases h2
  split at h2
  · cases h2
  obtain ⟨count, h3, h4⟩ := bindR_ok h2
  obtain ⟨⟨x', q'⟩, h5, h6⟩ := bindR_ok h4
  simp only at h6
  split at h6
  · cases h6
  · cases h6
    have a1 := rnum_le l h1
    have a2 := rnum_le l h3
    have a3 := hi _ _ _ _ _ _ a2 h5
    exact ⟨size, count, h1, by omega, by omega, h3, by omega, h5, by omega⟩
theorem rarrI_far {D : Nat → Nat → Nat → Nat → Nat → Int → Res (T × Nat)} (hD : Far1 D) {f count q fin : Nat} {sz : Int} {x : Nat × List T} {q' : Nat} (h : rarrI l D f count q fin sz = .ok (x, q')) : q + 1 + count ≤ q' ∧ q' ≤ fin ∧ x.2.length = count := by
  unfold rarrI at h
  obtain ⟨c, h1, h2⟩ := bindR_ok h
  have a1 := rnum_le l h1
  split at h2
  · rename_i hs
    obtain ⟨⟨xs, q1⟩, h3, h4⟩ := bindR_ok h2
    cases h4
    have := rmany_far (fin := fin) (fun p t q hp h => by
      split at h
      · cases h
      · have := hD _ _ _ _ _ _ _ _ hp h
        have h4 : c / 16 ≠ 4 := by
          unfold standsC at hs
          simp at hs
          omega
        exact ⟨this.2.2 h4, this.2.1⟩) _ _ _ _ a1 h3
    exact ⟨by omega, this.2.1, this.2.2⟩
  · cases h2
theorem rdat_far : ∀ f, Far1 (rdat B W l f)
  | 0 => fun k c place p fin sz t q hp h => by rw [rdat] at h; cases h
  | f + 1 => fun k c place p fin sz t q hp h => by
    have ih := rdat_far f
    rw [rdat_b] at h
    split at h
    · obtain ⟨⟨d, q1⟩, h1, h2⟩ := bindR_ok h
      obtain ⟨⟨v, q2⟩, h3, h4⟩ := bindR_ok h2
      cases h4
      have a1 := rvalG_far l ih h1
      have a2 := rvalG_far l ih h3
      exact ⟨by simp only at a2; omega, a2.2, fun _ => by simp only at a2; omega⟩
    split at h
    · cases h
      exact ⟨Nat.le_refl _, hp, fun hn => absurd (by assumption) hn⟩
    split at h
    · obtain ⟨s, h1, h2⟩ := bindR_ok h
      cases h2
      have := rbytes_le l h1
      exact ⟨by omega, by omega, fun _ => by omega⟩
    split at h
    · obtain ⟨⟨s, q1⟩, h1, h2⟩ := bindR_ok h
      cases h2
      rw [rtext_b] at h1
      obtain ⟨n, h3, h4⟩ := bindR_ok h1
      obtain ⟨s', h5, h6⟩ := bindR_ok h4
      have b1 := rbytes_le l h5
      split at h6
      · cases h6
      · cases h6
        have : 1 ≤ (if c / 16 = 10 then 1 else 4) := by split <;> omega
        exact ⟨by simp only; omega, by simp only; omega, fun _ => by simp only; omega⟩
    split at h
    · obtain ⟨⟨xs, q1⟩, h1, h2⟩ := bindR_ok h
      cases h2
      rw [relems_b] at h1
      obtain ⟨⟨ys, q2⟩, h3, h4⟩ := bindR_ok h1
      split at h4
      · cases h4
      · cases h4
        obtain ⟨size, count, b1, b2, b3, b4, b5, b6, b7⟩ := rspan_far l (fun count q fin sz x q' hq hi => by
          split at hi
          · cases hi
          split at hi
          · cases hi
          have := rmany_far (fin := fin) (fun p t q hp h => rvalG_far l ih h) _ _ _ _ hq hi
          exact ⟨by omega, this.2.1⟩) h3
        have : 1 ≤ (if c / 16 = 12 then 1 else 4) := by split <;> omega
        simp only at b7 ⊢
        exact ⟨by omega, by omega, fun _ => by omega⟩
    split at h
    · obtain ⟨⟨xs, q1⟩, h1, h2⟩ := bindR_ok h
      cases h2
      rw [rarr_b] at h1
      obtain ⟨size, count, b1, b2, b3, b4, b5, b6, b7⟩ := rspan_far l (fun count q fin sz x q' hq hi => by
          have := rarrI_far l ih hi
          exact ⟨by omega, this.2.1⟩) h1
      have : 1 ≤ (if c / 16 = 14 then 1 else 4) := by split <;> omega
      simp only at b7 ⊢
      exact ⟨by omega, by omega, fun _ => by omega⟩
    · obtain ⟨⟨n, q1⟩, h1, h2⟩ := bindR_ok h
      cases h2
      rw [rnumber_b] at h1
      obtain ⟨m, h3, h4⟩ := bindR_ok h1
      have a1 := rnum_le l h3
      have : 1 ≤ nwid c := by unfold nwid; split <;> (try split) <;> (try split) <;> omega
      split at h4
      · cases h4; simp only; exact ⟨by omega, by omega, fun _ => by omega⟩
      · split at h4
        · cases h4; simp only; exact ⟨by omega, by omega, fun _ => by omega⟩
        · cases h4
theorem rval_far {f p fin : Nat} {sz : Int} {t : T} {q : Nat} (h : rval B W l f p fin sz = .ok (t, q)) : p < q ∧ q ≤ fin := rvalG_far l (rdat_far B W l f) h
theorem rdec_far {p : Nat} {t : T} {q : Nat} (h : rdec B W l p = .ok (t, q)) : p < q ∧ q ≤ l.length ∧ q ≤ p + 1048576 ∧ rval B W l 32 p l.length (-1) = .ok (t, q) := by
  unfold rdec at h
  cases hr : rval B W l 32 p l.length (-1) with
  | error x => rw [hr] at h; cases h
  | ok tq =>
    rw [hr] at h
    obtain ⟨t', q'⟩ := tq
    simp only at h
    split at h
    · cases h
    · cases h
      have := rval_far B W l hr
      exact ⟨this.1, this.2, by omega, rfl⟩
end
end Go.Proofs.YtgpimajdcfoigabDoor
