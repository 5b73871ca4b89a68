import Derived.Test.YtgpimajdcfoigabDoorD47
import Derived.Test.YtgpimajdcfoigabDoorD45

/- Where a fault is told: within the bytes. No program. -/
namespace Go.Proofs.YtgpimajdcfoigabDoor
set_option linter.unusedVariables false
set_option linter.unusedSimpArgs false
section
variable (B : Nat → ByteArray → Int) (W : List T → Bool) (l : List Nat)
def Plc {α : Type} (r : Res α) : Prop := ∀ x, r = .error x → 0 ≤ x.1 ∧ x.1 ≤ (l.length : Int)
theorem Plc.bind {α β : Type} {r : Res α} {K : α → Res β} (h : Plc l r) (hk : ∀ a, r = .ok a → Plc l (K a)) : Plc l (bindR r K) := by
  cases r with
  | ok a => exact hk a rfl
  | error x => exact fun y hy => by cases hy; exact h x rfl
theorem Plc.okk {α : Type} (a : α) : Plc l (.ok a : Res α) := fun x h => by cases h
theorem Plc.err {α : Type} {x : Int × Int} (h : 0 ≤ x.1 ∧ x.1 ≤ (l.length : Int)) : Plc l (.error x : Res α) := fun y hy => by cases hy; exact h
/-- a place of a size, or none -/
def Sz (sz : Int) : Prop := sz = -1 ∨ (0 ≤ sz ∧ sz ≤ (l.length : Int))
theorem pl_short {sz : Int} (h : Sz l sz) : 0 ≤ (shortC l.length sz).1 ∧ (shortC l.length sz).1 ≤ (l.length : Int) := by
  unfold shortC
  rcases h with rfl | h
  · rw [if_pos rfl]; simp
  · rw [if_neg (by omega)]; exact h
theorem pl_num {p fin w : Nat} {sz : Int} (h : Sz l sz) : Plc l (rnum l p fin sz w) := by
  unfold rnum
  split
  · exact Plc.okk _ _
  · exact Plc.err _ (pl_short l h)
theorem pl_bytes {p fin w : Nat} {sz : Int} (h : Sz l sz) : Plc l (rbytes l p fin sz w) := by
  unfold rbytes
  split
  · exact Plc.okk _ _
  · exact Plc.err _ (pl_short l h)
def PlD (D : Nat → Nat → Nat → Nat → Nat → Int → Res (T × Nat)) : Prop := ∀ k c place p fin sz, place ≤ fin → p ≤ fin → fin ≤ l.length → Sz l sz → Plc l (D k c place p fin sz)
theorem pl_val {D : Nat → Nat → Nat → Nat → Nat → Int → Res (T × Nat)} {f : Nat} (hD : f ≠ 0 → PlD l D) {p fin : Nat} {sz : Int} (hf : fin ≤ l.length) (h : Sz l sz) : Plc l (rvalG l D f p fin sz) := by
  rw [rvalG_b]
  refine (pl_num l h).bind l fun c hc => ?_
  have := rnum_le l hc
  split
  · exact Plc.err _ ⟨by simp, by simp; omega⟩
  · split
    · exact Plc.err _ ⟨by simp, by simp; omega⟩
    · exact hD (by assumption) _ _ _ _ _ _ (by omega) (by omega) hf h
theorem pl_many {R : Nat → Res (T × Nat)} {fin : Nat} (hR : ∀ p, p ≤ fin → Plc l (R p)) (hF : ∀ p t q, p ≤ fin → R p = .ok (t, q) → p < q ∧ q ≤ fin) : ∀ n p, p ≤ fin → Plc l (rmany R n p)
  | 0, p, _ => by rw [rmany]; exact Plc.okk _ _
  | n + 1, p, hp => by
    rw [rmany_b]
    refine (hR p hp).bind l fun xq hx => ?_
    exact (pl_many hR hF n xq.2 (hF p xq.1 xq.2 hp hx).2).bind l fun ys _ => Plc.okk _ _
theorem pl_span {α : Type} {w least p fin : Nat} {sz : Int} {inner : Nat → Nat → Nat → Int → Res (α × Nat)} (hp : p ≤ fin) (hf : fin ≤ l.length) (h : Sz l sz) (hi : ∀ c q fin sz, q ≤ fin → fin ≤ l.length → Sz l sz → p ≤ fin → Plc l (inner c q fin sz)) : Plc l (rspan l w least p fin sz inner) := by
  rw [rspan_b]
  refine (pl_num l h).bind l fun size h1 => ?_
  split
  · exact Plc.err _ ⟨by simp, by simp; omega⟩
  split
  · exact Plc.err _ (pl_short l h)
  have hs : Sz l (p : Int) := .inr ⟨by omega, by omega⟩
  refine (pl_num l hs).bind l fun count h2 => ?_
  have := rnum_le l h2
  refine (hi _ _ _ _ (by omega) (by omega) hs (by omega)).bind l fun xq _ => ?_
  split
  · exact Plc.err _ ⟨by simp, by simp; omega⟩
  · exact Plc.okk _ _
theorem pl_dat (hB : ∀ k s, B k s ≤ (s.size : Int)) : ∀ f, f ≠ 0 → PlD l (rdat B W l f)
  | 0 => fun h => absurd rfl h
  | f + 1 => fun _ k c place p fin sz hpl hp hf hz => by
    have ih := pl_dat hB f
    have far := rdat_far B W l f
    have iv : ∀ {p fin : Nat} {sz : Int}, fin ≤ l.length → Sz l sz → Plc l (rvalG l (rdat B W l f) f p fin sz) := fun h1 h2 => pl_val l ih h1 h2
    rw [rdat_b]
    split
    · exact (iv hf hz).bind l fun dq _ => (iv hf hz).bind l fun vq _ => Plc.okk _ _
    split
    · exact Plc.okk _ _
    split
    · exact (pl_bytes l hz).bind l fun s _ => Plc.okk _ _
    split
    · refine Plc.bind l ?_ fun _ _ => Plc.okk _ _
      rw [rtext_b]
      refine (pl_num l hz).bind l fun n _ => (pl_bytes l hz).bind l fun s hs => ?_
      have h1 := rbytes_le l hs
      have h2 := rbytes_len l hf hs
      have h3 := mkS_size s
      split
      · have := hB k (mkS s)
        exact Plc.err _ ⟨by simp only; omega, by simp only; omega⟩
      · exact Plc.okk _ _
    split
    · refine Plc.bind l ?_ fun _ _ => Plc.okk _ _
      rw [relems_b]
      refine Plc.bind l (pl_span l hp hf hz fun c q fin' sz' h1 h2 h3 h4 => ?_) fun xq _ => ?_
      · split
        · exact Plc.err _ ⟨by simp, by simp; omega⟩
        split
        · exact Plc.err _ ⟨by simp, by simp; omega⟩
        exact pl_many l (fun p _ => iv h2 h3) (fun p t q _ h => rvalG_far l far h) _ _ h1
      · split
        · exact Plc.err _ ⟨by simp, by simp; omega⟩
        · exact Plc.okk _ _
    split
    · refine Plc.bind l ?_ fun _ _ => Plc.okk _ _
      rw [rarr_b]
      refine pl_span l hp hf hz fun c q fin' sz' h1 h2 h3 h4 => ?_
      unfold rarrI
      refine (pl_num l h3).bind l fun c hc => ?_
      have h5 := rnum_le l hc
      split
      · rename_i hst
        have h4' : c / 16 ≠ 4 := by
          unfold standsC at hst
          simp at hst
          omega
        refine (pl_many l (fun p hp => ?_) (fun p t q hp h => ?_) _ _ h5).bind l fun _ _ => Plc.okk _ _
        · split
          · exact Plc.err _ ⟨by simp, by simp; omega⟩
          · exact ih (by assumption) _ _ _ _ _ _ hp hp h2 h3
        · split at h
          · cases h
          · have := far _ _ _ _ _ _ _ _ hp h
            exact ⟨this.2.2 h4', this.2.1⟩
      · exact Plc.err _ ⟨by simp, by simp; omega⟩
    · refine Plc.bind l ?_ fun _ _ => Plc.okk _ _
      rw [rnumber_b]
      refine (pl_num l hz).bind l fun m _ => ?_
      split
      · exact Plc.okk _ _
      · split
        · exact Plc.okk _ _
        · exact Plc.err _ ⟨by simp, by simp; omega⟩
theorem pl_dec (hB : ∀ k s, B k s ≤ (s.size : Int)) (p : Nat) (hp : p ≤ l.length) : Plc l (rdec B W l p) := by
  have h := pl_val l (pl_dat B W l hB 32) (p := p) (Nat.le_refl l.length) (.inl rfl : Sz l (-1))
  intro x hx
  unfold rdec rval at hx
  cases hr : rvalG l (rdat B W l 32) 32 p l.length (-1) with
  | error y => rw [hr] at hx; cases hx; exact h x hr
  | ok vq =>
    rw [hr] at hx
    obtain ⟨v, q⟩ := vq
    simp only at hx
    split at hx
    · cases hx; exact ⟨by simp, by simp; omega⟩
    · cases hx
end
end Go.Proofs.YtgpimajdcfoigabDoor
