/- OctetTurned: steps outside the walk. -/
import Derived.Test.YtjgdebifomkkcabDoorTurnM
import Derived.Test.YtjgdebifomkkcabDoorSumsP
namespace Go.Proofs.YtjgdebifomkkcabDoor
open Go.RowKit

theorem sum_one (a : Option Addr) (n cap : Nat) (l : List Nat) (w : World) (hr : Rd w a n l) (hn : n ≤ 140737488355328) :
    Calls Tryd.prog 16 #[.slice (some ⟨w.heap.size, 0, none⟩) 1 1] (w.alloc (.cells #[.slice a n cap] 27)) fun e w' =>
      e = .returned (.int .u32 ((4294967295 ^^^ Oc.crc 4294967295 l : Nat) : Int)) ∧ Below w.heap.size w w' := by
  have hb : Below w.heap.size w (w.alloc (.cells #[.slice a n cap] 27)) := (Below.refl _ _).alloc (Nat.le_refl _) _
  have h := sum_any w.heap.size 0 1 1 [l] (w.alloc (.cells #[.slice a n cap] 27)) (by omega) rfl (fun _ => by simp) (fun k hk => by
    obtain rfl : k = 0 := by omega
    exact ⟨a, n, cap, cell_one_new' _ _ _, hn, hr.below hb⟩)
  refine h.mono fun e w' ⟨he, h2⟩ => ?_
  have hc : ([l] : List (List Nat)).flatten = l := by simp
  rw [hc] at he
  exact ⟨he, hb.trans (h2.mono hb.size)⟩

theorem Rd.of_own {w : World} {base g n cap : Nat} {t : TypeId} {l : List Nat} (h : w.ownsRow base t 1 (.slice (some ⟨g, 0, none⟩) n cap) n (l.map byteV)) (hb : ∀ c ∈ l, c < 256) : Rd w (some ⟨g, 0, none⟩) n l := by
  have hl : l.length = n := by have := h.1; simpa using this
  refine ⟨hl, hb, fun _ => ⟨g, 0, rfl, (h.lt g rfl).2, fun j hj => ?_⟩⟩
  rw [Nat.zero_add, h.cellAt j (by omega), List.getElem?_map, List.getElem?_eq_getElem (by omega)]
  simp [byteV, List.getD_eq_getElem?_getD, List.getElem?_eq_getElem (show j < l.length by omega)]

/-- the copy, so far turned -/
def turnL (l : List Nat) (at_ j V : Nat) : List Nat := l.take at_ ++ Oc.mixL j V (l.drop at_)
theorem turnL_length (l : List Nat) (p j V : Nat) (h : p ≤ l.length) : (turnL l p j V).length = l.length := by
  unfold turnL; rw [List.length_append, Oc.mixL_length]; simp; omega
theorem turnL_at (l : List Nat) (p j V : Nat) (h : p + j < l.length) : (turnL l p j V).getD (p + j) 0 = l.getD (p + j) 0 := by
  have hl : (l.take p).length = p := by simp; omega
  have e : (turnL l p j V).getD (p + j) 0 = (Oc.mixL j V (l.drop p)).getD j 0 := by
    unfold turnL
    rw [List.getD_eq_getElem?_getD, List.getElem?_append_right (by omega), hl, show p + j - p = j by omega, ← List.getD_eq_getElem?_getD]
  rw [e, Oc.mixL_getD]
  simp [List.getD_eq_getElem?_getD, List.getElem?_drop]
theorem turnL_step (l : List Nat) (p j V : Nat) (h : p + j < l.length) : turnL l p (j + 1) V = (turnL l p j V).set (p + j) (l.getD (p + j) 0 ^^^ (V / 256 ^ j % 256)) := by
  have hl : (l.take p).length = p := by simp; omega
  unfold turnL
  rw [Oc.mixL_step, List.set_append_right _ _ (by omega), hl, show p + j - p = j by omega]
  congr 2
  simp [List.getD_eq_getElem?_getD, List.getElem?_drop]
theorem turnL_lt (l : List Nat) (p j V : Nat) (h : ∀ c ∈ l, c < 256) : ∀ c ∈ turnL l p j V, c < 256 := by
  intro c hc
  rcases List.mem_append.1 hc with hc | hc
  · exact h c (List.mem_of_mem_take hc)
  · exact Oc.mixL_lt _ _ _ (fun d hd => h d (List.mem_of_mem_drop hd)) c hc
theorem turn_end (l : List Nat) (p j M s : Nat) (hM : M < 4294967296) (hM0 : M ≠ 0) (hs : s < 8) (hp : p < l.length) (hj : j = min 5 (l.length - p)) :
    ((4294967295 ^^^ Oc.crc 4294967295 l : Nat) = (4294967295 ^^^ Oc.crc 4294967295 (turnL l p j (M * 2 ^ s)) : Nat)) ↔ (M * 2 ^ s) % 256 ^ j = 0 := by
  have h := Oc.mix_ne (l.drop p) M s (Oc.crc 4294967295 (l.take p)) hM hM0 hs
  have hm : ∀ W : Nat, Oc.mixL 5 W (l.drop p) = Oc.mixL j W (l.drop p) := by
    intro W
    have gen : ∀ (a b W : Nat) (m : List Nat), m.length ≤ a → m.length ≤ b → Oc.mixL a W m = Oc.mixL b W m := by
      intro a
      induction a with
      | zero =>
        intro b W m ha hb
        have : m = [] := List.eq_nil_of_length_eq_zero (by omega)
        subst this
        rw [Oc.mixL_nil, Oc.mixL_nil]
      | succ a ih =>
        intro b W m ha hb
        cases m with
        | nil => rw [Oc.mixL_nil, Oc.mixL_nil]
        | cons c m =>
          cases b with
          | zero => simp at hb
          | succ b =>
            simp only [Oc.mixL]
            rw [ih b (W / 256) m (by simpa using ha) (by simpa using hb)]
    by_cases h5 : 5 ≤ l.length - p
    · rw [show j = 5 by omega]
    · exact gen _ _ _ _ (by simp; omega) (by simp; omega)
  rw [hm, show min 5 (l.drop p).length = j by simp; omega, ← Oc.crc_append, ← Oc.crc_append, List.take_append_drop] at h
  rw [← h]
  unfold turnL
  constructor
  · intro he
    have := congrArg (fun z => 4294967295 ^^^ z) he
    simp only [← Nat.xor_assoc, Nat.xor_self, Nat.zero_xor] at this
    exact this.symm
  · intro he
    rw [he]
theorem turned_step (V j : Nat) : decide (V % 256 ^ (j + 1) ≠ 0) = (decide (V % 256 ^ j ≠ 0) || decide (V / 256 ^ j % 256 ≠ 0)) := by
  have h : V % 256 ^ (j + 1) = V % 256 ^ j + 256 ^ j * (V / 256 ^ j % 256) := by
    rw [Nat.pow_succ, Nat.mod_mul]
  have hp : 0 < 256 ^ j := Nat.pow_pos (by omega)
  rw [h, Bool.eq_iff_iff]
  simp only [ne_eq, Bool.or_eq_true, decide_not, Bool.not_eq_true', decide_eq_false_iff_not, Nat.add_eq_zero_iff, Nat.mul_eq_zero]
  omega
end Go.Proofs.YtjgdebifomkkcabDoor
