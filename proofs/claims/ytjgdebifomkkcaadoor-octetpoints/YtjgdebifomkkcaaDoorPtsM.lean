/- Texts as lists of bytes: whole characters one behind the other. -/
import Derived.Test.YtjgdebifomkkcaaDoorUtf
import Derived.Laws.BytesArg
namespace Go.Proofs.YtjgdebifomkkcaaDoor

/-- a list of bytes as a string -/
def sN (L : List Nat) : ByteArray := ⟨(L.map UInt8.ofNat).toArray⟩
theorem sN_size (L : List Nat) : (sN L).size = L.length := by simp [sN, ByteArray.size]
theorem sN_append (L M : List Nat) : sN L ++ sN M = sN (L ++ M) := by
  apply ByteArray.ext
  simp [sN, ByteArray.data_append]
theorem sN_get (L : List Nat) (h : ∀ c ∈ L, c < 256) (j : Nat) : ((sN L).get! j).toNat = L.getD j 0 := by
  by_cases hj : j < L.length
  · have h1 : (sN L).get! j = UInt8.ofNat L[j] := by
      rw [Utf8W.get!_of_lt _ j (by rw [sN_size]; exact hj)]
      simp [sN, ByteArray.getElem_eq_getElem_data]
    rw [h1, List.getD_eq_getElem?_getD, List.getElem?_eq_getElem hj]
    have := h L[j] (List.getElem_mem _)
    simp [UInt8.toNat_ofNat']
    omega
  · have h1 : (sN L).get! j = 0 := by
      show (sN L).data[j]! = 0
      rw [getElem!_neg _ _ (by simp [sN]; omega)]
      rfl
    rw [h1, List.getD_eq_getElem?_getD, List.getElem?_eq_none (by omega)]
    rfl
theorem sN_take (L : List Nat) (k : Nat) : (sN L).extract 0 k = sN (L.take k) := by
  apply ByteArray.ext
  simp [sN, List.extract_eq_take_drop, ← List.map_take]
def Byt (L : List Nat) : Prop := ∀ c ∈ L, c < 256
theorem Byt.app {L M : List Nat} (h : Byt L) (k : Byt M) : Byt (L ++ M) := fun c hc => by
  rcases List.mem_append.1 hc with h1 | h1
  · exact h c h1
  · exact k c h1
theorem Byt.take {L : List Nat} (h : Byt L) (k : Nat) : Byt (L.take k) := fun c hc => h c (List.mem_of_mem_take hc)

def decL (L : List Nat) (i : Nat) : Nat × Nat := Lib.decodeN (L.length - i) (L.getD i 0) (L.getD (i + 1) 0) (L.getD (i + 2) 0) (L.getD (i + 3) 0)
theorem dec_sN (L : List Nat) (h : Byt L) (i : Nat) : dec (sN L) i = decL L i := by
  unfold dec decL
  rw [sN_size, sN_get L h, sN_get L h, sN_get L h, sN_get L h]
def Bad (d : Nat × Nat) : Prop := d.1 = 65533 ∧ d.2 = 1

set_option maxRecDepth 100000 in
set_option maxHeartbeats 4000000 in
/-- a character stays one, whatever stands behind it -/
theorem decodeN_more (n n' b0 b1 b2 b3 c1 c2 c3 : Nat) (hn : n ≤ n') (h1 : 1 < n → c1 = b1) (h2 : 2 < n → c2 = b2) (h3 : 3 < n → c3 = b3) (hg : ¬ Bad (Lib.decodeN n b0 b1 b2 b3)) :
    Lib.decodeN n' b0 c1 c2 c3 = Lib.decodeN n b0 b1 b2 b3 := by
  unfold Bad at hg
  unfold Lib.decodeN at hg ⊢
  by_cases e0 : b0 < 128
  · simp only [e0, if_true]
  · simp only [e0, if_false] at hg ⊢
    by_cases e1 : b0 / 32 = 6 ∧ (1 < n ∧ b1 / 64 = 2)
    · have := h1 e1.2.1
      subst this
      rw [if_pos e1, if_pos (by omega)]
    · rw [if_neg e1] at hg ⊢
      by_cases e2 : b0 / 16 = 14 ∧ (1 < n ∧ b1 / 64 = 2) ∧ (2 < n ∧ b2 / 64 = 2)
      · have := h1 e2.2.1.1
        have := h2 e2.2.2.1
        subst c1
        subst c2
        rw [if_pos e2, if_neg (by omega), if_pos (by omega)]
      · rw [if_neg e2] at hg ⊢
        by_cases e3 : b0 / 8 = 30 ∧ (1 < n ∧ b1 / 64 = 2) ∧ (2 < n ∧ b2 / 64 = 2) ∧ (3 < n ∧ b3 / 64 = 2)
        · have := h1 e3.2.1.1
          have := h2 e3.2.2.1.1
          have := h3 e3.2.2.2.1
          subst c1
          subst c2
          subst c3
          rw [if_pos e3, if_neg (by omega), if_neg (by omega), if_pos (by omega)]
        · rw [if_neg e3] at hg
          simp at hg
theorem decL_more (L M : List Nat) (i : Nat) (hi : i < L.length) (hg : ¬ Bad (decL L i)) : decL (L ++ M) i = decL L i := by
  have e : ∀ j, j < L.length → (L ++ M).getD j 0 = L.getD j 0 := fun j hj => by
    rw [List.getD_eq_getElem?_getD, List.getElem?_append_left hj, ← List.getD_eq_getElem?_getD]
  unfold decL
  rw [e i hi]
  exact decodeN_more _ _ _ _ _ _ _ _ _ (by simp; omega) (fun h => e _ (by omega)) (fun h => e _ (by omega)) (fun h => e _ (by omega)) hg
def Whole (L : List Nat) : Prop := utfZ (sN L) 0 = -1
theorem whole_from (L M : List Nat) (hL : Byt L) (hM : Byt M) : ∀ f i, L.length - i ≤ f → i ≤ L.length → utfZ (sN L) i = -1 → utfZ (sN (L ++ M)) i = utfZ (sN (L ++ M)) L.length := by
  intro f
  induction f with
  | zero => intro i h1 h2 _; rw [show i = L.length by omega]
  | succ f ih =>
    intro i h1 h2 hw
    by_cases hi : i < L.length
    · have hs : i < (sN L).size := by rw [sN_size]; exact hi
      have hs2 : i < (sN (L ++ M)).size := by rw [sN_size]; simp; omega
      have hle := dec_le (sN L) i hs
      rw [sN_size, dec_sN L hL] at hle
      by_cases hb : (dec (sN L) i).1 = 65533 ∧ (dec (sN L) i).2 = 1
      · rw [utfZ_bad _ i hs hb] at hw
        omega
      · rw [utfZ_good _ i hs hb, dec_sN L hL] at hw
        have hb' : ¬ Bad (decL L i) := by rw [← dec_sN L hL]; exact hb
        have e := decL_more L M i hi hb'
        have hb2 : ¬ ((dec (sN (L ++ M)) i).1 = 65533 ∧ (dec (sN (L ++ M)) i).2 = 1) := by
          rw [dec_sN _ (hL.app hM), e]; exact hb'
        rw [utfZ_good _ i hs2 hb2, dec_sN _ (hL.app hM), e]
        exact ih _ (by omega) (by omega) hw
    · rw [show i = L.length by omega]
theorem whole_app {L : List Nat} (M : List Nat) (hL : Byt L) (hM : Byt M) (hw : Whole L) : utfZ (sN (L ++ M)) 0 = utfZ (sN (L ++ M)) L.length :=
  whole_from L M hL hM L.length 0 (by omega) (by omega) hw
theorem decL_at (L M : List Nat) : decL (L ++ M) L.length = Lib.decodeN M.length (M.getD 0 0) (M.getD 1 0) (M.getD 2 0) (M.getD 3 0) := by
  have e : ∀ j, (L ++ M).getD (L.length + j) 0 = M.getD j 0 := fun j => by
    rw [List.getD_eq_getElem?_getD, List.getElem?_append_right (by omega), show L.length + j - L.length = j by omega, ← List.getD_eq_getElem?_getD]
  have e0 := e 0
  rw [Nat.add_zero] at e0
  unfold decL
  rw [e0, e, e, e, List.length_append, show L.length + M.length - L.length = M.length by omega]
/-- what stands behind whole characters is no character: it is told there -/
theorem whole_bad {L M : List Nat} (hL : Byt L) (hM : Byt M) (hw : Whole L) (h0 : 0 < M.length) (hb : Bad (Lib.decodeN M.length (M.getD 0 0) (M.getD 1 0) (M.getD 2 0) (M.getD 3 0))) : utfZ (sN (L ++ M)) 0 = L.length := by
  rw [whole_app M hL hM hw, utfZ_bad _ _ (by rw [sN_size]; simp; omega)]
  rw [dec_sN _ (hL.app hM), decL_at]
  exact hb
/-- one character more -/
theorem whole_more {L M : List Nat} (hL : Byt L) (hM : Byt M) (hw : Whole L) (h0 : 0 < M.length) (hg : ¬ Bad (Lib.decodeN M.length (M.getD 0 0) (M.getD 1 0) (M.getD 2 0) (M.getD 3 0))) (hl : (Lib.decodeN M.length (M.getD 0 0) (M.getD 1 0) (M.getD 2 0) (M.getD 3 0)).2 = M.length) : Whole (L ++ M) := by
  unfold Whole
  rw [whole_app M hL hM hw, utfZ_good _ _ (by rw [sN_size]; simp; omega)]
  · rw [dec_sN _ (hL.app hM), decL_at, hl]
    exact utfZ_end _ _ (by rw [sN_size]; simp)
  · rw [dec_sN _ (hL.app hM), decL_at]
    exact hg
theorem whole_nil : Whole [] := utfZ_end _ _ (by rw [sN_size]; simp)

/-- a code point that has a form -/
def Pt (c : Nat) : Prop := c < 1114112 ∧ ¬ (55296 ≤ c ∧ c ≤ 57343)
def wrL (c : Nat) : List Nat :=
  if c < 128 then [c] else if c < 2048 then [192 + c / 64, 128 + c % 64] else if c < 65536 then [224 + c / 4096, 128 + c / 64 % 64, 128 + c % 64]
  else [240 + c / 262144, 128 + c / 4096 % 64, 128 + c / 64 % 64, 128 + c % 64]
theorem wrL_byt (c : Nat) (h : Pt c) : Byt (wrL c) := by
  unfold Byt wrL Pt at *
  intro d hd
  split at hd
  · simp at hd; omega
  · split at hd
    · simp at hd; omega
    · split at hd
      · simp at hd; omega
      · simp at hd; omega
theorem wrL_len (c : Nat) : 1 ≤ (wrL c).length ∧ (wrL c).length ≤ 4 := by
  unfold wrL
  repeat' split
  all_goals simp
set_option maxHeartbeats 2000000 in
theorem wrL_dec (c : Nat) (h : Pt c) : ¬ Bad (Lib.decodeN (wrL c).length ((wrL c).getD 0 0) ((wrL c).getD 1 0) ((wrL c).getD 2 0) ((wrL c).getD 3 0)) ∧
    (Lib.decodeN (wrL c).length ((wrL c).getD 0 0) ((wrL c).getD 1 0) ((wrL c).getD 2 0) ((wrL c).getD 3 0)).2 = (wrL c).length := by
  unfold Pt at h
  unfold wrL Bad
  by_cases e0 : c < 128
  · rw [if_pos e0]
    simp [Lib.decodeN, e0]
    omega
  · rw [if_neg e0]
    by_cases e1 : c < 2048
    · rw [if_pos e1]
      simp only [Lib.decodeN, List.length_cons, List.length_nil, List.getD_cons_zero, List.getD_cons_succ]
      rw [if_neg (by omega), if_pos (by omega), if_pos (by omega)]
      simp
    · rw [if_neg e1]
      by_cases e2 : c < 65536
      · rw [if_pos e2]
        simp only [Lib.decodeN, List.length_cons, List.length_nil, List.getD_cons_zero, List.getD_cons_succ]
        rw [if_neg (by omega), if_neg (by omega), if_pos (by omega), if_pos (by omega)]
        simp
      · rw [if_neg e2]
        simp only [Lib.decodeN, List.length_cons, List.length_nil, List.getD_cons_zero, List.getD_cons_succ]
        rw [if_neg (by omega), if_neg (by omega), if_neg (by omega), if_pos (by omega), if_pos (by omega)]
        simp
set_option maxHeartbeats 2000000 in
theorem wrL_cut (c k : Nat) (h : Pt c) (h1 : 1 ≤ k) (hk : k < (wrL c).length) :
    Bad (Lib.decodeN ((wrL c).take k).length (((wrL c).take k).getD 0 0) (((wrL c).take k).getD 1 0) (((wrL c).take k).getD 2 0) (((wrL c).take k).getD 3 0)) := by
  unfold Pt at h
  have hl := (wrL_len c).2
  have hk3 : k = 1 ∨ k = 2 ∨ k = 3 := by omega
  unfold wrL at hk ⊢
  unfold Bad
  by_cases e0 : c < 128
  · rw [if_pos e0] at hk
    simp at hk
    omega
  · rw [if_neg e0] at hk ⊢
    by_cases e1 : c < 2048
    · rw [if_pos e1] at hk ⊢
      simp at hk
      obtain rfl : k = 1 := by omega
      (simp only [Lib.decodeN, List.take_succ_cons, List.take_zero, List.length_cons, List.length_nil, List.getD_cons_zero, List.getD_cons_succ, List.getD_nil]; rw [if_neg (by omega), if_neg (by omega), if_neg (by omega), if_neg (by omega)]; simp)
    · rw [if_neg e1] at hk ⊢
      by_cases e2 : c < 65536
      · rw [if_pos e2] at hk ⊢
        simp at hk
        rcases hk3 with rfl | rfl | rfl
        · (simp only [Lib.decodeN, List.take_succ_cons, List.take_zero, List.length_cons, List.length_nil, List.getD_cons_zero, List.getD_cons_succ, List.getD_nil]; rw [if_neg (by omega), if_neg (by omega), if_neg (by omega), if_neg (by omega)]; simp)
        · (simp only [Lib.decodeN, List.take_succ_cons, List.take_zero, List.length_cons, List.length_nil, List.getD_cons_zero, List.getD_cons_succ, List.getD_nil]; rw [if_neg (by omega), if_neg (by omega), if_neg (by omega), if_neg (by omega)]; simp)
        · omega
      · rw [if_neg e2]
        rcases hk3 with rfl | rfl | rfl
        · (simp only [Lib.decodeN, List.take_succ_cons, List.take_zero, List.length_cons, List.length_nil, List.getD_cons_zero, List.getD_cons_succ, List.getD_nil]; rw [if_neg (by omega), if_neg (by omega), if_neg (by omega), if_neg (by omega)]; simp)
        · (simp only [Lib.decodeN, List.take_succ_cons, List.take_zero, List.length_cons, List.length_nil, List.getD_cons_zero, List.getD_cons_succ, List.getD_nil]; rw [if_neg (by omega), if_neg (by omega), if_neg (by omega), if_neg (by omega)]; simp)
        · (simp only [Lib.decodeN, List.take_succ_cons, List.take_zero, List.length_cons, List.length_nil, List.getD_cons_zero, List.getD_cons_succ, List.getD_nil]; rw [if_neg (by omega), if_neg (by omega), if_neg (by omega), if_neg (by omega)]; simp)
end Go.Proofs.YtjgdebifomkkcaaDoor
