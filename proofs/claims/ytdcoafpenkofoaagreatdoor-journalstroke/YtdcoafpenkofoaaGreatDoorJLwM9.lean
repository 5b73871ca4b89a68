import Derived.Test.YtdcoafpenkofoaaGreatDoorJLogM9
import Derived.Test.YtdcoafpenkofoaaGreatDoorJFirstM9

/- Stage 20: the mathematics of whole batches. -/
namespace Go.Proofs.YtdcoafpenkofoaaGreatDoor
open Go.RowKit
set_option linter.unusedVariables false
set_option linter.unusedSimpArgs false
theorem getN_num4 (k : Nat) (h : k < 4294967296) : getN (num4 k) = k := by
  simp only [getN, num4, dig, List.foldl_cons, List.foldl_nil]
  rw [show (256 : Nat) ^ 3 = 16777216 by rfl, show (256 : Nat) ^ 2 = 65536 by rfl, show (256 : Nat) ^ 1 = 256 by rfl, show (256 : Nat) ^ 0 = 1 by rfl]
  omega
theorem app_take4 (k : Nat) (r : List Nat) : (num4 k ++ r).take 4 = num4 k := by
  rw [List.take_append_of_le_length (by rw [num4_len]; omega), List.take_of_length_le (by rw [num4_len]; omega)]
theorem app_drop4 (k : Nat) (r : List Nat) : (num4 k ++ r).drop 4 = r := by
  rw [List.drop_append_of_le_length (by rw [num4_len]; omega), List.drop_of_length_le (by rw [num4_len]; omega)]
  rfl
/-- a batch that may be written -/
def GdB (L : List (List Nat)) : Prop := L ≠ [] ∧ (∀ r ∈ L, 1 ≤ r.length ∧ r.length ≤ 1049600) ∧ bodN L < 4294967296 ∧ ∀ r ∈ L, ∀ c ∈ r, c < 256
theorem spl_bod : ∀ (L : List (List Nat)), (∀ r ∈ L, 1 ≤ r.length ∧ r.length ≤ 1049600) → spl (bodB L) = some L
  | [], _ => rfl
  | r :: L, h => by
    have hr := h r (by simp)
    have e : bodB (r :: L) = num4 r.length ++ (r ++ bodB L) := by simp [bodB]
    have hg : getN ((bodB (r :: L)).take 4) = r.length := by rw [e, app_take4, getN_num4 _ (by omega)]
    have hl : (bodB (r :: L)).length = 4 + (r.length + (bodB L).length) := by rw [e]; simp [num4_len]
    rw [spl_some (by omega) (by rw [hg, hl]; omega), hg]
    have d1 : (bodB (r :: L)).drop (4 + r.length) = bodB L := by
      rw [← List.drop_drop, e, app_drop4, List.drop_append_of_le_length (by omega), List.drop_of_length_le (by omega)]
      rfl
    have d2 : ((bodB (r :: L)).drop 4).take r.length = r := by
      rw [e, app_drop4, List.take_append_of_le_length (by omega), List.take_of_length_le (by omega)]
    rw [d1, d2, spl_bod L (fun q hq => h q (by simp [hq]))]
    rfl
theorem fst_bat (L : List (List Nat)) (rest : List Nat) (h : GdB L) : fst1 (batB L ++ rest) = (0, L, batN L) := by
  obtain ⟨h0, hr, hb, hby⟩ := h
  have e : batB L ++ rest = num4 (bodN L) ++ (num4 (sumN (num4 (bodN L))) ++ (bodB L ++ (num4 (sumN (hedB L ++ bodB L)) ++ rest))) := by
    unfold batB
    rw [if_neg h0]
    simp [hedB]
  have hlen : (batB L ++ rest).length = 12 + bodN L + rest.length := by rw [List.length_append, batB_len]; unfold batN; rw [if_neg h0]
  have hg : getN ((batB L ++ rest).take 4) = bodN L := by rw [e, app_take4, getN_num4 _ hb]
  have hn5 : 5 ≤ bodN L := by
    cases L with
    | nil => exact absurd rfl h0
    | cons r L => have := (hr r (by simp)).1; simp only [bodN, List.map_cons, List.sum_cons]; omega
  have s4 : sst (batB L ++ rest) 4 = true := by
    unfold sst
    have d4 : ((batB L ++ rest).drop 4).take 4 = num4 (sumN (num4 (bodN L))) := by rw [e, app_drop4, app_take4]
    have t4 : (batB L ++ rest).take 4 = num4 (bodN L) := by rw [e, app_take4]
    rw [d4, t4, getN_num4 _ (sumN_lt (num4_lt _)), decide_eq_true rfl, Bool.and_true]
    exact decide_eq_true (by omega)
  have s8 : sst (batB L ++ rest) (8 + bodN L) = true := by
    have hh : (hedB L ++ bodB L).length = 8 + bodN L := by simp [hedB, num4_len, bodB_len]; omega
    have e2 : batB L ++ rest = (hedB L ++ bodB L) ++ (num4 (sumN (hedB L ++ bodB L)) ++ rest) := by unfold batB; rw [if_neg h0]; simp
    have hlt : ∀ c ∈ hedB L ++ bodB L, c < 256 := fun c hc => by
      simp only [hedB, bodB, List.mem_append, List.mem_flatMap] at hc
      rcases hc with (h | h) | ⟨r, hr', h | h⟩
      · exact num4_lt _ c h
      · exact num4_lt _ c h
      · exact num4_lt _ c h
      · exact hby r hr' c h
    unfold sst
    have t8 : (batB L ++ rest).take (8 + bodN L) = hedB L ++ bodB L := by rw [e2, List.take_append_of_le_length (by omega), List.take_of_length_le (by omega)]
    have d8 : ((batB L ++ rest).drop (8 + bodN L)).take 4 = num4 (sumN (hedB L ++ bodB L)) := by
      rw [e2, List.drop_append_of_le_length (by omega), List.drop_of_length_le (by omega), List.nil_append, app_take4]
    rw [t8, d8, getN_num4 _ (sumN_lt hlt), decide_eq_true rfl, Bool.and_true]
    exact decide_eq_true (by omega)
  have hbd : ((batB L ++ rest).drop 8).take (bodN L) = bodB L := by
    rw [show (8 : Nat) = 4 + 4 by rfl, ← List.drop_drop, e, app_drop4, app_drop4, List.take_append_of_le_length (by rw [bodB_len]; omega), List.take_of_length_le (by rw [bodB_len]; omega)]
  unfold fst1
  rw [hg, hbd, if_neg (by omega), if_neg (by rw [s4]; simp; omega), if_neg (by omega), if_neg (by rw [s8]; simp), spl_bod L hr]
  show (0, L, 12 + bodN L) = _
  unfold batN
  rw [if_neg h0]
theorem wl_log : ∀ (M : List (List (List Nat))) (rest : List Nat), (∀ m ∈ M, GdB m) → wl (logB M ++ rest) = (M ++ (wl rest).1, logN M + (wl rest).2.1, (wl rest).2.2)
  | [], rest, _ => by simp [logB, logN]
  | m :: M, rest, h => by
    have hm := h m (by simp)
    have e : logB (m :: M) ++ rest = batB m ++ (logB M ++ rest) := by simp [logB]
    have hf := fst_bat m (logB M ++ rest) hm
    have hz : batN m = 12 + bodN m := by unfold batN; rw [if_neg hm.1]
    rw [e, wl_one (by rw [List.length_append, batB_len]; omega) (by rw [hf]), hf]
    have d : (batB m ++ (logB M ++ rest)).drop (batN m) = logB M ++ rest := by
      rw [List.drop_append_of_le_length (by rw [batB_len]; omega), List.drop_of_length_le (by rw [batB_len]; omega)]
      rfl
    show (m :: (wl ((batB m ++ (logB M ++ rest)).drop (batN m))).1, batN m + (wl ((batB m ++ (logB M ++ rest)).drop (batN m))).2.1, (wl ((batB m ++ (logB M ++ rest)).drop (batN m))).2.2) = _
    rw [d, wl_log M rest (fun q hq => h q (by simp [hq]))]
    simp only [logN, List.map_cons, List.sum_cons, List.cons_append, Prod.mk.injEq, true_and, and_true]
    omega
/-- a front of a batch does not end: it is not torn -/
theorem fst_front (L : List (List Nat)) (k : Nat) (h : GdB L) (hk : k < batN L) : fst1 ((batB L).take k) = (1, [], 0) := by
  obtain ⟨h0, hr, hb, hby⟩ := h
  have hz : batN L = 12 + bodN L := by unfold batN; rw [if_neg h0]
  have hl : ((batB L).take k).length = k := by rw [List.length_take, batB_len]; omega
  by_cases h8 : k < 8
  · exact fst_short (by omega)
  · have e : batB L = num4 (bodN L) ++ (num4 (sumN (num4 (bodN L))) ++ (bodB L ++ num4 (sumN (hedB L ++ bodB L)))) := by
      unfold batB
      rw [if_neg h0]
      simp [hedB]
    have hn5 : 5 ≤ bodN L := by
      cases L with
      | nil => exact absurd rfl h0
      | cons r L => have := (hr r (by simp)).1; simp only [bodN, List.map_cons, List.sum_cons]; omega
    have t4 : ((batB L).take k).take 4 = num4 (bodN L) := by rw [List.take_take, Nat.min_eq_left (by omega), e, app_take4]
    have d4 : (((batB L).take k).drop 4).take 4 = num4 (sumN (num4 (bodN L))) := by
      rw [List.drop_take, List.take_take, Nat.min_eq_left (by omega), e, app_drop4, app_take4]
    have s4 : sst ((batB L).take k) 4 = true := by
      unfold sst
      rw [d4, t4, getN_num4 _ (sumN_lt (num4_lt _)), decide_eq_true rfl, Bool.and_true]
      exact decide_eq_true (by omega)
    refine fst_cut (by omega) (by rw [t4, getN_num4 _ hb, s4]; simp; omega) (by rw [t4, getN_num4 _ hb]; omega)
/-- a log whose last batch is cut: the whole ones, no more -/
theorem wl_cut (M : List (List (List Nat))) (L : List (List Nat)) (k : Nat) (hM : ∀ m ∈ M, GdB m) (hL : GdB L) (hk : k < batN L) : (wl (logB M ++ (batB L).take k)).1 = M ∧ (wl (logB M ++ (batB L).take k)).2.1 = logN M ∧ (wl (logB M ++ (batB L).take k)).2.2 < 2 := by
  have hl : ((batB L).take k).length = k := by rw [List.length_take, batB_len]; omega
  rw [wl_log M _ hM]
  by_cases h0 : k = 0
  · rw [wl_nil (by omega)]
    simp
  · rw [wl_bad (by omega) (by rw [fst_front L k hL hk]; decide), fst_front L k hL hk]
    simp
end Go.Proofs.YtdcoafpenkofoaaGreatDoor
