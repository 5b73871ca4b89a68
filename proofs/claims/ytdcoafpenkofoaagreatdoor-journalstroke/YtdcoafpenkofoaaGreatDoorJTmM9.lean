import Derived.Test.YtdcoafpenkofoaaGreatDoorJLwM9

/- Stage 20: a byte of a whole batch that is changed: the mathematics. -/
namespace Go.Proofs.YtdcoafpenkofoaaGreatDoor
open Go.RowKit
set_option linter.unusedVariables false
set_option linter.unusedSimpArgs false
theorem fold_inj : ∀ (l m : List Nat) (a b : Nat), l.length = m.length → (∀ c ∈ l, c < 256) → (∀ c ∈ m, c < 256) → l.foldl (fun m c => m * 256 + c) a = m.foldl (fun m c => m * 256 + c) b → a = b ∧ l = m
  | [], [], a, b, _, _, _, h => ⟨h, rfl⟩
  | [], _ :: _, _, _, h, _, _, _ => by simp at h
  | _ :: _, [], _, _, h, _, _, _ => by simp at h
  | c :: l, d :: m, a, b, hl, h1, h2, h => by
    rw [List.foldl_cons, List.foldl_cons] at h
    obtain ⟨e1, e2⟩ := fold_inj l m _ _ (by simpa using hl) (fun x hx => h1 x (by simp [hx])) (fun x hx => h2 x (by simp [hx])) h
    have := h1 c (by simp)
    have := h2 d (by simp)
    have : c = d := by omega
    subst this
    exact ⟨by omega, by rw [e2]⟩
theorem getN_inj {l m : List Nat} (hl : l.length = m.length) (h1 : ∀ c ∈ l, c < 256) (h2 : ∀ c ∈ m, c < 256) (h : getN l = getN m) : l = m := (fold_inj l m 0 0 hl h1 h2 h).2
theorem sum_turn (a : List Nat) (c x : Nat) (b : List Nat) (hx : x < 256) (h0 : x ≠ 0) : sumN (a ++ (c ^^^ x) :: b) ≠ sumN (a ++ c :: b) := fun h => by
  have hq : Oc.crc 4294967295 (a ++ (c ^^^ x) :: b) = Oc.crc 4294967295 (a ++ c :: b) := by
    have := congrArg (fun z => 4294967295 ^^^ z) h
    simpa [sumN, ← Nat.xor_assoc] using this
  rw [Oc.crc_append, Oc.crc_append] at hq
  generalize Oc.crc 4294967295 a = r at hq
  have e1 : Oc.crc r ((c ^^^ x) :: b) = Oc.crc (Oc.stp r c ^^^ Oc.bsN 8 x) b := by
    have := Oc.stp_xor r 0 c x
    rw [Nat.xor_zero, Nat.zero_xor] at this
    show Oc.crc (Oc.stp r (c ^^^ x)) b = _
    rw [this]
  have e2 : ∀ (b : List Nat) (r d : Nat), Oc.crc (r ^^^ d) b = Oc.crc r b ^^^ Oc.bsN (8 * b.length) d := by
    intro b
    induction b with
    | nil => intro r d; rfl
    | cons c b ih =>
      intro r d
      have := Oc.stp_xor r d c 0
      rw [Nat.xor_zero, Nat.xor_zero] at this
      show Oc.crc (Oc.stp (r ^^^ d) c) b = Oc.crc (Oc.stp r c) b ^^^ _
      rw [this, ih, ← Oc.bsN_add, List.length_cons, show 8 + 8 * b.length = 8 * (b.length + 1) by omega]
  rw [e1, e2, ← Oc.bsN_add] at hq
  have h3 : Oc.bsN (8 + 8 * b.length) x = 0 := by
    have := congrArg (fun z => Oc.crc (Oc.stp r c) b ^^^ z) hq
    have h4 : Oc.crc r (c :: b) = Oc.crc (Oc.stp r c) b := rfl
    rw [h4] at this
    simpa [← Nat.xor_assoc] using this
  exact Oc.bsN_ne _ _ (by omega) h0 h3
theorem xor_ne {c x : Nat} (h0 : x ≠ 0) : c ^^^ x ≠ c := fun h => h0 (by
  have := congrArg (fun z => c ^^^ z) h
  simpa [← Nat.xor_assoc] using this)
/-- a list with a byte turned -/
def turn (l : List Nat) (p x : Nat) : List Nat := l.set p (l.getD p 0 ^^^ x)
theorem turn_len (l : List Nat) (p x : Nat) : (turn l p x).length = l.length := by unfold turn; simp
theorem turn_lt {l : List Nat} (h : ∀ c ∈ l, c < 256) (p : Nat) {x : Nat} (hx : x < 256) : ∀ c ∈ turn l p x, c < 256 := fun c hc => by
  unfold turn at hc
  rcases List.mem_or_eq_of_mem_set hc with h1 | h1
  · exact h c h1
  · subst h1
    refine Nat.xor_lt_two_pow (n := 8) ?_ (by omega)
    rw [List.getD_eq_getElem?_getD]
    by_cases hp : p < l.length
    · rw [List.getElem?_eq_getElem hp]; exact h _ (List.getElem_mem hp)
    · rw [List.getElem?_eq_none (by omega)]; decide
theorem turn_left {a b : List Nat} {p x : Nat} (hp : p < a.length) : turn (a ++ b) p x = turn a p x ++ b := by
  unfold turn
  rw [List.set_append_left _ _ hp, List.getD_eq_getElem?_getD, List.getD_eq_getElem?_getD, List.getElem?_append_left hp]
theorem turn_right {a b : List Nat} {p x : Nat} (hp : a.length ≤ p) : turn (a ++ b) p x = a ++ turn b (p - a.length) x := by
  unfold turn
  rw [List.set_append_right _ _ hp, List.getD_eq_getElem?_getD, List.getD_eq_getElem?_getD, List.getElem?_append_right hp]
theorem turn_split {l : List Nat} {p x : Nat} (hp : p < l.length) : turn l p x = l.take p ++ (l[p] ^^^ x) :: l.drop (p + 1) := by
  unfold turn
  rw [List.set_eq_take_append_cons_drop, if_pos hp, List.getD_eq_getElem?_getD, List.getElem?_eq_getElem hp]
  rfl
theorem turn_ne {l : List Nat} {p x : Nat} (hp : p < l.length) (h0 : x ≠ 0) : turn l p x ≠ l := fun h => by
  have := congrArg (fun m => m[p]?) h
  simp only [turn, List.getElem?_set, if_pos rfl, hp, if_true, List.getD_eq_getElem?_getD, List.getElem?_eq_getElem hp, Option.getD_some, Option.some.injEq] at this
  exact xor_ne h0 this
theorem turn_sum {l : List Nat} {p x : Nat} (hp : p < l.length) (hx : x < 256) (h0 : x ≠ 0) : sumN (turn l p x) ≠ sumN l := by
  rw [turn_split hp]
  have := sum_turn (l.take p) l[p] x (l.drop (p + 1)) hx h0
  rwa [List.getElem_cons_drop, List.take_append_drop] at this
theorem turn_getN {l : List Nat} {p x : Nat} (hp : p < l.length) (hl : ∀ c ∈ l, c < 256) (hx : x < 256) (h0 : x ≠ 0) : getN (turn l p x) ≠ getN l := fun h =>
  turn_ne hp h0 (getN_inj (turn_len l p x) (turn_lt hl p hx) hl h)
theorem turn_zero (l : List Nat) (p : Nat) : turn l p 0 = l := by
  unfold turn
  rw [Nat.xor_zero]
  by_cases hp : p < l.length
  · rw [List.getD_eq_getElem?_getD, List.getElem?_eq_getElem hp]; simp
  · exact List.set_eq_of_length_le (by omega)
/-- four pieces -/
theorem fst_pieces (n s b t rest : List Nat) (hn : n.length = 4) (hs : s.length = 4) (ht : t.length = 4) (hnb : ∀ c ∈ n, c < 256)
    (h : getN s ≠ sumN n ∨ (getN s = sumN n ∧ 5 ≤ b.length ∧ getN n = b.length ∧ getN t ≠ sumN (n ++ s ++ b))) : fst1 (n ++ s ++ b ++ t ++ rest) = (2, [], 0) := by
  have e : n ++ s ++ b ++ t ++ rest = n ++ (s ++ (b ++ (t ++ rest))) := by simp
  have hl : (n ++ s ++ b ++ t ++ rest).length = 12 + b.length + rest.length := by simp; omega
  have t4 : (n ++ s ++ b ++ t ++ rest).take 4 = n := by rw [e, List.take_append_of_le_length (by omega), List.take_of_length_le (by omega)]
  have d4 : (n ++ s ++ b ++ t ++ rest).drop 4 = s ++ (b ++ (t ++ rest)) := by rw [e, List.drop_append_of_le_length (by omega), List.drop_of_length_le (by omega)]; rfl
  have d44 : ((n ++ s ++ b ++ t ++ rest).drop 4).take 4 = s := by rw [d4, List.take_append_of_le_length (by omega), List.take_of_length_le (by omega)]
  have s4 : sst (n ++ s ++ b ++ t ++ rest) 4 = decide (getN s = sumN n) := by
    unfold sst
    rw [d44, t4, decide_eq_true (by omega), Bool.true_and]
  rcases h with h | ⟨h1, h5, h2, h3⟩
  · unfold fst1
    rw [if_neg (by omega), if_pos (.inr (by rw [s4]; exact decide_eq_false h))]
  · have s8 : sst (n ++ s ++ b ++ t ++ rest) (8 + b.length) = false := by
      unfold sst
      have e8 : n ++ s ++ b ++ t ++ rest = (n ++ s ++ b) ++ (t ++ rest) := by simp
      have l8 : (n ++ s ++ b).length = 8 + b.length := by simp; omega
      have t8 : (n ++ s ++ b ++ t ++ rest).take (8 + b.length) = n ++ s ++ b := by rw [e8, List.take_append_of_le_length (by omega), List.take_of_length_le (by omega)]
      have d8 : ((n ++ s ++ b ++ t ++ rest).drop (8 + b.length)).take 4 = t := by
        rw [e8, List.drop_append_of_le_length (by omega), List.drop_of_length_le (by omega), List.nil_append, List.take_append_of_le_length (by omega), List.take_of_length_le (by omega)]
      rw [t8, d8, decide_eq_false h3, Bool.and_false]
    unfold fst1
    rw [t4, h2, s4, if_neg (by omega), if_neg (by rw [decide_eq_true h1]; simp; omega), if_neg (by omega), if_pos s8]
theorem hed_lt (L : List (List Nat)) (hby : ∀ r ∈ L, ∀ c ∈ r, c < 256) : ∀ c ∈ hedB L ++ bodB L, c < 256 := fun c hc => by
  simp only [hedB, bodB, List.mem_append, List.mem_flatMap] at hc
  rcases hc with (h | h) | ⟨r, hr', h | h⟩
  · exact num4_lt _ c h
  · exact num4_lt _ c h
  · exact num4_lt _ c h
  · exact hby r hr' c h
/-- a batch with a byte turned is torn -/
theorem fst_turn (L : List (List Nat)) (h : GdB L) (q x : Nat) (hq : q < batN L) (hx : x < 256) (h0 : x ≠ 0) (rest : List Nat) : fst1 (turn (batB L) q x ++ rest) = (2, [], 0) := by
  obtain ⟨hne, hr, hb, hby⟩ := h
  have hz : batN L = 12 + bodN L := by unfold batN; rw [if_neg hne]
  have hn5 : 5 ≤ bodN L := by
    cases L with
    | nil => exact absurd rfl hne
    | cons r L => have := (hr r (by simp)).1; simp only [bodN, List.map_cons, List.sum_cons]; omega
  have hbl := bodB_len L
  have e : batB L = num4 (bodN L) ++ num4 (sumN (num4 (bodN L))) ++ bodB L ++ num4 (sumN (hedB L ++ bodB L)) := by unfold batB; rw [if_neg hne]; simp [hedB]
  have g1 := getN_num4 (bodN L) hb
  have g2 := getN_num4 (sumN (num4 (bodN L))) (sumN_lt (num4_lt _))
  have g3 := getN_num4 (sumN (hedB L ++ bodB L)) (sumN_lt (hed_lt L hby))
  have e3 : num4 (bodN L) ++ num4 (sumN (num4 (bodN L))) ++ bodB L = hedB L ++ bodB L := rfl
  have l8 : (num4 (bodN L) ++ num4 (sumN (num4 (bodN L))) ++ bodB L).length = 8 + bodN L := by simp [num4_len]; omega
  have l88 : (num4 (bodN L) ++ num4 (sumN (num4 (bodN L)))).length = 8 := rfl
  rw [e]
  by_cases q4 : q < 4
  · rw [turn_left (by rw [l8]; omega), turn_left (by rw [l88]; omega), turn_left (by rw [num4_len]; omega)]
    refine fst_pieces _ _ _ _ _ (by rw [turn_len, num4_len]) (num4_len _) (num4_len _) (turn_lt (num4_lt _) _ hx) (.inl ?_)
    rw [g2]
    exact fun h => turn_sum (by rw [num4_len]; omega) hx h0 h.symm
  · by_cases q8 : q < 8
    · rw [turn_left (by rw [l8]; omega), turn_left (by rw [l88]; omega), turn_right (by rw [num4_len]; omega)]
      refine fst_pieces _ _ _ _ _ (num4_len _) (by rw [turn_len, num4_len]) (num4_len _) (num4_lt _) (.inl ?_)
      have := turn_getN (l := num4 (sumN (num4 (bodN L)))) (p := q - (num4 (bodN L)).length) (by simp only [num4_len]; omega) (num4_lt _) hx h0
      rwa [g2] at this
    · by_cases qb : q < 8 + bodN L
      · rw [turn_left (by rw [l8]; omega), turn_right (by rw [l88]; omega)]
        refine fst_pieces _ _ _ _ _ (num4_len _) (num4_len _) (num4_len _) (num4_lt _) (.inr ⟨g2, by rw [turn_len]; omega, by rw [turn_len, g1, hbl], ?_⟩)
        rw [g3, ← e3]
        have := turn_sum (l := num4 (bodN L) ++ num4 (sumN (num4 (bodN L))) ++ bodB L) (p := q) (by rw [l8]; exact qb) hx h0
        rw [turn_right (by rw [l88]; omega)] at this
        exact fun h => this h.symm
      · rw [turn_right (by rw [l8]; omega)]
        refine fst_pieces _ _ _ _ _ (num4_len _) (num4_len _) (by rw [turn_len, num4_len]) (num4_lt _) (.inr ⟨g2, by omega, by rw [g1, hbl], ?_⟩)
        have := turn_getN (l := num4 (sumN (hedB L ++ bodB L))) (p := q - (num4 (bodN L) ++ num4 (sumN (num4 (bodN L))) ++ bodB L).length) (by rw [l8]; simp only [num4_len]; omega) (num4_lt _) hx h0
        rwa [g3] at this
/-- the log with a byte turned that lies in the batch number a -/
theorem wl_turn (M : List (List (List Nat))) (h : ∀ m ∈ M, GdB m) (a p x : Nat) (ha : a < M.length) (h1 : logN (M.take a) ≤ p) (h2 : p < logN (M.take (a + 1))) (hx : x < 256) (h0 : x ≠ 0) : wl (turn (logB M) p x) = (M.take a, logN (M.take a), 2) := by
  have e : logB M = logB (M.take a) ++ (batB M[a] ++ logB (M.drop (a + 1))) := by
    have e9 : M = M.take a ++ M[a] :: M.drop (a + 1) := by rw [← List.drop_eq_getElem_cons ha, List.take_append_drop]
    have e8 : logB M = logB (M.take a ++ M[a] :: M.drop (a + 1)) := congrArg logB e9
    rw [e8]
    simp only [logB, List.flatMap_append, List.flatMap_cons]
  have hl := logB_len (M.take a)
  rw [logN_take M ha] at h2
  rw [e, turn_right (by omega), turn_left (by rw [batB_len]; omega), wl_log _ _ (fun m hm => h m (List.mem_of_mem_take hm))]
  have hf := fst_turn M[a] (h _ (List.getElem_mem ha)) (p - (logB (M.take a)).length) x (by omega) hx h0 (logB (M.drop (a + 1)))
  rw [wl_bad (by rw [List.length_append, turn_len, batB_len]; omega) (by rw [hf]; decide), hf]
  simp
end Go.Proofs.YtdcoafpenkofoaaGreatDoor
