import Derived.Test.YtgpimajdcfoigabDoorD39

/- What is read may be, and is written in no more bytes: data by its layouts. No program. -/
namespace Go.Proofs.YtgpimajdcfoigabDoor
set_option linter.unusedVariables false
set_option linter.unusedSimpArgs false
theorem T_n (k n : Int) (s : ByteArray) (e : Int) (l : List T) : (T.of k n s e l).n = n := rfl
theorem T_l (k n : Int) (s : ByteArray) (e : Int) (l : List T) : (T.of k n s e l).l = l := V.l_of _ _ _ _ _ _ _
theorem gd_of (B : Nat → ByteArray → Int) (W : List T → Bool) (k n : Int) (s : ByteArray) (e : Int) (l : List T) (f : Nat) (h : OwnG B W k n s e l) (hs : ∀ x ∈ l, Gd B W x f) : Gd B W (T.of k n s e l) (f + 1) :=
  (Gd_of B W k n s none 0 e l (f + 1)).2 ⟨by omega, h, hs⟩
section
variable (B : Nat → ByteArray → Int) (W : List T → Bool) (l : List Nat)
theorem own_num {k n : Int} (h0 : 0 ≤ n) (h1 : n < 18446744073709551616) (hk : 0 ≤ k) (hk1 : k < 14 ∨ k = 15 ∨ k = 16) (hn : k = 0 → n = 0)
    (num : (k = 1 → n ≤ 1) ∧ (k = 2 → n ≤ 255) ∧ (k = 3 → n ≤ 65535) ∧ (k = 4 ∨ k = 10 ∨ k = 12 → n ≤ 4294967295) ∧ (k = 6 → n ≤ 127 ∨ 18446744073709551488 ≤ n) ∧ (k = 7 → n ≤ 32767 ∨ 18446744073709518848 ≤ n)
    ∧ (k = 8 → n ≤ 2147483647 ∨ 18446744071562067968 ≤ n) ∧ (k = 15 → n ≤ 1114111 ∧ (n < 55296 ∨ 57343 < n))) : OwnG B W k n e0 0 [] where
  k0 := hk
  k1 := by clear num; omega
  n0 := h0
  n1 := h1
  isNull := hn
  isText h := by clear num; omega
  isList h := by clear num; omega
  isArr h := by clear num; omega
  isNum _ := ⟨rfl, rfl, rfl⟩
  num := num
  six h := by clear num; omega
  utf h := by clear num; omega
  map h := by clear num; omega
  desc h := by clear num; omega
theorem own_text {k : Int} {s : ByteArray} (hk : k = 14 ∨ k = 17 ∨ k = 18 ∨ k = 19 ∨ k = 20) (h6 : k = 14 ∨ k = 17 → s.size = 16) (hu : k = 18 ∨ k = 19 ∨ k = 20 → B k.toNat s < 0) : OwnG B W k 0 s 0 [] where
  k0 := by omega
  k1 := by omega
  n0 := by omega
  n1 := by omega
  isNull h := rfl
  isText _ := ⟨rfl, rfl, rfl⟩
  isList h := by omega
  isArr h := by omega
  isNum h := by omega
  num := by omega
  six := h6
  utf := hu
  map h := by omega
  desc h := by omega
theorem own_list {k : Int} {xs : List T} (hk : k = 21 ∨ k = 22 ∨ k = 24) (hm : k = 22 → xs.length % 2 = 0 ∧ xs.length / 2 ≤ 1024 ∧ W xs = false) (hd : k = 24 → xs.length = 2) : OwnG B W k 0 e0 0 xs where
  k0 := by omega
  k1 := by omega
  n0 := by omega
  n1 := by omega
  isNull h := rfl
  isText h := by omega
  isList _ := ⟨rfl, rfl, rfl⟩
  isArr h := by omega
  isNum h := by omega
  num := by omega
  six h := by omega
  utf h := by omega
  map := hm
  desc := hd
theorem own_arr {e : Int} {xs : List T} (he : 0 < e ∧ e < 24) (hx : ∀ x ∈ xs, V.k x = e) : OwnG B W 23 0 e0 e xs where
  k0 := by omega
  k1 := by omega
  n0 := by omega
  n1 := by omega
  isNull h := rfl
  isText h := by omega
  isList h := by omega
  isArr _ := ⟨rfl, rfl, he.1, he.2, hx⟩
  isNum h := by omega
  num := by omega
  six h := by omega
  utf h := by omega
  map h := by omega
  desc h := by omega
theorem rg_num {f k c p : Nat} {n : Nat} {b : Bool} (hk : k < 25) (hc : c = pickC k b) (hl : 5 ≤ c / 16 ∧ c / 16 ≤ 8) (hn : n < 18446744073709551616)
    (num : ((k : Int) = 1 → (n : Int) ≤ 1) ∧ ((k : Int) = 2 → (n : Int) ≤ 255) ∧ ((k : Int) = 3 → (n : Int) ≤ 65535) ∧ ((k : Int) = 4 ∨ (k : Int) = 10 ∨ (k : Int) = 12 → (n : Int) ≤ 4294967295) ∧ ((k : Int) = 6 → (n : Int) ≤ 127 ∨ 18446744073709551488 ≤ (n : Int)) ∧ ((k : Int) = 7 → (n : Int) ≤ 32767 ∨ 18446744073709518848 ≤ (n : Int))
    ∧ ((k : Int) = 8 → (n : Int) ≤ 2147483647 ∨ 18446744071562067968 ≤ (n : Int)) ∧ ((k : Int) = 15 → (n : Int) ≤ 1114111 ∧ ((n : Int) < 55296 ∨ 57343 < (n : Int))))
    (sm : c = pickC k true → (k = 4 ∨ k = 5 → n ≤ 255) ∧ (k = 8 ∨ k = 9 → n ≤ 127 ∨ 18446744073709551488 ≤ n)) : Rg B W (f + 1) k c p (p + nwid c) (T.of k n e0 0 []) := by
  have hkk := lay_5 k hk b (by rw [← hc]; exact hl)
  have hb : T.body (T.of (k : Int) n e0 0 []) = 0 := body_none k n e0 none 0 0 (by omega)
  have hh : headC c = nwid c := by rw [hc]; exact head_num k hk b (by rw [← hc]; exact hl)
  have hw : 1 ≤ nwid c := by unfold nwid; split <;> (try split) <;> (try split) <;> omega
  have hwt : T.wt (T.of (k : Int) n e0 0 []) = 1 := by rw [T.wt_of]; rfl
  refine ⟨gd_of B W _ _ _ _ _ f (own_num B W (by omega) (by omega) (by omega) (by omega) (by omega) num) (by simp), rfl, by rw [hb, hh]; omega, fun h => ?_, by rw [hwt]; omega, fun _ _ => by rw [hwt]; omega, ⟨fun h => by omega, fun h => by omega⟩⟩
  rw [hb]
  obtain ⟨s1, s2⟩ := sm h
  rw [T_k, T_n]
  unfold smallC
  by_cases a1 : (k : Int) = 4 ∨ (k : Int) = 5
  · rw [if_pos a1]; have := s1 (by omega); simp; omega
  rw [if_neg a1]
  by_cases a2 : (k : Int) = 8 ∨ (k : Int) = 9
  · rw [if_pos a2]; have := s2 (by omega); simp; omega
  rw [if_neg a2]
  rw [if_neg (by omega), if_neg (by omega)]
theorem sext_lt {w m : Nat} (hw : w = 1 ∨ w = 2 ∨ w = 4 ∨ w = 8) (hm : m < 256 ^ w) : sext w m < 18446744073709551616 ∧ (w = 1 → sext w m ≤ 127 ∨ 18446744073709551488 ≤ sext w m) ∧ (w = 2 → sext w m ≤ 32767 ∨ 18446744073709518848 ≤ sext w m) ∧ (w = 4 → sext w m ≤ 2147483647 ∨ 18446744071562067968 ≤ sext w m) := by
  have h1 : (256 : Nat) ^ 1 = 256 ∧ (256 : Nat) ^ 2 = 65536 ∧ (256 : Nat) ^ 4 = 4294967296 ∧ (256 : Nat) ^ 8 = 18446744073709551616 := by decide
  rcases hw with rfl | rfl | rfl | rfl
  · rw [h1.1] at hm
    unfold sext; rw [if_pos rfl]; split <;> exact ⟨by omega, fun _ => by omega, fun h => by omega, fun h => by omega⟩
  · rw [h1.2.1] at hm
    unfold sext; rw [if_neg (by omega), if_pos rfl]; split <;> exact ⟨by omega, fun h => by omega, fun _ => by omega, fun h => by omega⟩
  · rw [h1.2.2.1] at hm
    unfold sext; rw [if_neg (by omega), if_neg (by omega), if_pos rfl]; split <;> exact ⟨by omega, fun h => by omega, fun h => by omega, fun _ => by omega⟩
  · rw [h1.2.2.2] at hm
    unfold sext; rw [if_neg (by omega), if_neg (by omega), if_neg (by omega)]; exact ⟨by omega, fun h => by omega, fun h => by omega, fun h => by omega⟩
theorem number_rg (hl : ∀ b ∈ l, b < 256) {f k c p fin q n : Nat} {b : Bool} {sz : Int} (hk : k < 25) (hc : c = pickC k b) (hla : 5 ≤ c / 16 ∧ c / 16 ≤ 8) (h : rnumber l k (nwid c) p fin sz = .ok (n, q)) : q = p + nwid c ∧ Rg B W (f + 1) k c p q (T.of k n e0 0 []) := by
  rw [rnumber_b] at h
  obtain ⟨m, h1, h2⟩ := bindR_ok h
  have hm := rnum_lt l hl h1
  have hw : nwid c = 1 ∨ nwid c = 2 ∨ nwid c = 4 ∨ nwid c = 8 := by unfold nwid; split <;> (try split) <;> (try split) <;> omega
  have hp : (256 : Nat) ^ 1 = 256 ∧ (256 : Nat) ^ 2 = 65536 ∧ (256 : Nat) ^ 4 = 4294967296 ∧ (256 : Nat) ^ 8 = 18446744073709551616 := by decide
  have w1 := fun h => wid_1 k hk b h
  have w2 := fun h => wid_2 k hk b h
  have w4 := fun h => wid_4 k hk b h
  have w14 := fun h => wid_14 k hk b h
  have w18 := fun h => wid_18 k hk b h
  rw [← hc] at w1 w2 w4 w14 w18
  have hkk := lay_5 k hk b (by rw [← hc]; exact hla)
  have hsm : c = pickC k true → (k = 4 ∨ k = 8 → nwid c = 1) ∧ (k = 5 ∨ k = 9 → nwid c = 1) := fun h => ⟨fun h4 => by rw [h]; exact (wid_14 k hk true h4), fun h4 => by rw [h]; exact (wid_18 k hk true h4)⟩
  split at h2
  · rename_i hs
    cases h2
    obtain ⟨s0, s1, s2, s4⟩ := sext_lt hw hm
    refine ⟨rfl, rg_num B W hk hc hla s0 ?_ (fun h => ?_)⟩
    · refine ⟨fun h => by omega, fun h => by omega, fun h => by omega, fun h => by omega, fun h => ?_, fun h => ?_, fun h => ?_, fun h => by omega⟩
      · have := s1 (w1 (by omega)); omega
      · have := s2 (w2 (by omega)); omega
      · have := w14 (by omega)
        cases b
        · simp at this; have := s4 this; omega
        · simp at this; have := s1 this; omega
    · refine ⟨fun h => by omega, fun h8 => ?_⟩
      have h3 := hsm h
      have : nwid c = 1 := by rcases h8 with h8 | h8; exact h3.1 (by omega); exact h3.2 (by omega)
      exact s1 this
  · rename_i hs
    split at h2
    · rename_i hfm
      cases h2
      have hm8 : n < 18446744073709551616 := by
        have : (256 : Nat) ^ nwid c ≤ 256 ^ 8 := Nat.pow_le_pow_right (by omega) (by omega)
        omega
      refine ⟨rfl, rg_num B W hk hc hla hm8 ?_ (fun h => ?_)⟩
      · refine ⟨fun h => ?_, fun h => ?_, fun h => ?_, fun h => ?_, fun h => by omega, fun h => by omega, fun h => by omega, fun h => ?_⟩
        · obtain rfl : k = 1 := by omega
          simp [formC] at hfm; omega
        · rw [w1 (by omega), hp.1] at hm; omega
        · rw [w2 (by omega), hp.2.1] at hm; omega
        · rcases h with h | h
          · have := w14 (by omega)
            cases b
            · simp at this; rw [this, hp.2.2.1] at hm; omega
            · simp at this; rw [this, hp.1] at hm; omega
          · rw [w4 (by omega), hp.2.2.1] at hm; omega
        · obtain rfl : k = 15 := by omega
          simp [formC] at hfm; omega
      · refine ⟨fun h4 => ?_, fun h => by omega⟩
        have h3 := hsm h
        have : nwid c = 1 := by rcases h4 with h4 | h4; exact h3.1 (by omega); exact h3.2 (by omega)
        rw [this, hp.1] at hm
        omega
    · cases h2
set_option maxHeartbeats 4000000 in
theorem rdat_rg (hl : ∀ b ∈ l, b < 256) : ∀ f, Rgs B W l f (rdat B W l f)
  | 0 => fun k c place p fin sz t q hp hf hk h => by rw [rdat] at h; cases h
  | f + 1 => fun k c place p fin sz t q hp hf hk h => by
    have ih := rdat_rg hl f
    have far := rdat_far B W l f
    have hfar := rdat_far B W l (f + 1) k c place p fin sz t q hp h
    rw [rdat_b] at h
    have hkc := kind_cases hk
    have hpk : c / 16 ≠ 4 → ∃ b, k < 25 ∧ c = pickC k b := fun h4 => by
      rcases hkc with ⟨rfl, _⟩ | ⟨rfl, _⟩ | ⟨rfl, _⟩ | ⟨rfl, _⟩ | ⟨rfl, _⟩ | ⟨hk, hc | hc⟩
      · exact absurd rfl h4
      · exact absurd rfl h4
      · exact absurd rfl h4
      · exact absurd rfl h4
      · exact absurd rfl h4
      · exact ⟨true, hk, hc⟩
      · exact ⟨false, hk, hc⟩
    have nsp : c / 16 ≠ 4 → ((c = 67 ∨ c = 68 → t.n = 0) ∧ (c = 69 → t.l = [])) := fun h4 => ⟨fun h => by omega, fun h => by omega⟩
    split at h
    · rename_i c0
      obtain ⟨b, hk25, hc⟩ := hpk (by omega)
      obtain rfl : k = 24 := lay_0 k hk25 b (by rw [← hc]; exact c0)
      obtain ⟨⟨d, q1⟩, h1, h2⟩ := bindR_ok h
      obtain ⟨⟨v, q2⟩, h3, h4⟩ := bindR_ok h2
      obtain ⟨a1, a2, a3, a4, a5⟩ := rval_rg B W l ih far hf h1
      obtain ⟨b1, b2, b3, b4, b5⟩ := rval_rg B W l ih far hf h3
      have nsp' := nsp (by omega)
      cases h4
      simp only at *
      have hb : T.body (T.of ((24 : Nat) : Int) 0 e0 0 [d, v]) = T.len d + T.len v := by
        refine (body_enc 24 0 e0 none 0 0 [d, v] (by omega)).trans ?_
        simp
      have hwt : T.wt (T.of ((24 : Nat) : Int) 0 e0 0 [d, v]) = 1 + (T.wt d + T.wt v) := by rw [T.wt_of]; show 1 + 0 / 64 + (T.wt d + (T.wt v + 0)) = _; omega
      have hh : headC c = 0 := by unfold headC; rw [if_pos c0]
      refine ⟨gd_of B W _ _ _ _ _ f (own_list B W (by simp) (by simp) (by simp)) (fun x hx => ?_), rfl, by rw [hb, hh]; omega, fun _ => ?_, by rw [hwt]; omega, fun h => absurd c0 h, nsp'⟩
      · rcases List.mem_cons.1 hx with rfl | hx
        · exact a1
        · rcases List.mem_cons.1 hx with rfl | hx
          · exact b1
          · cases hx
      · rw [T_k, T_n]; simp [smallC]
    split at h
    · rename_i c4
      cases h
      have hh : headC c = 0 := by unfold headC; rw [if_neg (by omega), if_pos c4]
      have hwt : ∀ n : Int, T.wt (T.of (k : Int) n e0 0 []) = 1 := fun n => by rw [T.wt_of]; rfl
      have hb : k < 18 ∨ k = 21 → ∀ n : Int, T.body (T.of (k : Int) n e0 0 []) = 0 := fun h n => body_none k n e0 none 0 0 (by omega)
      have hcs : (c = 65 ∧ k = 1) ∨ (c = 66 ∧ k = 1) ∨ (c = 67 ∧ k = 4) ∨ (c = 68 ∧ k = 5) ∨ (c = 69 ∧ k = 21) ∨ (c = 64 ∧ k = 0) := by
        rcases hkc with h | h | h | h | h | ⟨hk, h⟩
        · exact .inl h
        · exact .inr (.inl h)
        · exact .inr (.inr (.inl h))
        · exact .inr (.inr (.inr (.inl h)))
        · exact .inr (.inr (.inr (.inr (.inl h))))
        · have : k = 0 := by rcases h with h | h <;> exact lay_4 k hk _ (by rw [← h]; exact c4)
          subst this
          have hc : c = 64 := by rcases h with h | h <;> (rw [h]; rfl)
          exact .inr (.inr (.inr (.inr (.inr ⟨hc, rfl⟩))))
      have n0 : c ≠ 65 → (if c = 65 then (1 : Int) else 0) = 0 := fun h => if_neg h
      have nb : (0 : Int) ≤ (if c = 65 then (1 : Int) else 0) ∧ (if c = 65 then (1 : Int) else 0) ≤ 1 := by split <;> omega
      generalize (if c = 65 then (1 : Int) else 0) = n at n0 nb hfar nsp ⊢
      refine ⟨gd_of B W _ _ _ _ _ f ?_ (by simp), rfl, by rw [hb (by omega), hh]; omega, fun hc => ?_, by rw [hwt]; omega, fun _ h => absurd c4 h, ⟨fun h => by rw [T_n]; exact n0 (by omega), fun h => by rw [T_l]⟩⟩
      · by_cases h21 : k = 21
        · subst h21
          have : n = 0 := n0 (by omega)
          subst this
          exact own_list B W (by simp) (by simp) (by simp)
        · exact own_num B W (by omega) (by omega) (by omega) (by omega) (by intro h; exact n0 (by omega)) ⟨fun h => by omega, fun h => by omega, fun h => by omega, fun h => by omega, fun h => by omega, fun h => by omega, fun h => by omega, fun h => by omega⟩
      · rcases hcs with ⟨rfl, rfl⟩ | ⟨rfl, rfl⟩ | ⟨rfl, rfl⟩ | ⟨rfl, rfl⟩ | ⟨rfl, rfl⟩ | ⟨rfl, rfl⟩
        · exfalso; revert hc; decide
        · exfalso; revert hc; decide
        · exfalso; revert hc; decide
        · exfalso; revert hc; decide
        · exfalso; revert hc; decide
        · rw [T_k, T_n]; simp [smallC]
    obtain ⟨b, hk25, hc⟩ := hpk (by assumption)
    have hle := lay_le k hk25 b
    rw [← hc] at hle
    have nsp' := nsp (by assumption)
    clear hpk nsp hkc
    split at h
    · rename_i c9
      have hkk := lay_9 k hk25 b (by rw [← hc]; exact c9)
      obtain ⟨s, h1, h2⟩ := bindR_ok h
      cases h2
      have hsl := rbytes_len l hf h1
      have hss := mkS_size s
      have hb : T.body (T.of (k : Int) 0 (mkS s) 0 []) = 0 := body_none k 0 _ none 0 0 (by omega)
      have hwt : T.wt (T.of (k : Int) 0 (mkS s) 0 []) = 1 := by rw [T.wt_of, hss, hsl]; rfl
      have hh : headC c = 16 := by unfold headC; rw [if_neg (by omega), if_neg (by omega), if_pos c9]
      refine ⟨gd_of B W _ _ _ _ _ f (own_text B W (by omega) (fun _ => by omega) (fun h => by omega)) (by simp), rfl, by rw [hb, hh]; omega, fun _ => ?_, by rw [hwt]; omega, fun _ _ => by rw [hwt]; omega, nsp'⟩
      rw [T_k, T_n]; unfold smallC
      rw [if_neg (by omega), if_neg (by omega), if_neg (by omega), if_neg (by omega)]
    split at h
    · rename_i c10
      have hkk := lay_10 k hk25 b (by rw [← hc]; exact c10)
      obtain ⟨⟨s, q1⟩, h1, h2⟩ := bindR_ok h
      cases h2
      rw [rtext_b] at h1
      obtain ⟨n, h3, h4⟩ := bindR_ok h1
      obtain ⟨s', h5, h6⟩ := bindR_ok h4
      have hsl := rbytes_len l hf h5
      have hss := mkS_size s'
      split at h6
      · cases h6
      rename_i hu
      cases h6
      have hn := rnum_lt l hl h3
      have hb : T.body (T.of (k : Int) 0 (mkS s') 0 []) = (mkS s').size := body_txt k 0 _ none 0 0 [] (by omega)
      have hwt : T.wt (T.of (k : Int) 0 (mkS s') 0 []) = 1 + (mkS s').size / 64 := by rw [T.wt_of]; rfl
      have hh : headC c = if c / 16 = 10 then 1 else 4 := by
        unfold headC; rw [if_neg (by omega), if_neg (by omega), if_neg (by omega)]
        split
        · rfl
        · rw [if_pos (by omega)]
      have hw1 : 1 ≤ (if c / 16 = 10 then 1 else 4) := by split <;> omega
      simp only at *
      refine ⟨gd_of B W _ _ _ _ _ f (own_text B W (by omega) (fun h => by omega) (fun _ => by rw [Int.toNat_natCast]; omega)) (by simp), rfl, by rw [hb, hh]; omega, fun hct => ?_, by rw [hwt]; omega, fun _ _ => by rw [hwt]; omega, nsp'⟩
      have h10 : c / 16 = 10 := by rw [hct]; exact (lay_two k hk25).1 hkk
      rw [if_pos h10] at hn
      rw [hb, T_k, T_n]; unfold smallC
      rw [if_neg (by omega), if_neg (by omega), if_pos (by omega)]
      simp
      have : (256 : Nat) ^ 1 = 256 := by decide
      omega
    split at h
    · rename_i c12
      have hkk := lay_12 k hk25 b (by rw [← hc]; exact c12)
      obtain ⟨⟨xs, q1⟩, h1, h2⟩ := bindR_ok h
      cases h2
      rw [relems_b] at h1
      obtain ⟨⟨ys, q2⟩, h3, h4⟩ := bindR_ok h1
      split at h4
      · cases h4
      rename_i hW
      cases h4
      have hw1 : 1 ≤ (if c / 16 = 12 then 1 else 4) := by split <;> omega
      have hh : headC c = (if c / 16 = 12 then 1 else 4) + (if c / 16 = 12 then 1 else 4) := by
        unfold headC; rw [if_neg (by omega), if_neg (by omega), if_neg (by omega), if_neg (by omega), if_neg (by omega)]
        split
        · rfl
        · rw [if_neg (by omega), if_pos (by omega)]
      obtain ⟨size, count, b1, b2, b3, b4, b5, b6, b7⟩ := rspan_far l (fun count q fin sz x q' hq hi => by
          split at hi
          · cases hi
          split at hi
          · cases hi
          have := rmany_far (fin := fin) (fun p t q hp h => rvalG_far l far h) _ _ _ _ hq hi
          exact ⟨by omega, this.2.1⟩) h3
      have hn := rnum_lt l hl b1
      split at b6
      · cases b6
      rename_i m1
      split at b6
      · cases b6
      rename_i m2
      obtain ⟨g1, g2, g3⟩ := many_rg B W (f := f) (fun p t q hp h => rval_rg B W l ih far (by omega) h) _ _ _ _ b5 b6
      have hml := (rmany_far (fin := p + (if c / 16 = 12 then 1 else 4) + size) (fun p t q hp h => rvalG_far l far h) _ _ _ _ b5 b6).2.2
      have hb : T.body (T.of (k : Int) 0 e0 0 xs) = (xs.map T.len).sum := body_enc k 0 e0 none 0 0 xs (by omega)
      have hwt : T.wt (T.of (k : Int) 0 e0 0 xs) = 1 + T.wts xs := by rw [T.wt_of]; show 1 + 0 / 64 + _ = _; omega
      simp only at *
      refine ⟨gd_of B W _ _ _ _ _ f (own_list B W (by omega) (fun h => ?_) (fun h => by omega)) g1, rfl, by rw [hb, hh]; omega, fun hct => ?_, by rw [hwt]; omega, fun _ _ => by rw [hwt]; omega, nsp'⟩
      · refine ⟨?_, ?_, ?_⟩
        · rw [hml]
          by_cases e : count % 2 = 0
          · exact e
          · exact absurd ⟨by omega, e⟩ m1
        · rw [hml]
          by_cases e : 1024 < count / 2
          · exact absurd ⟨by omega, e⟩ m2
          · omega
        · cases hh : W xs
          · rfl
          · exact absurd ⟨by omega, hh⟩ hW
      · have h12 : c / 16 = 12 := by rw [hct]; exact (lay_two k hk25).2.1 hkk
        rw [if_pos h12] at hn b7 g2 b2
        rw [hb, T_k, T_n]; unfold smallC
        rw [if_neg (by omega), if_neg (by omega), if_neg (by omega), if_pos (by omega)]
        simp
        have : (256 : Nat) ^ 1 = 256 := by decide
        omega
    split at h
    · rename_i c14
      have hkk := lay_14 k hk25 b (by rw [← hc]; exact c14)
      subst hkk
      obtain ⟨⟨⟨e, xs⟩, q1⟩, h1, h2⟩ := bindR_ok h
      cases h2
      rw [rarr_b] at h1
      have hw1 : 1 ≤ (if c / 16 = 14 then 1 else 4) := by split <;> omega
      have hh : headC c = (if c / 16 = 14 then 1 else 4) + (if c / 16 = 14 then 1 else 4) := by
        unfold headC; rw [if_neg (by omega), if_neg (by omega), if_neg (by omega), if_neg (by omega), if_neg (by omega), if_neg (by omega)]
        split
        · rfl
        · rw [if_neg (by omega), if_pos (by omega)]
      obtain ⟨size, count, b1, b2, b3, b4, b5, b6, b7⟩ := rspan_far l (fun count q fin sz x q' hq hi => by
          have := rarrI_far l far hi
          exact ⟨by omega, this.2.1⟩) h1
      have hn := rnum_lt l hl b1
      unfold rarrI at b6
      obtain ⟨c', d1, d2⟩ := bindR_ok b6
      have d3 := rnum_le l d1
      split at d2
      · rename_i hst
        obtain ⟨⟨ys, q2⟩, d4, d5⟩ := bindR_ok d2
        cases d5
        have hst' := hst
        unfold standsC at hst'
        simp at hst'
        obtain ⟨s1, s2, s3⟩ := hst'
        obtain ⟨e', he'⟩ := Option.isSome_iff_exists.1 s1
        rw [he'] at d4 ⊢
        simp only [Option.getD_some] at d4 ⊢
        have hpk' : e' < 25 ∧ ∃ b, c' = pickC e' b := by
          rcases kind_cases he' with ⟨rfl, _⟩ | ⟨rfl, _⟩ | ⟨rfl, _⟩ | ⟨rfl, _⟩ | ⟨rfl, _⟩ | ⟨hk, hc | hc⟩
          · exact absurd rfl s2
          · exact absurd rfl s2
          · exact absurd rfl s2
          · exact absurd rfl s2
          · exact absurd rfl s2
          · exact ⟨hk, true, hc⟩
          · exact ⟨hk, false, hc⟩
        obtain ⟨he25, b', hc'⟩ := hpk'
        have he24 : 0 < e' ∧ e' < 24 := by
          constructor
          · by_cases h0 : e' = 0
            · subst h0
              have : pickC 0 b' = 64 := by cases b' <;> rfl
              rw [hc', this] at s2
              exact absurd rfl s2
            · omega
          · by_cases h0 : e' = 24
            · subst h0
              have : pickC 24 b' = 0 := by cases b' <;> rfl
              rw [hc', this] at s3
              omega
            · omega
        obtain ⟨g1, g2, g3⟩ := arr_rg B W (f := f) (c := c') (e := e') ⟨by omega, by omega⟩ (fun p t q hp h => by
          split at h
          · cases h
          · have h7 := far _ _ _ _ _ _ _ _ hp h
            exact ⟨ih _ _ _ _ _ _ _ _ hp (by omega) he' h, h7.2.2 (by omega), h7.2.1⟩) _ _ _ _ d3 d4
        have hac : headC (T.acode (T.of 23 0 e0 e' ys)) ≤ headC c' := by
          unfold T.acode acodeG
          have e1 : (T.of 23 0 e0 (e' : Int) ys).e = (e' : Int) := rfl
          rw [e1, T_l, Int.toNat_natCast]
          cases hall : (ys.map fun x => (x, T.body x)).all (fun b => smallC b.1.k b.1.n b.2)
          · have : c' ≠ pickC e' true := fun hct => by
              have : (ys.map fun x => (x, T.body x)).all (fun b => smallC b.1.k b.1.n b.2) = true := by
                rw [List.all_eq_true]
                intro y hy
                obtain ⟨x, hx, rfl⟩ := List.mem_map.1 hy
                exact (g1 x hx).2.2 hct
              rw [hall] at this
              cases this
            cases b'
            · rw [hc']; exact Nat.le_refl _
            · exact absurd hc' this
          · cases b'
            · rw [hc']; exact head_two e' he25
            · rw [hc']; exact Nat.le_refl _
        have hb : T.body (T.of 23 0 e0 (e' : Int) ys) = 1 + ((ys.map T.body).sum + ys.length * headC (T.acode (T.of 23 0 e0 (e' : Int) ys))) := body_arr 0 e0 none 0 e' ys
        have hbl : T.body (T.of 23 0 e0 (e' : Int) ys) ≤ 1 + ((ys.map T.body).sum + ys.length * headC c') := by
          rw [hb]
          have := Nat.mul_le_mul_left ys.length hac
          omega
        have hwt : T.wt (T.of 23 0 e0 (e' : Int) ys) = 1 + T.wts ys := by rw [T.wt_of]; show 1 + 0 / 64 + _ = _; omega
        have g4 := (rmany_far (fin := p + (if c / 16 = 14 then 1 else 4) + size) (fun p t q hp h => by
          split at h
          · cases h
          · have h7 := far _ _ _ _ _ _ _ _ hp h
            exact ⟨h7.2.2 (by omega), h7.2.1⟩) _ _ _ _ d3 d4)
        simp only at *
        refine ⟨gd_of B W _ _ _ _ _ f (own_arr B W (by omega) (fun x hx => (g1 x hx).2.1)) (fun x hx => (g1 x hx).1), rfl, by rw [hh]; show _ + T.body (T.of 23 0 e0 (e' : Int) ys) ≤ _; omega, fun hct => ?_, by show T.wt (T.of 23 0 e0 (e' : Int) ys) ≤ _; rw [hwt]; omega, fun _ _ => by show T.wt (T.of 23 0 e0 (e' : Int) ys) ≤ _; rw [hwt]; omega, nsp'⟩
        have h14 : c / 16 = 14 := by rw [hct]; exact (lay_two 23 hk25).2.2 rfl
        rw [if_pos h14] at hn b7 g2 b2 g4
        show smallC 23 0 (T.body (T.of 23 0 e0 (e' : Int) ys)) = true
        unfold smallC
        rw [if_neg (by omega), if_neg (by omega), if_neg (by omega), if_pos (by omega)]
        simp
        have : (256 : Nat) ^ 1 = 256 := by decide
        omega
      · cases d2
    · obtain ⟨⟨n, q1⟩, h1, h2⟩ := bindR_ok h
      cases h2
      have := number_rg B W l hl (f := f) hk25 hc (by omega) h1
      exact this.2
/-- what Decode reads may be, and is written in no more bytes -/
theorem rdec_rg (hl : ∀ b ∈ l, b < 256) {p q : Nat} {t : T} (hp : p ≤ l.length) (h : rdec B W l p = .ok (t, q)) : Gd B W t 32 ∧ T.len t ≤ q - p ∧ T.wt t ≤ q - p ∧ p < q ∧ q ≤ l.length ∧ q ≤ p + 1048576 := by
  obtain ⟨h1, h2, h3, h4⟩ := rdec_far B W l h
  obtain ⟨a1, a2, a3, _⟩ := rval_rg B W l (rdat_rg B W l hl 32) (rdat_far B W l 32) (Nat.le_refl _) h4
  exact ⟨a1, a2, a3, h1, h2, h3⟩
end
end Go.Proofs.YtgpimajdcfoigabDoor
