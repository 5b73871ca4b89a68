import Derived.Test.YtgpimajdcfoigabDoorD28
import Derived.Test.YtgpimajdcfoigabDoorD21

/- codec.writeData, write, Length, Encode. -/
namespace Go.Proofs.YtgpimajdcfoigabDoor
open Go.RowKit
set_option linter.unusedVariables false
set_option linter.unusedSimpArgs false
theorem data_t (k n : Int) (s : ByteArray) (a : Option Addr) (c0 : Nat) (e : Int) (l : List V) (c : Nat) : T.data (V.of k n s a c0 e l).t c =
    (if c / 16 = 4 then []
    else if c / 16 = 10 then digs (T.body (V.of k n s a c0 e l).t) 1 ++ txt s
    else if c / 16 = 11 then digs (T.body (V.of k n s a c0 e l).t) 4 ++ txt s
    else if c / 16 = 9 then txt s
    else if c / 16 = 14 then digs (1 + T.body (V.of k n s a c0 e l).t) 1 ++ (digs l.length 1 ++ (T.acode (V.of k n s a c0 e l).t :: datas (T.acode (V.of k n s a c0 e l).t) (V.ts l)))
    else if c / 16 = 15 then digs (4 + T.body (V.of k n s a c0 e l).t) 4 ++ (digs l.length 4 ++ (T.acode (V.of k n s a c0 e l).t :: datas (T.acode (V.of k n s a c0 e l).t) (V.ts l)))
    else if c / 16 = 12 then digs (1 + T.body (V.of k n s a c0 e l).t) 1 ++ (digs l.length 1 ++ encs (V.ts l))
    else if c / 16 = 13 then digs (4 + T.body (V.of k n s a c0 e l).t) 4 ++ (digs l.length 4 ++ encs (V.ts l))
    else if c / 16 = 0 then encs (V.ts l)
    else digs n.toNat (nwid c)) := by
  rw [V.t_of, T.of, data_of, V.ts_length]
section
variable (B : Nat → ByteArray → Int) (W : List T → Bool)
set_option maxHeartbeats 1000000 in
theorem data_any : ∀ x, DataOk B W x := by
  refine V.ind ?_
  intro k n s a c0 e l ih f c n₀ g cap xs w hg hc hl hn h0 hT hb hcap hroom
  obtain ⟨hf, own, sub⟩ := gd_own B W hg
  have hkc := kind_code hc (by rw [V.t_of]; exact own.k0) (by rw [V.t_of]; exact own.k1)
  have hbl := hb.lt
  have hnw : n₀ ≤ w.heap.size := by omega
  have ok := hl.ok
  have o3 := ok.c
  have hc' := fits_cases hc
  rw [V.t_of] at hc'
  rw [T_k, show (T.of k n s e (V.ts l)).n = n from rfl, show (T.of k n s e (V.ts l)).l = V.ts l from V.l_of _ _ _ _ _ _ _, V.ts_length] at hc'
  have k0 := own.k0
  have k1 := own.k1
  have hbd : T.body (V.of k n s a c0 e l).t ≤ 1000000000 := by omega
  have hes := encs_len B W l (f - 1) sub
  have hlw : ∀ x ∈ l, Lies n₀ w x := hl.sub
  rw [data_t]
  clear hc
  by_cases hl2 : k = 21 ∨ k = 22
  · have hbe := body_enc_t k n s a c0 e l (by omega)
    rw [← hes] at hbe
    have hcs : (c = 69 ∧ l.length = 0) ∨ c = 192 ∨ c = 208 ∨ c = 193 ∨ c = 209 := by
      rcases hl2 with rfl | rfl
      · have : pickC (21 : Int).toNat false = 208 ∧ pickC (21 : Int).toNat true = 192 := by decide
        rw [this.1, this.2] at hc'; omega
      · have : pickC (22 : Int).toNat false = 209 ∧ pickC (22 : Int).toNat true = 193 := by decide
        rw [this.1, this.2] at hc'; omega
    clear hc'
    have hcq : (c / 16 = 4) ∨ (c / 16 = 12 ∧ headC c = 2) ∨ (c / 16 = 13 ∧ headC c = 8) := by
      rcases hcs with ⟨rfl, _⟩ | rfl | rfl | rfl | rfl <;> decide
    rcases hcq with hq | ⟨hq, hh⟩ | ⟨hq, hh⟩
    · rw [if_pos hq, V.val_of]
      exact data_none k n s a c0 e l c _ g cap n₀ xs w hkc.2 hq hb
    · rw [if_neg (by omega), if_neg (by omega), if_neg (by omega), if_neg (by omega), if_neg (by omega), if_neg (by omega), if_pos hq]
      rw [hh] at hroom
      refine data_span12 k n s a c0 e l c _ g cap n₀ xs w hkc.2 hq hbd hcap (by omega) ?_ hl hn hb
      refine parts_of B W l ih (f - 1) n₀ g cap _ w sub hlw hn hnw h0 hT hcap ?_
      simp only [List.length_append, digs_length]
      omega
    · rw [if_neg (by omega), if_neg (by omega), if_neg (by omega), if_neg (by omega), if_neg (by omega), if_neg (by omega), if_neg (by omega), if_pos hq]
      rw [hh] at hroom
      refine data_span13 k n s a c0 e l c _ g cap n₀ xs w hkc.2 hq hbd hcap (by omega) ?_ hl hn hb
      refine parts_of B W l ih (f - 1) n₀ g cap _ w sub hlw hn hnw h0 hT hcap ?_
      simp only [List.length_append, digs_length]
      omega
  by_cases hd : k = 24
  · subst hd
    have hbe := body_enc_t 24 n s a c0 e l (by omega)
    rw [← hes] at hbe
    have hcs : c = 0 := by
      have : pickC (24 : Int).toNat false = 0 ∧ pickC (24 : Int).toNat true = 0 := by decide
      rw [this.1, this.2] at hc'; omega
    subst hcs
    rw [if_neg (by decide), if_neg (by decide), if_neg (by decide), if_neg (by decide), if_neg (by decide), if_neg (by decide), if_neg (by decide), if_neg (by decide), if_pos (by decide)]
    have hh0 : headC 0 = 0 := by decide
    rw [hh0] at hroom
    exact data_desc n s a c0 e l _ g cap n₀ xs w (parts_of B W l ih (f - 1) n₀ g cap xs w sub hlw hn hnw h0 hT hcap (by omega)) hl hn hb
  by_cases ha : k = 23
  · subst ha
    have hcs : (c / 16 = 14 ∧ headC c = 2) ∨ (c / 16 = 15 ∧ headC c = 8) := by
      have : pickC (23 : Int).toNat false = 240 ∧ pickC (23 : Int).toNat true = 224 := by decide
      rw [this.1, this.2] at hc'
      have : c = 240 ∨ c = 224 := by omega
      rcases this with rfl | rfl <;> decide
    have hac : T.acode (V.of 23 n s none 0 e (V.ts l)) = T.acode (V.of 23 n s a c0 e l).t := by rw [V.t_of, T.of]
    have hel : ∀ ys W1, Gro g w W1 → Buf W1 g cap ys → ys.length = xs.length + headC c → Calls Tryd.prog 35 #[.slice (some ⟨g, 0, none⟩) ys.length cap, .agg #[.int .i64 23, .int .u64 n, .string s, .slice a l.length c0, .int .i64 e]] W1 (Wrote W1 g cap ys (T.acode (V.of 23 n s a c0 e l).t :: datas (T.acode (V.of 23 n s a c0 e l).t) (V.ts l))) := fun ys W1 hW hbu hy => by
      have := writeElements_of B W n s a c0 e l ih f n₀ g cap ys W1 hg (hl.gro hW hn hnw) hn h0 (hT.gro hW h0) hbu hcap (by omega)
      rw [V.val_of] at this
      exact this
    rcases hcs with ⟨hq, hh⟩ | ⟨hq, hh⟩
    · rw [if_neg (by omega), if_neg (by omega), if_neg (by omega), if_neg (by omega), if_pos hq, V.val_of]
      rw [hh] at hel hroom
      first
        | exact data_arr14 n s a c0 e l c _ g cap n₀ xs w hkc.2 hq hbd hcap o3 (by omega) _ hel hb
        | (rw [hac]; exact data_arr14 n s a c0 e l c _ g cap n₀ xs w hkc.2 hq hbd hcap o3 (by omega) _ hel hb)
    · rw [if_neg (by omega), if_neg (by omega), if_neg (by omega), if_neg (by omega), if_neg (by omega), if_pos hq, V.val_of]
      rw [hh] at hel hroom
      first
        | exact data_arr15 n s a c0 e l c _ g cap n₀ xs w hkc.2 hq hbd hcap o3 (by omega) _ hel hb
        | (rw [hac]; exact data_arr15 n s a c0 e l c _ g cap n₀ xs w hkc.2 hq hbd hcap o3 (by omega) _ hel hb)
  by_cases ht : k = 18 ∨ k = 19 ∨ k = 20
  · have hbt : T.body (V.of k n s a c0 e l).t = s.size := by rw [V.t_of]; exact body_txt _ _ _ _ _ _ _ ht
    have hcq : (c / 16 = 10 ∧ headC c = 1) ∨ (c / 16 = 11 ∧ headC c = 4) := by
      have hcs : c = 160 ∨ c = 161 ∨ c = 163 ∨ c = 176 ∨ c = 177 ∨ c = 179 := by
        rcases ht with rfl | rfl | rfl
        · have : pickC (18 : Int).toNat false = 176 ∧ pickC (18 : Int).toNat true = 160 := by decide
          rw [this.1, this.2] at hc'; omega
        · have : pickC (19 : Int).toNat false = 177 ∧ pickC (19 : Int).toNat true = 161 := by decide
          rw [this.1, this.2] at hc'; omega
        · have : pickC (20 : Int).toNat false = 179 ∧ pickC (20 : Int).toNat true = 163 := by decide
          rw [this.1, this.2] at hc'; omega
      rcases hcs with rfl | rfl | rfl | rfl | rfl | rfl <;> decide
    rcases hcq with ⟨hq, hh⟩ | ⟨hq, hh⟩
    · rw [if_neg (by omega), if_pos hq, V.val_of]
      exact data_text10 k n s a c0 e l c _ g cap n₀ xs w hkc.2 hq hbt hbd (by omega) hb
    · rw [if_neg (by omega), if_neg (by omega), if_pos hq, V.val_of]
      exact data_text11 k n s a c0 e l c _ g cap n₀ xs w hkc.2 hq hbt hbd (by omega) hb
  by_cases h6 : k = 14 ∨ k = 17
  · have hcq : c / 16 = 9 ∧ headC c = 16 := by
      have hcs : c = 148 ∨ c = 152 := by
        rcases h6 with rfl | rfl
        · have : pickC (14 : Int).toNat false = 148 ∧ pickC (14 : Int).toNat true = 148 := by decide
          rw [this.1, this.2] at hc'; omega
        · have : pickC (17 : Int).toNat false = 152 ∧ pickC (17 : Int).toNat true = 152 := by decide
          rw [this.1, this.2] at hc'; omega
      rcases hcs with rfl | rfl <;> decide
    obtain ⟨hq, hh⟩ := hcq
    rw [if_neg (by omega), if_neg (by omega), if_neg (by omega), if_pos hq, V.val_of]
    exact data_six k n s a c0 e l c _ g cap n₀ xs w hkc.2 hq (own.six h6) (by omega) hb
  · have hcs : c / 16 = 4 ∨ c / 16 = 5 ∨ c / 16 = 6 ∨ c / 16 = 7 ∨ c / 16 = 8 := by
      have : k = 0 ∨ k = 1 ∨ k = 2 ∨ k = 3 ∨ k = 4 ∨ k = 5 ∨ k = 6 ∨ k = 7 ∨ k = 8 ∨ k = 9 ∨ k = 10 ∨ k = 11 ∨ k = 12 ∨ k = 13 ∨ k = 15 ∨ k = 16 := by omega
      rcases this with rfl | rfl | rfl | rfl | rfl | rfl | rfl | rfl | rfl | rfl | rfl | rfl | rfl | rfl | rfl | rfl <;> simp [pickC, codeS, codeL] at hc' <;> omega
    rcases Nat.decEq (c / 16) 4 with h4 | h4
    · have h58 : c / 16 = 5 ∨ c / 16 = 6 ∨ c / 16 = 7 ∨ c / 16 = 8 := by omega
      rw [if_neg (by omega), if_neg (by omega), if_neg (by omega), if_neg (by omega), if_neg (by omega), if_neg (by omega), if_neg (by omega), if_neg (by omega), if_neg (by omega), V.val_of]
      have hhd : headC c = nwid c := by
        unfold headC
        rw [if_neg (by omega), if_neg (by omega), if_neg (by omega), if_neg (by omega), if_neg (by omega), if_neg (by omega), if_neg (by omega), if_neg (by omega), if_neg (by omega)]
      exact data_num k n s a c0 e l c _ g cap n₀ xs w hkc.2 h58 own.n0 own.n1 (by omega) hb
    · rw [if_pos h4, V.val_of]
      exact data_none k n s a c0 e l c _ g cap n₀ xs w hkc.2 h4 hb
end
end Go.Proofs.YtgpimajdcfoigabDoor
