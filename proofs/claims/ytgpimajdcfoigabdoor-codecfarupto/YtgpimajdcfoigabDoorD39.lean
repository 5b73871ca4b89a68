import Derived.Test.YtgpimajdcfoigabDoorD23
import Derived.Test.YtgpimajdcfoigabDoorD35
import Derived.Test.YtgpimajdcfoigabDoorD17

/- codec.standsInArray. -/
namespace Go.Proofs.YtgpimajdcfoigabDoor
open Go.RowKit
set_option linter.unusedVariables false
set_option linter.unusedSimpArgs false
set_option maxRecDepth 100000 in
set_option maxHeartbeats 1000000 in
theorem stands_any (c : Nat) (hc : c < 256) (w : World) (hT : SzTab w) :
    Calls Tryd.prog 60 #[.int .u8 (c : Int)] w fun e w' => e = .returned (.bool (standsC c)) ∧ Below w.heap.size w w' := by
  have HK := hide (kindOf_any c hc w hT)
  have HLY : Hid (∀ W, Calls Tryd.prog 33 #[.int .u8 (c : Int)] W fun e w' => e = .returned (.int .u8 ((c / 16 : Nat) : Int)) ∧ W = w') := fun W => layout_any c hc W
  unfold standsC
  cases hk : kindC c with
  | none =>
    simp only [kindR, hk] at HK
    go_enter Tryd.func60, Tryd.ntmps60
    go_wp2_with fail
    refine Calls.mono HK.out ?_
    rintro e1 w1 ⟨rfl, hb⟩
    go_wp2
    first | go_ret | (refine ⟨trivial, ?_⟩; go_wp2; go_ret) | (refine ⟨trivial, ?_⟩; go_wp2; refine ⟨trivial, ?_⟩; go_wp2; go_ret)
    exact ⟨rfl, hb⟩
  | some k =>
    simp only [kindR, hk] at HK
    generalize c / 16 = q at HLY ⊢
    by_cases h4 : q = 4
    · subst h4
      go_enter Tryd.func60, Tryd.ntmps60
      go_wp2_with fail
      refine Calls.mono HK.out ?_
      rintro e1 w1 ⟨rfl, hb⟩
      go_wp2_with fail
      refine Calls.mono (HLY.out _) ?_
      rintro e2 w2 ⟨rfl, rfl⟩
      go_wp2
      first | go_ret | (refine ⟨trivial, ?_⟩; go_wp2; go_ret)
      exact ⟨rfl, hb⟩
    · by_cases h0 : q = 0
      · subst h0
        go_enter Tryd.func60, Tryd.ntmps60
        go_wp2_with fail
        refine Calls.mono HK.out ?_
        rintro e1 w1 ⟨rfl, hb⟩
        go_wp2_with fail
        refine Calls.mono (HLY.out _) ?_
        rintro e2 w2 ⟨rfl, rfl⟩
        go_wp2_with fail
        refine Calls.mono (HLY.out _) ?_
        rintro e2 w2 ⟨rfl, rfl⟩
        go_wp2
        go_ret
        exact ⟨rfl, hb⟩
      · have n4 : (((q : Int)) == 4) = false := by rw [beq_eq_false_iff_ne]; omega
        have n0 : (((q : Int)) == 0) = false := by rw [beq_eq_false_iff_ne]; omega
        have m4 : (((q : Int)) != 4) = true := by simpa using n4
        have m0 : (((q : Int)) != 0) = true := by simpa using n0
        have HQ := hide (And.intro h4 h0)
        clear h4 h0
        go_enter Tryd.func60, Tryd.ntmps60
        go_wp2_with fail
        refine Calls.mono HK.out ?_
        rintro e1 w1 ⟨rfl, hb⟩
        go_wp2_with fail
        refine Calls.mono (HLY.out _) ?_
        rintro e2 w2 ⟨rfl, rfl⟩
        go_wp2_with fail
        refine Calls.mono (HLY.out _) ?_
        rintro e2 w2 ⟨rfl, rfl⟩
        go_wp2
        go_ret
        exact ⟨by simp [HQ.out.1, HQ.out.2], hb⟩
end Go.Proofs.YtgpimajdcfoigabDoor


/- What is read may be, and is written in no more bytes. No program. -/
namespace Go.Proofs.YtgpimajdcfoigabDoor
set_option linter.unusedVariables false
set_option linter.unusedSimpArgs false
theorem kind_cases {c k : Nat} (h : kindC c = some k) : (c = 65 ∧ k = 1) ∨ (c = 66 ∧ k = 1) ∨ (c = 67 ∧ k = 4) ∨ (c = 68 ∧ k = 5) ∨ (c = 69 ∧ k = 21) ∨ (k < 25 ∧ (c = pickC k true ∨ c = pickC k false)) := by
  unfold kindC at h
  split at h
  · cases h; omega
  split at h
  · cases h; omega
  split at h
  · cases h; omega
  split at h
  · cases h; omega
  have h1 := List.find?_some h
  have h2 := List.mem_of_find?_eq_some h
  simp at h1 h2
  exact .inr (.inr (.inr (.inr (.inr ⟨h2, h1⟩))))
theorem lay_0 : ∀ k, k < 25 → ∀ b, pickC k b / 16 = 0 → k = 24 := by decide
theorem lay_4 : ∀ k, k < 25 → ∀ b, pickC k b / 16 = 4 → k = 0 := by decide
theorem lay_9 : ∀ k, k < 25 → ∀ b, pickC k b / 16 = 9 → k = 14 ∨ k = 17 := by decide
theorem lay_10 : ∀ k, k < 25 → ∀ b, pickC k b / 16 = 10 ∨ pickC k b / 16 = 11 → k = 18 ∨ k = 19 ∨ k = 20 := by decide
theorem lay_12 : ∀ k, k < 25 → ∀ b, pickC k b / 16 = 12 ∨ pickC k b / 16 = 13 → k = 21 ∨ k = 22 := by decide
theorem lay_14 : ∀ k, k < 25 → ∀ b, pickC k b / 16 = 14 ∨ pickC k b / 16 = 15 → k = 23 := by decide
theorem lay_5 : ∀ k, k < 25 → ∀ b, 5 ≤ pickC k b / 16 ∧ pickC k b / 16 ≤ 8 → 0 < k ∧ k < 14 ∨ k = 15 ∨ k = 16 := by decide
theorem lay_le : ∀ k, k < 25 → ∀ b, pickC k b / 16 = 0 ∨ pickC k b / 16 = 4 ∨ (5 ≤ pickC k b / 16 ∧ pickC k b / 16 ≤ 15) := by decide
theorem wid_1 : ∀ k, k < 25 → ∀ b, k = 1 ∨ k = 2 ∨ k = 6 → nwid (pickC k b) = 1 := by decide
theorem wid_2 : ∀ k, k < 25 → ∀ b, k = 3 ∨ k = 7 → nwid (pickC k b) = 2 := by decide
theorem wid_4 : ∀ k, k < 25 → ∀ b, k = 10 ∨ k = 12 ∨ k = 15 → nwid (pickC k b) = 4 := by decide
theorem wid_14 : ∀ k, k < 25 → ∀ b, k = 4 ∨ k = 8 → nwid (pickC k b) = if b then 1 else 4 := by decide
theorem wid_18 : ∀ k, k < 25 → ∀ b, k = 5 ∨ k = 9 → nwid (pickC k b) = if b then 1 else 8 := by decide
theorem wid_8 : ∀ k, k < 25 → ∀ b, k = 11 ∨ k = 13 ∨ k = 16 → nwid (pickC k b) = 8 := by decide
theorem head_num : ∀ k, k < 25 → ∀ b, 5 ≤ pickC k b / 16 ∧ pickC k b / 16 ≤ 8 → headC (pickC k b) = nwid (pickC k b) := by decide
theorem head_two : ∀ k, k < 25 → headC (pickC k true) ≤ headC (pickC k false) := by decide
theorem pick_one : ∀ k, k < 25 → (k = 4 ∨ k = 5 ∨ k = 8 ∨ k = 9 ∨ (18 ≤ k ∧ k < 24)) ∨ pickC k true = pickC k false := by decide
theorem lay_two : ∀ k, k < 25 → (k = 18 ∨ k = 19 ∨ k = 20 → pickC k true / 16 = 10) ∧ (k = 21 ∨ k = 22 → pickC k true / 16 = 12) ∧ (k = 23 → pickC k true / 16 = 14) := by decide
/-- t is what was read behind the constructor c, from p to q -/
structure Rg (B : Nat → ByteArray → Int) (W : List T → Bool) (f k c p q : Nat) (t : T) : Prop where
  gd : Gd B W t f
  kk : t.k = (k : Int)
  len : headC c + t.body ≤ q - p
  small : c = pickC k true → smallC t.k t.n t.body = true
  wt : T.wt t ≤ 1 + (q - p)
  wt2 : c / 16 ≠ 0 → c / 16 ≠ 4 → T.wt t ≤ q - p
  spec : (c = 67 ∨ c = 68 → t.n = 0) ∧ (c = 69 → t.l = [])
theorem code_le {B : Nat → ByteArray → Int} {W : List T → Bool} {f k c p q : Nat} {t : T} (h : Rg B W f k c p q t) (hk : kindC c = some k) : headC t.code ≤ headC c := by
  have hs := h.small
  have h0 := h.spec
  have hkk := h.kk
  unfold T.code
  rcases codeG_cases t.k t.n t.l.length t.body with ⟨_, _, e⟩ | ⟨_, _, e⟩ | ⟨_, _, e⟩ | ⟨_, _, e⟩ | ⟨_, _, e⟩ | e
  · rw [e]; exact Nat.zero_le _
  · rw [e]; exact Nat.zero_le _
  · rw [e]; exact Nat.zero_le _
  · rw [e]; exact Nat.zero_le _
  · rw [e]; exact Nat.zero_le _
  · rcases kind_cases hk with ⟨rfl, rfl⟩ | ⟨rfl, rfl⟩ | ⟨rfl, rfl⟩ | ⟨rfl, rfl⟩ | ⟨rfl, rfl⟩ | ⟨hl, hc⟩
    · unfold codeG; rw [hkk]; simp; split <;> decide
    · unfold codeG; rw [hkk]; simp; split <;> decide
    · unfold codeG; rw [hkk, h0.1 (.inl rfl)]; simp
    · unfold codeG; rw [hkk, h0.1 (.inr rfl)]; simp
    · unfold codeG; rw [hkk, h0.2 rfl]; simp
    · rw [e, hkk, Int.toNat_natCast]
      rw [hkk] at hs
      rcases hc with rfl | rfl
      · rw [hs rfl]
        exact Nat.le_refl _
      · cases smallC (k : Int) t.n t.body
        · exact Nat.le_refl _
        · exact head_two k hl
theorem len_le {B : Nat → ByteArray → Int} {W : List T → Bool} {f k c p q : Nat} {t : T} (h : Rg B W f k c p q t) (hk : kindC c = some k) : T.len t ≤ 1 + (q - p) := by
  have := code_le h hk
  have := h.len
  unfold T.len
  omega
section
variable (B : Nat → ByteArray → Int) (W : List T → Bool) (l : List Nat)
def Rgs (f : Nat) (D : Nat → Nat → Nat → Nat → Nat → Int → Res (T × Nat)) : Prop := ∀ k c place p fin sz t q, p ≤ fin → fin ≤ l.length → kindC c = some k → D k c place p fin sz = .ok (t, q) → Rg B W f k c p q t
theorem rval_rg {f : Nat} {D : Nat → Nat → Nat → Nat → Nat → Int → Res (T × Nat)} (hD : Rgs B W l f D) (hF : Far1 D) {p fin : Nat} {sz : Int} {t : T} {q : Nat} (hf : fin ≤ l.length) (h : rvalG l D f p fin sz = .ok (t, q)) : Gd B W t f ∧ T.len t ≤ q - p ∧ T.wt t ≤ q - p ∧ p < q ∧ q ≤ fin := by
  have hfar := rvalG_far l hF h
  rw [rvalG_b] at h
  obtain ⟨c, h1, h2⟩ := bindR_ok h
  have := rnum_le l h1
  split at h2
  · cases h2
  · split at h2
    · cases h2
    · rename_i k hk _
      have hr := hD _ _ _ _ _ _ _ _ (by omega) hf hk h2
      have h3 := (hF _ _ _ _ _ _ _ _ (by omega) h2).1
      have h4 := len_le hr hk
      have h5 := hr.wt
      exact ⟨hr.gd, by omega, by omega, hfar⟩
theorem many_rg {f fin : Nat} {R : Nat → Res (T × Nat)} (hR : ∀ p t q, p ≤ fin → R p = .ok (t, q) → Gd B W t f ∧ T.len t ≤ q - p ∧ T.wt t ≤ q - p ∧ p < q ∧ q ≤ fin) : ∀ (n p : Nat) (xs : List T) (q : Nat), p ≤ fin → rmany R n p = .ok (xs, q) → (∀ x ∈ xs, Gd B W x f) ∧ (xs.map T.len).sum ≤ q - p ∧ T.wts xs ≤ q - p
  | 0, p, xs, q, hp, h => by
    rw [rmany] at h
    cases h
    exact ⟨by simp, by simp, by simp [T.wts]⟩
  | n + 1, p, xs, q, hp, h => by
    have hfar := rmany_far (fin := fin) (fun p t q hp h => (hR p t q hp h).2.2.2) (n + 1) p xs q hp h
    rw [rmany_b] at h
    obtain ⟨⟨x, q1⟩, h1, h2⟩ := bindR_ok h
    obtain ⟨⟨ys, q2⟩, h3, h4⟩ := bindR_ok h2
    cases h4
    obtain ⟨a1, a2, a3, a4, a5⟩ := hR p x q1 hp h1
    obtain ⟨b1, b2, b3⟩ := many_rg hR n q1 ys q2 a5 h3
    have b4 := rmany_far (fin := fin) (fun p t q hp h => (hR p t q hp h).2.2.2) n q1 ys q2 a5 h3
    simp only at *
    refine ⟨fun y hy => ?_, ?_, ?_⟩
    · rcases List.mem_cons.1 hy with rfl | hy
      · exact a1
      · exact b1 y hy
    · rw [List.map_cons, List.sum_cons]; omega
    · rw [T.wts]; omega
/-- the same, of an array's elements -/
theorem arr_rg {f fin c e : Nat} {R : Nat → Res (T × Nat)} (hc : c / 16 ≠ 0 ∧ c / 16 ≠ 4) (hR : ∀ p t q, p ≤ fin → R p = .ok (t, q) → Rg B W f e c p q t ∧ p < q ∧ q ≤ fin) : ∀ (n p : Nat) (xs : List T) (q : Nat), p ≤ fin → rmany R n p = .ok (xs, q) → (∀ x ∈ xs, Gd B W x f ∧ x.k = (e : Int) ∧ (c = pickC e true → smallC x.k x.n x.body = true)) ∧ (xs.map T.body).sum + xs.length * headC c ≤ q - p ∧ T.wts xs ≤ q - p
  | 0, p, xs, q, hp, h => by
    rw [rmany] at h
    cases h
    exact ⟨by simp, by simp, by simp [T.wts]⟩
  | n + 1, p, xs, q, hp, h => by
    rw [rmany_b] at h
    obtain ⟨⟨x, q1⟩, h1, h2⟩ := bindR_ok h
    obtain ⟨⟨ys, q2⟩, h3, h4⟩ := bindR_ok h2
    cases h4
    obtain ⟨a1, a4, a5⟩ := hR p x q1 hp h1
    obtain ⟨b1, b2, b3⟩ := arr_rg hc hR n q1 ys q2 a5 h3
    have b4 := rmany_far (fin := fin) (fun p t q hp h => (hR p t q hp h).2) n q1 ys q2 a5 h3
    have a2 := a1.len
    have a3 := a1.wt2 hc.1 hc.2
    simp only at *
    refine ⟨fun y hy => ?_, ?_, ?_⟩
    · rcases List.mem_cons.1 hy with rfl | hy
      · exact ⟨a1.gd, a1.kk, a1.small⟩
      · exact b1 y hy
    · rw [List.map_cons, List.sum_cons, List.length_cons, Nat.succ_mul]; omega
    · rw [T.wts]; omega
theorem rnum_lt (hl : ∀ b ∈ l, b < 256) {p fin w m : Nat} {sz : Int} (h : rnum l p fin sz w = .ok m) : m < 256 ^ w := by
  unfold rnum at h
  split at h
  · cases h
    have h1 := getN_lt ((l.drop p).take w) (fun c hc => hl c (List.mem_of_mem_drop (List.mem_of_mem_take hc)))
    have h2 : (256 : Nat) ^ ((l.drop p).take w).length ≤ 256 ^ w := Nat.pow_le_pow_right (by omega) (by rw [List.length_take]; omega)
    omega
  · cases h
theorem rbytes_len {p fin n : Nat} {sz : Int} {s : List Nat} (hf : fin ≤ l.length) (h : rbytes l p fin sz n = .ok s) : s.length = n := by
  unfold rbytes at h
  split at h
  · cases h
    rw [List.length_take, List.length_drop]
    omega
  · cases h
theorem mkS_size (s : List Nat) : (mkS s).size = s.length := by
  unfold mkS
  show ((s.map UInt8.ofNat).toArray).size = _
  simp
end
end Go.Proofs.YtgpimajdcfoigabDoor
