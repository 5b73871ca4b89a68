
/- Stage 18: can the parts be laid over the words? The document's: a hash. -/
import Derived.Test.YtmanfakdbmlfeaaDoorRRFit
namespace Go.Proofs.YtmanfakdbmlfeaaDoor
open Go.RowKit Go.Maps
set_option linter.unusedVariables false
set_option linter.unusedSimpArgs false
theorem anyS_iff (f : List ByteArray → Bool) : ∀ (t : List ByteArray), anyS f t = true ↔ ∃ i, i ≤ t.length ∧ f (t.drop i) = true
  | [] => ⟨fun h => ⟨0, Nat.le_refl _, h⟩, fun ⟨i, hi, h⟩ => by simpa [anyS] using h⟩
  | x :: xs => by
    rw [anyS, Bool.or_eq_true, anyS_iff f xs]
    constructor
    · rintro (h | ⟨i, hi, h⟩)
      · exact ⟨0, Nat.zero_le _, h⟩
      · exact ⟨i + 1, by simpa using hi, by simpa using h⟩
    · rintro ⟨i, hi, h⟩
      cases i with
      | zero => exact .inl h
      | succ i => exact .inr ⟨i, by simpa using hi, by simpa using h⟩
theorem Tx.drop {w : World} {g off : Nat} {l : List ByteArray} (h : Tx w g off l) (k : Nat) : Tx w g (off + k) (l.drop k) :=
  ⟨h.1, fun i y hy => by
    rw [List.getElem?_drop] at hy
    have := h.2 (k + i) y hy
    rw [Nat.add_assoc]
    exact this⟩
theorem Tl.dropI {w : World} {g o c k : Nat} {l : List ByteArray} (hk : k ≤ l.length) (h1 : l.length ≤ c) (h3 : c ≤ maxLen) (h : Tx w g o l) (w1 : World) (hb : Below w.heap.size w w1) : Tl w1 (.slice (if c = k then some ⟨g, o, none⟩ else some ⟨g, o + k, none⟩) (l.length - k) (c - k)) (l.drop k) := by
  by_cases e : c = k
  · rw [if_pos e]
    have hl : l.drop k = [] := List.drop_eq_nil_of_le (by omega)
    rw [hl]
    exact Tl.keep ⟨g, o, c - k, by simp; omega, by simp, by omega, h.1, fun i y hy => by simp at hy⟩ hb
  · rw [if_neg e]
    exact Tl.keep ⟨g, o + k, c - k, by rw [List.length_drop], by rw [List.length_drop]; omega, by omega, h.drop k⟩ hb
set_option maxHeartbeats 2000000 in
theorem rfits_hash {x : ByteArray} (h1 : x = bHash) (xs t : List ByteArray) (ht9 : t.length ≤ 1000000000) (IH : Hid (∀ i, i ≤ t.length → RfOk xs (t.drop i))) : RfOk (x :: xs) t := by
  intro w vp vt hp ht
  obtain ⟨g, o, c, rfl, hc, hc9, hx⟩ := hp
  obtain ⟨g', o', c', rfl, hc', hc9', hx'⟩ := ht
  have hcell := hx.2 0 x rfl
  rw [Nat.add_zero] at hcell
  have hlt := hx.1
  rw [List.length_cons] at hc ⊢
  have e1 : (x.toList == [35]) = true := by rw [hash_eq]; simpa using h1
  have HF : Hid (fitP (x :: xs) t = anyS (fitP xs) t) := by subst h1; exact fit_hash xs t
  have HYES : Hid (∀ i, i ≤ t.length → fitP xs (t.drop i) = true → fitP (x :: xs) t = true) := fun i q1 q2 => by rw [HF.out]; exact (anyS_iff _ _).2 ⟨i, q1, q2⟩
  have HNO : Hid ((∀ i, i ≤ t.length → fitP xs (t.drop i) = false) → fitP (x :: xs) t = false) := fun q => by
    rw [HF.out, ← Bool.not_eq_true, anyS_iff]
    rintro ⟨i, q1, q2⟩
    rw [q i q1] at q2
    cases q2
  have HX : Hid (∀ W, Below w.heap.size w W → Tl W (.slice (if c = 1 then some ⟨g, o, none⟩ else some ⟨g, o + 1, none⟩) xs.length (c - 1)) xs) := fun W hb => Tl.tailI hc hc9 hx W hb
  obtain ⟨vx, hvx⟩ : ∃ v, v = Value.slice (if c = 1 then some ⟨g, o, none⟩ else some ⟨g, o + 1, none⟩) xs.length (c - 1) := ⟨_, rfl⟩
  rw [← hvx] at HX
  have HVX := hide hvx
  have HXT := hide hx'
  have hz1 : (1 : Int) ≤ (xs.length : Int) + 1 := by omega
  have hz0 : (((xs.length : Int) + 1) == 0) = false := by rw [beq_eq_false_iff_ne]; omega
  clear hvx hx hx' h1 HF
  go_enter Tryd.func26, Tryd.ntmps26
  go_wp2
  go_loopw [5] (fun i wr => ∃ k : Nat, k ≤ t.length + 1 ∧ i = .int .i64 k ∧ Below w.heap.size w wr ∧ Hid (∀ j, j < k → fitP xs (t.drop j) = false)) (fun i _ => t.length + 1 - (intOf i).toNat)
  case atStart => exact ⟨0, Nat.zero_le _, rfl, Below.refl _ _, fun j hj => by omega⟩
  case round =>
    obtain ⟨k, hk, rfl, hb, HK⟩ := hrel
    by_cases hkn : k ≤ t.length
    · have hkz : (k : Int) ≤ (t.length : Int) := by omega
      have hk0 : (0 : Int) ≤ (k : Int) := by omega
      have HB := hide hb
      have HY : Hid (Tl wr.drew (.slice (if c' = k then some ⟨g', o', none⟩ else some ⟨g', o' + k, none⟩) (t.length - k) (c' - k)) (t.drop k)) := Tl.dropI hkn hc' hc9' HXT.out wr.drew hb.drew
      obtain ⟨vy, hvy⟩ : ∃ v, v = Value.slice (if c' = k then some ⟨g', o', none⟩ else some ⟨g', o' + k, none⟩) (t.length - k) (c' - k) := ⟨_, rfl⟩
      rw [← hvy] at HY
      have HVY := hide hvy
      have HR : Hid (Calls Tryd.prog 26 #[vx, vy] wr.drew fun e w' => e = .returned (.bool (fitP xs (t.drop k))) ∧ Hid (Below w.heap.size w w')) :=
        (IH.out k hkn wr.drew vx vy (HX.out _ hb.drew) HY.out).mono fun e w' ⟨q1, q2⟩ => ⟨q1, belOn hb.drew hb.size q2⟩
      clear hvy hb HY
      go_wp2_with fail
      refine wp_region_held_drew (S := fun W => True) (by kernel_rfl) trivial (fun hHeld => ?_)
      refine take_do (i := 0) (d := 23) (v := ?_) rfl rfl (by kernel_rfl) (by kernel_rfl) (by kernel_rfl) (fun _ _ _ h => h) rfl ?_ (by assumption) ?_
      rotate_left
      · intro W hSw
        try dsimp only at hSw
        go_simp
        try with_reducible rfl
      try simp only [List.setIfInBounds_toArray, List.set_cons_zero, List.set_cons_succ]
      refine take_do (i := 1) (d := 24) (v := vx) rfl rfl (by kernel_rfl) (by kernel_rfl) (by kernel_rfl) (fun _ _ _ h => h) rfl ?_ (by assumption) ?_
      · intro W hSw
        try dsimp only at hSw
        go_simp
        rw [HVX.out]
      try simp only [List.setIfInBounds_toArray, List.set_cons_zero, List.set_cons_succ]
      refine take_do (i := 2) (d := 25) (v := ?_) rfl rfl (by kernel_rfl) (by kernel_rfl) (by kernel_rfl) (fun _ _ _ h => h) rfl ?_ (by assumption) ?_
      rotate_left
      · intro W hSw
        try dsimp only at hSw
        go_simp
        try with_reducible rfl
      try simp only [List.setIfInBounds_toArray, List.set_cons_zero, List.set_cons_succ]
      refine take_do (i := 3) (d := 26) (v := ?_) rfl rfl (by kernel_rfl) (by kernel_rfl) (by kernel_rfl) (fun _ _ _ h => h) rfl ?_ (by assumption) ?_
      rotate_left
      · intro W hSw
        try dsimp only at hSw
        go_simp
        try with_reducible rfl
      try simp only [List.setIfInBounds_toArray, List.set_cons_zero, List.set_cons_succ]
      refine take_do (i := 4) (d := 27) (v := vy) rfl rfl (by kernel_rfl) (by kernel_rfl) (by kernel_rfl) (fun _ _ _ h => h) rfl ?_ (by assumption) ?_
      · intro W hSw
        try dsimp only at hSw
        go_simp
        rw [HVY.out]
      try simp only [List.setIfInBounds_toArray, List.set_cons_zero, List.set_cons_succ]
      refine wpAnyH_ready (rs := [5]) (by kernel_rfl) (by simp) ?_
      refine AllReadyH.cons rfl (fun K hK => ?_) AllReadyH.nil
      rw [if_pos (by kernel_rfl)]
      go_wp2_with fail
      refine HR.out.mono ?_
      rintro e w1 ⟨rfl, hb1⟩
      refine hK.out _ _ trivial (fun hHeld => ?_)
      clear hK K
      try simp only [Act.put, List.setIfInBounds_toArray, List.set_cons_zero, List.set_cons_succ]
      refine take_do (i := 6) (d := 6) (v := ?_) rfl rfl (by kernel_rfl) (by kernel_rfl) (by kernel_rfl) (fun _ _ _ h => h) rfl ?_ (by assumption) ?_
      rotate_left
      · intro W hSw
        try dsimp only at hSw
        go_simp
        try with_reducible rfl
      try simp only [List.setIfInBounds_toArray, List.set_cons_zero, List.set_cons_succ]
      refine wpAnyH_done (by kernel_rfl) ?_ _
      cases hf : fitP xs (t.drop k)
      · have HK2 : Hid (∀ j, j < k + 1 → fitP xs (t.drop j) = false) := fun j hj => by
          by_cases e : j = k
          · subst e; exact hf
          · exact HK.out j (by omega)
        clear hf
        go_wp2
        go_roundw
        case rel => exact ⟨k + 1, by omega, by go_num, hb1.out, HK2.out⟩
        case measure => simp [intOf]; omega
      · have HG := hide (HYES.out k hkn hf)
        clear hf
        go_wp2
        go_ret
        exact ⟨by rw [HG.out]; rfl, hb1.out⟩
    · have HG := hide (HNO.out (fun i hi => HK.out i (by omega)))
      have hkz : ¬ (k : Int) ≤ (t.length : Int) := by omega
      go_wp2
      go_ret
      exact ⟨by rw [HG.out]; rfl, hb⟩
theorem rfits_any : ∀ (n : Nat) (p t : List ByteArray), p.length + t.length ≤ n → t.length ≤ 1000000000 → RfOk p t := by
  intro n
  induction n with
  | zero =>
    intro p t hn h9
    obtain rfl : p = [] := List.eq_nil_of_length_eq_zero (by omega)
    exact rfits_nil t
  | succ n ih =>
    intro p t hn h9
    cases p with
    | nil => exact rfits_nil t
    | cons x xs =>
      rw [List.length_cons] at hn
      by_cases h1 : x = bHash
      · exact rfits_hash h1 xs t h9 (fun i hi => ih xs (t.drop i) (by rw [List.length_drop]; omega) (by rw [List.length_drop]; omega))
      · cases t with
        | nil => exact rfits_one_nil h1 xs
        | cons y ys =>
          rw [List.length_cons] at hn h9
          have hih := ih xs ys (by omega) (by omega)
          by_cases h2 : x = bStar
          · exact rfits_one_star xs y ys h1 h2 hih
          · by_cases h3 : x = y
            · exact rfits_one_same xs y ys h1 h2 h3 hih
            · exact rfits_one_diff xs y ys h1 h2 h3 hih
theorem rfits_ok (p t : List ByteArray) (h : t.length ≤ 1000000000) : RfOk p t := rfits_any _ p t (Nat.le_refl _) h
end Go.Proofs.YtmanfakdbmlfeaaDoor
