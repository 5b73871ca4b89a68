
/- Stage 17: from, find. -/
import Derived.Test.YtnbhifakfehefaaKTake
namespace Go.Proofs.Ytnbhifakfehefaa
open Go.RowKit
set_option linter.unusedVariables false
set_option linter.unusedSimpArgs false
set_option maxHeartbeats 1000000 in
theorem from1_any (b : Nat) (x : It) (t : Int) (w : World) (h : IB w b x) : Calls Try.prog 55 #[.pointer (some ⟨b, 0, none⟩), .int .i64 t] w fun e w' => e = .returned (.int .i64 (Lib.compareInt x.seq t)) ∧ w' = w := by
  have c0 := h.cells.1
  clear h
  go_enter Try.func55, Try.ntmps55
  go_wp2_with fail
  refine Calls.mono (Try.cmp_Compare_int x.seq t w) ?_
  rintro e w' ⟨rfl, rfl⟩
  go_wp2
  go_ret
  exact ⟨rfl, rfl⟩
theorem row_cell {w : World} {B : Nat} {A : Value} {L : List Nat} (h : w.ownsRow B 67 1 A L.length (L.map ptr)) (k : Nat) (hk : k < L.length) : ∃ g cap, A = .slice (some ⟨g, 0, none⟩) L.length cap ∧ w.cell? ⟨g, k, none⟩ = some (ptr (hv L k)) ∧ L.length ≤ cap := by
  rcases h.2 with ⟨_, h0⟩ | ⟨g, cap, cur, rfl, h1, h2, h3, h4, h5, h6⟩
  · omega
  · refine ⟨g, cap, rfl, ?_, h3⟩
    have := h.cellAt k (by omega)
    rw [this, List.getElem?_map, List.getElem?_eq_getElem hk, hv_eq L k hk]
    rfl
/-- where a search ends -/
def Split (L : List Nat) (E : Nat → It) (t : Int) (i : Nat) : Prop := i ≤ L.length ∧ (∀ k, k < i → (E (hv L k)).seq < t) ∧ (∀ k, i ≤ k → k < L.length → t ≤ (E (hv L k)).seq)
set_option maxRecDepth 100000 in
set_option maxHeartbeats 4000000 in
theorem bsearch_any (B qb : Nat) (c : Cf) (hi : Int) (A F : Value) (L H : List Nat) (E : Nat → It) (D : Nat → List Nat) (t : Int) (w : World) (hs : Qs w B qb c hi A F L H E D) :
    Calls Try.prog 54 #[A, .int .i64 t, .func (.func 55) #[] #[]] w fun e w' => ∃ (i : Nat) (b : Bool), e = .returned (.tuple #[.int .i64 (i : Int), .bool b]) ∧ Split L E t i ∧ w' = w := by
  have hn4 := hs.len
  have HRC : Hid (∀ k, k < L.length → ∃ g cap, A = .slice (some ⟨g, 0, none⟩) L.length cap ∧ w.cell? ⟨g, k, none⟩ = some (ptr (hv L k)) ∧ L.length ≤ cap) := fun k hk => row_cell hs.ra k hk
  have HCL : Hid (∀ k, k < L.length → Calls Try.prog 55 #[.pointer (some ⟨hv L k, 0, none⟩), .int .i64 t] w fun e w' => e = .returned (.int .i64 (Lib.compareInt (E (hv L k)).seq t)) ∧ w' = w) := fun k hk => by
    obtain ⟨p, hp⟩ := hs.it (hv L k) (by rw [hv_eq L k hk]; exact List.getElem_mem _)
    exact from1_any (hv L k) ((E (hv L k)).at p) t w hp
  have HST : Hid (∀ i k, i ≤ k → k < L.length → (E (hv L i)).seq ≤ (E (hv L k)).seq) := fun i k hik hk => by
    by_cases e : i = k
    · subst e; omega
    · have := List.pairwise_iff_getElem.1 hs.srt i k (by omega) hk (by omega)
      rw [hv_eq L i (by omega), hv_eq L k hk]
      omega
  obtain ⟨a, cap, hA⟩ := row_form hs.ra
  subst hA
  obtain ⟨n, hn⟩ : ∃ n, L.length = n := ⟨_, rfl⟩
  rw [hn] at HRC HCL HST hn4
  rw [hn]
  have HSP : Hid (∀ i, i ≤ n → (∀ k, k < i → (E (hv L k)).seq < t) → (∀ k, i ≤ k → k < n → t ≤ (E (hv L k)).seq) → Split L E t i) := fun i h1 h2 h3 => ⟨by omega, h2, by rw [hn]; exact h3⟩
  clear hs hn
  go_enter Try.func54, Try.ntmps54
  go_wp2
  go_loop [9, 10, 11] (fun vi vj _ => ∃ i j : Nat, vi = .int .i64 (i : Int) ∧ vj = .int .i64 (j : Int) ∧ i ≤ j ∧ j ≤ n ∧ Hid ((∀ k, k < i → (E (hv L k)).seq < t) ∧ (∀ k, j ≤ k → k < n → t ≤ (E (hv L k)).seq))) (fun vi vj _ => (intOf vj - intOf vi).toNat)
  case atStart => exact ⟨0, n, rfl, rfl, Nat.zero_le _, Nat.le_refl _, ⟨fun k hk => by omega, fun k h1 h2 => by omega⟩⟩
  case round =>
    obtain ⟨i, j, rfl, rfl, hij, hjn, HB⟩ := hrel
    by_cases hlt : i < j
    · obtain ⟨h, hh⟩ : ∃ h, h = (i + j) / 2 := ⟨_, rfl⟩
      have hh1 : i ≤ h := by omega
      have hh2 : h < j := by omega
      have hq : ((i : Int) + (j : Int)) / 2 = (h : Int) := by omega
      obtain ⟨g, cap', hA, hc, hcap⟩ := HRC.out h (by omega)
      simp only [Value.slice.injEq] at hA
      obtain ⟨rfl, _, rfl⟩ := hA
      unfold ptr at hc
      clear hh
      go_wp2_with fail
      refine Calls.mono (HCL.out h (by omega)) ?_
      rintro e w' ⟨rfl, rfl⟩
      by_cases hz : (E (hv L h)).seq < t
      · have hd : decide (Lib.compareInt (E (hv L h)).seq t < 0) = true := by unfold Lib.compareInt; rw [if_pos hz]; rfl
        have HZ := hide hz
        clear hz
        go_wp2
        go_round
        case rel => exact ⟨h + 1, j, by go_num, rfl, by omega, hjn, ⟨fun k hk => by
          have := HST.out k h (by omega) (by omega)
          have := HZ.out
          omega, HB.out.2⟩⟩
        case measure => simp [intOf]; omega
      · have hd : decide (Lib.compareInt (E (hv L h)).seq t < 0) = false := by
          unfold Lib.compareInt
          rw [if_neg hz]
          split <;> rfl
        have HZ := hide hz
        clear hz
        go_wp2
        go_round
        case rel => exact ⟨i, h, rfl, rfl, by omega, by omega, ⟨HB.out.1, fun k h1 h2 => by
          have := HST.out h k h1 h2
          have := HZ.out
          omega⟩⟩
        case measure => simp [intOf]; omega
    · obtain rfl : i = j := by omega
      have HF := hide (HSP.out i hjn HB.out.1 HB.out.2)
      by_cases hin : i < n
      · obtain ⟨g, cap', hA, hc, hcap⟩ := HRC.out i hin
        simp only [Value.slice.injEq] at hA
        obtain ⟨rfl, _, rfl⟩ := hA
        unfold ptr at hc
        go_wp2_with fail
        refine Calls.mono (HCL.out i hin) ?_
        rintro e w' ⟨rfl, rfl⟩
        go_wp2
        go_ret2
        exact ⟨i, _, rfl, HF.out, rfl⟩
      · have hin' : ¬ (i : Int) < (n : Int) := by omega
        have hdn : decide ((i : Int) < (n : Int)) = false := by simp; omega
        go_wp2
        go_ret2
        first | exact ⟨i, _, rfl, HF.out, rfl⟩ | exact ⟨i, rfl, HF.out, rfl⟩ | exact ⟨i, by simp, HF.out, rfl⟩ | exact ⟨i, HF.out, rfl⟩ | exact ⟨i, by simp [HF.out]⟩
set_option maxHeartbeats 1000000 in
theorem from_any (B qb : Nat) (c : Cf) (hi : Int) (A F : Value) (L H : List Nat) (E : Nat → It) (D : Nat → List Nat) (t : Int) (w : World) (hs : Qs w B qb c hi A F L H E D) :
    Calls Try.prog 46 #[.pointer (some ⟨qb, 0, none⟩), .int .i64 t] w fun e w' => ∃ i : Nat, e = .returned (.int .i64 (i : Int)) ∧ Split L E t i ∧ w' = w := by
  have HBS := hide (bsearch_any B qb c hi A F L H E D t w hs)
  have c6 := hs.q.cell.2.2.2.2.2.2.1
  obtain ⟨a, cap, hA⟩ := row_form hs.ra
  rw [hA] at c6 HBS
  clear hs hA
  go_enter Try.func46, Try.ntmps46
  go_wp2_with fail
  refine Calls.mono HBS.out ?_
  rintro e w' ⟨i, b, rfl, hsp, rfl⟩
  have HSP := hide hsp
  clear hsp
  go_wp2
  go_ret
  exact ⟨i, rfl, HSP.out, rfl⟩
/-- what find answers, where a search ends at i -/
def findZ (L : List Nat) (E : Nat → It) (seq hol : Int) (i : Nat) : Int := if i < L.length ∧ (E (hv L i)).seq = seq ∧ (E (hv L i)).hol = hol then (i : Int) else -1
set_option maxRecDepth 100000 in
set_option maxHeartbeats 4000000 in
theorem find_any (B qb : Nat) (c : Cf) (hi : Int) (A F : Value) (L H : List Nat) (E : Nat → It) (D : Nat → List Nat) (t hol : Int) (w : World) (hs : Qs w B qb c hi A F L H E D) :
    Calls Try.prog 29 #[.pointer (some ⟨qb, 0, none⟩), .int .i64 t, .int .i64 hol] w fun e w' => ∃ i : Nat, e = .returned (.int .i64 (findZ L E t hol i)) ∧ Split L E t i ∧ w' = w := by
  have HFR := hide (from_any B qb c hi A F L H E D t w hs)
  have c6 := hs.q.cell.2.2.2.2.2.2.1
  have HRC : Hid (∀ k, k < L.length → ∃ g cap, A = .slice (some ⟨g, 0, none⟩) L.length cap ∧ w.cell? ⟨g, k, none⟩ = some (ptr (hv L k)) ∧ L.length ≤ cap) := fun k hk => row_cell hs.ra k hk
  have HIT : Hid (∀ k, k < L.length → w.cell? ⟨hv L k, 0, none⟩ = some (.int .i64 (E (hv L k)).seq) ∧ w.cell? ⟨hv L k, 5, none⟩ = some (.int .i64 (E (hv L k)).hol)) := fun k hk => by
    obtain ⟨p, hp⟩ := hs.it (hv L k) (by rw [hv_eq L k hk]; exact List.getElem_mem _)
    exact ⟨hp.cells.1, hp.cells.2.2.2.2.2.1⟩
  have hn4 := hs.len
  obtain ⟨a, cap, hA⟩ := row_form hs.ra
  subst hA
  obtain ⟨n, hn⟩ : ∃ n, L.length = n := ⟨_, rfl⟩
  rw [hn] at HRC HIT hn4 c6
  have HFZ : Hid (∀ i, findZ L E t hol i = if i < n ∧ (E (hv L i)).seq = t ∧ (E (hv L i)).hol = hol then (i : Int) else -1) := fun i => by unfold findZ; rw [hn]
  have HSN : Hid (∀ i, Split L E t i → i ≤ n) := fun i h => by have := h.1; omega
  clear hs hn
  go_enter Try.func29, Try.ntmps29
  go_wp2_with fail
  refine Calls.mono HFR.out ?_
  rintro e w' ⟨i, rfl, hsp, rfl⟩
  have hin := HSN.out i hsp
  have HSP := hide hsp
  clear hsp
  by_cases hlt : i < n
  · obtain ⟨g, cap', hA, hc, hcap⟩ := HRC.out i hlt
    obtain ⟨s0, s5⟩ := HIT.out i hlt
    simp only [Value.slice.injEq] at hA
    obtain ⟨rfl, _, rfl⟩ := hA
    unfold ptr at hc
    have hb : ((i : Int) == (n : Int)) = false := by rw [beq_eq_false_iff_ne]; omega
    by_cases h1 : (E (hv L i)).seq = t
    · subst h1
      by_cases h2 : (E (hv L i)).hol = hol
      · subst h2
        have HZ := hide ((HFZ.out i).trans (if_pos ⟨hlt, rfl, rfl⟩))
        go_wp2
        go_ret
        exact ⟨i, by rw [HZ.out]; rfl, HSP.out, rfl⟩
      · have hb2 : ((E (hv L i)).hol == hol) = false := by rw [beq_eq_false_iff_ne]; exact h2
        have HZ := hide ((HFZ.out i).trans (if_neg (fun h => h2 h.2.2)))
        go_wp2
        go_ret
        exact ⟨i, by rw [HZ.out]; rfl, HSP.out, rfl⟩
    · have hb1 : ((E (hv L i)).seq == t) = false := by rw [beq_eq_false_iff_ne]; exact h1
      have HZ : Hid (findZ L E t hol i = -1) := by rw [HFZ.out]; exact if_neg (fun h => h1 h.2.1)
      go_wp2
      go_ret
      exact ⟨i, by rw [HZ.out]; rfl, HSP.out, rfl⟩
  · have hb : ((i : Int) == (n : Int)) = true := by rw [beq_iff_eq]; omega
    have HZ : Hid (findZ L E t hol i = -1) := by rw [HFZ.out]; exact if_neg (fun h => hlt h.1)
    go_wp2
    go_ret
    exact ⟨i, by rw [HZ.out]; rfl, HSP.out, rfl⟩
end Go.Proofs.Ytnbhifakfehefaa
