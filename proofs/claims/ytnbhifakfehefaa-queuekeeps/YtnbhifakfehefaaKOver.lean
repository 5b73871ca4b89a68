
/- Expire: which ones are over; DeleteFunc. -/
import Derived.Test.YtnbhifakfehefaaKRel
import Derived.Deep.QuietTactic
import Derived.BigQuiet
import Derived.Lib.SliceRun
namespace Go.Proofs.Ytnbhifakfehefaa
open Go.RowKit
set_option linter.unusedVariables false
set_option linter.unusedSimpArgs false
def It.over (x : It) (now : Int) : Bool := decide (x.hol = 0 ∧ 0 ≤ x.exp ∧ x.exp ≤ now)
abbrev Same (w w' : World) : Prop := Kp (fun _ => False) w w'
theorem Same.cell {w w' : World} (h : Same w w') {b o : Nat} {v : Value} (hc : w.cell? ⟨b, o, none⟩ = some v) : w'.cell? ⟨b, o, none⟩ = some v := (Kp.cell h (cell_lt hc) (fun e => e)).trans hc
set_option maxRecDepth 100000 in
set_option maxHeartbeats 4000000 in
theorem over_any (b nb : Nat) (x : It) (now : Int) (w : World) (h : IB w b x) (hn : w.cell? ⟨nb, 0, none⟩ = some (.int .i64 now)) : Calls Try.prog 32 #[.pointer (some ⟨b, 0, none⟩), .pointer (some ⟨nb, 0, none⟩)] w fun e w' => e = .returned (.bool (x.over now)) ∧ Same w w' := by
  obtain ⟨y0, y1, y2, y3, y4, y5, y6, _⟩ := h.cells
  have hbl := h.lt
  have hnl := cell_lt hn
  clear y0 y1 y3 y4 y6 h
  obtain ⟨z, hz⟩ : ∃ z, x.over now = z := ⟨_, rfl⟩
  have HZ : Hid (decide (x.hol = 0 ∧ 0 ≤ x.exp ∧ x.exp ≤ now) = z) := hz
  rw [hz]
  clear hz
  by_cases h0 : x.hol = 0
  · rw [h0] at y5
    by_cases h1 : 0 ≤ x.exp
    · have HZ2 : Hid (decide (x.exp ≤ now) = z) := by
        show _ = _
        rw [← HZ.out]
        simp [h0, h1]
      clear h0
      go_enter Try.func32, Try.ntmps32
      go_wp2_with fail
      go_quiet (fail)
      go_wp2
      go_ret
      exact ⟨by rw [HZ2.out]; rfl, rfl, rfl, rfl, Nat.le_refl _, fun _ _ _ => rfl⟩
    · have HZ2 : Hid (false = z) := by
        show _ = _
        rw [← HZ.out]
        simp [h1]
      have hd : decide (0 ≤ x.exp) = false := by simpa using h1
      clear h0
      go_enter Try.func32, Try.ntmps32
      go_wp2_with fail
      go_quiet (fail)
      go_wp2
      go_ret
      exact ⟨by rw [HZ2.out]; rfl, rfl, rfl, rfl, Nat.le_refl _, fun _ _ _ => rfl⟩
  · have HZ2 : Hid (false = z) := by
      show _ = _
      rw [← HZ.out]
      simp [h0]
    have hd : (x.hol == 0) = false := by rw [beq_eq_false_iff_ne]; exact h0
    have hd2 : decide (x.hol = 0) = false := by simpa using h0
    go_enter Try.func32, Try.ntmps32
    go_wp2_with fail
    go_quiet (fail)
    go_wp2
    go_ret
    exact ⟨by rw [HZ2.out]; rfl, rfl, rfl, rfl, Nat.le_refl _, fun _ _ _ => rfl⟩
/-- a row of items in its block -/
def RowB (w : World) (g n cap : Nat) (L : List Nat) : Prop := ∃ cur, w.heap[g]? = some (.cells cur 67 (0, 0)) ∧ cur.size = cap ∧ n ≤ cap ∧ ∀ k, k < n → cur[k]? = some (ptr (hv L k))
theorem RowB.of {w : World} {B : Nat} {A : Value} {L : List Nat} (h : w.ownsRow B 67 1 A L.length (L.map ptr)) (h0 : 0 < L.length) : ∃ g cap, A = .slice (some ⟨g, 0, none⟩) L.length cap ∧ B ≤ g ∧ cap ≤ maxLen ∧ RowB w g L.length cap L := by
  rcases h.2 with ⟨_, h0'⟩ | ⟨g, cap, cur, rfl, hBg, hg, hn, hm, hc, ht⟩
  · omega
  refine ⟨g, cap, rfl, hBg, hm, cur, hg, by omega, hn, fun j hj => ?_⟩
  have e : (cur.toList.take (L.length * 1))[j]? = (L.map ptr)[j]? := by rw [ht]
  rw [List.getElem?_take_of_lt (by omega), List.getElem?_map, hv_get L j hj] at e
  simpa using e
theorem RowB.to {w : World} {B g cap : Nat} {K : List Nat} (h : RowB w g K.length cap K) (hB : B ≤ g) (hm : cap ≤ maxLen) : w.ownsRow B 67 1 (.slice (some ⟨g, 0, none⟩) K.length cap) K.length (K.map ptr) := by
  obtain ⟨cur, hg, hc, hn, hx⟩ := h
  refine ⟨by simp, .inr ⟨g, cap, cur, rfl, hB, hg, hn, hm, by omega, ?_⟩⟩
  rw [Nat.mul_one]
  apply List.ext_getElem?
  intro j
  by_cases hj : j < K.length
  · rw [List.getElem?_take_of_lt hj, List.getElem?_map, hv_get K j hj, Array.getElem?_toList, hx j hj]
    rfl
  · rw [List.getElem?_eq_none (by simp; omega), List.getElem?_eq_none (by simp; omega)]
theorem RowB.cell {w : World} {g n cap k : Nat} {L : List Nat} (h : RowB w g n cap L) (hk : k < n) : w.cell? ⟨g, k, none⟩ = some (.pointer (some ⟨hv L k, 0, none⟩)) ∧ w.frozen? ⟨g, k, none⟩ = false := by
  obtain ⟨cur, hg, hc, hn, hx⟩ := h
  exact ⟨cellOf hg k _ (hx k hk), by simp [World.frozen?, hg]⟩
theorem RowB.same {w w' : World} {g n cap : Nat} {L : List Nat} (h : RowB w g n cap L) (hs : Same w w') : RowB w' g n cap L := by
  obtain ⟨cur, hg, hx⟩ := h
  exact ⟨cur, (hs.block (Array.getElem?_eq_some_iff.1 hg).1 (fun e => e)).trans hg, hx⟩
/-- what a closure tells of each item of a list -/
def Tells (fv : Array Value) (fn : Nat) (L : List Nat) (P : Nat → Bool) (w : World) : Prop := ∀ W b, b ∈ L → Kp (fun k => ∃ cur, w.heap[k]? = some (.cells cur 67 (0, 0))) w W → Calls Try.prog fn (#[.pointer (some ⟨b, 0, none⟩)] ++ fv) W fun e w' => e = .returned (.bool (P b)) ∧ Same W w'
set_option maxRecDepth 100000 in
set_option maxHeartbeats 4000000 in
theorem index_func (nb g cap : Nat) (L : List Nat) (P : Nat → Bool) (w : World) (hl : L.length ≤ 4096) (hr : RowB w g L.length cap L) (ht : Tells #[.pointer (some ⟨nb, 0, none⟩)] 32 L P w) :
    Calls Try.prog 49 #[.slice (some ⟨g, 0, none⟩) L.length cap, .func (.func 32) #[] #[.pointer (some ⟨nb, 0, none⟩)]] w fun e w' => Same w w' ∧ ((e = .returned (.int .i64 (-1)) ∧ ∀ k, k < L.length → P (hv L k) = false) ∨ ∃ i : Nat, e = .returned (.int .i64 (i : Int)) ∧ i < L.length ∧ P (hv L i) = true ∧ ∀ k, k < i → P (hv L k) = false) := by
  have HR := hide hr
  have HT := hide ht
  have hcap : L.length ≤ cap := by obtain ⟨cur, _, _, h, _⟩ := hr; exact h
  obtain ⟨nL, hnL⟩ : ∃ nL, L.length = nL := ⟨_, rfl⟩
  have HNL := hide hnL
  rw [hnL] at hl hcap HR ⊢
  clear hr ht hnL
  go_enter Try.func49, Try.ntmps49
  go_wp2_with fail
  go_loopw [8] (fun v8 wr => ∃ n : Nat, v8 = .int .i64 (n : Int) ∧ n ≤ nL ∧ Hid (Same w wr) ∧ Hid (∀ k, k < n → P (hv L k) = false)) (fun v8 _ => nL - (intOf v8).toNat)
  case atStart => exact ⟨0, rfl, Nat.zero_le _, Kp.refl _ _, fun k hk => by omega⟩
  case round =>
    rename World => wr
    obtain ⟨n, rfl, hn, HS, HP⟩ := hrel
    by_cases hnl : n < nL
    · have hnl' : (n : Int) < (nL : Int) := by omega
      have hwn : IntKind.i64.wrap ((n : Int) + 1) = (n : Int) + 1 := by rw [IntKind.wrap_i64]; omega
      have hnL2 : n < L.length := by have := HNL.out; omega
      obtain ⟨cn, _⟩ := (HR.out.same HS.out).cell hnl
      have hgl := cell_lt cn
      obtain ⟨b, hb⟩ : ∃ b, hv L n = b := ⟨_, rfl⟩
      have HB := hide hb
      rw [hb] at cn
      have q := HT.out wr b (by rw [← hb]; exact hv_mem L n hnL2) (HS.out.mono (fun k h => h.elim))
      have HC : Hid (Calls Try.prog 32 #[.pointer (some ⟨b, 0, none⟩), .pointer (some ⟨nb, 0, none⟩)] wr fun e w' => e = .returned (.bool (P b)) ∧ Same wr w') := q
      clear hb q
      go_wp2_with fail
      refine Calls.mono HC.out ?_
      rintro e w1 ⟨rfl, hs1⟩
      have HS1 := hide (Kp.trans HS.out hs1)
      clear hs1
      by_cases hp : P b = true
      · have HPB : Hid (P b = true) := hp
        rw [hp]
        clear hp
        go_wp2
        go_ret
        exact ⟨HS1.out, .inr ⟨n, rfl, hnl, by rw [HB.out]; exact HPB.out, HP.out⟩⟩
      · have hp' : P b = false := by simpa using hp
        have HPB : Hid (P b = false) := hp'
        rw [hp']
        clear hp hp'
        go_wp2_with fail
        go_roundw
        case rel => exact ⟨n + 1, by go_num, by omega, HS1, fun k hk => by
          by_cases e : k = n
          · subst e
            rw [HB.out]
            exact HPB.out
          · exact HP.out k (by omega)⟩
        case measure => simp [intOf]; omega
    · obtain rfl : nL = n := by omega
      go_wp2
      go_ret
      exact ⟨HS.out, .inl ⟨rfl, HP.out⟩⟩
def kept (L : List Nat) (P : Nat → Bool) (j : Nat) : List Nat := (L.take j).filter (fun b => !P b)
theorem kept_next {L : List Nat} {P : Nat → Bool} {j : Nat} (h : j < L.length) : kept L P (j + 1) = if P (hv L j) = true then kept L P j else kept L P j ++ [hv L j] := by
  unfold kept
  rw [take_next h, List.filter_append]
  by_cases e : P (hv L j) = true <;> simp [e]
theorem kept_le (L : List Nat) (P : Nat → Bool) (j : Nat) : (kept L P j).length ≤ j := by
  unfold kept
  have h1 := List.length_filter_le (fun b => !P b) (L.take j)
  rw [List.length_take] at h1
  omega
theorem kept_first {L : List Nat} {P : Nat → Bool} {i : Nat} (hi : i ≤ L.length) (h : ∀ k, k < i → P (hv L k) = false) : kept L P i = L.take i := by
  unfold kept
  rw [List.filter_eq_self]
  intro b hb
  obtain ⟨k, hk, he⟩ := List.mem_iff_getElem.1 hb
  rw [List.length_take] at hk
  rw [List.getElem_take] at he
  have := h k (by omega)
  rw [hv_eq L k (by omega), he] at this
  simp [this]
/-- the row, as some are struck -/
def DelI (w : World) (g cap : Nat) (L : List Nat) (P : Nat → Bool) (j : Nat) (wr : World) : Prop := Kp (fun k => k = g) w wr ∧ ∃ cur, wr.heap[g]? = some (.cells cur 67 (0, 0)) ∧ cur.size = cap ∧ (∀ k, k < (kept L P j).length → cur[k]? = some (ptr (hv (kept L P j) k))) ∧ ∀ k, j ≤ k → k < L.length → cur[k]? = some (ptr (hv L k))
theorem DelI.same {w wr w' : World} {g cap j : Nat} {L : List Nat} {P : Nat → Bool} (h : DelI w g cap L P j wr) (hs : Same wr w') : DelI w g cap L P j w' := by
  obtain ⟨h1, cur, h2, h3⟩ := h
  exact ⟨h1.trans (hs.mono (fun _ e => e.elim)), cur, (hs.block (Array.getElem?_eq_some_iff.1 h2).1 (fun e => e)).trans h2, h3⟩
theorem DelI.yes {w wr : World} {g cap j : Nat} {L : List Nat} {P : Nat → Bool} (h : DelI w g cap L P j wr) (hj : j < L.length) (hp : P (hv L j) = true) : DelI w g cap L P (j + 1) wr ∧ kept L P (j + 1) = kept L P j := by
  have e : kept L P (j + 1) = kept L P j := by rw [kept_next hj, if_pos hp]
  obtain ⟨h1, cur, h2, h3, h4, h5⟩ := h
  exact ⟨⟨h1, cur, h2, h3, by rw [e]; exact h4, fun k hk => h5 k (by omega)⟩, e⟩
theorem DelI.no {w wr : World} {g cap j : Nat} {L : List Nat} {P : Nat → Bool} (h : DelI w g cap L P j wr) (hj : j < L.length) (hc : L.length ≤ cap) (hp : P (hv L j) = false) : DelI w g cap L P (j + 1) (wr.setCell ⟨g, (kept L P j).length, none⟩ (ptr (hv L j))) ∧ (kept L P (j + 1)).length = (kept L P j).length + 1 := by
  have e : kept L P (j + 1) = kept L P j ++ [hv L j] := by rw [kept_next hj, if_neg (by rw [hp]; simp)]
  have hle := kept_le L P j
  obtain ⟨h1, cur, h2, h3, h4, h5⟩ := h
  refine ⟨⟨h1.setCell rfl _, _, blk_set wr g _ _ h2, by simp [h3], fun k hk => ?_, fun k hk hk2 => ?_⟩, by rw [e]; simp⟩
  · rw [e] at hk ⊢
    rw [List.length_append, List.length_singleton] at hk
    rw [Array.getElem?_setIfInBounds]
    by_cases hkl : k = (kept L P j).length
    · subst hkl
      rw [if_pos rfl, if_pos (by omega), hv_last]
    · rw [if_neg (by omega), hv_app _ _ _ (by omega)]
      exact h4 k (by omega)
  · rw [Array.getElem?_setIfInBounds, if_neg (by omega)]
    exact h5 k (by omega) hk2
theorem setCells_blk (b : Nat) : ∀ (vs : List Value) (o : Nat) (w : World) (cur : Array Value) (t : TypeId) (fr : Nat × Nat), w.heap[b]? = some (.cells cur t fr) → ∃ cur', (w.setCells b o vs).heap[b]? = some (.cells cur' t fr) ∧ cur'.size = cur.size ∧ ∀ k, k < o → cur'[k]? = cur[k]? := by
  intro vs
  induction vs with
  | nil => intro o w cur t fr h; exact ⟨cur, h, rfl, fun _ _ => rfl⟩
  | cons v vs ih =>
    intro o w cur t fr h
    rw [World.setCells]
    obtain ⟨cur', h1, h2, h3⟩ := ih (o + 1) (w.setCell ⟨b, o, none⟩ v) (cur.setIfInBounds o v) t fr (by simp [World.setCell, Array.getElem?_modify, h])
    exact ⟨cur', h1, by rw [h2]; simp, fun k hk => by rw [h3 k (by omega), Array.getElem?_setIfInBounds, if_neg (by omega)]⟩
set_option maxRecDepth 100000 in
set_option maxHeartbeats 4000000 in
theorem delete_func (nb g cap : Nat) (L : List Nat) (P : Nat → Bool) (w : World) (hl : L.length ≤ 4096) (hm : cap ≤ maxLen) (hr : RowB w g L.length cap L) (ht : Tells #[.pointer (some ⟨nb, 0, none⟩)] 32 L P w) :
    Calls Try.prog 33 #[.slice (some ⟨g, 0, none⟩) L.length cap, .func (.func 32) #[] #[.pointer (some ⟨nb, 0, none⟩)]] w fun e w' => e = .returned (.slice (some ⟨g, 0, none⟩) (kept L P L.length).length cap) ∧ Hid (RowB w' g (kept L P L.length).length cap (kept L P L.length) ∧ Kp (fun k => k = g) w w') := by
  have HIF := hide (index_func nb g cap L P w hl hr ht)
  have HR := hide hr
  have HT := hide ht
  have hcap : L.length ≤ cap := by obtain ⟨cur, _, _, h, _⟩ := hr; exact h
  have HCAP := hide hcap
  have HG : Hid (∃ cur, w.heap[g]? = some (.cells cur 67 (0, 0))) := by obtain ⟨cur, h, _⟩ := hr; exact ⟨cur, h⟩
  obtain ⟨nL, hnL⟩ : ∃ nL, L.length = nL := ⟨_, rfl⟩
  have HNL := hide hnL
  obtain ⟨KL, hKL⟩ : ∃ KL, kept L P L.length = KL := ⟨_, rfl⟩
  have HKL := hide hKL
  rw [hKL]
  rw [hnL] at hl hcap HR HIF ⊢
  have hcm : cap ≤ 281474976710656 ∨ True := .inr trivial
  clear hr ht hnL hKL
  go_enter Try.func33, Try.ntmps33
  go_wp2_with fail
  refine Calls.mono HIF.out ?_
  rintro e w1 ⟨hs1, ⟨rfl, hno⟩ | ⟨i0, rfl, hi0, hpi, hno⟩⟩
  · have HS1 := hide hs1
    have HK : Hid (KL = L) := by
      show _ = _
      rw [← HKL.out, kept_first (Nat.le_refl _) (by rw [HNL.out]; exact hno), List.take_of_length_le (Nat.le_refl _)]
    clear hs1 hno
    go_wp2
    go_ret
    refine ⟨?_, ?_, HS1.out.mono (fun _ e => e.elim)⟩
    · rw [HK.out, HNL.out]
      rfl
    · rw [HK.out, HNL.out]
      exact HR.out.same HS1.out
  · have HD0 : Hid (DelI w g cap L P (i0 + 1) w1) := by
      obtain ⟨cur, h2, h3, h4, h5⟩ := HR.out.same hs1
      have hiL : i0 < L.length := by rw [HNL.out]; exact hi0
      refine (DelI.yes (j := i0) ⟨hs1.mono (fun _ e => e.elim), cur, h2, h3, fun k hk => ?_, fun k _ hk => h5 k (by rw [← HNL.out]; exact hk)⟩ hiL hpi).1
      rw [kept_first (by omega) hno] at hk ⊢
      rw [List.length_take] at hk
      rw [hv_take _ _ _ (by omega)]
      exact h5 k (by omega)
    have HL0 : Hid ((kept L P (i0 + 1)).length = i0) := by
      show _ = _
      have hiL : i0 < L.length := by rw [HNL.out]; exact hi0
      rw [kept_next hiL, if_pos hpi, kept_first (by omega) hno, List.length_take]
      omega
    have hwi : IntKind.i64.wrap ((i0 : Int) + 1) = (i0 : Int) + 1 := by rw [IntKind.wrap_i64]; omega
    have hm1 : ((i0 : Int) == -1) = false := by rw [beq_eq_false_iff_ne]; omega
    clear hs1 hno hpi
    go_wp2_with fail
    go_loopw [5, 6] (fun v5 v6 wr => ∃ (j i : Nat), v5 = .int .i64 (i : Int) ∧ v6 = .int .i64 (j : Int) ∧ j ≤ nL ∧ i < j ∧ Hid ((kept L P j).length = i) ∧ Hid (DelI w g cap L P j wr)) (fun _ v6 _ => nL - (intOf v6).toNat)
    case atStart => exact ⟨i0 + 1, i0, rfl, by go_num, by omega, by omega, HL0, HD0⟩
    case round =>
      rename World => wr
      clear HD0 HL0
      obtain ⟨j, i, rfl, rfl, hj, hij, HLI, HDI⟩ := hrel
      have hgl : g < wr.heap.size := by
        obtain ⟨_, cur, h2, _⟩ := HDI.out
        exact (Array.getElem?_eq_some_iff.1 h2).1
      by_cases hjl : j < nL
      · have hjl' : (j : Int) < (nL : Int) := by omega
        have hil' : (i : Int) < (nL : Int) := by omega
        have hwj : IntKind.i64.wrap ((j : Int) + 1) = (j : Int) + 1 := by rw [IntKind.wrap_i64]; omega
        have hwi2 : IntKind.i64.wrap ((i : Int) + 1) = (i : Int) + 1 := by rw [IntKind.wrap_i64]; omega
        have hjL2 : j < L.length := by have := HNL.out; omega
        obtain ⟨b, hb⟩ : ∃ b, hv L j = b := ⟨_, rfl⟩
        have HB := hide hb
        have cj : wr.cell? ⟨g, j, none⟩ = some (.pointer (some ⟨b, 0, none⟩)) := by
          obtain ⟨_, cur, h2, h3, h4, h5⟩ := HDI.out
          rw [← hb]
          exact cellOf h2 j _ (h5 j (Nat.le_refl _) hjL2)
        have q := HT.out wr b (by rw [← hb]; exact hv_mem L j hjL2) (HDI.out.1.mono (fun k e => by rw [e]; exact HG.out))
        have HC : Hid (Calls Try.prog 32 #[.pointer (some ⟨b, 0, none⟩), .pointer (some ⟨nb, 0, none⟩)] wr fun e w' => e = .returned (.bool (P b)) ∧ Same wr w') := q
        clear hb q
        go_wp2_with fail
        refine Calls.mono HC.out ?_
        rintro e w2 ⟨rfl, hs2⟩
        have HD2 := hide (HDI.out.same hs2)
        clear hs2
        by_cases hp : P b = true
        · have HPB : Hid (P b = true) := hp
          rw [hp]
          clear hp
          go_wp2_with fail
          go_roundw
          case rel =>
            have h := HD2.out.yes hjL2 (by rw [HB.out]; exact HPB.out)
            exact ⟨j + 1, i, rfl, by go_num, by omega, by omega, by show _ = _; rw [h.2]; exact HLI.out, h.1⟩
          case measure => simp [intOf]; omega
        · have hp' : P b = false := by simpa using hp
          have HPB : Hid (P b = false) := hp'
          rw [hp']
          have ci : ∃ u, w2.cell? ⟨g, i, none⟩ = some u := by
            obtain ⟨_, cur, h2, h3, h4, h5⟩ := HD2.out
            have hic : i < cur.size := by omega
            exact ⟨cur[i], cellOf h2 i _ (Array.getElem?_eq_getElem hic)⟩
          obtain ⟨u, ci⟩ := ci
          have fi : w2.frozen? ⟨g, i, none⟩ = false := by
            obtain ⟨_, cur, h2, _⟩ := HD2.out
            simp [World.frozen?, h2]
          have hgl2 := cell_lt ci
          clear hp hp'
          go_wp2_with fail
          go_roundw
          case rel =>
            have h := HD2.out.no hjL2 HCAP.out (by rw [HB.out]; exact HPB.out)
            rw [HLI.out, HB.out] at h
            exact ⟨j + 1, i + 1, by go_num, by go_num, by omega, by omega, h.2, h.1⟩
          case measure => simp [intOf]; omega
      · obtain rfl : nL = j := by omega
        have hcl : ∀ ty, (Builtin.clear_ #[60] ty #[.slice (some ⟨g, 0 + i, none⟩) (nL - i) (cap - i)]).run Try.prog wr = .ok (.tuple #[]) (wr.setCells g (0 + i) (List.replicate (nL - i) (.pointer none))) := fun ty => by
          obtain ⟨_, cur, h2, h3, h4, h5⟩ := HDI.out
          refine Lib.run_clear_slice wr _ _ ty _ Try.underlying60 (fun w1 => Try.zeroValue67 w1) rfl rfl g (0 + i) _ _ (by omega) (fun t ht => ?_) (fun t ht => by simp [World.frozen?, h2])
          have hic : 0 + i + t < cur.size := by omega
          rw [cellOf h2 _ _ (Array.getElem?_eq_getElem hic)]
          rfl
        rw [Nat.zero_add] at hcl
        have hin' : (i : Int) < (nL : Int) := by omega
        have hic' : (i : Int) ≤ (cap : Int) := by omega
        have hnc' : (nL : Int) ≤ (cap : Int) := by omega
        go_wp2
        go_ret
        have hKi : KL.length = i := by rw [← HKL.out, HNL.out]; exact HLI.out
        obtain ⟨h1, cur, h2, h3, h4, h5⟩ := HDI.out
        obtain ⟨cur', k1, k2, k3⟩ := setCells_blk g (List.replicate (nL - i) (.pointer none)) i wr cur _ _ h2
        have hgr := setCs_grown g (List.replicate (nL - i) (.pointer none)) i wr
        refine ⟨by rw [hKi]; rfl, ⟨cur', k1, by omega, by omega, fun k hk => ?_⟩, h1.grown hgr (fun j e => .inl (by simpa using e.symm))⟩
        rw [k3 k (by omega), h4 k (by rw [HLI.out]; omega)]
        rw [← HKL.out, HNL.out]
end Go.Proofs.Ytnbhifakfehefaa
