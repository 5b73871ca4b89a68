/- OctetPoints: the walk. -/
import Derived.Test.YtjgdebifomkkcaaDoorPtsP
import Derived.Test.YtjgdebifomkkcaaDoorLive
namespace Go.Proofs.YtjgdebifomkkcaaDoor
open Go.RowKit
set_option linter.unusedVariables false

/-- what is kept from character to character: the text, where its last character begins, how long that is -/
def Txt (S : ByteArray) (b m k : Nat) : Prop :=
  ∃ L0 M : List Nat, S = sN (L0 ++ M) ∧ b = L0.length ∧ m = M.length ∧ Byt L0 ∧ Byt M ∧ Whole L0 ∧ Whole (L0 ++ M) ∧ (L0 ++ M).length ≤ 4 * k ∧ (M = [] ∨ ∃ c, Pt c ∧ M = wrL c)
theorem Txt.start : Txt ⟨#[]⟩ 0 0 0 := ⟨[], [], rfl, rfl, rfl, (fun _ h => by cases h), (fun _ h => by cases h), whole_nil, whole_nil, Nat.le_refl _, .inl rfl⟩
theorem Txt.size {S : ByteArray} {b m k : Nat} (h : Txt S b m k) : S.size ≤ 4 * k ∧ b + m = S.size ∧ m ≤ 4 := by
  obtain ⟨L0, M, rfl, rfl, rfl, _, _, _, _, hl, hM⟩ := h
  refine ⟨by rw [sN_size]; exact hl, by rw [sN_size]; simp, ?_⟩
  rcases hM with rfl | ⟨c, _, rfl⟩
  · simp
  · exact (wrL_len c).2
theorem Txt.more {S : ByteArray} {b m k c : Nat} (h : Txt S b m k) (hc : Pt c) : Txt (S ++ sN (wrL c)) S.size (wrL c).length (k + 1) := by
  obtain ⟨L0, M, rfl, rfl, rfl, h1, h2, h3, h4, hl, hM⟩ := h
  have hl4 := (wrL_len c).2
  have hd := wrL_dec c hc
  refine ⟨L0 ++ M, wrL c, sN_append _ _, sN_size _, rfl, h1.app h2, wrL_byt c hc, h4, whole_more (h1.app h2) (wrL_byt c hc) h4 (wrL_len c).1 hd.1 hd.2, by rw [List.length_append]; omega, .inr ⟨c, hc, rfl⟩⟩
theorem Txt.whole {S : ByteArray} {b m k : Nat} (h : Txt S b m k) : utfZ S 0 = -1 := by
  obtain ⟨L0, M, rfl, _, _, _, _, _, h4, _, _⟩ := h
  exact h4
theorem Txt.cut {S : ByteArray} {b m k q : Nat} (h : Txt S b m k) (h1 : 1 ≤ q) (hq : q < m) : utfZ (S.extract 0 (b + q)) 0 = b := by
  obtain ⟨L0, M, rfl, rfl, rfl, g1, g2, g3, g4, hl, hM⟩ := h
  rcases hM with rfl | ⟨c, hc, rfl⟩
  · simp at hq
  · rw [sN_take, List.take_append, List.take_of_length_le (by omega), show L0.length + q - L0.length = q by omega]
    exact whole_bad g1 (g2.take q) g3 (by simp; omega) (wrL_cut c q hc h1 hq)
theorem Txt.bad {S : ByteArray} {b m k : Nat} (h : Txt S b m k) (j : Nat) (hj : j < 15) : utfZ (S ++ sN (badAt j) ++ sN [97]) 0 = S.size := by
  obtain ⟨L0, M, rfl, rfl, rfl, g1, g2, g3, g4, hl, hM⟩ := h
  rw [bad_told (g1.app g2) g4 j hj, sN_size]
theorem Txt.asc {S : ByteArray} {b m k y : Nat} {z : Int} (h : Txt S b m k) (hz : Asc S z) (hy : 128 ≤ y) (hy2 : y < 256) : Asc (S ++ sN [y]) (if z = -1 then (S.size : Int) else z) := by
  obtain ⟨L0, M, rfl, rfl, rfl, g1, g2, g3, g4, hl, hM⟩ := h
  have := asc_more (g1.app g2) hz hy hy2
  rwa [← sN_size] at this

theorem asc_exists (S : ByteArray) : ∃ z, Asc S z := by
  have h : ∀ k, k ≤ S.size → (∀ j (_ : j < k) (_ : j < S.size), S[j].toNat < 128) ∨ ∃ z, Asc S z := by
    intro k
    induction k with
    | zero => intro _; exact .inl (fun j h => absurd h (Nat.not_lt_zero _))
    | succ k ih =>
      intro hk
      rcases ih (by omega) with h | h
      · by_cases hb : S[k].toNat < 128
        · refine .inl fun j h1 h2 => ?_
          by_cases h3 : j < k
          · exact h j h3 h2
          · obtain rfl : j = k := by omega
            exact hb
        · exact .inr ⟨k, .inr ⟨k, by omega, rfl, by omega, fun j hj => h j hj (by omega)⟩⟩
      · exact .inr h
  rcases h S.size (Nat.le_refl _) with h | h
  · exact ⟨-1, .inl ⟨rfl, fun j hj => h j hj hj⟩⟩
  · exact h
theorem cut_call {S : ByteArray} {b m k q : Nat} (h : Txt S b m k) (h1 : 1 ≤ q) (hq : q < m) (w : World) (hs : S.size ≤ 281474976710656) (hT : Lib.Utf8Tabs 0 1 w) :
    Calls Tryd.prog 18 #[.string (S.extract 0 (b + q))] w fun e w' => e = .returned (.int .i64 (b : Int)) ∧ Below w.heap.size w w' := by
  have hz : (S.extract 0 (b + q)).size ≤ 281474976710656 := by simp; omega
  have := utf8_any (S.extract 0 (b + q)) w hz hT
  rwa [h.cut h1 hq] at this
theorem bad_call {S T : ByteArray} (h : utfZ (S ++ T ++ sN [97]) 0 = S.size) (w : World) (hs : S.size ≤ 140737488355328) (ht : T.size ≤ 5) (hT : Lib.Utf8Tabs 0 1 w) :
    Calls Tryd.prog 18 #[.string (S ++ T ++ ⟨#[97]⟩)] w fun e w' => e = .returned (.int .i64 (S.size : Int)) ∧ Below w.heap.size w w' := by
  have e : (⟨#[97]⟩ : ByteArray) = sN [97] := rfl
  have hz : (S ++ T ++ sN [97]).size ≤ 281474976710656 := by rw [ByteArray.size_append, ByteArray.size_append, sN_size]; simp; omega
  have := utf8_any (S ++ T ++ sN [97]) w hz hT
  rw [h] at this
  rw [e]
  exact this
theorem conv_one (W : World) (y : Int) :
    (convert 24 9 (.slice (some ⟨W.heap.size, 0, none⟩) 1 1)).run Tryd.prog (W.alloc (.cells #[.int .u8 y] 5)) = .ok (.string (strOfNums [y])) (W.alloc (.cells #[.int .u8 y] 5)) :=
  run_convert_bytes_arg (P := Tryd.prog) (W.alloc (.cells #[.int .u8 y] 5)) 24 5 Tryd.underlying24 Tryd.underlying5 W.heap.size 0 1 1 [y] rfl (fun i hi => by
    obtain rfl : i = 0 := by omega
    rw [World.cell?_alloc_at _ _ _ _ rfl]
    rfl) 9 Tryd.underlying9
theorem one_size (y : Int) : (strOfNums [y]).size = 1 := strOfNums_size [y]
theorem asc_call {S : ByteArray} {b m k y : Nat} {yi : Int} (h : Txt S b m k) (hyi : yi = (y : Int)) (hy : 128 ≤ y) (hy2 : y < 256) (w : World) (hs : S.size ≤ 140737488355328) :
    Calls Tryd.prog 20 #[.string (S ++ strOfNums [yi])] w fun e w' => ∃ z z2 : Int, e = .returned (.int .i64 z2) ∧ Asc S z ∧ (z2 = if z = -1 then (S.size : Int) else z) ∧ w = w' := by
  subst hyi
  have e : strOfNums [(y : Int)] = sN [y] := strOf_eq [y]
  rw [e]
  have hz : (S ++ sN [y]).size ≤ 281474976710656 := by rw [ByteArray.size_append, sN_size]; simp; omega
  have h1 := ascii_any S w (by omega)
  refine (ascii_any (S ++ sN [y]) w hz).mono ?_
  rintro e w' ⟨z2, rfl, hz2, rfl⟩
  obtain ⟨z, hz⟩ := asc_exists S
  exact ⟨z, z2, rfl, hz, hz2.unique (h.asc hz hy hy2), rfl⟩
set_option maxRecDepth 100000 in
set_option maxHeartbeats 4000000 in
theorem points_walk (a : Option Addr) (n cap : Nat) (zs : List Int) (ct last : Int) (w : World) (hi : Rz w a n zs) (hn : n ≤ 17592186043904) (wc : (Lit.int .i64 ct).wf = true) (wl : (Lit.int .i64 last).wf = true) (hT : Lib.Utf8Tabs 0 1 w) :
    Calls Tryd.prog 7 #[.slice a n cap, .int .i64 ct, .int .i64 last] w fun e w' => e = .returned (.bool true) ∧ Below w.heap.size w w' := by
  have HT := hide hT
  have HI := hide hi
  clear hT hi wc wl
  go_enter Tryd.func7, Tryd.ntmps7
  go_wp2_with fail
  refine (live_any w HT.out).mono ?_
  rintro e w1 ⟨rfl, hb1⟩
  go_wp2
  go_loopw [8, 9, 10, 11] (fun s b m i wr => ∃ k S bb mm, k ≤ n ∧ i = .int .i64 ((k : Nat) : Int) ∧ s = .string S ∧ b = .int .i64 ((bb : Nat) : Int) ∧ m = .int .i64 ((mm : Nat) : Int) ∧ Txt S bb mm k ∧ Below w1.heap.size w1 wr) (fun _ _ _ i _ => n - (intOf i).toNat)
  case atStart => exact ⟨0, _, 0, 0, Nat.zero_le _, rfl, rfl, rfl, rfl, Txt.start, Below.refl _ _⟩
  case round =>
    obtain ⟨k, S, bb, mm, hk, rfl, rfl, rfl, rfl, htx, hbw⟩ := hrel
    obtain ⟨hs1, hs2, hs3⟩ := htx.size
    have HTX := hide htx
    clear htx
    have hbx : Below w.heap.size w wr := hb1.trans (hbw.mono hb1.size)
    by_cases hkn : k < n
    · obtain ⟨b, off, rfl, hblt, hc0⟩ := HI.out (by omega)
      have hcell := (hbx.cell (p := ⟨b, off + k, none⟩) hblt).trans (hc0 k hkn)
      generalize zs.getD k 0 = z at *
      clear hc0
      go_wp2_with fail
      refine (point_any z wr).mono ?_
      rintro e w2 ⟨c, rfl, hpt, rfl⟩
      have HPT := hide hpt
      clear hpt
      go_wp2_with fail
      refine (written_any c wr HPT.out).mono ?_
      rintro e w3 ⟨rfl, hrd, hb3⟩
      have hconv := conv_str (cap := (wrL c).length) hrd (wrL_len c).1
      have hwl := wrL_len c
      have hwz := sN_size (wrL c)
      have HMO := hide (HTX.out.more HPT.out)
      clear hrd
      generalize sN (wrL c) = T at *
      generalize (wrL c).length = wl at *
      have hTz : T.size ≤ 4 := by omega
      have HWZ := hide hwz
      clear hwz
      go_wp2
      go_roundw
      case rel => exact ⟨k + 1, _, _, _, by omega, by go_num, rfl, by go_num, by go_num, HMO.out, hbw.trans (hb3.mono hbw.size)⟩
      case measure => simp [intOf]; omega
    · have hkn' : k = n := by omega
      subst hkn'
      have HU := hide HTX.out.whole
      go_wp2_with fail
      refine (utf8_any S wr (by omega) (tabs_below HT.out hbx)).mono ?_
      rintro e w2 ⟨rfl, hb2⟩
      rw [HU.out]
      clear HU
      have hb12 : Below w.heap.size w w2 := hbx.trans (hb2.mono hbx.size)
      have HM : Hid (mm ≤ 1 ∨ (2 ≤ mm ∧ ct ≤ 0) ∨ (mm = 2 ∧ 0 < ct) ∨ (mm = 3 ∧ 0 < ct) ∨ (mm = 4 ∧ 0 < ct)) := by
        have h : mm ≤ 1 ∨ mm = 2 ∨ mm = 3 ∨ mm = 4 := by omega
        have h2 : ct ≤ 0 ∨ 0 < ct := by omega
        show _ ∨ _
        omega
      rcases HM.out with h1 | ⟨h1, h2⟩ | ⟨rfl, h2⟩ | ⟨rfl, h2⟩ | ⟨rfl, h2⟩
      · clear HM
        go_wp2
        go_loopw [18] (fun i wq => ∃ j : Nat, j ≤ 15 ∧ i = .int .i64 j ∧ Hid (∀ j, j < 15 → wq.cell? ⟨w2.heap.size, j, none⟩ = some (.string (sN (badAt j)))) ∧ w2.heap.size < wq.heap.size ∧ Below w2.heap.size w2 wq) (fun i _ => 15 - (intOf i).toNat)
        case atStart => exact ⟨0, by omega, rfl, fun j hj => bads_cells w2 _ j hj, by simp, (Below.refl _ _).alloc (Nat.le_refl _) _⟩
        case round =>
          obtain ⟨j, hj, rfl, HCL, hsz, hbq⟩ := hrel
          have hby : Below w.heap.size w wr := hb12.trans (hbq.mono hb12.size)
          by_cases hj15 : j < 15
          · have hcl := HCL.out j hj15
            have HBD := hide (HTX.out.bad j hj15)
            have hbl := bad_len j hj15
            have hbz := sN_size (badAt j)
            generalize sN (badAt j) = T at *
            have hTz : T.size ≤ 5 := by omega
            clear hbz hbl
            go_wp2_with fail
            refine (bad_call HBD.out wr (by omega) (by omega) (tabs_below HT.out hby)).mono ?_
            rintro e w5 ⟨rfl, hb5⟩
            have HC5 : Hid (∀ j, j < 15 → w5.cell? ⟨w2.heap.size, j, none⟩ = some (.string (sN (badAt j)))) := fun i hi => (hb5.cell (p := ⟨w2.heap.size, i, none⟩) hsz).trans (HCL.out i hi)
            go_wp2
            go_roundw
            case rel => exact ⟨j + 1, by omega, by go_num, HC5, Nat.lt_of_lt_of_le hsz hb5.size, hbq.trans (hb5.mono hbq.size)⟩
            case measure => simp [intOf]; omega
          · clear HCL
            go_wp2_with fail
            refine (point_any last wr).mono ?_
            rintro e w5 ⟨c, rfl, hpt, rfl⟩
            clear hpt
            have hcv := fun (W : World) (y : Int) => conv_one W y
            have hcz := one_size
            obtain ⟨r, hr⟩ : ∃ r : Nat, (c : Int) % 128 = (r : Int) := ⟨c % 128, by omega⟩
            have hr2 : r ≤ 127 := by omega
            go_wp2_with fail
            refine (asc_call HTX.out (y := 128 + r) (by omega) (by omega) (by omega) _ (by omega)).mono ?_
            rintro e w6 ⟨z, z2, rfl, hz, hz2, rfl⟩
            have HZ := hide hz
            have HZ2 := hide hz2
            clear hz hz2
            go_wp2_with fail
            refine (ascii_any S _ (by omega)).mono ?_
            rintro e w7 ⟨z3, rfl, hz3, rfl⟩
            have e3 : z3 = z := hz3.unique HZ.out
            subst e3
            clear hz3
            by_cases hzz : z3 = -1
            · subst hzz
              have e2 : z2 = (S.size : Int) := by rw [HZ2.out]; simp
              subst e2
              go_wp2
              go_ret
              exact ⟨rfl, hby.alloc hby.size _⟩
            · have e2 : z2 = z3 := by rw [HZ2.out]; simp [hzz]
              subst e2
              have hz4 : (z2 == -1) = false := by simpa using hzz
              go_wp2
              go_ret
              exact ⟨rfl, hby.alloc hby.size _⟩
      · clear HM
        have hbq : bb + 1 ≤ S.size := by omega
        have HCT := hide (cut_call HTX.out (q := 1) (by omega) (by omega) w2 (by omega) (tabs_below HT.out hb12))
        go_wp2_with fail
        refine HCT.out.mono ?_
        rintro e w4 ⟨rfl, hb4⟩
        have hb14 : Below w.heap.size w w4 := hb12.trans (hb4.mono hb12.size)
        clear HCT
        go_wp2
        go_loopw [18] (fun i wq => ∃ j : Nat, j ≤ 15 ∧ i = .int .i64 j ∧ Hid (∀ j, j < 15 → wq.cell? ⟨w4.heap.size, j, none⟩ = some (.string (sN (badAt j)))) ∧ w4.heap.size < wq.heap.size ∧ Below w4.heap.size w4 wq) (fun i _ => 15 - (intOf i).toNat)
        case atStart => exact ⟨0, by omega, rfl, fun j hj => bads_cells w4 _ j hj, by simp, (Below.refl _ _).alloc (Nat.le_refl _) _⟩
        case round =>
          obtain ⟨j, hj, rfl, HCL, hsz, hbq⟩ := hrel
          have hby : Below w.heap.size w wr := hb14.trans (hbq.mono hb14.size)
          by_cases hj15 : j < 15
          · have hcl := HCL.out j hj15
            have HBD := hide (HTX.out.bad j hj15)
            have hbl := bad_len j hj15
            have hbz := sN_size (badAt j)
            generalize sN (badAt j) = T at *
            have hTz : T.size ≤ 5 := by omega
            clear hbz hbl
            go_wp2_with fail
            refine (bad_call HBD.out wr (by omega) (by omega) (tabs_below HT.out hby)).mono ?_
            rintro e w5 ⟨rfl, hb5⟩
            have HC5 : Hid (∀ j, j < 15 → w5.cell? ⟨w4.heap.size, j, none⟩ = some (.string (sN (badAt j)))) := fun i hi => (hb5.cell (p := ⟨w4.heap.size, i, none⟩) hsz).trans (HCL.out i hi)
            go_wp2
            go_roundw
            case rel => exact ⟨j + 1, by omega, by go_num, HC5, Nat.lt_of_lt_of_le hsz hb5.size, hbq.trans (hb5.mono hbq.size)⟩
            case measure => simp [intOf]; omega
          · clear HCL
            go_wp2_with fail
            refine (point_any last wr).mono ?_
            rintro e w5 ⟨c, rfl, hpt, rfl⟩
            clear hpt
            have hcv := fun (W : World) (y : Int) => conv_one W y
            have hcz := one_size
            obtain ⟨r, hr⟩ : ∃ r : Nat, (c : Int) % 128 = (r : Int) := ⟨c % 128, by omega⟩
            have hr2 : r ≤ 127 := by omega
            go_wp2_with fail
            refine (asc_call HTX.out (y := 128 + r) (by omega) (by omega) (by omega) _ (by omega)).mono ?_
            rintro e w6 ⟨z, z2, rfl, hz, hz2, rfl⟩
            have HZ := hide hz
            have HZ2 := hide hz2
            clear hz hz2
            go_wp2_with fail
            refine (ascii_any S _ (by omega)).mono ?_
            rintro e w7 ⟨z3, rfl, hz3, rfl⟩
            have e3 : z3 = z := hz3.unique HZ.out
            subst e3
            clear hz3
            by_cases hzz : z3 = -1
            · subst hzz
              have e2 : z2 = (S.size : Int) := by rw [HZ2.out]; simp
              subst e2
              go_wp2
              go_ret
              exact ⟨rfl, hby.alloc hby.size _⟩
            · have e2 : z2 = z3 := by rw [HZ2.out]; simp [hzz]
              subst e2
              have hz4 : (z2 == -1) = false := by simpa using hzz
              go_wp2
              go_ret
              exact ⟨rfl, hby.alloc hby.size _⟩
      · clear HM
        have hbq : bb + 1 ≤ S.size := by omega
        have HCT := hide (cut_call HTX.out (q := 1) (by omega) (by omega) w2 (by omega) (tabs_below HT.out hb12))
        go_wp2_with fail
        refine HCT.out.mono ?_
        rintro e w4 ⟨rfl, hb4⟩
        have hb14 : Below w.heap.size w w4 := hb12.trans (hb4.mono hb12.size)
        clear HCT
        go_wp2
        go_loopw [18] (fun i wq => ∃ j : Nat, j ≤ 15 ∧ i = .int .i64 j ∧ Hid (∀ j, j < 15 → wq.cell? ⟨w4.heap.size, j, none⟩ = some (.string (sN (badAt j)))) ∧ w4.heap.size < wq.heap.size ∧ Below w4.heap.size w4 wq) (fun i _ => 15 - (intOf i).toNat)
        case atStart => exact ⟨0, by omega, rfl, fun j hj => bads_cells w4 _ j hj, by simp, (Below.refl _ _).alloc (Nat.le_refl _) _⟩
        case round =>
          obtain ⟨j, hj, rfl, HCL, hsz, hbq⟩ := hrel
          have hby : Below w.heap.size w wr := hb14.trans (hbq.mono hb14.size)
          by_cases hj15 : j < 15
          · have hcl := HCL.out j hj15
            have HBD := hide (HTX.out.bad j hj15)
            have hbl := bad_len j hj15
            have hbz := sN_size (badAt j)
            generalize sN (badAt j) = T at *
            have hTz : T.size ≤ 5 := by omega
            clear hbz hbl
            go_wp2_with fail
            refine (bad_call HBD.out wr (by omega) (by omega) (tabs_below HT.out hby)).mono ?_
            rintro e w5 ⟨rfl, hb5⟩
            have HC5 : Hid (∀ j, j < 15 → w5.cell? ⟨w4.heap.size, j, none⟩ = some (.string (sN (badAt j)))) := fun i hi => (hb5.cell (p := ⟨w4.heap.size, i, none⟩) hsz).trans (HCL.out i hi)
            go_wp2
            go_roundw
            case rel => exact ⟨j + 1, by omega, by go_num, HC5, Nat.lt_of_lt_of_le hsz hb5.size, hbq.trans (hb5.mono hbq.size)⟩
            case measure => simp [intOf]; omega
          · clear HCL
            go_wp2_with fail
            refine (point_any last wr).mono ?_
            rintro e w5 ⟨c, rfl, hpt, rfl⟩
            clear hpt
            have hcv := fun (W : World) (y : Int) => conv_one W y
            have hcz := one_size
            obtain ⟨r, hr⟩ : ∃ r : Nat, (c : Int) % 128 = (r : Int) := ⟨c % 128, by omega⟩
            have hr2 : r ≤ 127 := by omega
            go_wp2_with fail
            refine (asc_call HTX.out (y := 128 + r) (by omega) (by omega) (by omega) _ (by omega)).mono ?_
            rintro e w6 ⟨z, z2, rfl, hz, hz2, rfl⟩
            have HZ := hide hz
            have HZ2 := hide hz2
            clear hz hz2
            go_wp2_with fail
            refine (ascii_any S _ (by omega)).mono ?_
            rintro e w7 ⟨z3, rfl, hz3, rfl⟩
            have e3 : z3 = z := hz3.unique HZ.out
            subst e3
            clear hz3
            by_cases hzz : z3 = -1
            · subst hzz
              have e2 : z2 = (S.size : Int) := by rw [HZ2.out]; simp
              subst e2
              go_wp2
              go_ret
              exact ⟨rfl, hby.alloc hby.size _⟩
            · have e2 : z2 = z3 := by rw [HZ2.out]; simp [hzz]
              subst e2
              have hz4 : (z2 == -1) = false := by simpa using hzz
              go_wp2
              go_ret
              exact ⟨rfl, hby.alloc hby.size _⟩
      · clear HM
        obtain ⟨q, hq⟩ : ∃ q : Nat, ct % 2 = (q : Int) := ⟨(ct % 2).toNat, by omega⟩
        have hq2 : q ≤ 1 := by omega
        have HCT := hide (cut_call HTX.out (q := 1 + q) (by omega) (by omega) w2 (by omega) (tabs_below HT.out hb12))
        go_wp2_with fail
        refine HCT.out.mono ?_
        rintro e w4 ⟨rfl, hb4⟩
        have hb14 : Below w.heap.size w w4 := hb12.trans (hb4.mono hb12.size)
        clear HCT
        go_wp2
        go_loopw [18] (fun i wq => ∃ j : Nat, j ≤ 15 ∧ i = .int .i64 j ∧ Hid (∀ j, j < 15 → wq.cell? ⟨w4.heap.size, j, none⟩ = some (.string (sN (badAt j)))) ∧ w4.heap.size < wq.heap.size ∧ Below w4.heap.size w4 wq) (fun i _ => 15 - (intOf i).toNat)
        case atStart => exact ⟨0, by omega, rfl, fun j hj => bads_cells w4 _ j hj, by simp, (Below.refl _ _).alloc (Nat.le_refl _) _⟩
        case round =>
          obtain ⟨j, hj, rfl, HCL, hsz, hbq⟩ := hrel
          have hby : Below w.heap.size w wr := hb14.trans (hbq.mono hb14.size)
          by_cases hj15 : j < 15
          · have hcl := HCL.out j hj15
            have HBD := hide (HTX.out.bad j hj15)
            have hbl := bad_len j hj15
            have hbz := sN_size (badAt j)
            generalize sN (badAt j) = T at *
            have hTz : T.size ≤ 5 := by omega
            clear hbz hbl
            go_wp2_with fail
            refine (bad_call HBD.out wr (by omega) (by omega) (tabs_below HT.out hby)).mono ?_
            rintro e w5 ⟨rfl, hb5⟩
            have HC5 : Hid (∀ j, j < 15 → w5.cell? ⟨w4.heap.size, j, none⟩ = some (.string (sN (badAt j)))) := fun i hi => (hb5.cell (p := ⟨w4.heap.size, i, none⟩) hsz).trans (HCL.out i hi)
            go_wp2
            go_roundw
            case rel => exact ⟨j + 1, by omega, by go_num, HC5, Nat.lt_of_lt_of_le hsz hb5.size, hbq.trans (hb5.mono hbq.size)⟩
            case measure => simp [intOf]; omega
          · clear HCL
            go_wp2_with fail
            refine (point_any last wr).mono ?_
            rintro e w5 ⟨c, rfl, hpt, rfl⟩
            clear hpt
            have hcv := fun (W : World) (y : Int) => conv_one W y
            have hcz := one_size
            obtain ⟨r, hr⟩ : ∃ r : Nat, (c : Int) % 128 = (r : Int) := ⟨c % 128, by omega⟩
            have hr2 : r ≤ 127 := by omega
            go_wp2_with fail
            refine (asc_call HTX.out (y := 128 + r) (by omega) (by omega) (by omega) _ (by omega)).mono ?_
            rintro e w6 ⟨z, z2, rfl, hz, hz2, rfl⟩
            have HZ := hide hz
            have HZ2 := hide hz2
            clear hz hz2
            go_wp2_with fail
            refine (ascii_any S _ (by omega)).mono ?_
            rintro e w7 ⟨z3, rfl, hz3, rfl⟩
            have e3 : z3 = z := hz3.unique HZ.out
            subst e3
            clear hz3
            by_cases hzz : z3 = -1
            · subst hzz
              have e2 : z2 = (S.size : Int) := by rw [HZ2.out]; simp
              subst e2
              go_wp2
              go_ret
              exact ⟨rfl, hby.alloc hby.size _⟩
            · have e2 : z2 = z3 := by rw [HZ2.out]; simp [hzz]
              subst e2
              have hz4 : (z2 == -1) = false := by simpa using hzz
              go_wp2
              go_ret
              exact ⟨rfl, hby.alloc hby.size _⟩
      · clear HM
        obtain ⟨q, hq⟩ : ∃ q : Nat, ct % 3 = (q : Int) := ⟨(ct % 3).toNat, by omega⟩
        have hq2 : q ≤ 2 := by omega
        have HCT := hide (cut_call HTX.out (q := 1 + q) (by omega) (by omega) w2 (by omega) (tabs_below HT.out hb12))
        go_wp2_with fail
        refine HCT.out.mono ?_
        rintro e w4 ⟨rfl, hb4⟩
        have hb14 : Below w.heap.size w w4 := hb12.trans (hb4.mono hb12.size)
        clear HCT
        go_wp2
        go_loopw [18] (fun i wq => ∃ j : Nat, j ≤ 15 ∧ i = .int .i64 j ∧ Hid (∀ j, j < 15 → wq.cell? ⟨w4.heap.size, j, none⟩ = some (.string (sN (badAt j)))) ∧ w4.heap.size < wq.heap.size ∧ Below w4.heap.size w4 wq) (fun i _ => 15 - (intOf i).toNat)
        case atStart => exact ⟨0, by omega, rfl, fun j hj => bads_cells w4 _ j hj, by simp, (Below.refl _ _).alloc (Nat.le_refl _) _⟩
        case round =>
          obtain ⟨j, hj, rfl, HCL, hsz, hbq⟩ := hrel
          have hby : Below w.heap.size w wr := hb14.trans (hbq.mono hb14.size)
          by_cases hj15 : j < 15
          · have hcl := HCL.out j hj15
            have HBD := hide (HTX.out.bad j hj15)
            have hbl := bad_len j hj15
            have hbz := sN_size (badAt j)
            generalize sN (badAt j) = T at *
            have hTz : T.size ≤ 5 := by omega
            clear hbz hbl
            go_wp2_with fail
            refine (bad_call HBD.out wr (by omega) (by omega) (tabs_below HT.out hby)).mono ?_
            rintro e w5 ⟨rfl, hb5⟩
            have HC5 : Hid (∀ j, j < 15 → w5.cell? ⟨w4.heap.size, j, none⟩ = some (.string (sN (badAt j)))) := fun i hi => (hb5.cell (p := ⟨w4.heap.size, i, none⟩) hsz).trans (HCL.out i hi)
            go_wp2
            go_roundw
            case rel => exact ⟨j + 1, by omega, by go_num, HC5, Nat.lt_of_lt_of_le hsz hb5.size, hbq.trans (hb5.mono hbq.size)⟩
            case measure => simp [intOf]; omega
          · clear HCL
            go_wp2_with fail
            refine (point_any last wr).mono ?_
            rintro e w5 ⟨c, rfl, hpt, rfl⟩
            clear hpt
            have hcv := fun (W : World) (y : Int) => conv_one W y
            have hcz := one_size
            obtain ⟨r, hr⟩ : ∃ r : Nat, (c : Int) % 128 = (r : Int) := ⟨c % 128, by omega⟩
            have hr2 : r ≤ 127 := by omega
            go_wp2_with fail
            refine (asc_call HTX.out (y := 128 + r) (by omega) (by omega) (by omega) _ (by omega)).mono ?_
            rintro e w6 ⟨z, z2, rfl, hz, hz2, rfl⟩
            have HZ := hide hz
            have HZ2 := hide hz2
            clear hz hz2
            go_wp2_with fail
            refine (ascii_any S _ (by omega)).mono ?_
            rintro e w7 ⟨z3, rfl, hz3, rfl⟩
            have e3 : z3 = z := hz3.unique HZ.out
            subst e3
            clear hz3
            by_cases hzz : z3 = -1
            · subst hzz
              have e2 : z2 = (S.size : Int) := by rw [HZ2.out]; simp
              subst e2
              go_wp2
              go_ret
              exact ⟨rfl, hby.alloc hby.size _⟩
            · have e2 : z2 = z3 := by rw [HZ2.out]; simp [hzz]
              subst e2
              have hz4 : (z2 == -1) = false := by simpa using hzz
              go_wp2
              go_ret
              exact ⟨rfl, hby.alloc hby.size _⟩
end Go.Proofs.YtjgdebifomkkcaaDoor
