/- The document's Open: number; what is refused. -/
import Derived.Test.YtboacpneoblklaaFOpen
namespace Go.Proofs.Ytboacpneoblklaa
open Go.RowKit Go.Deep
set_option linter.unusedVariables false
set_option linter.unusedSimpArgs false

set_option maxRecDepth 100000 in
set_option maxHeartbeats 1000000 in
theorem refnum_any (a : Option Addr) (n cap i k : Nat) (l : List Nat) (w : World) (h7 : k ≤ 4) (hik : i + k ≤ n) (hn : n ≤ 281474976710656) (hrd : Rd w a n l) (x y : Int) (hx : x = i) (hy : y = k) :
    Calls Try.prog 27 #[.slice a n cap, .int .i64 x, .int .i64 y] w fun e w' => e = .returned (.int .i64 ((getN ((l.drop i).take k) : Nat) : Int)) ∧ w = w' := by
  subst hx hy
  have hlen : ((l.drop i).take k).length = k := by simp [hrd.1]; omega
  have HB : Hid (∀ c ∈ (l.drop i).take k, c < 256) := fun c hc => hrd.2.1 c (List.mem_of_mem_drop (List.mem_of_mem_take hc))
  have HC : Hid (0 < k → ∃ b off, a = some ⟨b, off, none⟩ ∧ ∀ j, j < k → w.cell? ⟨b, off + (i + j), none⟩ = some (.int .u8 ((((l.drop i).take k).getD j 0 : Nat) : Int))) := fun h0 => by
    obtain ⟨b, off, ha, hlt, hc⟩ := hrd.2.2 (by omega)
    refine ⟨b, off, ha, fun j hj => ?_⟩
    rw [hc (i + j) (by omega)]
    simp [List.getD_eq_getElem?_getD, List.getElem?_drop, hj]
  clear hrd
  generalize (l.drop i).take k = t at *
  go_enter Try.func27, Try.ntmps27
  go_wp2
  go_loop [7, 8] (fun m i => ∃ j : Nat, j ≤ k ∧ i = .int .i64 j ∧ m = .int .i64 ((getN (t.take j) : Nat) : Int)) (fun _ i => k - (intOf i).toNat)
  case atStart => exact ⟨0, Nat.zero_le _, rfl, rfl⟩
  case round =>
    obtain ⟨j, hj, rfl, rfl⟩ := hrel
    by_cases hjk : j < k
    · obtain ⟨b, off, rfl, hcc⟩ := HC.out (by omega)
      have hc := hcc j hjk
      have hm : getN (t.take j) < 4294967296 := by
        have h1 := getN_lt (t.take j) (fun c hc => HB.out c (List.mem_of_mem_take hc))
        have h2 : 256 ^ (t.take j).length ≤ 256 ^ 4 := Nat.pow_le_pow_right (by omega) (by rw [List.length_take]; omega)
        have h3 : (256 : Nat) ^ 4 = 4294967296 := by decide
        omega
      have hcl : t.getD j 0 < 256 := by
        rw [List.getD_eq_getElem?_getD, List.getElem?_eq_getElem (by omega)]
        exact HB.out _ (List.getElem_mem _)
      have HS : Hid (getN (t.take (j + 1)) = getN (t.take j) * 256 + t.getD j 0) := by
        rw [take_snocN _ _ (by omega), getN_snoc]; exact rfl
      generalize getN (t.take j) = m at *
      generalize t.getD j 0 = y at *
      have hsum : (i : Int) + (j : Int) < (n : Int) := by omega
      clear hcc
      go_wp2
      go_round
      case rel => exact ⟨j + 1, by omega, by go_num, by rw [HS.out]; go_num⟩
      case measure => simp [intOf]; omega
    · have hjk' : j = k := by omega
      subst hjk'
      have HF : Hid (t.take j = t) := List.take_of_length_le (by omega)
      go_wp2
      go_ret
      rw [HF.out]
      exact ⟨rfl, rfl⟩
theorem drop_getD (l : List Nat) (i k : Nat) : (l.drop i).getD k 0 = l.getD (i + k) 0 := by
  simp [List.getD_eq_getElem?_getD, List.getElem?_drop]

set_option maxRecDepth 100000 in
set_option maxHeartbeats 1000000 in
theorem refopen_arg (a : Option Addr) (n cap : Nat) (x most : Int) (w : World) (h : x < 0 ∨ (n : Int) < x ∨ most < 512 ∨ 1048576 < most) :
    Calls Try.prog 15 #[.slice a n cap, .int .i64 x, .int .i64 most] w fun e w' => e = .returned (.tuple #[frV 0 0 none 0 0 none 0 0, .int .i64 0, .int .i64 1]) ∧ Below w.heap.size w w' := by
  rw [frV_zero]
  by_cases h1 : x < 0
  · go_enter Try.func15, Try.ntmps15
    go_wp2
    exact bodyPost_ret (v := .tuple #[.agg #[.int .i64 0, .int .i64 0, .slice none 0 0, .slice none 0 0], .int .i64 0, .int .i64 1]) (by simp [results, Try.results15, go_sem]) rfl ⟨rfl, below_box _ _⟩
  · by_cases h2 : (n : Int) < x
    · go_enter Try.func15, Try.ntmps15
      go_wp2
      exact bodyPost_ret (v := .tuple #[.agg #[.int .i64 0, .int .i64 0, .slice none 0 0, .slice none 0 0], .int .i64 0, .int .i64 1]) (by simp [results, Try.results15, go_sem]) rfl ⟨rfl, below_box _ _⟩
    · by_cases h3 : most < 512
      · go_enter Try.func15, Try.ntmps15
        go_wp2
        exact bodyPost_ret (v := .tuple #[.agg #[.int .i64 0, .int .i64 0, .slice none 0 0, .slice none 0 0], .int .i64 0, .int .i64 1]) (by simp [results, Try.results15, go_sem]) rfl ⟨rfl, below_box _ _⟩
      · have h4 : 1048576 < most := by omega
        clear h
        go_enter Try.func15, Try.ntmps15
        go_wp2
        exact bodyPost_ret (v := .tuple #[.agg #[.int .i64 0, .int .i64 0, .slice none 0 0, .slice none 0 0], .int .i64 0, .int .i64 1]) (by simp [results, Try.results15, go_sem]) rfl ⟨rfl, below_box _ _⟩

set_option maxRecDepth 100000 in
set_option maxHeartbeats 1000000 in
theorem refopen_short4 (a : Option Addr) (n cap i : Nat) (most : Int) (l : List Nat) (w : World) (hr : Rd w a n l) (hn : n ≤ 281474976710656) (hi : i ≤ n) (hm0 : 512 ≤ most) (hm1 : most ≤ 1048576) (h1 : n - i < 4) :
    Calls Try.prog 15 #[.slice a n cap, .int .i64 (i : Int), .int .i64 most] w fun e w' => e = .returned (.tuple #[frV 0 0 none 0 0 none 0 0, .int .i64 0, .int .i64 10]) ∧ Below w.heap.size w w' := by
  rw [frV_zero]
  have hs := size_lt (l := l.drop i) (fun c hc => hr.2.1 c (List.mem_of_mem_drop hc))
  have hb4 := getD_lt (l := l.drop i) (fun c hc => hr.2.1 c (List.mem_of_mem_drop hc)) 4
  have hb5 := getD_lt (l := l.drop i) (fun c hc => hr.2.1 c (List.mem_of_mem_drop hc)) 5
  have h1m : ¬ most < 512 := by omega
  have HRD := hide (fun o => hr.below (below_box w o))
  clear hr
  go_enter Try.func15, Try.ntmps15
  go_wp2
  exact bodyPost_ret (v := .tuple #[.agg #[.int .i64 0, .int .i64 0, .slice none 0 0, .slice none 0 0], .int .i64 0, .int .i64 10]) (by simp [results, Try.results15, go_sem]) rfl ⟨rfl, below_box _ _⟩

set_option maxRecDepth 100000 in
set_option maxHeartbeats 1000000 in
theorem refopen_small (a : Option Addr) (n cap i : Nat) (most : Int) (l : List Nat) (w : World) (hr : Rd w a n l) (hn : n ≤ 281474976710656) (hi : i ≤ n) (hm0 : 512 ≤ most) (hm1 : most ≤ 1048576) (h1 : 4 ≤ n - i) (h2 : hSize (l.drop i) < 8) :
    Calls Try.prog 15 #[.slice a n cap, .int .i64 (i : Int), .int .i64 most] w fun e w' => e = .returned (.tuple #[frV 0 0 none 0 0 none 0 0, .int .i64 0, .int .i64 51]) ∧ Below w.heap.size w w' := by
  rw [frV_zero]
  have hs := size_lt (l := l.drop i) (fun c hc => hr.2.1 c (List.mem_of_mem_drop hc))
  have hb4 := getD_lt (l := l.drop i) (fun c hc => hr.2.1 c (List.mem_of_mem_drop hc)) 4
  have hb5 := getD_lt (l := l.drop i) (fun c hc => hr.2.1 c (List.mem_of_mem_drop hc)) 5
  have h1m : ¬ most < 512 := by omega
  have HRD := hide (fun o => hr.below (below_box w o))
  have HN0 := hide (fun W (hW : Rd W a n l) => refnum_any a n cap i 4 l W (by omega) (by omega) hn hW (i : Int) 4 rfl rfl)
  change Hid (∀ W, _ → Calls _ _ _ W fun e w' => e = .returned (.int .i64 ((hSize (l.drop i) : Nat) : Int)) ∧ _) at HN0
  generalize hSize (l.drop i) = S at *
  clear hr
  go_enter Try.func15, Try.ntmps15
  go_wp2_with fail
  refine (HN0.out _ (HRD.out _)).mono ?_
  rintro e w0 ⟨rfl, rfl⟩
  go_wp2
  exact bodyPost_ret (v := .tuple #[.agg #[.int .i64 0, .int .i64 0, .slice none 0 0, .slice none 0 0], .int .i64 0, .int .i64 51]) (by simp [results, Try.results15, go_sem]) rfl ⟨rfl, below_box _ _⟩

set_option maxRecDepth 100000 in
set_option maxHeartbeats 1000000 in
theorem refopen_great (a : Option Addr) (n cap i : Nat) (most : Int) (l : List Nat) (w : World) (hr : Rd w a n l) (hn : n ≤ 281474976710656) (hi : i ≤ n) (hm0 : 512 ≤ most) (hm1 : most ≤ 1048576) (h1 : 4 ≤ n - i) (h2 : 8 ≤ hSize (l.drop i)) (h3 : most < hSize (l.drop i)) :
    Calls Try.prog 15 #[.slice a n cap, .int .i64 (i : Int), .int .i64 most] w fun e w' => e = .returned (.tuple #[frV 0 0 none 0 0 none 0 0, .int .i64 0, .int .i64 51]) ∧ Below w.heap.size w w' := by
  rw [frV_zero]
  have hs := size_lt (l := l.drop i) (fun c hc => hr.2.1 c (List.mem_of_mem_drop hc))
  have hb4 := getD_lt (l := l.drop i) (fun c hc => hr.2.1 c (List.mem_of_mem_drop hc)) 4
  have hb5 := getD_lt (l := l.drop i) (fun c hc => hr.2.1 c (List.mem_of_mem_drop hc)) 5
  have h1m : ¬ most < 512 := by omega
  have HRD := hide (fun o => hr.below (below_box w o))
  have HN0 := hide (fun W (hW : Rd W a n l) => refnum_any a n cap i 4 l W (by omega) (by omega) hn hW (i : Int) 4 rfl rfl)
  change Hid (∀ W, _ → Calls _ _ _ W fun e w' => e = .returned (.int .i64 ((hSize (l.drop i) : Nat) : Int)) ∧ _) at HN0
  generalize hSize (l.drop i) = S at *
  clear hr
  go_enter Try.func15, Try.ntmps15
  go_wp2_with fail
  refine (HN0.out _ (HRD.out _)).mono ?_
  rintro e w0 ⟨rfl, rfl⟩
  go_wp2
  exact bodyPost_ret (v := .tuple #[.agg #[.int .i64 0, .int .i64 0, .slice none 0 0, .slice none 0 0], .int .i64 0, .int .i64 51]) (by simp [results, Try.results15, go_sem]) rfl ⟨rfl, below_box _ _⟩

set_option maxRecDepth 100000 in
set_option maxHeartbeats 1000000 in
theorem refopen_short5 (a : Option Addr) (n cap i : Nat) (most : Int) (l : List Nat) (w : World) (hr : Rd w a n l) (hn : n ≤ 281474976710656) (hi : i ≤ n) (hm0 : 512 ≤ most) (hm1 : most ≤ 1048576) (h1 : 4 ≤ n - i) (h2 : 8 ≤ hSize (l.drop i)) (h3 : (hSize (l.drop i) : Int) ≤ most) (h0 : n - i < 5) :
    Calls Try.prog 15 #[.slice a n cap, .int .i64 (i : Int), .int .i64 most] w fun e w' => e = .returned (.tuple #[frV 0 0 none 0 0 none 0 0, .int .i64 0, .int .i64 10]) ∧ Below w.heap.size w w' := by
  rw [frV_zero]
  have hs := size_lt (l := l.drop i) (fun c hc => hr.2.1 c (List.mem_of_mem_drop hc))
  have hb4 := getD_lt (l := l.drop i) (fun c hc => hr.2.1 c (List.mem_of_mem_drop hc)) 4
  have hb5 := getD_lt (l := l.drop i) (fun c hc => hr.2.1 c (List.mem_of_mem_drop hc)) 5
  have h1m : ¬ most < 512 := by omega
  have HRD := hide (fun o => hr.below (below_box w o))
  have HN0 := hide (fun W (hW : Rd W a n l) => refnum_any a n cap i 4 l W (by omega) (by omega) hn hW (i : Int) 4 rfl rfl)
  change Hid (∀ W, _ → Calls _ _ _ W fun e w' => e = .returned (.int .i64 ((hSize (l.drop i) : Nat) : Int)) ∧ _) at HN0
  generalize hSize (l.drop i) = S at *
  clear hr
  go_enter Try.func15, Try.ntmps15
  go_wp2_with fail
  refine (HN0.out _ (HRD.out _)).mono ?_
  rintro e w0 ⟨rfl, rfl⟩
  go_wp2
  exact bodyPost_ret (v := .tuple #[.agg #[.int .i64 0, .int .i64 0, .slice none 0 0, .slice none 0 0], .int .i64 0, .int .i64 10]) (by simp [results, Try.results15, go_sem]) rfl ⟨rfl, below_box _ _⟩

set_option maxRecDepth 100000 in
set_option maxHeartbeats 1000000 in
theorem refopen_off8 (a : Option Addr) (n cap i : Nat) (most : Int) (l : List Nat) (w : World) (hr : Rd w a n l) (hn : n ≤ 281474976710656) (hi : i ≤ n) (hm0 : 512 ≤ most) (hm1 : most ≤ 1048576) (h1 : 5 ≤ n - i) (h2 : 8 ≤ hSize (l.drop i)) (h3 : (hSize (l.drop i) : Int) ≤ most) (h4 : hBegin (l.drop i) < 8) :
    Calls Try.prog 15 #[.slice a n cap, .int .i64 (i : Int), .int .i64 most] w fun e w' => e = .returned (.tuple #[frV 0 0 none 0 0 none 0 0, .int .i64 0, .int .i64 52]) ∧ Below w.heap.size w w' := by
  rw [frV_zero]
  have hs := size_lt (l := l.drop i) (fun c hc => hr.2.1 c (List.mem_of_mem_drop hc))
  have hb4 := getD_lt (l := l.drop i) (fun c hc => hr.2.1 c (List.mem_of_mem_drop hc)) 4
  have hb5 := getD_lt (l := l.drop i) (fun c hc => hr.2.1 c (List.mem_of_mem_drop hc)) 5
  have h1m : ¬ most < 512 := by omega
  have HRD := hide (fun o => hr.below (below_box w o))
  have HN0 := hide (fun W (hW : Rd W a n l) => refnum_any a n cap i 4 l W (by omega) (by omega) hn hW (i : Int) 4 rfl rfl)
  change Hid (∀ W, _ → Calls _ _ _ W fun e w' => e = .returned (.int .i64 ((hSize (l.drop i) : Nat) : Int)) ∧ _) at HN0
  generalize hSize (l.drop i) = S at *
  obtain ⟨O, hO⟩ : ∃ O, O = (l.drop i).getD 4 0 := ⟨_, rfl⟩
  have HBD : hBegin (l.drop i) = O * 4 := by rw [hO]; rfl
  try rw [HBD] at h4
  try rw [HBD] at h5
  rw [← hO] at hb4
  rw [drop_getD] at hO
  have HC4 : Hid (∃ b off, a = some ⟨b, off, none⟩ ∧ ∀ o, (w.alloc o).cell? ⟨b, off + (i + 4), none⟩ = some (.int .u8 (O : Int))) := by
    obtain ⟨b, off, ha, hlt, hc⟩ := hr.2.2 (by omega)
    exact ⟨b, off, ha, fun o => by rw [World.cell?_alloc_past _ _ _ hlt, hc (i + 4) (by omega), hO]⟩
  clear hr
  clear hO HBD
  obtain ⟨b, off, rfl, hc4⟩ := HC4.out
  have hx4 : (i : Int) + 4 < (n : Int) := by omega
  go_enter Try.func15, Try.ntmps15
  go_wp2_with fail
  refine (HN0.out _ (HRD.out _)).mono ?_
  rintro e w0 ⟨rfl, rfl⟩
  go_wp2
  exact bodyPost_ret (v := .tuple #[.agg #[.int .i64 0, .int .i64 0, .slice none 0 0, .slice none 0 0], .int .i64 0, .int .i64 52]) (by simp [results, Try.results15, go_sem]) rfl ⟨rfl, below_box _ _⟩

set_option maxRecDepth 100000 in
set_option maxHeartbeats 1000000 in
theorem refopen_offg (a : Option Addr) (n cap i : Nat) (most : Int) (l : List Nat) (w : World) (hr : Rd w a n l) (hn : n ≤ 281474976710656) (hi : i ≤ n) (hm0 : 512 ≤ most) (hm1 : most ≤ 1048576) (h1 : 5 ≤ n - i) (h2 : 8 ≤ hSize (l.drop i)) (h3 : (hSize (l.drop i) : Int) ≤ most) (h4 : 8 ≤ hBegin (l.drop i)) (h5 : hSize (l.drop i) < hBegin (l.drop i)) :
    Calls Try.prog 15 #[.slice a n cap, .int .i64 (i : Int), .int .i64 most] w fun e w' => e = .returned (.tuple #[frV 0 0 none 0 0 none 0 0, .int .i64 0, .int .i64 52]) ∧ Below w.heap.size w w' := by
  rw [frV_zero]
  have hs := size_lt (l := l.drop i) (fun c hc => hr.2.1 c (List.mem_of_mem_drop hc))
  have hb4 := getD_lt (l := l.drop i) (fun c hc => hr.2.1 c (List.mem_of_mem_drop hc)) 4
  have hb5 := getD_lt (l := l.drop i) (fun c hc => hr.2.1 c (List.mem_of_mem_drop hc)) 5
  have h1m : ¬ most < 512 := by omega
  have HRD := hide (fun o => hr.below (below_box w o))
  have HN0 := hide (fun W (hW : Rd W a n l) => refnum_any a n cap i 4 l W (by omega) (by omega) hn hW (i : Int) 4 rfl rfl)
  change Hid (∀ W, _ → Calls _ _ _ W fun e w' => e = .returned (.int .i64 ((hSize (l.drop i) : Nat) : Int)) ∧ _) at HN0
  generalize hSize (l.drop i) = S at *
  obtain ⟨O, hO⟩ : ∃ O, O = (l.drop i).getD 4 0 := ⟨_, rfl⟩
  have HBD : hBegin (l.drop i) = O * 4 := by rw [hO]; rfl
  try rw [HBD] at h4
  try rw [HBD] at h5
  rw [← hO] at hb4
  rw [drop_getD] at hO
  have HC4 : Hid (∃ b off, a = some ⟨b, off, none⟩ ∧ ∀ o, (w.alloc o).cell? ⟨b, off + (i + 4), none⟩ = some (.int .u8 (O : Int))) := by
    obtain ⟨b, off, ha, hlt, hc⟩ := hr.2.2 (by omega)
    exact ⟨b, off, ha, fun o => by rw [World.cell?_alloc_past _ _ _ hlt, hc (i + 4) (by omega), hO]⟩
  clear hr
  clear hO HBD
  obtain ⟨b, off, rfl, hc4⟩ := HC4.out
  have hx4 : (i : Int) + 4 < (n : Int) := by omega
  go_enter Try.func15, Try.ntmps15
  go_wp2_with fail
  refine (HN0.out _ (HRD.out _)).mono ?_
  rintro e w0 ⟨rfl, rfl⟩
  go_wp2
  exact bodyPost_ret (v := .tuple #[.agg #[.int .i64 0, .int .i64 0, .slice none 0 0, .slice none 0 0], .int .i64 0, .int .i64 52]) (by simp [results, Try.results15, go_sem]) rfl ⟨rfl, below_box _ _⟩

set_option maxRecDepth 100000 in
set_option maxHeartbeats 1000000 in
theorem refopen_short6 (a : Option Addr) (n cap i : Nat) (most : Int) (l : List Nat) (w : World) (hr : Rd w a n l) (hn : n ≤ 281474976710656) (hi : i ≤ n) (hm0 : 512 ≤ most) (hm1 : most ≤ 1048576) (h1 : 5 ≤ n - i) (h0 : n - i < 6) (h2 : 8 ≤ hSize (l.drop i)) (h3 : (hSize (l.drop i) : Int) ≤ most) (h4 : 8 ≤ hBegin (l.drop i)) (h5 : hBegin (l.drop i) ≤ hSize (l.drop i)) :
    Calls Try.prog 15 #[.slice a n cap, .int .i64 (i : Int), .int .i64 most] w fun e w' => e = .returned (.tuple #[frV 0 0 none 0 0 none 0 0, .int .i64 0, .int .i64 10]) ∧ Below w.heap.size w w' := by
  rw [frV_zero]
  have hs := size_lt (l := l.drop i) (fun c hc => hr.2.1 c (List.mem_of_mem_drop hc))
  have hb4 := getD_lt (l := l.drop i) (fun c hc => hr.2.1 c (List.mem_of_mem_drop hc)) 4
  have hb5 := getD_lt (l := l.drop i) (fun c hc => hr.2.1 c (List.mem_of_mem_drop hc)) 5
  have h1m : ¬ most < 512 := by omega
  have HRD := hide (fun o => hr.below (below_box w o))
  have HN0 := hide (fun W (hW : Rd W a n l) => refnum_any a n cap i 4 l W (by omega) (by omega) hn hW (i : Int) 4 rfl rfl)
  change Hid (∀ W, _ → Calls _ _ _ W fun e w' => e = .returned (.int .i64 ((hSize (l.drop i) : Nat) : Int)) ∧ _) at HN0
  generalize hSize (l.drop i) = S at *
  obtain ⟨O, hO⟩ : ∃ O, O = (l.drop i).getD 4 0 := ⟨_, rfl⟩
  have HBD : hBegin (l.drop i) = O * 4 := by rw [hO]; rfl
  try rw [HBD] at h4
  try rw [HBD] at h5
  rw [← hO] at hb4
  rw [drop_getD] at hO
  have HC4 : Hid (∃ b off, a = some ⟨b, off, none⟩ ∧ ∀ o, (w.alloc o).cell? ⟨b, off + (i + 4), none⟩ = some (.int .u8 (O : Int))) := by
    obtain ⟨b, off, ha, hlt, hc⟩ := hr.2.2 (by omega)
    exact ⟨b, off, ha, fun o => by rw [World.cell?_alloc_past _ _ _ hlt, hc (i + 4) (by omega), hO]⟩
  clear hr
  clear hO HBD
  obtain ⟨b, off, rfl, hc4⟩ := HC4.out
  have hx4 : (i : Int) + 4 < (n : Int) := by omega
  go_enter Try.func15, Try.ntmps15
  go_wp2_with fail
  refine (HN0.out _ (HRD.out _)).mono ?_
  rintro e w0 ⟨rfl, rfl⟩
  go_wp2
  exact bodyPost_ret (v := .tuple #[.agg #[.int .i64 0, .int .i64 0, .slice none 0 0, .slice none 0 0], .int .i64 0, .int .i64 10]) (by simp [results, Try.results15, go_sem]) rfl ⟨rfl, below_box _ _⟩

set_option maxRecDepth 100000 in
set_option maxHeartbeats 1000000 in
theorem refopen_kind (a : Option Addr) (n cap i : Nat) (most : Int) (l : List Nat) (w : World) (hr : Rd w a n l) (hn : n ≤ 281474976710656) (hi : i ≤ n) (hm0 : 512 ≤ most) (hm1 : most ≤ 1048576) (h1 : 6 ≤ n - i) (h2 : 8 ≤ hSize (l.drop i)) (h3 : (hSize (l.drop i) : Int) ≤ most) (h4 : 8 ≤ hBegin (l.drop i)) (h5 : hBegin (l.drop i) ≤ hSize (l.drop i)) (h6 : 1 < hKind (l.drop i)) :
    Calls Try.prog 15 #[.slice a n cap, .int .i64 (i : Int), .int .i64 most] w fun e w' => e = .returned (.tuple #[frV 0 0 none 0 0 none 0 0, .int .i64 0, .int .i64 53]) ∧ Below w.heap.size w w' := by
  rw [frV_zero]
  have hs := size_lt (l := l.drop i) (fun c hc => hr.2.1 c (List.mem_of_mem_drop hc))
  have hb4 := getD_lt (l := l.drop i) (fun c hc => hr.2.1 c (List.mem_of_mem_drop hc)) 4
  have hb5 := getD_lt (l := l.drop i) (fun c hc => hr.2.1 c (List.mem_of_mem_drop hc)) 5
  have h1m : ¬ most < 512 := by omega
  have HRD := hide (fun o => hr.below (below_box w o))
  have HN0 := hide (fun W (hW : Rd W a n l) => refnum_any a n cap i 4 l W (by omega) (by omega) hn hW (i : Int) 4 rfl rfl)
  change Hid (∀ W, _ → Calls _ _ _ W fun e w' => e = .returned (.int .i64 ((hSize (l.drop i) : Nat) : Int)) ∧ _) at HN0
  generalize hSize (l.drop i) = S at *
  obtain ⟨O, hO⟩ : ∃ O, O = (l.drop i).getD 4 0 := ⟨_, rfl⟩
  have HBD : hBegin (l.drop i) = O * 4 := by rw [hO]; rfl
  try rw [HBD] at h4
  try rw [HBD] at h5
  rw [← hO] at hb4
  rw [drop_getD] at hO
  have HC4 : Hid (∃ b off, a = some ⟨b, off, none⟩ ∧ ∀ o, (w.alloc o).cell? ⟨b, off + (i + 4), none⟩ = some (.int .u8 (O : Int))) := by
    obtain ⟨b, off, ha, hlt, hc⟩ := hr.2.2 (by omega)
    exact ⟨b, off, ha, fun o => by rw [World.cell?_alloc_past _ _ _ hlt, hc (i + 4) (by omega), hO]⟩
  obtain ⟨K, hK⟩ : ∃ K, K = (l.drop i).getD 5 0 := ⟨_, rfl⟩
  have HKD : hKind (l.drop i) = K := by rw [hK]; rfl
  try rw [HKD] at h6
  rw [← hK] at hb5
  rw [drop_getD] at hK
  have HC5 : Hid (∀ b off, a = some ⟨b, off, none⟩ → ∀ o, (w.alloc o).cell? ⟨b, off + (i + 5), none⟩ = some (.int .u8 (K : Int))) := fun b' off' ha' => by
    obtain ⟨b, off, ha, hlt, hc⟩ := hr.2.2 (by omega)
    rw [ha] at ha'
    cases ha'
    exact fun o => by rw [World.cell?_alloc_past _ _ _ hlt, hc (i + 5) (by omega), hK]
  clear hr
  clear hO HBD
  obtain ⟨b, off, rfl, hc4⟩ := HC4.out
  have hx4 : (i : Int) + 4 < (n : Int) := by omega
  clear hK HKD
  have hc5 := HC5.out b off rfl
  have hx5 : (i : Int) + 5 < (n : Int) := by omega
  go_enter Try.func15, Try.ntmps15
  go_wp2_with fail
  refine (HN0.out _ (HRD.out _)).mono ?_
  rintro e w0 ⟨rfl, rfl⟩
  go_wp2
  exact bodyPost_ret (v := .tuple #[.agg #[.int .i64 0, .int .i64 0, .slice none 0 0, .slice none 0 0], .int .i64 0, .int .i64 53]) (by simp [results, Try.results15, go_sem]) rfl ⟨rfl, below_box _ _⟩

set_option maxRecDepth 100000 in
set_option maxHeartbeats 1000000 in
theorem refopen_short (a : Option Addr) (n cap i : Nat) (most : Int) (l : List Nat) (w : World) (hr : Rd w a n l) (hn : n ≤ 281474976710656) (hi : i ≤ n) (hm0 : 512 ≤ most) (hm1 : most ≤ 1048576) (h1 : 6 ≤ n - i) (h2 : 8 ≤ hSize (l.drop i)) (h3 : (hSize (l.drop i) : Int) ≤ most) (h4 : 8 ≤ hBegin (l.drop i)) (h5 : hBegin (l.drop i) ≤ hSize (l.drop i)) (h6 : hKind (l.drop i) ≤ 1) (h7 : n - i < hSize (l.drop i)) :
    Calls Try.prog 15 #[.slice a n cap, .int .i64 (i : Int), .int .i64 most] w fun e w' => e = .returned (.tuple #[frV 0 0 none 0 0 none 0 0, .int .i64 0, .int .i64 10]) ∧ Below w.heap.size w w' := by
  rw [frV_zero]
  have hs := size_lt (l := l.drop i) (fun c hc => hr.2.1 c (List.mem_of_mem_drop hc))
  have hb4 := getD_lt (l := l.drop i) (fun c hc => hr.2.1 c (List.mem_of_mem_drop hc)) 4
  have hb5 := getD_lt (l := l.drop i) (fun c hc => hr.2.1 c (List.mem_of_mem_drop hc)) 5
  have h1m : ¬ most < 512 := by omega
  have HRD := hide (fun o => hr.below (below_box w o))
  have HN0 := hide (fun W (hW : Rd W a n l) => refnum_any a n cap i 4 l W (by omega) (by omega) hn hW (i : Int) 4 rfl rfl)
  change Hid (∀ W, _ → Calls _ _ _ W fun e w' => e = .returned (.int .i64 ((hSize (l.drop i) : Nat) : Int)) ∧ _) at HN0
  generalize hSize (l.drop i) = S at *
  obtain ⟨O, hO⟩ : ∃ O, O = (l.drop i).getD 4 0 := ⟨_, rfl⟩
  have HBD : hBegin (l.drop i) = O * 4 := by rw [hO]; rfl
  try rw [HBD] at h4
  try rw [HBD] at h5
  rw [← hO] at hb4
  rw [drop_getD] at hO
  have HC4 : Hid (∃ b off, a = some ⟨b, off, none⟩ ∧ ∀ o, (w.alloc o).cell? ⟨b, off + (i + 4), none⟩ = some (.int .u8 (O : Int))) := by
    obtain ⟨b, off, ha, hlt, hc⟩ := hr.2.2 (by omega)
    exact ⟨b, off, ha, fun o => by rw [World.cell?_alloc_past _ _ _ hlt, hc (i + 4) (by omega), hO]⟩
  obtain ⟨K, hK⟩ : ∃ K, K = (l.drop i).getD 5 0 := ⟨_, rfl⟩
  have HKD : hKind (l.drop i) = K := by rw [hK]; rfl
  try rw [HKD] at h6
  rw [← hK] at hb5
  rw [drop_getD] at hK
  have HC5 : Hid (∀ b off, a = some ⟨b, off, none⟩ → ∀ o, (w.alloc o).cell? ⟨b, off + (i + 5), none⟩ = some (.int .u8 (K : Int))) := fun b' off' ha' => by
    obtain ⟨b, off, ha, hlt, hc⟩ := hr.2.2 (by omega)
    rw [ha] at ha'
    cases ha'
    exact fun o => by rw [World.cell?_alloc_past _ _ _ hlt, hc (i + 5) (by omega), hK]
  clear hr
  clear hO HBD
  obtain ⟨b, off, rfl, hc4⟩ := HC4.out
  have hx4 : (i : Int) + 4 < (n : Int) := by omega
  clear hK HKD
  have hc5 := HC5.out b off rfl
  have hx5 : (i : Int) + 5 < (n : Int) := by omega
  go_enter Try.func15, Try.ntmps15
  go_wp2_with fail
  refine (HN0.out _ (HRD.out _)).mono ?_
  rintro e w0 ⟨rfl, rfl⟩
  go_wp2
  exact bodyPost_ret (v := .tuple #[.agg #[.int .i64 0, .int .i64 0, .slice none 0 0, .slice none 0 0], .int .i64 0, .int .i64 10]) (by simp [results, Try.results15, go_sem]) rfl ⟨rfl, below_box _ _⟩

theorem refopen_bad (a : Option Addr) (n cap i : Nat) (most : Int) (l : List Nat) (w : World) (hr : Rd w a n l) (hn : n ≤ 281474976710656) (hi : i ≤ n) (hm0 : 512 ≤ most) (hm1 : most ≤ 1048576) (hE0 : hE (l.drop i) most ≠ 0) :
    Calls Try.prog 15 #[.slice a n cap, .int .i64 (i : Int), .int .i64 most] w fun e w' => e = .returned (.tuple #[frV 0 0 none 0 0 none 0 0, .int .i64 0, .int .i64 (hE (l.drop i) most)]) ∧ Below w.heap.size w w' := by
  rcases hE_ways (l.drop i) most (n - i) (by simp [hr.1]) with ⟨h1, e⟩ | ⟨h1, h2, e⟩ | ⟨h1, h2, h3, e⟩ | ⟨h1, h2, h3, h4, e⟩ | ⟨h1, h2, h3, h4, e⟩ | ⟨h1, h2, h3, h4, h5, e⟩ | ⟨h1, h2, h3, h4, h5, h6, e⟩ | ⟨h1, h2, h3, h4, h5, h6, e⟩ | ⟨h1, h2, h3, h4, h5, h6, h7, e⟩ | ⟨h1, h2, h3, h4, h5, h6, h7, e⟩
  · rw [e]; exact refopen_short4 a n cap i most l w hr hn hi hm0 hm1 h1
  · rw [e]; exact refopen_small a n cap i most l w hr hn hi hm0 hm1 h1 h2
  · rw [e]; exact refopen_great a n cap i most l w hr hn hi hm0 hm1 h1 h2 h3
  · rw [e]; exact refopen_short5 a n cap i most l w hr hn hi hm0 hm1 h1 h2 h3 h4
  · rw [e]; exact refopen_off8 a n cap i most l w hr hn hi hm0 hm1 h1 h2 h3 h4
  · rw [e]; exact refopen_offg a n cap i most l w hr hn hi hm0 hm1 h1 h2 h3 h4 h5
  · rw [e]; exact refopen_short6 a n cap i most l w hr hn hi hm0 hm1 h1 h2 h3 h4 h5 h6
  · rw [e]; exact refopen_kind a n cap i most l w hr hn hi hm0 hm1 h1 h2 h3 h4 h5 h6
  · rw [e]; exact refopen_short a n cap i most l w hr hn hi hm0 hm1 h1 h2 h3 h4 h5 h6 h7
  · exact absurd e hE0
end Go.Proofs.Ytboacpneoblklaa
