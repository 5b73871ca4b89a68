
/- readHead. -/
import Derived.Test.YtaijcnkmklibcaaFOpenH
namespace Go.Proofs.Ytaijcnkmklibcaa
open Go.RowKit Go.Deep
set_option linter.unusedVariables false
set_option linter.unusedSimpArgs false

/-- a head as it is handed over -/
def hdV (s b k c : Int) : Value := .agg #[.int .i64 s, .int .i64 b, .int .i64 k, .int .i64 c]
theorem size_lt {l : List Nat} (h : ∀ c ∈ l, c < 256) : hSize l < 4294967296 := by
  have h2 := getN_lt (l.take 4) (fun c hc => h c (List.mem_of_mem_take hc))
  have h3 : 256 ^ (l.take 4).length ≤ 256 ^ 4 := Nat.pow_le_pow_right (by omega) (by rw [List.length_take]; omega)
  have h4 : (256 : Nat) ^ 4 = 4294967296 := by decide
  unfold hSize
  omega
theorem getD_lt {l : List Nat} (h : ∀ c ∈ l, c < 256) (i : Nat) : l.getD i 0 < 256 := by
  rw [List.getD_eq_getElem?_getD]
  cases hc : l[i]? with
  | none => simp
  | some c => exact h c (List.mem_of_getElem? hc)

set_option maxRecDepth 100000 in
set_option maxHeartbeats 1000000 in
theorem readHead_short4 (a : Option Addr) (n cap : Nat) (most : Int) (l : List Nat) (w : World) (hr : Rd w a n l) (hnc : n ≤ cap) (hcap : n ≤ 281474976710656) (h1 : n < 4) :
    Calls Try.prog 70 #[.slice a n cap, .int .i64 most] w fun e w' => e = .returned (.tuple #[hdV 0 0 0 0, .int .i64 10]) ∧ Below w.heap.size w w' := by
  have hln := hr.1
  have hs := size_lt hr.2.1
  have hb4 := getD_lt hr.2.1 4
  have hb5 := getD_lt hr.2.1 5
  have HN0 := hide (fun W => number_no a n cap 0 4 W (by omega) (by omega) (by omega) (by omega) (by omega) 0 4 rfl rfl)
  have HRD := hide (fun o => hr.below (below_box w o))
  unfold hdV
  clear hr
  go_enter Try.func70, Try.ntmps70
  go_wp2_with fail
  refine (HN0.out _).mono ?_
  rintro e w0 ⟨rfl, rfl⟩
  go_wp2
  refine bodyPost_ret (v := .tuple #[.agg #[.int .i64 0, .int .i64 0, .int .i64 0, .int .i64 0], .int .i64 10]) (by simp [results, Try.results70, go_sem]) rfl ⟨rfl, ?_⟩
  exact below_box _ _

set_option maxRecDepth 100000 in
set_option maxHeartbeats 1000000 in
theorem readHead_small (a : Option Addr) (n cap : Nat) (most : Int) (l : List Nat) (w : World) (hr : Rd w a n l) (hnc : n ≤ cap) (hcap : n ≤ 281474976710656) (h1 : 4 ≤ n) (h2 : hSize l < 8) :
    Calls Try.prog 70 #[.slice a n cap, .int .i64 most] w fun e w' => e = .returned (.tuple #[hdV 0 0 0 0, .int .i64 51]) ∧ Below w.heap.size w w' := by
  have hln := hr.1
  have hs := size_lt hr.2.1
  have hb4 := getD_lt hr.2.1 4
  have hb5 := getD_lt hr.2.1 5
  have HN0 := hide (fun W (hW : Rd W a n l) => number_yes a n cap 0 4 l W (by omega) (by omega) (by omega) hnc (by omega) hW 0 4 rfl rfl)
  rw [List.drop_zero] at HN0
  change Hid (∀ W, _ → Calls _ _ _ W fun e w' => e = .returned (.tuple #[.int .i64 ((hSize l : Nat) : Int), _]) ∧ _) at HN0
  have HRD := hide (fun o => hr.below (below_box w o))
  unfold hdV
  generalize hSize l = S at *
  clear hr
  go_enter Try.func70, Try.ntmps70
  go_wp2_with fail
  refine (HN0.out _ (by first | exact HRD.out _ | exact HRD2.out)).mono ?_
  rintro e w0 ⟨rfl, rfl⟩
  go_wp2
  refine bodyPost_ret (v := .tuple #[.agg #[.int .i64 0, .int .i64 0, .int .i64 0, .int .i64 0], .int .i64 51]) (by simp [results, Try.results70, go_sem]) rfl ⟨rfl, ?_⟩
  exact below_box _ _

set_option maxRecDepth 100000 in
set_option maxHeartbeats 1000000 in
theorem readHead_great (a : Option Addr) (n cap : Nat) (most : Int) (l : List Nat) (w : World) (hr : Rd w a n l) (hnc : n ≤ cap) (hcap : n ≤ 281474976710656) (h1 : 4 ≤ n) (h2 : 8 ≤ hSize l) (h3 : most < hSize l) :
    Calls Try.prog 70 #[.slice a n cap, .int .i64 most] w fun e w' => e = .returned (.tuple #[hdV 0 0 0 0, .int .i64 51]) ∧ Below w.heap.size w w' := by
  have hln := hr.1
  have hs := size_lt hr.2.1
  have hb4 := getD_lt hr.2.1 4
  have hb5 := getD_lt hr.2.1 5
  have HN0 := hide (fun W (hW : Rd W a n l) => number_yes a n cap 0 4 l W (by omega) (by omega) (by omega) hnc (by omega) hW 0 4 rfl rfl)
  rw [List.drop_zero] at HN0
  change Hid (∀ W, _ → Calls _ _ _ W fun e w' => e = .returned (.tuple #[.int .i64 ((hSize l : Nat) : Int), _]) ∧ _) at HN0
  have HRD := hide (fun o => hr.below (below_box w o))
  unfold hdV
  generalize hSize l = S at *
  clear hr
  go_enter Try.func70, Try.ntmps70
  go_wp2_with fail
  refine (HN0.out _ (by first | exact HRD.out _ | exact HRD2.out)).mono ?_
  rintro e w0 ⟨rfl, rfl⟩
  go_wp2
  refine bodyPost_ret (v := .tuple #[.agg #[.int .i64 0, .int .i64 0, .int .i64 0, .int .i64 0], .int .i64 51]) (by simp [results, Try.results70, go_sem]) rfl ⟨rfl, ?_⟩
  exact below_box _ _

set_option maxRecDepth 100000 in
set_option maxHeartbeats 1000000 in
theorem readHead_short5 (a : Option Addr) (n cap : Nat) (most : Int) (l : List Nat) (w : World) (hr : Rd w a n l) (hnc : n ≤ cap) (hcap : n ≤ 281474976710656) (h1 : 4 ≤ n) (h2 : 8 ≤ hSize l) (h3 : (hSize l : Int) ≤ most) (h0 : n < 5) :
    Calls Try.prog 70 #[.slice a n cap, .int .i64 most] w fun e w' => e = .returned (.tuple #[hdV 0 0 0 0, .int .i64 10]) ∧ Below w.heap.size w w' := by
  have hln := hr.1
  have hs := size_lt hr.2.1
  have hb4 := getD_lt hr.2.1 4
  have hb5 := getD_lt hr.2.1 5
  have HN0 := hide (fun W (hW : Rd W a n l) => number_yes a n cap 0 4 l W (by omega) (by omega) (by omega) hnc (by omega) hW 0 4 rfl rfl)
  rw [List.drop_zero] at HN0
  change Hid (∀ W, _ → Calls _ _ _ W fun e w' => e = .returned (.tuple #[.int .i64 ((hSize l : Nat) : Int), _]) ∧ _) at HN0
  have HN4 := hide (fun W => number_no a n cap 4 1 W (by omega) (by omega) (by omega) (by omega) (by omega) 4 5 rfl rfl)
  have HRD := hide (fun o => hr.below (below_box w o))
  unfold hdV
  generalize hSize l = S at *
  clear hr
  go_enter Try.func70, Try.ntmps70
  go_wp2_with fail
  refine (HN0.out _ (by first | exact HRD.out _ | exact HRD2.out)).mono ?_
  rintro e w0 ⟨rfl, rfl⟩
  go_wp2_with fail
  refine (HN4.out _).mono ?_
  rintro e w0 ⟨rfl, rfl⟩
  go_wp2
  refine bodyPost_ret (v := .tuple #[.agg #[.int .i64 0, .int .i64 0, .int .i64 0, .int .i64 0], .int .i64 10]) (by simp [results, Try.results70, go_sem]) rfl ⟨rfl, ?_⟩
  exact below_box _ _

set_option maxRecDepth 100000 in
set_option maxHeartbeats 1000000 in
theorem readHead_off8 (a : Option Addr) (n cap : Nat) (most : Int) (l : List Nat) (w : World) (hr : Rd w a n l) (hnc : n ≤ cap) (hcap : n ≤ 281474976710656) (h1 : 5 ≤ n) (h2 : 8 ≤ hSize l) (h3 : (hSize l : Int) ≤ most) (h4 : hBegin l < 8) :
    Calls Try.prog 70 #[.slice a n cap, .int .i64 most] w fun e w' => e = .returned (.tuple #[hdV 0 0 0 0, .int .i64 52]) ∧ Below w.heap.size w w' := by
  have hln := hr.1
  have hs := size_lt hr.2.1
  have hb4 := getD_lt hr.2.1 4
  have hb5 := getD_lt hr.2.1 5
  have HN0 := hide (fun W (hW : Rd W a n l) => number_yes a n cap 0 4 l W (by omega) (by omega) (by omega) hnc (by omega) hW 0 4 rfl rfl)
  rw [List.drop_zero] at HN0
  change Hid (∀ W, _ → Calls _ _ _ W fun e w' => e = .returned (.tuple #[.int .i64 ((hSize l : Nat) : Int), _]) ∧ _) at HN0
  have HN4 := hide (fun W (hW : Rd W a n l) => number_yes a n cap 4 1 l W (by omega) (by omega) (by omega) hnc (by omega) hW 4 5 rfl rfl)
  rw [getN_one l 4 (by omega)] at HN4
  have HRD := hide (fun o => hr.below (below_box w o))
  unfold hdV
  generalize hSize l = S at *
  obtain ⟨O, hO⟩ : ∃ O, O = l.getD 4 0 := ⟨_, rfl⟩
  have HBD : hBegin l = O * 4 := by rw [hO]; rfl
  rw [← hO] at HN4 hb4
  try rw [HBD] at h4
  try rw [HBD] at h5
  clear hO HBD
  clear hr
  go_enter Try.func70, Try.ntmps70
  go_wp2_with fail
  refine (HN0.out _ (by first | exact HRD.out _ | exact HRD2.out)).mono ?_
  rintro e w0 ⟨rfl, rfl⟩
  go_wp2_with fail
  refine (HN4.out _ (by first | exact HRD.out _ | exact HRD2.out)).mono ?_
  rintro e w0 ⟨rfl, rfl⟩
  go_wp2
  refine bodyPost_ret (v := .tuple #[.agg #[.int .i64 0, .int .i64 0, .int .i64 0, .int .i64 0], .int .i64 52]) (by simp [results, Try.results70, go_sem]) rfl ⟨rfl, ?_⟩
  exact below_box _ _

set_option maxRecDepth 100000 in
set_option maxHeartbeats 1000000 in
theorem readHead_offg (a : Option Addr) (n cap : Nat) (most : Int) (l : List Nat) (w : World) (hr : Rd w a n l) (hnc : n ≤ cap) (hcap : n ≤ 281474976710656) (h1 : 5 ≤ n) (h2 : 8 ≤ hSize l) (h3 : (hSize l : Int) ≤ most) (h4 : 8 ≤ hBegin l) (h5 : hSize l < hBegin l) :
    Calls Try.prog 70 #[.slice a n cap, .int .i64 most] w fun e w' => e = .returned (.tuple #[hdV 0 0 0 0, .int .i64 52]) ∧ Below w.heap.size w w' := by
  have hln := hr.1
  have hs := size_lt hr.2.1
  have hb4 := getD_lt hr.2.1 4
  have hb5 := getD_lt hr.2.1 5
  have HN0 := hide (fun W (hW : Rd W a n l) => number_yes a n cap 0 4 l W (by omega) (by omega) (by omega) hnc (by omega) hW 0 4 rfl rfl)
  rw [List.drop_zero] at HN0
  change Hid (∀ W, _ → Calls _ _ _ W fun e w' => e = .returned (.tuple #[.int .i64 ((hSize l : Nat) : Int), _]) ∧ _) at HN0
  have HN4 := hide (fun W (hW : Rd W a n l) => number_yes a n cap 4 1 l W (by omega) (by omega) (by omega) hnc (by omega) hW 4 5 rfl rfl)
  rw [getN_one l 4 (by omega)] at HN4
  have HRD := hide (fun o => hr.below (below_box w o))
  unfold hdV
  generalize hSize l = S at *
  obtain ⟨O, hO⟩ : ∃ O, O = l.getD 4 0 := ⟨_, rfl⟩
  have HBD : hBegin l = O * 4 := by rw [hO]; rfl
  rw [← hO] at HN4 hb4
  try rw [HBD] at h4
  try rw [HBD] at h5
  clear hO HBD
  clear hr
  go_enter Try.func70, Try.ntmps70
  go_wp2_with fail
  refine (HN0.out _ (by first | exact HRD.out _ | exact HRD2.out)).mono ?_
  rintro e w0 ⟨rfl, rfl⟩
  go_wp2_with fail
  refine (HN4.out _ (by first | exact HRD.out _ | exact HRD2.out)).mono ?_
  rintro e w0 ⟨rfl, rfl⟩
  go_wp2
  refine bodyPost_ret (v := .tuple #[.agg #[.int .i64 0, .int .i64 0, .int .i64 0, .int .i64 0], .int .i64 52]) (by simp [results, Try.results70, go_sem]) rfl ⟨rfl, ?_⟩
  exact below_box _ _

set_option maxRecDepth 100000 in
set_option maxHeartbeats 1000000 in
theorem readHead_short6 (a : Option Addr) (n cap : Nat) (most : Int) (l : List Nat) (w : World) (hr : Rd w a n l) (hnc : n ≤ cap) (hcap : n ≤ 281474976710656) (h1 : 5 ≤ n) (h0 : n < 6) (h2 : 8 ≤ hSize l) (h3 : (hSize l : Int) ≤ most) (h4 : 8 ≤ hBegin l) (h5 : hBegin l ≤ hSize l) :
    Calls Try.prog 70 #[.slice a n cap, .int .i64 most] w fun e w' => e = .returned (.tuple #[hdV 0 0 0 0, .int .i64 10]) ∧ Below w.heap.size w w' := by
  have hln := hr.1
  have hs := size_lt hr.2.1
  have hb4 := getD_lt hr.2.1 4
  have hb5 := getD_lt hr.2.1 5
  have HN0 := hide (fun W (hW : Rd W a n l) => number_yes a n cap 0 4 l W (by omega) (by omega) (by omega) hnc (by omega) hW 0 4 rfl rfl)
  rw [List.drop_zero] at HN0
  change Hid (∀ W, _ → Calls _ _ _ W fun e w' => e = .returned (.tuple #[.int .i64 ((hSize l : Nat) : Int), _]) ∧ _) at HN0
  have HN4 := hide (fun W (hW : Rd W a n l) => number_yes a n cap 4 1 l W (by omega) (by omega) (by omega) hnc (by omega) hW 4 5 rfl rfl)
  rw [getN_one l 4 (by omega)] at HN4
  have HN5 := hide (fun W => number_no a n cap 5 1 W (by omega) (by omega) (by omega) (by omega) (by omega) 5 6 rfl rfl)
  have HRD := hide (fun o => hr.below (below_box w o))
  unfold hdV
  generalize hSize l = S at *
  obtain ⟨O, hO⟩ : ∃ O, O = l.getD 4 0 := ⟨_, rfl⟩
  have HBD : hBegin l = O * 4 := by rw [hO]; rfl
  rw [← hO] at HN4 hb4
  try rw [HBD] at h4
  try rw [HBD] at h5
  clear hO HBD
  clear hr
  go_enter Try.func70, Try.ntmps70
  go_wp2_with fail
  refine (HN0.out _ (by first | exact HRD.out _ | exact HRD2.out)).mono ?_
  rintro e w0 ⟨rfl, rfl⟩
  go_wp2_with fail
  refine (HN4.out _ (by first | exact HRD.out _ | exact HRD2.out)).mono ?_
  rintro e w0 ⟨rfl, rfl⟩
  go_wp2_with fail
  refine (HN5.out _).mono ?_
  rintro e w0 ⟨rfl, rfl⟩
  go_wp2
  refine bodyPost_ret (v := .tuple #[.agg #[.int .i64 0, .int .i64 0, .int .i64 0, .int .i64 0], .int .i64 10]) (by simp [results, Try.results70, go_sem]) rfl ⟨rfl, ?_⟩
  exact below_box _ _

set_option maxRecDepth 100000 in
set_option maxHeartbeats 1000000 in
theorem readHead_kind (a : Option Addr) (n cap : Nat) (most : Int) (l : List Nat) (w : World) (hr : Rd w a n l) (hnc : n ≤ cap) (hcap : n ≤ 281474976710656) (h1 : 6 ≤ n) (h2 : 8 ≤ hSize l) (h3 : (hSize l : Int) ≤ most) (h4 : 8 ≤ hBegin l) (h5 : hBegin l ≤ hSize l) (h6 : 1 < hKind l) :
    Calls Try.prog 70 #[.slice a n cap, .int .i64 most] w fun e w' => e = .returned (.tuple #[hdV 0 0 0 0, .int .i64 53]) ∧ Below w.heap.size w w' := by
  have hln := hr.1
  have hs := size_lt hr.2.1
  have hb4 := getD_lt hr.2.1 4
  have hb5 := getD_lt hr.2.1 5
  have HN0 := hide (fun W (hW : Rd W a n l) => number_yes a n cap 0 4 l W (by omega) (by omega) (by omega) hnc (by omega) hW 0 4 rfl rfl)
  rw [List.drop_zero] at HN0
  change Hid (∀ W, _ → Calls _ _ _ W fun e w' => e = .returned (.tuple #[.int .i64 ((hSize l : Nat) : Int), _]) ∧ _) at HN0
  have HN4 := hide (fun W (hW : Rd W a n l) => number_yes a n cap 4 1 l W (by omega) (by omega) (by omega) hnc (by omega) hW 4 5 rfl rfl)
  rw [getN_one l 4 (by omega)] at HN4
  have HN5 := hide (fun W (hW : Rd W a n l) => number_yes a n cap 5 1 l W (by omega) (by omega) (by omega) hnc (by omega) hW 5 6 rfl rfl)
  rw [getN_one l 5 (by omega)] at HN5
  have HRD := hide (fun o => hr.below (below_box w o))
  unfold hdV
  generalize hSize l = S at *
  obtain ⟨O, hO⟩ : ∃ O, O = l.getD 4 0 := ⟨_, rfl⟩
  have HBD : hBegin l = O * 4 := by rw [hO]; rfl
  rw [← hO] at HN4 hb4
  try rw [HBD] at h4
  try rw [HBD] at h5
  clear hO HBD
  obtain ⟨K, hK⟩ : ∃ K, K = l.getD 5 0 := ⟨_, rfl⟩
  have HKD : hKind l = K := by rw [hK]; rfl
  rw [← hK] at HN5 hb5
  try rw [HKD] at h6
  clear hK HKD
  clear hr
  go_enter Try.func70, Try.ntmps70
  go_wp2_with fail
  refine (HN0.out _ (by first | exact HRD.out _ | exact HRD2.out)).mono ?_
  rintro e w0 ⟨rfl, rfl⟩
  go_wp2_with fail
  refine (HN4.out _ (by first | exact HRD.out _ | exact HRD2.out)).mono ?_
  rintro e w0 ⟨rfl, rfl⟩
  go_wp2_with fail
  refine (HN5.out _ (by first | exact HRD.out _ | exact HRD2.out)).mono ?_
  rintro e w0 ⟨rfl, rfl⟩
  go_wp2_with fail
  refine (isType_no (K : Int) _ (by omega) (by omega)).mono ?_
  rintro e w0 ⟨rfl, rfl⟩
  go_wp2
  refine bodyPost_ret (v := .tuple #[.agg #[.int .i64 0, .int .i64 0, .int .i64 0, .int .i64 0], .int .i64 53]) (by simp [results, Try.results70, go_sem]) rfl ⟨rfl, ?_⟩
  exact below_box _ _

set_option maxRecDepth 100000 in
set_option maxHeartbeats 1000000 in
theorem readHead_short (a : Option Addr) (n cap : Nat) (most : Int) (l : List Nat) (w : World) (hr : Rd w a n l) (hnc : n ≤ cap) (hcap : n ≤ 281474976710656) (h1 : 6 ≤ n) (h2 : 8 ≤ hSize l) (h3 : (hSize l : Int) ≤ most) (h4 : 8 ≤ hBegin l) (h5 : hBegin l ≤ hSize l) (h6 : hKind l ≤ 1) (h7 : n < hSize l) :
    Calls Try.prog 70 #[.slice a n cap, .int .i64 most] w fun e w' => e = .returned (.tuple #[hdV 0 0 0 0, .int .i64 10]) ∧ Below w.heap.size w w' := by
  have hln := hr.1
  have hs := size_lt hr.2.1
  have hb4 := getD_lt hr.2.1 4
  have hb5 := getD_lt hr.2.1 5
  have HN0 := hide (fun W (hW : Rd W a n l) => number_yes a n cap 0 4 l W (by omega) (by omega) (by omega) hnc (by omega) hW 0 4 rfl rfl)
  rw [List.drop_zero] at HN0
  change Hid (∀ W, _ → Calls _ _ _ W fun e w' => e = .returned (.tuple #[.int .i64 ((hSize l : Nat) : Int), _]) ∧ _) at HN0
  have HN4 := hide (fun W (hW : Rd W a n l) => number_yes a n cap 4 1 l W (by omega) (by omega) (by omega) hnc (by omega) hW 4 5 rfl rfl)
  rw [getN_one l 4 (by omega)] at HN4
  have HN5 := hide (fun W (hW : Rd W a n l) => number_yes a n cap 5 1 l W (by omega) (by omega) (by omega) hnc (by omega) hW 5 6 rfl rfl)
  rw [getN_one l 5 (by omega)] at HN5
  have HRD := hide (fun o => hr.below (below_box w o))
  unfold hdV
  generalize hSize l = S at *
  obtain ⟨O, hO⟩ : ∃ O, O = l.getD 4 0 := ⟨_, rfl⟩
  have HBD : hBegin l = O * 4 := by rw [hO]; rfl
  rw [← hO] at HN4 hb4
  try rw [HBD] at h4
  try rw [HBD] at h5
  clear hO HBD
  obtain ⟨K, hK⟩ : ∃ K, K = l.getD 5 0 := ⟨_, rfl⟩
  have HKD : hKind l = K := by rw [hK]; rfl
  rw [← hK] at HN5 hb5
  try rw [HKD] at h6
  clear hK HKD
  clear hr
  go_enter Try.func70, Try.ntmps70
  go_wp2_with fail
  refine (HN0.out _ (by first | exact HRD.out _ | exact HRD2.out)).mono ?_
  rintro e w0 ⟨rfl, rfl⟩
  go_wp2_with fail
  refine (HN4.out _ (by first | exact HRD.out _ | exact HRD2.out)).mono ?_
  rintro e w0 ⟨rfl, rfl⟩
  go_wp2_with fail
  refine (HN5.out _ (by first | exact HRD.out _ | exact HRD2.out)).mono ?_
  rintro e w0 ⟨rfl, rfl⟩
  go_wp2_with fail
  refine (isType_yes (K : Int) _ (by omega)).mono ?_
  rintro e w0 ⟨rfl, rfl⟩
  go_wp2
  refine bodyPost_ret (v := .tuple #[.agg #[.int .i64 0, .int .i64 0, .int .i64 0, .int .i64 0], .int .i64 10]) (by simp [results, Try.results70, go_sem]) rfl ⟨rfl, ?_⟩
  exact below_box _ _

set_option maxRecDepth 100000 in
set_option maxHeartbeats 1000000 in
theorem readHead_ok1 (a : Option Addr) (n cap : Nat) (most : Int) (l : List Nat) (w : World) (hr : Rd w a n l) (hnc : n ≤ cap) (hcap : n ≤ 281474976710656) (h1 : 6 ≤ n) (h2 : 8 ≤ hSize l) (h3 : (hSize l : Int) ≤ most) (h4 : 8 ≤ hBegin l) (h5 : hBegin l ≤ hSize l) (h6 : hKind l = 1) (h7 : hSize l ≤ n) :
    Calls Try.prog 70 #[.slice a n cap, .int .i64 most] w fun e w' => e = .returned (.tuple #[hdV (hSize l) (hBegin l) (hKind l) (hChan l), .int .i64 0]) ∧ Below w.heap.size w w' := by
  have hln := hr.1
  have hs := size_lt hr.2.1
  have hb4 := getD_lt hr.2.1 4
  have hb5 := getD_lt hr.2.1 5
  have HN0 := hide (fun W (hW : Rd W a n l) => number_yes a n cap 0 4 l W (by omega) (by omega) (by omega) hnc (by omega) hW 0 4 rfl rfl)
  rw [List.drop_zero] at HN0
  change Hid (∀ W, _ → Calls _ _ _ W fun e w' => e = .returned (.tuple #[.int .i64 ((hSize l : Nat) : Int), _]) ∧ _) at HN0
  have HN4 := hide (fun W (hW : Rd W a n l) => number_yes a n cap 4 1 l W (by omega) (by omega) (by omega) hnc (by omega) hW 4 5 rfl rfl)
  rw [getN_one l 4 (by omega)] at HN4
  have HN5 := hide (fun W (hW : Rd W a n l) => number_yes a n cap 5 1 l W (by omega) (by omega) (by omega) hnc (by omega) hW 5 6 rfl rfl)
  rw [getN_one l 5 (by omega)] at HN5
  have HRD := hide (fun o => hr.below (below_box w o))
  unfold hdV
  have HCH : hChan l = 0 := by unfold hChan; rw [if_neg (by have : hKind l = l.getD 5 0 := rfl; omega)]
  rw [HCH, h6]
  generalize hSize l = S at *
  obtain ⟨O, hO⟩ : ∃ O, O = l.getD 4 0 := ⟨_, rfl⟩
  have HBD : hBegin l = O * 4 := by rw [hO]; rfl
  rw [← hO] at HN4 hb4
  try rw [HBD] at h4
  try rw [HBD] at h5
  rw [HBD]
  clear hO HBD
  rw [show ((O * 4 : Nat) : Int) = (O : Int) * 4 by omega]
  obtain ⟨K, hK⟩ : ∃ K, K = l.getD 5 0 := ⟨_, rfl⟩
  have HKD : hKind l = K := by rw [hK]; rfl
  rw [← hK] at HN5 hb5
  rw [HKD] at h6
  subst h6
  clear hK HKD
  clear hr
  go_enter Try.func70, Try.ntmps70
  go_wp2_with fail
  refine (HN0.out _ (by first | exact HRD.out _ | exact HRD2.out)).mono ?_
  rintro e w0 ⟨rfl, rfl⟩
  go_wp2_with fail
  refine (HN4.out _ (by first | exact HRD.out _ | exact HRD2.out)).mono ?_
  rintro e w0 ⟨rfl, rfl⟩
  go_wp2_with fail
  refine (HN5.out _ (by first | exact HRD.out _ | exact HRD2.out)).mono ?_
  rintro e w0 ⟨rfl, rfl⟩
  go_wp2_with fail
  refine (isType_yes 1 _ (by omega)).mono ?_
  rintro e w0 ⟨rfl, rfl⟩
  go_wp2
  refine bodyPost_ret (v := .tuple #[.agg #[.int .i64 (S : Int), .int .i64 ((O : Int) * 4), .int .i64 1, .int .i64 0], .int .i64 0]) (by simp [results, Try.results70, go_sem]) rfl ⟨rfl, ?_⟩
  exact (below_box _ _).alloc (by simp) _

set_option maxRecDepth 100000 in
set_option maxHeartbeats 1000000 in
theorem readHead_ok0 (a : Option Addr) (n cap : Nat) (most : Int) (l : List Nat) (w : World) (hr : Rd w a n l) (hnc : n ≤ cap) (hcap : n ≤ 281474976710656) (h1 : 6 ≤ n) (h2 : 8 ≤ hSize l) (h3 : (hSize l : Int) ≤ most) (h4 : 8 ≤ hBegin l) (h5 : hBegin l ≤ hSize l) (h6 : hKind l = 0) (h7 : hSize l ≤ n) :
    Calls Try.prog 70 #[.slice a n cap, .int .i64 most] w fun e w' => e = .returned (.tuple #[hdV (hSize l) (hBegin l) (hKind l) (hChan l), .int .i64 0]) ∧ Below w.heap.size w w' := by
  have hln := hr.1
  have hs := size_lt hr.2.1
  have hb4 := getD_lt hr.2.1 4
  have hb5 := getD_lt hr.2.1 5
  have HN0 := hide (fun W (hW : Rd W a n l) => number_yes a n cap 0 4 l W (by omega) (by omega) (by omega) hnc (by omega) hW 0 4 rfl rfl)
  rw [List.drop_zero] at HN0
  change Hid (∀ W, _ → Calls _ _ _ W fun e w' => e = .returned (.tuple #[.int .i64 ((hSize l : Nat) : Int), _]) ∧ _) at HN0
  have HN4 := hide (fun W (hW : Rd W a n l) => number_yes a n cap 4 1 l W (by omega) (by omega) (by omega) hnc (by omega) hW 4 5 rfl rfl)
  rw [getN_one l 4 (by omega)] at HN4
  have HN5 := hide (fun W (hW : Rd W a n l) => number_yes a n cap 5 1 l W (by omega) (by omega) (by omega) hnc (by omega) hW 5 6 rfl rfl)
  rw [getN_one l 5 (by omega)] at HN5
  have HN6 := hide (fun W (hW : Rd W a n l) => number_yes a n cap 6 2 l W (by omega) (by omega) (by omega) hnc (by omega) hW 6 8 rfl rfl)
  have HRD := hide (fun o => hr.below (below_box w o))
  unfold hdV
  have HCH : hChan l = getN ((l.drop 6).take 2) := by unfold hChan; rw [if_pos (by have : hKind l = l.getD 5 0 := rfl; omega)]
  rw [HCH, h6]
  have hcl : getN ((l.drop 6).take 2) < 65536 := by
    have g2 := getN_lt ((l.drop 6).take 2) (fun c hc => hr.2.1 c (List.mem_of_mem_drop (List.mem_of_mem_take hc)))
    have g3 : 256 ^ ((l.drop 6).take 2).length ≤ 256 ^ 2 := Nat.pow_le_pow_right (by omega) (by rw [List.length_take]; omega)
    have g4 : (256 : Nat) ^ 2 = 65536 := by decide
    omega
  generalize getN ((l.drop 6).take 2) = C at *
  have HRD2 := hide (fun o o2 => hr.below ((below_box w o).alloc (by simp) o2))
  generalize hSize l = S at *
  obtain ⟨O, hO⟩ : ∃ O, O = l.getD 4 0 := ⟨_, rfl⟩
  have HBD : hBegin l = O * 4 := by rw [hO]; rfl
  rw [← hO] at HN4 hb4
  try rw [HBD] at h4
  try rw [HBD] at h5
  rw [HBD]
  clear hO HBD
  rw [show ((O * 4 : Nat) : Int) = (O : Int) * 4 by omega]
  obtain ⟨K, hK⟩ : ∃ K, K = l.getD 5 0 := ⟨_, rfl⟩
  have HKD : hKind l = K := by rw [hK]; rfl
  rw [← hK] at HN5 hb5
  rw [HKD] at h6
  subst h6
  clear hK HKD
  clear hr
  go_enter Try.func70, Try.ntmps70
  go_wp2_with fail
  refine (HN0.out _ (by first | exact HRD.out _ | exact HRD2.out _ _)).mono ?_
  rintro e w0 ⟨rfl, rfl⟩
  go_wp2_with fail
  refine (HN4.out _ (by first | exact HRD.out _ | exact HRD2.out _ _)).mono ?_
  rintro e w0 ⟨rfl, rfl⟩
  go_wp2_with fail
  refine (HN5.out _ (by first | exact HRD.out _ | exact HRD2.out _ _)).mono ?_
  rintro e w0 ⟨rfl, rfl⟩
  go_wp2_with fail
  refine (isType_yes 0 _ (by omega)).mono ?_
  rintro e w0 ⟨rfl, rfl⟩
  go_wp2_with fail
  refine (HN6.out _ (by first | exact HRD.out _ | exact HRD2.out _ _)).mono ?_
  rintro e w0 ⟨rfl, rfl⟩
  go_wp2
  refine bodyPost_ret (v := .tuple #[.agg #[.int .i64 (S : Int), .int .i64 ((O : Int) * 4), .int .i64 0, .int .i64 (C : Int)], .int .i64 0]) (by simp [results, Try.results70, go_sem]) rfl ⟨rfl, ?_⟩
  exact (below_box _ _).alloc (by simp) _

theorem readHead_no (a : Option Addr) (n cap : Nat) (most : Int) (l : List Nat) (w : World) (hr : Rd w a n l) (hnc : n ≤ cap) (hcap : n ≤ 281474976710656) (hE0 : hE l most ≠ 0) :
    Calls Try.prog 70 #[.slice a n cap, .int .i64 most] w fun e w' => e = .returned (.tuple #[hdV 0 0 0 0, .int .i64 (hE l most)]) ∧ Below w.heap.size w w' := by
  rcases hE_ways l most n hr.1 with ⟨h1, e⟩ | ⟨h1, h2, e⟩ | ⟨h1, h2, h3, e⟩ | ⟨h1, h2, h3, h4, e⟩ | ⟨h1, h2, h3, h4, e⟩ | ⟨h1, h2, h3, h4, h5, e⟩ | ⟨h1, h2, h3, h4, h5, h6, e⟩ | ⟨h1, h2, h3, h4, h5, h6, e⟩ | ⟨h1, h2, h3, h4, h5, h6, h7, e⟩ | ⟨h1, h2, h3, h4, h5, h6, h7, e⟩
  · rw [e]; exact readHead_short4 a n cap most l w hr hnc hcap h1
  · rw [e]; exact readHead_small a n cap most l w hr hnc hcap h1 h2
  · rw [e]; exact readHead_great a n cap most l w hr hnc hcap h1 h2 h3
  · rw [e]; exact readHead_short5 a n cap most l w hr hnc hcap h1 h2 h3 h4
  · rw [e]; exact readHead_off8 a n cap most l w hr hnc hcap h1 h2 h3 h4
  · rw [e]; exact readHead_offg a n cap most l w hr hnc hcap h1 h2 h3 h4 h5
  · rw [e]; exact readHead_short6 a n cap most l w hr hnc hcap h1 h2 h3 h4 h5 h6
  · rw [e]; exact readHead_kind a n cap most l w hr hnc hcap h1 h2 h3 h4 h5 h6
  · rw [e]; exact readHead_short a n cap most l w hr hnc hcap h1 h2 h3 h4 h5 h6 h7
  · exact absurd e hE0
theorem readHead_ok (a : Option Addr) (n cap : Nat) (most : Int) (l : List Nat) (w : World) (hr : Rd w a n l) (hnc : n ≤ cap) (hcap : n ≤ 281474976710656) (hE0 : hE l most = 0) :
    Calls Try.prog 70 #[.slice a n cap, .int .i64 most] w fun e w' => e = .returned (.tuple #[hdV (hSize l) (hBegin l) (hKind l) (hChan l), .int .i64 0]) ∧ Below w.heap.size w w' := by
  obtain ⟨h1, h2, h3, h4, h5, h6, h7⟩ := hE_ok hE0
  rw [hr.1] at h1 h7
  by_cases hk : hKind l = 0
  · exact readHead_ok0 a n cap most l w hr hnc hcap h1 h2 h3 h4 h5 hk h7
  · exact readHead_ok1 a n cap most l w hr hnc hcap h1 h2 h3 h4 h5 (by omega) h7
end Go.Proofs.Ytaijcnkmklibcaa
