/- HRFit -/
import Derived.Test.YtgldcchleoklcaaGreatDoorK16
import Derived.Test.YtgldcchleoklcaaGreatDoorK34
import Derived.Test.YtgldcchleoklcaaGreatDoorK35
namespace Go.Proofs.YtgldcchleoklcaaGreatDoor

open Go.RowKit
set_option linter.unusedVariables false
set_option linter.unusedSimpArgs false
set_option maxRecDepth 100000 in
set_option maxHeartbeats 2000000 in
theorem among_any (n : Int) (ka : Option Addr) (ks : List Int) (M : Nat) (hM : ks.length = M) (w : World) (hk : 0 < M → ∃ b, ka = some ⟨b, 0, none⟩ ∧ b < w.heap.size ∧ Ints w b ks) (hl : M ≤ 100) :
    Calls Tryz.prog 116 #[.int .i64 n, .slice ka M M] w fun e w' => e = .returned (.bool (ks.contains n)) ∧ w' = w := by
  have HK := hide hk
  have HM := hide hM
  obtain ⟨r, hr⟩ : ∃ r, ks.contains n = r := ⟨_, rfl⟩
  rw [hr]
  have HR := hide hr
  clear hk hM hr
  go_enter Tryz.func116, Tryz.ntmps116
  go_wp2
  go_loopw [5] (fun i wr => ∃ j : Nat, i = .int .i64 j ∧ j ≤ M ∧ Hid (wr = w) ∧ Hid (∀ m (h : m < ks.length), m < j → ks[m] ≠ n)) (fun i _ => M - (intOf i).toNat)
  case atStart => exact ⟨0, rfl, Nat.zero_le _, rfl, fun m _ h => absurd h (by omega)⟩
  case round =>
    obtain ⟨j, rfl, hj, HW, HN⟩ := hrel
    have hw := HW.out
    subst hw
    by_cases hjM : j < M
    · obtain ⟨b, rfl, hb, hi⟩ := HK.out (by omega)
      have hjk : j < ks.length := by rw [HM.out]; exact hjM
      have hc : wr.cell? ⟨b, j, none⟩ = some (.int .i64 ks[j]) := by
        unfold World.cell?
        have h : wr.heap[b]? = _ := hi
        simp only [h]
        simp [hjk]
      by_cases he : ks[j] = n
      · have HT : Hid (r = true) := by
          rw [Hid, ← HR.out, List.contains_iff_mem]
          rw [← he]
          exact List.getElem_mem hjk
        rw [he] at hc
        clear hi he
        go_wp2
        go_ret
        exact ⟨congrArg (fun b => Ending.returned (Value.bool b)) HT.out.symm, rfl⟩
      · have heb : (ks[j] == n) = false := by simpa using he
        have HE := hide he
        clear hi he
        go_wp2
        go_roundw
        case rel => exact ⟨j + 1, by go_num, by omega, by trivial, fun m h hm => by
          by_cases e : m = j
          · subst e; exact HE.out
          · exact HN.out m h (by omega)⟩
        case measure => simp [intOf]; omega
    · obtain rfl : j = M := by omega
      have HT : Hid (r = false) := by
        rw [Hid, ← HR.out, Bool.eq_false_iff]
        intro h
        rw [List.contains_iff_mem] at h
        obtain ⟨m, hm, e⟩ := List.mem_iff_getElem.1 h
        exact HN.out m hm (by rw [HM.out] at hm; exact hm) e
      go_wp2
      go_ret
      exact ⟨congrArg (fun b => Ending.returned (Value.bool b)) HT.out.symm, rfl⟩
/-- is a value of the kind that a field wants? -/
def fitsT (f : FS) (k e : Int) (o : Option Int) : Bool := if f.ty = 100 then true else if f.ty = 101 then (k == 23 && e == 20) else if f.ty = 102 then (match o with | some q => f.ks.contains q | none => false) else k == f.ty
set_option maxRecDepth 100000 in
set_option maxHeartbeats 4000000 in
theorem fits_any (f : Fd) (s : FS) (v : V) (n₀ : Nat) (w : World) (hn : n₀ ≤ w.heap.size) (hf : FdIn 0 w f s) (hks : s.ks.length ≤ 100) (hv : Lies n₀ w v) :
    Calls Tryz.prog 101 #[f.val, v.val] w fun e w' => e = .returned (.bool (fitsT s v.k v.e (kindV v.k v.l))) ∧ Below w.heap.size w w' := by
  obtain ⟨q1, q2, q3, q4, q5, q6, q7⟩ := hf
  have hty := q2
  rw [Fd.val_eq, V.val_eq, q2, q5, q6]
  obtain ⟨W0, hW0⟩ : ∃ W0, (w.alloc (Obj.cells #[.string f.name, .int .i64 s.ty, .slice f.ka s.ks.length s.ks.length, .bool f.must, .int .i64 f.d.k, .int .u64 f.d.n, .string f.d.s, .slice f.d.a f.d.l.length f.d.c, .int .i64 f.d.e] 66)).alloc (Obj.cells #[.int .i64 v.k, .int .u64 v.n, .string v.s, .slice v.a v.l.length v.c, .int .i64 v.e] 42) = W0 := ⟨_, rfl⟩
  have hs0 : W0.heap.size = w.heap.size + 2 := by rw [← hW0]; simp
  have hb0 : Below w.heap.size w W0 := by rw [← hW0]; exact bel2 (Below.refl _ _) (Nat.le_refl _) _ _
  have hx0 : W0.heap[w.heap.size]? = some (.cells #[.string f.name, .int .i64 s.ty, .slice f.ka s.ks.length s.ks.length, .bool f.must, .int .i64 f.d.k, .int .u64 f.d.n, .string f.d.s, .slice f.d.a f.d.l.length f.d.c, .int .i64 f.d.e] 66 (0, 0)) := by rw [← hW0]; exact heap_past (World.alloc_heap_new _ _) _
  have hkd := rkind_any v n₀ W0 (by omega) (hv.keep hb0 hn)
  unfold KindPost at hkd
  rw [V.val_eq] at hkd
  have HKD := hide hkd
  have HW0 := hide hW0
  have HBW : Hid (∀ o p, Below w.heap.size w ((w.alloc o).alloc p)) := fun o p => bel2 (Below.refl _ _) (Nat.le_refl _) o p
  obtain ⟨M, hM⟩ : ∃ M, s.ks.length = M := ⟨_, rfl⟩
  have HAM : Hid (∀ q W', Below W0.heap.size W0 W' → Calls Tryz.prog 116 #[.int .i64 q, .slice f.ka M M] W' fun e w' => e = .returned (.bool (s.ks.contains q)) ∧ w' = W') := fun q W' h => by
    refine among_any q f.ka s.ks M hM W' (fun h0 => ?_) (by omega)
    obtain ⟨b, e, _, r2, r3⟩ := q7 (by omega)
    have hb' : Below w.heap.size w W' := belOn hb0 (by omega) h
    exact ⟨b, e, by have := hb'.size; omega, (hb'.block b r2).trans r3⟩
  have HC : Hid (∀ W', Below W0.heap.size W0 W' → W'.cell? ⟨w.heap.size, 2, none⟩ = some (.slice f.ka M M) ∧ w.heap.size < W'.heap.size ∧ Below w.heap.size w W') := fun W' h => by
    have hxx := (h.block w.heap.size (by omega)).trans hx0
    refine ⟨?_, by have := h.size; omega, belOn hb0 (by omega) h⟩
    unfold World.cell?
    simp only [hxx]
    rw [← hM]
    rfl
  rw [hM]
  rw [hM] at HW0
  clear hx0 q1 q2 q3 q4 q5 q6 q7 hkd hW0 hv hs0 hb0 hty
  unfold fitsT
  generalize kindV v.k v.l = o at HKD ⊢
  by_cases h100 : s.ty = 100
  · rw [if_pos h100, h100]
    go_enter Tryz.func101, Tryz.ntmps101
    go_wp2
    go_ret
    exact ⟨rfl, HBW.out _ _⟩
  rw [if_neg h100]
  have b100 : (s.ty == 100) = false := by simpa using h100
  by_cases h101 : s.ty = 101
  · rw [if_pos h101]
    rw [h101]
    clear h100 b100
    by_cases hk : v.k = 23
    · rw [hk]
      go_enter Tryz.func101, Tryz.ntmps101
      go_wp2
      go_ret
      exact ⟨by simp, HBW.out _ _⟩
    · have hkb : (v.k == 23) = false := by simpa using hk
      rw [hkb]
      go_enter Tryz.func101, Tryz.ntmps101
      go_wp2
      go_ret
      exact ⟨by simp, HBW.out _ _⟩
  rw [if_neg h101]
  have b101 : (s.ty == 101) = false := by simpa using h101
  by_cases h102 : s.ty = 102
  · rw [if_pos h102]
    rw [h102] at HW0 ⊢
    clear h100 b100 h101 b101
    obtain ⟨ans, hans⟩ : ∃ ans, (match o with | some q => s.ks.contains q | none => false) = ans := ⟨_, rfl⟩
    rw [hans]
    have HANS := hide hans
    clear hans
    go_enter Tryz.func101, Tryz.ntmps101
    go_wp2_with fail
    rw [HW0.out]
    refine HKD.out.mono ?_
    rintro e1 w1 ⟨rfl, hb1⟩
    obtain ⟨c2, hz, hbw⟩ := HC.out w1 hb1
    cases o with
    | none =>
      have HX := hide (HAM.out 0 w1 hb1)
      go_wp2_with (go_at_call 116; refine Calls.mono HX.out ?_; rintro e2 w2 ⟨rfl, rfl⟩)
      go_ret
      exact ⟨by rw [← HANS.out]; simp, hbw⟩
    | some q =>
      have HX := hide (HAM.out q w1 hb1)
      go_wp2_with (go_at_call 116; refine Calls.mono HX.out ?_; rintro e2 w2 ⟨rfl, rfl⟩)
      go_ret
      exact ⟨by rw [← HANS.out]; simp, hbw⟩
  rw [if_neg h102]
  have b102 : (s.ty == 102) = false := by simpa using h102
  clear h100 h101 h102
  go_enter Tryz.func101, Tryz.ntmps101
  go_wp2
  go_ret
  exact ⟨rfl, HBW.out _ _⟩
end Go.Proofs.YtgldcchleoklcaaGreatDoor
