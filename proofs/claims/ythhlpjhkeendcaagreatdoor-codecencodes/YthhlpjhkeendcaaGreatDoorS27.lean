/- VText -/
import Derived.Test.YthhlpjhkeendcaaGreatDoorS01
import Derived.Test.YthhlpjhkeendcaaGreatDoorS19
import Derived.Test.YthhlpjhkeendcaaGreatDoorS23
import Derived.Test.YthhlpjhkeendcaaGreatDoorS18
import Derived.Laws.Bits64
namespace Go.Proofs.YthhlpjhkeendcaaGreatDoor
open Go.RowKit
set_option linter.unusedVariables false
set_option linter.unusedSimpArgs false
def numT (k n : Int) : Bool :=
  if k = 1 then decide (n ≤ 1)
  else if k = 2 then decide (n ≤ 255)
  else if k = 3 then decide (n ≤ 65535)
  else if k = 4 ∨ k = 10 ∨ k = 12 then decide (n ≤ 4294967295)
  else if k = 6 then decide (n ≤ 127 ∨ 18446744073709551488 ≤ n)
  else if k = 7 then decide (n ≤ 32767 ∨ 18446744073709518848 ≤ n)
  else if k = 8 then decide (n ≤ 2147483647 ∨ 18446744071562067968 ≤ n)
  else if k = 15 then decide (n ≤ 1114111 ∧ (n < 55296 ∨ 57343 < n))
  else true
theorem num8 (n : Int) (h0 : 0 ≤ n) (h1 : n ≤ 18446744073709551615) : (n == IntKind.u64.wrap (IntKind.i8.wrap n)) = decide (n ≤ 127 ∨ 18446744073709551488 ≤ n) := by
  rw [Bool.eq_iff_iff]
  simp only [beq_iff_eq, decide_eq_true_eq, IntKind.wrap, IntKind.bits, IntKind.signed]
  simp
  omega
theorem num16 (n : Int) (h0 : 0 ≤ n) (h1 : n ≤ 18446744073709551615) : (n == IntKind.u64.wrap (IntKind.i16.wrap n)) = decide (n ≤ 32767 ∨ 18446744073709518848 ≤ n) := by
  rw [Bool.eq_iff_iff]
  simp only [beq_iff_eq, decide_eq_true_eq, IntKind.wrap, IntKind.bits, IntKind.signed]
  simp
  omega
theorem num32 (n : Int) (h0 : 0 ≤ n) (h1 : n ≤ 18446744073709551615) : (n == IntKind.u64.wrap (wrap32 n)) = decide (n ≤ 2147483647 ∨ 18446744071562067968 ≤ n) := by
  rw [Bool.eq_iff_iff]
  simp only [beq_iff_eq, decide_eq_true_eq, IntKind.wrap, IntKind.bits, IntKind.signed, wrap32]
  simp
  omega
set_option maxRecDepth 100000 in
set_option maxHeartbeats 4000000 in
theorem num_any (k n : Int) (s : ByteArray) (a : Option Addr) (len c : Nat) (e : Int) (w : World) (h0 : 0 ≤ n) (h1 : n ≤ 18446744073709551615) :
    Calls Tryz.prog 62 #[.agg #[.int .i64 k, .int .u64 n, .string s, .slice a len c, .int .i64 e]] w fun e' w' => e' = .returned (.bool (numT k n)) ∧ Below w.heap.size w w' := by
  by_cases h6 : k = 6
  · subst h6
    go_enter Tryz.func62, Tryz.ntmps62
    go_wp2
    all_goals
      go_ret
      refine ⟨?_, bel1 (Below.refl _ _) (Nat.le_refl _) _⟩
      have n8 := num8 n h0 h1
      have n16 := num16 n h0 h1
      have n32 := num32 n h0 h1
      first | (rw [n8]; simp [numT]) | (rw [n16]; simp [numT]) | (rw [n32]; simp [numT]) | (simp [numT]; done) | (simp [numT]; omega) | (simp [numT]; simp_all; omega) | (simp [numT]; rw [Bool.eq_iff_iff]; simp; omega)
  by_cases h7 : k = 7
  · subst h7
    go_enter Tryz.func62, Tryz.ntmps62
    go_wp2
    all_goals
      go_ret
      refine ⟨?_, bel1 (Below.refl _ _) (Nat.le_refl _) _⟩
      have n8 := num8 n h0 h1
      have n16 := num16 n h0 h1
      have n32 := num32 n h0 h1
      first | (rw [n8]; simp [numT]) | (rw [n16]; simp [numT]) | (rw [n32]; simp [numT]) | (simp [numT]; done) | (simp [numT]; omega) | (simp [numT]; simp_all; omega) | (simp [numT]; rw [Bool.eq_iff_iff]; simp; omega)
  by_cases h8 : k = 8
  · subst h8
    go_enter Tryz.func62, Tryz.ntmps62
    go_wp2
    all_goals
      go_ret
      refine ⟨?_, bel1 (Below.refl _ _) (Nat.le_refl _) _⟩
      have n8 := num8 n h0 h1
      have n16 := num16 n h0 h1
      have n32 := num32 n h0 h1
      first | (rw [n8]; simp [numT]) | (rw [n16]; simp [numT]) | (rw [n32]; simp [numT]) | (simp [numT]; done) | (simp [numT]; omega) | (simp [numT]; simp_all; omega) | (simp [numT]; rw [Bool.eq_iff_iff]; simp; omega)
  by_cases h15 : k = 15
  · subst h15
    go_enter Tryz.func62, Tryz.ntmps62
    go_wp2
    all_goals
      go_ret
      refine ⟨?_, bel1 (Below.refl _ _) (Nat.le_refl _) _⟩
      have n8 := num8 n h0 h1
      have n16 := num16 n h0 h1
      have n32 := num32 n h0 h1
      first | (rw [n8]; simp [numT]) | (rw [n16]; simp [numT]) | (rw [n32]; simp [numT]) | (simp [numT]; done) | (simp [numT]; omega) | (simp [numT]; simp_all; omega) | (simp [numT]; rw [Bool.eq_iff_iff]; simp; omega)
  by_cases hb : k = 1
  · subst hb
    go_enter Tryz.func62, Tryz.ntmps62
    go_wp2
    all_goals
      go_ret
      refine ⟨?_, bel1 (Below.refl _ _) (Nat.le_refl _) _⟩
      have n8 := num8 n h0 h1
      have n16 := num16 n h0 h1
      have n32 := num32 n h0 h1
      first | (rw [n8]; simp [numT]) | (rw [n16]; simp [numT]) | (rw [n32]; simp [numT]) | (simp [numT]; done) | (simp [numT]; omega) | (simp [numT]; simp_all; omega) | (simp [numT]; rw [Bool.eq_iff_iff]; simp; omega)
  by_cases h2 : k = 2
  · subst h2
    go_enter Tryz.func62, Tryz.ntmps62
    go_wp2
    all_goals
      go_ret
      refine ⟨?_, bel1 (Below.refl _ _) (Nat.le_refl _) _⟩
      have n8 := num8 n h0 h1
      have n16 := num16 n h0 h1
      have n32 := num32 n h0 h1
      first | (rw [n8]; simp [numT]) | (rw [n16]; simp [numT]) | (rw [n32]; simp [numT]) | (simp [numT]; done) | (simp [numT]; omega) | (simp [numT]; simp_all; omega) | (simp [numT]; rw [Bool.eq_iff_iff]; simp; omega)
  by_cases h3 : k = 3
  · subst h3
    go_enter Tryz.func62, Tryz.ntmps62
    go_wp2
    all_goals
      go_ret
      refine ⟨?_, bel1 (Below.refl _ _) (Nat.le_refl _) _⟩
      have n8 := num8 n h0 h1
      have n16 := num16 n h0 h1
      have n32 := num32 n h0 h1
      first | (rw [n8]; simp [numT]) | (rw [n16]; simp [numT]) | (rw [n32]; simp [numT]) | (simp [numT]; done) | (simp [numT]; omega) | (simp [numT]; simp_all; omega) | (simp [numT]; rw [Bool.eq_iff_iff]; simp; omega)
  by_cases h4 : k = 4
  · subst h4
    go_enter Tryz.func62, Tryz.ntmps62
    go_wp2
    all_goals
      go_ret
      refine ⟨?_, bel1 (Below.refl _ _) (Nat.le_refl _) _⟩
      have n8 := num8 n h0 h1
      have n16 := num16 n h0 h1
      have n32 := num32 n h0 h1
      first | (rw [n8]; simp [numT]) | (rw [n16]; simp [numT]) | (rw [n32]; simp [numT]) | (simp [numT]; done) | (simp [numT]; omega) | (simp [numT]; simp_all; omega) | (simp [numT]; rw [Bool.eq_iff_iff]; simp; omega)
  by_cases h10 : k = 10
  · subst h10
    go_enter Tryz.func62, Tryz.ntmps62
    go_wp2
    all_goals
      go_ret
      refine ⟨?_, bel1 (Below.refl _ _) (Nat.le_refl _) _⟩
      have n8 := num8 n h0 h1
      have n16 := num16 n h0 h1
      have n32 := num32 n h0 h1
      first | (rw [n8]; simp [numT]) | (rw [n16]; simp [numT]) | (rw [n32]; simp [numT]) | (simp [numT]; done) | (simp [numT]; omega) | (simp [numT]; simp_all; omega) | (simp [numT]; rw [Bool.eq_iff_iff]; simp; omega)
  by_cases h12 : k = 12
  · subst h12
    go_enter Tryz.func62, Tryz.ntmps62
    go_wp2
    all_goals
      go_ret
      refine ⟨?_, bel1 (Below.refl _ _) (Nat.le_refl _) _⟩
      have n8 := num8 n h0 h1
      have n16 := num16 n h0 h1
      have n32 := num32 n h0 h1
      first | (rw [n8]; simp [numT]) | (rw [n16]; simp [numT]) | (rw [n32]; simp [numT]) | (simp [numT]; done) | (simp [numT]; omega) | (simp [numT]; simp_all; omega) | (simp [numT]; rw [Bool.eq_iff_iff]; simp; omega)
  go_enter Tryz.func62, Tryz.ntmps62
  go_wp2
  go_ret
  refine ⟨?_, bel1 (Below.refl _ _) (Nat.le_refl _) _⟩
  simp [numT, *]
def ascB (s : ByteArray) : Bool := (List.range s.size).all (fun j => decide ((s.get! j).toNat < 128))
theorem asc_iff {s : ByteArray} {z : Int} (h : Asc s z) : decide (z < 0) = ascB s := by
  rw [Bool.eq_iff_iff]
  unfold ascB
  simp only [decide_eq_true_eq, List.all_eq_true, List.mem_range]
  have hg : ∀ j (hj : j < s.size), s.get! j = s[j] := fun j hj => by
    simp only [ByteArray.get!]
    exact getElem!_pos s.data j hj
  rcases h with ⟨rfl, h⟩ | ⟨i, hi, rfl, h1, h2⟩
  · constructor
    · intro _ j hj
      rw [hg j hj]
      exact h j hj
    · intro _
      omega
  · constructor
    · intro h
      omega
    · intro h
      have := h i hi
      rw [hg i hi] at this
      omega
def textT (k : Int) (s : ByteArray) : Bool :=
  if k = 14 ∨ k = 17 then decide (s.size = 16)
  else if k = 19 then decide (utfZ s 0 < 0)
  else if k = 20 then ascB s
  else true
set_option maxRecDepth 100000 in
set_option maxHeartbeats 4000000 in
theorem text_any (k n : Int) (s : ByteArray) (a : Option Addr) (len c : Nat) (e : Int) (w : World) (hs : s.size ≤ 281474976710656) (hT : Lib.Utf8Tabs 1 2 w) :
    Calls Tryz.prog 63 #[.agg #[.int .i64 k, .int .u64 n, .string s, .slice a len c, .int .i64 e]] w fun e' w' => e' = .returned (.bool (textT k s)) ∧ Below w.heap.size w w' := by
  have hb := fun (o : Obj) => bel1 (Below.refl w.heap.size w) (Nat.le_refl _) o
  have HU : Hid (∀ o, Calls Tryz.prog 84 #[.string s] (w.alloc o) fun e w' => e = .returned (.int .i64 (utfZ s 0)) ∧ Below w.heap.size w w') := fun o =>
    (utf8_any s (w.alloc o) hs (tabs_below hT (hb o))).mono (fun e w' h => ⟨h.1, belOn (hb o) (by simp) h.2⟩)
  have HA : Hid (∀ o, Calls Tryz.prog 85 #[.string s] (w.alloc o) fun e w' => ∃ z, e = .returned (.int .i64 z) ∧ Hid (decide (z < 0) = ascB s) ∧ w' = w.alloc o) := fun o =>
    (ascii_any s (w.alloc o) hs).mono (fun e w' ⟨z, h1, h2, h3⟩ => ⟨z, h1, asc_iff h2, h3.symm⟩)
  clear hT
  by_cases h14 : k = 14
  · subst h14
    go_enter Tryz.func63, Tryz.ntmps63
    have h16 : (((s.size : Nat) : Int) == 16) = decide (s.size = 16) := by rw [Bool.eq_iff_iff]; simp; omega
    go_wp2
    go_ret
    exact ⟨by simp [textT]; try exact h16, hb _⟩
  by_cases h17 : k = 17
  · subst h17
    go_enter Tryz.func63, Tryz.ntmps63
    have h16 : (((s.size : Nat) : Int) == 16) = decide (s.size = 16) := by rw [Bool.eq_iff_iff]; simp; omega
    go_wp2
    go_ret
    exact ⟨by simp [textT]; try exact h16, hb _⟩
  by_cases h19 : k = 19
  · subst h19
    go_enter Tryz.func63, Tryz.ntmps63
    go_wp2_with (go_at_call 84; refine (HU.out _).mono ?_; rintro e1 w1 ⟨rfl, hb1⟩)
    all_goals
      go_ret
      exact ⟨by simp_all [textT], hb1⟩
  by_cases h20 : k = 20
  · subst h20
    go_enter Tryz.func63, Tryz.ntmps63
    go_wp2_with (go_at_call 85; refine (HA.out _).mono ?_; rintro e1 w1 ⟨z, rfl, HZ, rfl⟩)
    all_goals
      go_ret
      exact ⟨by have := HZ.out; simp_all [textT], hb _⟩
  go_enter Tryz.func63, Tryz.ntmps63
  go_wp2
  go_ret
  exact ⟨by simp [textT, *], hb _⟩
def arrT (e : Int) (L : List T) : Bool := decide (0 < e ∧ e < 24) && L.all (fun x => decide (V.k x = e))
set_option maxRecDepth 100000 in
set_option maxHeartbeats 4000000 in
theorem isarr_any (x : V) (n₀ : Nat) (w : World) (hn : n₀ ≤ w.heap.size) (hx : Lies n₀ w x) :
    Calls Tryz.prog 65 #[x.val] w fun e w' => e = .returned (.bool (arrT x.e (V.ts x.l))) ∧ Below w.heap.size w w' := by
  obtain ⟨k, n, s, a, c, e, l, rfl⟩ := V.ex x
  rw [V.l_of, V.e_of, V.val_of]
  have HX := hide hx
  have hll := hx.ok.c
  have hlc := hx.ok.l
  clear hx
  obtain ⟨W0, hW0⟩ : ∃ W0, w.alloc (Obj.cells #[.int .i64 k, .int .u64 n, .string s, .slice a l.length c, .int .i64 e] 25) = W0 := ⟨_, rfl⟩
  have hs0 : W0.heap.size = w.heap.size + 1 := by rw [← hW0]; simp
  have hb0 : Below w.heap.size w W0 := by rw [← hW0]; exact bel1 (Below.refl _ _) (Nat.le_refl _) _
  have xx : BoxV W0 w.heap.size (.of k n s a c e l) := by
    rw [← hW0]
    unfold BoxV
    rw [V.k_of, V.n_of, V.s_of, V.a_of, V.l_of, V.c_of, V.e_of]
    exact World.alloc_heap_new _ _
  have HW0 := hide hW0
  clear hW0
  by_cases he : 0 < e
  · by_cases he2 : e < 24
    · have HA : Hid (arrT e (V.ts l) = l.all (fun x => decide (x.k = e))) := by
        show arrT e (V.ts l) = _
        unfold arrT
        rw [V.ts_map, List.all_map]
        simp only [he, he2, and_self, decide_true, Bool.true_and]
        congr 1
        funext x
        obtain ⟨k', n', s', a', c', e', l', rfl⟩ := V.ex x
        simp only [Function.comp]
        rw [V.t_of, V.k_of]
        show decide (V.k (V.of k' n' s' none 0 e' (V.ts l')) = e) = _
        rw [V.k_of]
      go_enter Tryz.func65, Tryz.ntmps65
      go_wp2_with fail
      rw [HW0.out]
      clear HW0
      go_loopw [16] (fun u wr => ∃ j : Nat, u = .int .i64 j ∧ j ≤ l.length ∧ Below W0.heap.size W0 wr ∧ Hid (l.all (fun x => decide (x.k = e)) = (l.drop j).all (fun x => decide (x.k = e)))) (fun u _ => l.length - (intOf u).toNat)
      case atStart => exact ⟨0, rfl, Nat.zero_le _, Below.refl _ _, rfl⟩
      case round =>
        obtain ⟨j, rfl, hj, hb, HO⟩ := hrel
        have hsz := hb.size
        have hbw : Below w.heap.size w wr := belOn hb0 (by omega) hb
        by_cases hjl : j < l.length
        · obtain ⟨b, o, rfl, hlt, hr⟩ := HX.out.row (by omega)
          obtain ⟨x0, x1, x2, x3, x4⟩ := (hr.below hbw (by omega)) j hjl
          obtain ⟨m0, m1, m2, m3, m4⟩ := (xx.below hb (by omega)).cells
          rw [V.e_of] at m4
          clear m0 m1 m2 m3
          have hwl : w.heap.size < wr.heap.size := by omega
          have hwl' : w.heap.size ≠ wr.heap.size := by omega
          have HST : Hid ((l.drop j).all (fun x => decide (x.k = e)) = (decide (l[j].k = e) && (l.drop (j + 1)).all (fun x => decide (x.k = e)))) := by
            show (l.drop j).all _ = _
            rw [List.drop_eq_getElem_cons hjl, List.all_cons]
          by_cases hke : l[j].k = e
          · clear hr
            go_wp2
            go_roundw
            case rel =>
              refine ⟨j + 1, by go_num, hjl, bel1 hb (by omega) _, ?_⟩
              rw [HO.out, HST.out, decide_eq_true hke, Bool.true_and]
              exact rfl
            case measure => simp [intOf]; omega
          · clear hr
            go_wp2
            go_ret
            refine ⟨?_, bel1 hbw (by omega) _⟩
            rw [HA.out, HO.out, HST.out, decide_eq_false hke, Bool.false_and]
            rfl
        · obtain rfl : j = l.length := by omega
          go_wp2
          go_ret
          refine ⟨?_, hbw⟩
          rw [HA.out, HO.out, List.drop_length]
          rfl
    · have HA : Hid (arrT e (V.ts l) = false) := by
        show arrT e (V.ts l) = false
        unfold arrT
        rw [decide_eq_false (by omega), Bool.false_and]
      go_enter Tryz.func65, Tryz.ntmps65
      go_wp2
      go_ret
      rw [HW0.out]
      exact ⟨by rw [HA.out]; rfl, hb0⟩
  · have HA : Hid (arrT e (V.ts l) = false) := by
      show arrT e (V.ts l) = false
      unfold arrT
      rw [decide_eq_false (by omega), Bool.false_and]
    go_enter Tryz.func65, Tryz.ntmps65
    go_wp2
    go_ret
    rw [HW0.out]
    exact ⟨by rw [HA.out]; rfl, hb0⟩
end Go.Proofs.YthhlpjhkeendcaaGreatDoor
