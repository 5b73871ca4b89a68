/- VROwn -/
import Derived.Test.YthhlpjhkeendcaaGreatDoorS27
import Derived.Test.YthhlpjhkeendcaaGreatDoorS29
import Derived.Test.YthhlpjhkeendcaaGreatDoorS10
import Derived.Test.YthhlpjhkeendcaaGreatDoorS30
import Derived.Test.YthhlpjhkeendcaaGreatDoorS20
namespace Go.Proofs.YthhlpjhkeendcaaGreatDoor
open Go.RowKit
set_option linter.unusedVariables false
set_option linter.unusedSimpArgs false
set_option maxRecDepth 100000 in
set_option maxHeartbeats 4000000 in
theorem rsigned_any (n : Int) (b : Int) (w : World) (h0 : 0 ≤ n) (h1 : n ≤ 18446744073709551615) (hb : b = 8 ∨ b = 16 ∨ b = 32) :
    Calls Tryz.prog 94 #[.int .u64 n, .int .i64 b] w fun e' w' => e' = .returned (.bool (numT (if b = 8 then 6 else if b = 16 then 7 else 8) n)) ∧ w' = w := by
  rcases hb with rfl | rfl | rfl
  all_goals
    go_enter Tryz.func94, Tryz.ntmps94
    go_wp2
    all_goals
      go_ret
      refine ⟨?_, rfl⟩
      first
        | (refine congrArg (fun b => Ending.returned (Value.bool b)) ?_; rw [Bool.eq_iff_iff]; simp only [wrap64] at *; simp [numT]; omega)
        | (refine congrArg (fun b => Ending.returned (Value.bool b)) ?_; simp only [wrap64] at *; simp [numT]; omega)
set_option maxRecDepth 100000 in
set_option maxHeartbeats 4000000 in
theorem rnumber_any (k n : Int) (s : ByteArray) (a : Option Addr) (len c : Nat) (e : Int) (w : World) (h0 : 0 ≤ n) (h1 : n ≤ 18446744073709551615) :
    Calls Tryz.prog 74 #[.agg #[.int .i64 k, .int .u64 n, .string s, .slice a len c, .int .i64 e]] w fun e' w' => e' = .returned (.bool (numT k n)) ∧ Below w.heap.size w w' := by
  have HS := hide (rsigned_any n)
  by_cases h6 : k = 6
  · subst h6
    go_enter Tryz.func74, Tryz.ntmps74
    go_wp2_with (go_at_call 94; refine (HS.out 8 _ h0 h1 (by omega)).mono ?_; rintro e1 w1 ⟨rfl, rfl⟩)
    go_ret
    exact ⟨by simp, bel1 (Below.refl _ _) (Nat.le_refl _) _⟩
  by_cases h7 : k = 7
  · subst h7
    go_enter Tryz.func74, Tryz.ntmps74
    go_wp2_with (go_at_call 94; refine (HS.out 16 _ h0 h1 (by omega)).mono ?_; rintro e1 w1 ⟨rfl, rfl⟩)
    go_ret
    exact ⟨by simp, bel1 (Below.refl _ _) (Nat.le_refl _) _⟩
  by_cases h8 : k = 8
  · subst h8
    go_enter Tryz.func74, Tryz.ntmps74
    go_wp2_with (go_at_call 94; refine (HS.out 32 _ h0 h1 (by omega)).mono ?_; rintro e1 w1 ⟨rfl, rfl⟩)
    go_ret
    exact ⟨by simp, bel1 (Below.refl _ _) (Nat.le_refl _) _⟩
  by_cases h15 : k = 15
  · subst h15
    go_enter Tryz.func74, Tryz.ntmps74
    go_wp2
    all_goals
      go_ret
      refine ⟨?_, bel1 (Below.refl _ _) (Nat.le_refl _) _⟩
      first | (simp [numT]; done) | (simp [numT]; omega) | (simp [numT]; simp_all; omega) | (simp [numT]; rw [Bool.eq_iff_iff]; simp; omega)
  by_cases hk1 : k = 1
  · subst hk1
    go_enter Tryz.func74, Tryz.ntmps74
    go_wp2
    all_goals
      go_ret
      refine ⟨?_, bel1 (Below.refl _ _) (Nat.le_refl _) _⟩
      first | (simp [numT]; done) | (simp [numT]; omega) | (simp [numT]; simp_all; omega) | (simp [numT]; rw [Bool.eq_iff_iff]; simp; omega)
  by_cases h2 : k = 2
  · subst h2
    go_enter Tryz.func74, Tryz.ntmps74
    go_wp2
    all_goals
      go_ret
      refine ⟨?_, bel1 (Below.refl _ _) (Nat.le_refl _) _⟩
      first | (simp [numT]; done) | (simp [numT]; omega) | (simp [numT]; simp_all; omega) | (simp [numT]; rw [Bool.eq_iff_iff]; simp; omega)
  by_cases h3 : k = 3
  · subst h3
    go_enter Tryz.func74, Tryz.ntmps74
    go_wp2
    all_goals
      go_ret
      refine ⟨?_, bel1 (Below.refl _ _) (Nat.le_refl _) _⟩
      first | (simp [numT]; done) | (simp [numT]; omega) | (simp [numT]; simp_all; omega) | (simp [numT]; rw [Bool.eq_iff_iff]; simp; omega)
  by_cases h4 : k = 4
  · subst h4
    go_enter Tryz.func74, Tryz.ntmps74
    go_wp2
    all_goals
      go_ret
      refine ⟨?_, bel1 (Below.refl _ _) (Nat.le_refl _) _⟩
      first | (simp [numT]; done) | (simp [numT]; omega) | (simp [numT]; simp_all; omega) | (simp [numT]; rw [Bool.eq_iff_iff]; simp; omega)
  by_cases h10 : k = 10
  · subst h10
    go_enter Tryz.func74, Tryz.ntmps74
    go_wp2
    all_goals
      go_ret
      refine ⟨?_, bel1 (Below.refl _ _) (Nat.le_refl _) _⟩
      first | (simp [numT]; done) | (simp [numT]; omega) | (simp [numT]; simp_all; omega) | (simp [numT]; rw [Bool.eq_iff_iff]; simp; omega)
  by_cases h12 : k = 12
  · subst h12
    go_enter Tryz.func74, Tryz.ntmps74
    go_wp2
    all_goals
      go_ret
      refine ⟨?_, bel1 (Below.refl _ _) (Nat.le_refl _) _⟩
      first | (simp [numT]; done) | (simp [numT]; omega) | (simp [numT]; simp_all; omega) | (simp [numT]; rw [Bool.eq_iff_iff]; simp; omega)
  go_enter Tryz.func74, Tryz.ntmps74
  go_wp2
  go_ret
  refine ⟨?_, bel1 (Below.refl _ _) (Nat.le_refl _) _⟩
  simp [numT, *]
set_option maxRecDepth 100000 in
set_option maxHeartbeats 4000000 in
theorem rarr_any (x : V) (n₀ : Nat) (w : World) (hn : n₀ ≤ w.heap.size) (hx : Lies n₀ w x) :
    Calls Tryz.prog 77 #[x.val] w fun e w' => e = .returned (.bool (arrT x.e (V.ts x.l))) ∧ Below w.heap.size w w' := by
  obtain ⟨k, n, s, a, c, e, l, rfl⟩ := V.ex x
  rw [V.l_of, V.e_of, V.val_of]
  have HX := hide hx
  have hll := hx.ok.c
  have hlc := hx.ok.l
  clear hx
  obtain ⟨W0, hW0⟩ : ∃ W0, w.alloc (Obj.cells #[.int .i64 k, .int .u64 n, .string s, .slice a l.length c, .int .i64 e] 25) = W0 := ⟨_, rfl⟩
  have hs0 : W0.heap.size = w.heap.size + 1 := by rw [← hW0]; simp
  have hb0 : Below w.heap.size w W0 := by rw [← hW0]; exact bel1 (Below.refl _ _) (Nat.le_refl _) _
  have xx : BoxV W0 w.heap.size (.of k n s a c e l) := by
    rw [← hW0]
    unfold BoxV
    rw [V.k_of, V.n_of, V.s_of, V.a_of, V.l_of, V.c_of, V.e_of]
    exact World.alloc_heap_new _ _
  have HW0 := hide hW0
  clear hW0
  by_cases he : 0 < e
  · by_cases he2 : e < 24
    · have HA : Hid (arrT e (V.ts l) = l.all (fun x => decide (x.k = e))) := by
        show arrT e (V.ts l) = _
        unfold arrT
        rw [V.ts_map, List.all_map]
        simp only [he, he2, and_self, decide_true, Bool.true_and]
        congr 1
        funext x
        obtain ⟨k', n', s', a', c', e', l', rfl⟩ := V.ex x
        simp only [Function.comp]
        rw [V.t_of, V.k_of]
        show decide (V.k (V.of k' n' s' none 0 e' (V.ts l')) = e) = _
        rw [V.k_of]
      go_enter Tryz.func77, Tryz.ntmps77
      go_wp2_with fail
      rw [HW0.out]
      clear HW0
      go_loopw [3] (fun u wr => ∃ j : Nat, u = .int .i64 j ∧ j ≤ l.length ∧ Below W0.heap.size W0 wr ∧ Hid (l.all (fun x => decide (x.k = e)) = (l.drop j).all (fun x => decide (x.k = e)))) (fun u _ => l.length - (intOf u).toNat)
      case atStart => exact ⟨0, rfl, Nat.zero_le _, Below.refl _ _, rfl⟩
      case round =>
        obtain ⟨j, rfl, hj, hb, HO⟩ := hrel
        have hsz := hb.size
        have hbw : Below w.heap.size w wr := belOn hb0 (by omega) hb
        by_cases hjl : j < l.length
        · obtain ⟨b, o, rfl, hlt, hr⟩ := HX.out.row (by omega)
          obtain ⟨x0, x1, x2, x3, x4⟩ := (hr.below hbw (by omega)) j hjl
          obtain ⟨m0, m1, m2, m3, m4⟩ := (xx.below hb (by omega)).cells
          rw [V.e_of] at m4
          rw [V.a_of, V.c_of, V.l_of] at m3
          clear m0 m1 m2
          have hbl : b < wr.heap.size := by omega
          have hwl : w.heap.size < wr.heap.size := by omega
          have hwl' : w.heap.size ≠ wr.heap.size := by omega
          have HST : Hid ((l.drop j).all (fun x => decide (x.k = e)) = (decide (l[j].k = e) && (l.drop (j + 1)).all (fun x => decide (x.k = e)))) := by
            show (l.drop j).all _ = _
            rw [List.drop_eq_getElem_cons hjl, List.all_cons]
          by_cases hke : l[j].k = e
          · clear hr
            go_wp2
            go_quiet (fail)
            go_wp2
            go_roundw
            case rel =>
              refine ⟨j + 1, by go_num, hjl, bel_drewN hb _, ?_⟩
              rw [HO.out, HST.out, decide_eq_true hke, Bool.true_and]
              exact rfl
            case measure => simp [intOf]; omega
          · clear hr
            go_wp2
            go_quiet (fail)
            go_wp2
            go_ret
            refine ⟨?_, bel_drewN hbw _⟩
            rw [HA.out, HO.out, HST.out, decide_eq_false hke, Bool.false_and]
            rfl
        · obtain rfl : j = l.length := by omega
          obtain ⟨m0, m1, m2, m3, m4⟩ := (xx.below hb (by omega)).cells
          rw [V.a_of, V.c_of, V.l_of] at m3
          clear m0 m1 m2 m4
          go_wp2
          go_ret
          refine ⟨?_, hbw⟩
          rw [HA.out, HO.out, List.drop_length]
          rfl
    · have HA : Hid (arrT e (V.ts l) = false) := by
        show arrT e (V.ts l) = false
        unfold arrT
        rw [decide_eq_false (by omega), Bool.false_and]
      go_enter Tryz.func77, Tryz.ntmps77
      go_wp2
      go_ret
      rw [HW0.out]
      exact ⟨by rw [HA.out]; rfl, hb0⟩
  · have HA : Hid (arrT e (V.ts l) = false) := by
      show arrT e (V.ts l) = false
      unfold arrT
      rw [decide_eq_false (by omega), Bool.false_and]
    go_enter Tryz.func77, Tryz.ntmps77
    go_wp2
    go_ret
    rw [HW0.out]
    exact ⟨by rw [HA.out]; rfl, hb0⟩
theorem evens_len {α : Type} : ∀ (n : Nat) (l : List α), l.length ≤ n → (evens l).length = (l.length + 1) / 2
  | _, [], _ => by simp [evens]
  | _, [_], _ => by simp [evens]
  | 0, _ :: _ :: _, h => by simp at h
  | n + 1, a :: b :: r, h => by
    simp only [evens, List.length_cons]
    rw [evens_len n r (by simp at h; omega)]
    omega
theorem evens_get {α : Type} : ∀ (n : Nat) (l : List α), l.length ≤ n → ∀ j, (evens l)[j]? = l[2 * j]? ∨ l.length ≤ 2 * j
  | _, [], _, j => .inr (by simp)
  | _, [a], _, j => by
    cases j with
    | zero => exact .inl rfl
    | succ j => exact .inr (by simp; omega)
  | 0, _ :: _ :: _, h, j => by simp at h
  | n + 1, a :: b :: r, h, j => by
    cases j with
    | zero => exact .inl rfl
    | succ j =>
      rcases evens_get n r (by simp at h; omega) j with e | e
      · refine .inl ?_
        rw [evens, List.getElem?_cons_succ, e, show 2 * (j + 1) = 2 * j + 1 + 1 by omega, List.getElem?_cons_succ, List.getElem?_cons_succ]
      · exact .inr (by simp; omega)
def atT (L : List T) (j : Nat) : T := (L[j]?).getD (T.of 0 0 ⟨#[]⟩ 0 [])
theorem nodup_evens (L : List T) : nodupT (evens L) = true ↔ ∀ p q, p < q → 2 * q < L.length → eqT (atT L (2 * p)) (atT L (2 * q)) = false := by
  have hl := evens_len L.length L (Nat.le_refl _)
  have hg : ∀ j (h : j < (evens L).length), (evens L)[j] = atT L (2 * j) := fun j h => by
    rcases evens_get L.length L (Nat.le_refl _) j with e | e
    · unfold atT
      rw [← e, List.getElem?_eq_getElem h]
      rfl
    · omega
  rw [nodupT_iff, List.pairwise_iff_getElem]
  constructor
  · intro h p q hpq hq
    have := h p q (by omega) (by omega) hpq
    rw [hg p (by omega), hg q (by omega)] at this
    exact this
  · intro h p q hp hq hpq
    rw [hg p hp, hg q hq]
    exact h p q hpq (by omega)
theorem atT_get (l : List V) (j : Nat) (h : j < l.length) : atT (V.ts l) j = l[j].t := by
  unfold atT
  rw [V.ts_map, List.getElem?_map, List.getElem?_eq_getElem h]
  rfl
set_option maxRecDepth 100000 in
set_option maxHeartbeats 4000000 in
theorem rmapped_any (l : List V) (a : Option Addr) (c n₀ : Nat) (w : World) (hn : n₀ ≤ w.heap.size) (hll : l.length ≤ 2199023255552) (hlc : l.length ≤ c) (hr : 0 < l.length → ∃ b o, a = some ⟨b, o, none⟩ ∧ b < n₀ ∧ Row w b o l) (hs : ∀ x ∈ l, Lies n₀ w x) :
    Calls Tryz.prog 76 #[.slice a l.length c] w fun e w' => e = .returned (.bool (mapT (V.ts l))) ∧ Below w.heap.size w w' := by
  have HR := hide hr
  have HS := hide hs
  clear hr hs
  have HMT : Hid (mapT (V.ts l) = (decide (l.length % 2 = 0) && (decide (l.length / 2 ≤ 1024) && nodupT (evens (V.ts l))))) := by
    show mapT (V.ts l) = _
    unfold mapT
    rw [V.ts_length]
  have HND : Hid (nodupT (evens (V.ts l)) = true ↔ ∀ p q, p < q → 2 * q < l.length → eqT (atT (V.ts l) (2 * p)) (atT (V.ts l) (2 * q)) = false) := by
    have := nodup_evens (V.ts l)
    rw [V.ts_length] at this
    exact this
  by_cases hodd : l.length % 2 = 0
  · by_cases hbig : l.length / 2 ≤ 1024
    · go_enter Tryz.func76, Tryz.ntmps76
      go_wp2_with fail
      go_loopw [3] (fun u wr => ∃ i : Nat, u = .int .i64 i ∧ i ≤ l.length + 1 ∧ Below w.heap.size w wr ∧ Hid (i % 2 = 0 ∧ ∀ p q, p < q → 2 * q < i → 2 * q < l.length → eqT (atT (V.ts l) (2 * p)) (atT (V.ts l) (2 * q)) = false)) (fun u _ => l.length + 2 - (intOf u).toNat)
      case atStart => exact ⟨0, rfl, by omega, Below.refl _ _, rfl, fun p q h1 h2 => by omega⟩
      case round =>
        obtain ⟨i, rfl, hi, hb, HI⟩ := hrel
        have hsz := hb.size
        by_cases hil : i < l.length
        · obtain ⟨b, o, rfl, hlt, hr⟩ := HR.out (by omega)
          obtain ⟨w1, rfl⟩ : ∃ w1, w1 = wr := ⟨_, rfl⟩
          have HRO := hide hr
          clear hr
          go_wp2_with fail
          go_loopw [4] (fun u wr => ∃ k : Nat, u = .int .i64 k ∧ k ≤ i + 1 ∧ Below w.heap.size w wr ∧ Hid (k % 2 = 0 ∧ ∀ p, 2 * p < k → 2 * p < i → eqT (atT (V.ts l) (2 * p)) (atT (V.ts l) i) = false)) (fun u _ => i + 2 - (intOf u).toNat)
          case atStart => exact ⟨0, rfl, by omega, hb, rfl, fun p h => by omega⟩
          case round =>
            obtain ⟨k, rfl, hk, hb2, HK⟩ := hrel
            have hsz2 := hb2.size
            by_cases hki : k < i
            · obtain ⟨x0, x1, x2, x3, x4⟩ := (HRO.out.below hb2 (by omega)) i hil
              obtain ⟨y0, y1, y2, y3, y4⟩ := (HRO.out.below hb2 (by omega)) k (by omega)
              have hbl : b < wr.heap.size := by omega
              have hkl : k < l.length := by omega
              have hmx : Tryz.prog.follows .mixedOrders = true := by kernel_rfl
              have q := requal_any l[i] l[k] n₀ wr.drew (by show _ ≤ wr.heap.size; omega) ((HS.out _ (List.getElem_mem hil)).keep hb2.drew hn) ((HS.out _ (List.getElem_mem hkl)).keep hb2.drew hn)
              rw [V.val_eq, V.val_eq] at q
              have HQ := hide q
              have HEQ : Hid (eqT l[i].t l[k].t = eqT (atT (V.ts l) k) (atT (V.ts l) i)) := by
                show eqT l[i].t l[k].t = _
                rw [atT_get l k hkl, atT_get l i hil, eqT_symm']
              clear q
              go_wp2_with fail
              go_region_with (go_at_call 97; refine HQ.out.mono ?_; rintro e6 w6 ⟨rfl, hb6⟩; have hbn : Below w.heap.size w w6 := hb2.drew.trans (hb6.mono (by show _ ≤ wr.heap.size; omega)))
              all_goals
                clear HQ
                clear x0 x1 x2 x3 x4 y0 y1 y2 y3 y4
                obtain ⟨r, hr⟩ : ∃ r, eqT l[i].t l[k].t = r := ⟨_, rfl⟩
                rw [hr] at HEQ
                rw [hr]
                clear hr
                cases r
                · go_wp2
                  go_roundw
                  case rel =>
                    refine ⟨k + 2, by go_num, by have := HK.out.1; have := HI.out.1; omega, hbn, by have := HK.out.1; omega, fun p h1 h2 => ?_⟩
                    by_cases e : 2 * p < k
                    · exact HK.out.2 p e h2
                    · have h3 := HK.out.1
                      have e2 : 2 * p = k := by omega
                      rw [e2]
                      exact HEQ.out.symm
                  case measure => simp [intOf]; omega
                · have HN : Hid (nodupT (evens (V.ts l)) = false) := by
                    show nodupT (evens (V.ts l)) = false
                    cases hh : nodupT (evens (V.ts l)) with
                    | false => rfl
                    | true =>
                      have h3 := HK.out.1
                      have h4 := HI.out.1
                      have := HND.out.1 hh (k / 2) (i / 2) (by omega) (by omega)
                      rw [show 2 * (k / 2) = k by omega, show 2 * (i / 2) = i by omega, ← HEQ.out] at this
                      cases this
                  go_wp2
                  go_ret
                  exact ⟨by rw [HMT.out, HN.out]; simp, hbn⟩
            · go_wp2
              go_roundw
              case rel =>
                refine ⟨i + 2, by go_num, by omega, hb2, by have := HI.out.1; omega, fun p q h1 h2 h3 => ?_⟩
                have h4 := HI.out.1
                by_cases e : 2 * q < i
                · exact HI.out.2 p q h1 e h3
                · have e2 : 2 * q = i := by omega
                  rw [e2]
                  exact HK.out.2 p (by omega) (by omega)
              case measure => simp [intOf]; omega
        · have HN : Hid (nodupT (evens (V.ts l)) = true) := HND.out.2 (fun p q h1 h2 => HI.out.2 p q h1 (by omega) h2)
          go_wp2
          go_ret
          exact ⟨by rw [HMT.out, HN.out]; simp [hodd, hbig], hb⟩
    · have hbr : (decide (l.length / 2 ≤ 1024)) = false := by simpa using hbig
      go_enter Tryz.func76, Tryz.ntmps76
      go_wp2
      go_ret
      exact ⟨by rw [HMT.out, hbr]; simp, Below.refl _ _⟩
  · have hrr : (decide (l.length % 2 = 0)) = false := by simpa using hodd
    go_enter Tryz.func76, Tryz.ntmps76
    go_wp2
    go_ret
    exact ⟨by rw [HMT.out, hrr]; simp, Below.refl _ _⟩
def SpellOk : Prop := ∀ (k n : Int) (s : ByteArray) (a : Option Addr) (len c : Nat) (e : Int) (w : World), s.size ≤ 281474976710656 →
  Calls Tryz.prog 75 #[.agg #[.int .i64 k, .int .u64 n, .string s, .slice a len c, .int .i64 e]] w fun e' w' => e' = .returned (.bool (textT k s)) ∧ Below w.heap.size w w'
set_option maxRecDepth 100000 in
set_option maxHeartbeats 8000000 in
theorem own_any (hsp : SpellOk) (x : V) (d : Int) (n₀ : Nat) (w : World) (hn : n₀ ≤ w.heap.size) (hx : Lies n₀ w x) :
    Calls Tryz.prog 43 #[x.val, .int .i64 d] w fun e w' => e = .returned (.int .i64 (faultT d x.t)) ∧ Below w.heap.size w w' := by
  obtain ⟨k, n, s, a, c, e, l, rfl⟩ := V.ex x
  rw [faultT_of]
  have ok := hx.ok
  have hll := ok.c
  obtain ⟨W0, hW0⟩ : ∃ W0, w.alloc (Obj.cells #[.int .i64 k, .int .u64 n, .string s, .slice a l.length c, .int .i64 e] 25) = W0 := ⟨_, rfl⟩
  have hs0 : W0.heap.size = w.heap.size + 1 := by rw [← hW0]; simp
  have hb0 : Below w.heap.size w W0 := by rw [← hW0]; exact bel1 (Below.refl _ _) (Nat.le_refl _) _
  have xx : BoxV W0 w.heap.size (.of k n s a c e l) := by
    rw [← hW0]
    unfold BoxV
    rw [V.k_of, V.n_of, V.s_of, V.a_of, V.l_of, V.c_of, V.e_of]
    exact World.alloc_heap_new _ _
  have HC : Hid (∀ W, Below W0.heap.size W0 W → (W.cell? ⟨w.heap.size, 0, none⟩ = some (.int .i64 k) ∧ W.cell? ⟨w.heap.size, 1, none⟩ = some (.int .u64 n) ∧ W.cell? ⟨w.heap.size, 2, none⟩ = some (.string s) ∧ W.cell? ⟨w.heap.size, 3, none⟩ = some (.slice a l.length c) ∧ W.cell? ⟨w.heap.size, 4, none⟩ = some (.int .i64 e)) ∧ w.heap.size < W.heap.size) := fun W hW => by
    have h := (xx.below hW (by omega)).cells
    rw [V.k_of, V.n_of, V.s_of, V.a_of, V.l_of, V.c_of, V.e_of] at h
    exact ⟨h, by have := hW.size; omega⟩
  have HL : Hid (∀ W, Below W0.heap.size W0 W → Lies n₀ W (.of k n s a c e l)) := fun W hW => hx.keep (belOn hb0 (by omega) hW) hn
  have HE : Hid (∀ W, Below W0.heap.size W0 W → Calls Tryz.prog 73 #[.agg #[.int .i64 k, .int .u64 n, .string s, .slice a l.length c, .int .i64 e]] W fun e' w' => e' = .returned (.bool (rextraT k n s l.length e)) ∧ Below W0.heap.size W0 w') := fun W hW =>
    (rextra_any k n s a l.length c e W (by omega)).mono (fun e' w' h => ⟨h.1, belOn hW hW.size h.2⟩)
  have HN : Hid (∀ W, Below W0.heap.size W0 W → Calls Tryz.prog 74 #[.agg #[.int .i64 k, .int .u64 n, .string s, .slice a l.length c, .int .i64 e]] W fun e' w' => e' = .returned (.bool (numT k n)) ∧ Below W0.heap.size W0 w') := fun W hW =>
    (rnumber_any k n s a l.length c e W ok.n.1 ok.n.2).mono (fun e' w' h => ⟨h.1, belOn hW hW.size h.2⟩)
  have HX : Hid (∀ W, Below W0.heap.size W0 W → Calls Tryz.prog 75 #[.agg #[.int .i64 k, .int .u64 n, .string s, .slice a l.length c, .int .i64 e]] W fun e' w' => e' = .returned (.bool (textT k s)) ∧ Below W0.heap.size W0 w') := fun W hW =>
    (hsp k n s a l.length c e W ok.s).mono (fun e' w' h => ⟨h.1, belOn hW hW.size h.2⟩)
  have HM : Hid (∀ W, Below W0.heap.size W0 W → Calls Tryz.prog 76 #[.slice a l.length c] W fun e' w' => e' = .returned (.bool (mapT (V.ts l))) ∧ Below W0.heap.size W0 w') := fun W hW => by
    have hw := HL.out W hW
    have q := rmapped_any l a c n₀ W (by have := hW.size; omega) hw.ok.c hw.ok.l hw.row hw.sub
    exact q.mono (fun e' w' h => ⟨h.1, belOn hW hW.size h.2⟩)
  have HA : Hid (∀ W, Below W0.heap.size W0 W → Calls Tryz.prog 77 #[.agg #[.int .i64 k, .int .u64 n, .string s, .slice a l.length c, .int .i64 e]] W fun e' w' => e' = .returned (.bool (arrT e (V.ts l))) ∧ Below W0.heap.size W0 w') := fun W hW => by
    have q := rarr_any _ n₀ W (by have := hW.size; omega) (HL.out W hW)
    rw [V.val_of, V.l_of, V.e_of] at q
    exact q.mono (fun e' w' h => ⟨h.1, belOn hW hW.size h.2⟩)
  have HBR : Hid (Below W0.heap.size W0 (w.alloc (Obj.cells #[.int .i64 k, .int .u64 n, .string s, .slice a l.length c, .int .i64 e] 25))) := by rw [hW0]; exact Below.refl _ _
  have HRE : Hid (0 ≤ k → k ≤ 24 → rextraT k n s l.length e = extraT k n s l.length e) := fun h0 h1 => rextra_eq k n s l.length e h0 h1
  rw [V.val_of]
  clear hW0 ok hx HL xx hsp
  generalize rextraT k n s l.length e = bR at *
  generalize extraT k n s l.length e = bE at *
  generalize numT k n = bN at *
  generalize textT k s = bX at *
  generalize mapT (V.ts l) = bM at *
  generalize arrT e (V.ts l) = bA at *
  by_cases hk1 : k < 0
  · go_enter Tryz.func43, Tryz.ntmps43
    go_wp2_with (first
      | (go_at_call 73; refine (HE.out _ HBR.out).mono ?_; rintro e1 w1 ⟨rfl, hb1⟩; obtain ⟨⟨c10, c11, c12, c13, c14⟩, cz1⟩ := HC.out w1 hb1)
      | (go_at_call 74; refine (HN.out _ hb1).mono ?_; clear c10 c11 c12 c13 c14 cz1; rintro e2 w2 ⟨rfl, hb2⟩; obtain ⟨⟨c20, c21, c22, c23, c24⟩, cz2⟩ := HC.out w2 hb2)
      | (go_at_call 75; refine (HX.out _ hb2).mono ?_; clear c20 c21 c22 c23 c24 cz2; rintro e3 w3 ⟨rfl, hb3⟩; obtain ⟨⟨c30, c31, c32, c33, c34⟩, cz3⟩ := HC.out w3 hb3)
      | (go_at_call 76; refine (HM.out _ hb3).mono ?_; clear c30 c31 c32 c33 c34 cz3; rintro e4 w4 ⟨rfl, hb4⟩; obtain ⟨⟨c40, c41, c42, c43, c44⟩, cz4⟩ := HC.out w4 hb4)
      | (go_at_call 77; refine (HA.out _ hb3).mono ?_; clear c30 c31 c32 c33 c34 cz3; rintro e5 w5 ⟨rfl, hb5⟩; obtain ⟨⟨c50, c51, c52, c53, c54⟩, cz5⟩ := HC.out w5 hb5))
    go_ret
    exact ⟨by rw [show faultB _ _ _ _ _ _ _ _ = (20 : Int) by unfold faultB; rw [if_pos (by omega)]]; rfl, belOn hb0 (by omega) hb3⟩
  by_cases hk2 : 24 < k
  · have hk25 : 25 ≤ k := by omega
    go_enter Tryz.func43, Tryz.ntmps43
    go_wp2_with (first
      | (go_at_call 73; refine (HE.out _ HBR.out).mono ?_; rintro e1 w1 ⟨rfl, hb1⟩; obtain ⟨⟨c10, c11, c12, c13, c14⟩, cz1⟩ := HC.out w1 hb1)
      | (go_at_call 74; refine (HN.out _ hb1).mono ?_; clear c10 c11 c12 c13 c14 cz1; rintro e2 w2 ⟨rfl, hb2⟩; obtain ⟨⟨c20, c21, c22, c23, c24⟩, cz2⟩ := HC.out w2 hb2)
      | (go_at_call 75; refine (HX.out _ hb2).mono ?_; clear c20 c21 c22 c23 c24 cz2; rintro e3 w3 ⟨rfl, hb3⟩; obtain ⟨⟨c30, c31, c32, c33, c34⟩, cz3⟩ := HC.out w3 hb3)
      | (go_at_call 76; refine (HM.out _ hb3).mono ?_; clear c30 c31 c32 c33 c34 cz3; rintro e4 w4 ⟨rfl, hb4⟩; obtain ⟨⟨c40, c41, c42, c43, c44⟩, cz4⟩ := HC.out w4 hb4)
      | (go_at_call 77; refine (HA.out _ hb3).mono ?_; clear c30 c31 c32 c33 c34 cz3; rintro e5 w5 ⟨rfl, hb5⟩; obtain ⟨⟨c50, c51, c52, c53, c54⟩, cz5⟩ := HC.out w5 hb5))
    go_ret
    exact ⟨by rw [show faultB _ _ _ _ _ _ _ _ = (20 : Int) by unfold faultB; rw [if_pos (by omega)]]; rfl, belOn hb0 (by omega) hb3⟩
  have hk25 : ¬ 25 ≤ k := by omega
  have hre := HRE.out (by omega) (by omega)
  subst hre
  clear HRE
  by_cases hd : 32 < d
  · go_enter Tryz.func43, Tryz.ntmps43
    go_wp2_with (first
      | (go_at_call 73; refine (HE.out _ HBR.out).mono ?_; rintro e1 w1 ⟨rfl, hb1⟩; obtain ⟨⟨c10, c11, c12, c13, c14⟩, cz1⟩ := HC.out w1 hb1)
      | (go_at_call 74; refine (HN.out _ hb1).mono ?_; clear c10 c11 c12 c13 c14 cz1; rintro e2 w2 ⟨rfl, hb2⟩; obtain ⟨⟨c20, c21, c22, c23, c24⟩, cz2⟩ := HC.out w2 hb2)
      | (go_at_call 75; refine (HX.out _ hb2).mono ?_; clear c20 c21 c22 c23 c24 cz2; rintro e3 w3 ⟨rfl, hb3⟩; obtain ⟨⟨c30, c31, c32, c33, c34⟩, cz3⟩ := HC.out w3 hb3)
      | (go_at_call 76; refine (HM.out _ hb3).mono ?_; clear c30 c31 c32 c33 c34 cz3; rintro e4 w4 ⟨rfl, hb4⟩; obtain ⟨⟨c40, c41, c42, c43, c44⟩, cz4⟩ := HC.out w4 hb4)
      | (go_at_call 77; refine (HA.out _ hb3).mono ?_; clear c30 c31 c32 c33 c34 cz3; rintro e5 w5 ⟨rfl, hb5⟩; obtain ⟨⟨c50, c51, c52, c53, c54⟩, cz5⟩ := HC.out w5 hb5))
    go_ret
    exact ⟨by rw [show faultB _ _ _ _ _ _ _ _ = (26 : Int) by unfold faultB; rw [if_neg (by omega), if_pos (by omega)]]; rfl, belOn hb0 (by omega) hb3⟩
  cases bR
  rotate_left
  · go_enter Tryz.func43, Tryz.ntmps43
    go_wp2_with (first
      | (go_at_call 73; refine (HE.out _ HBR.out).mono ?_; rintro e1 w1 ⟨rfl, hb1⟩; obtain ⟨⟨c10, c11, c12, c13, c14⟩, cz1⟩ := HC.out w1 hb1)
      | (go_at_call 74; refine (HN.out _ hb1).mono ?_; clear c10 c11 c12 c13 c14 cz1; rintro e2 w2 ⟨rfl, hb2⟩; obtain ⟨⟨c20, c21, c22, c23, c24⟩, cz2⟩ := HC.out w2 hb2)
      | (go_at_call 75; refine (HX.out _ hb2).mono ?_; clear c20 c21 c22 c23 c24 cz2; rintro e3 w3 ⟨rfl, hb3⟩; obtain ⟨⟨c30, c31, c32, c33, c34⟩, cz3⟩ := HC.out w3 hb3)
      | (go_at_call 76; refine (HM.out _ hb3).mono ?_; clear c30 c31 c32 c33 c34 cz3; rintro e4 w4 ⟨rfl, hb4⟩; obtain ⟨⟨c40, c41, c42, c43, c44⟩, cz4⟩ := HC.out w4 hb4)
      | (go_at_call 77; refine (HA.out _ hb3).mono ?_; clear c30 c31 c32 c33 c34 cz3; rintro e5 w5 ⟨rfl, hb5⟩; obtain ⟨⟨c50, c51, c52, c53, c54⟩, cz5⟩ := HC.out w5 hb5))
    go_ret
    exact ⟨by rw [show faultB _ _ _ _ _ _ _ _ = (25 : Int) by unfold faultB; rw [if_neg (by omega), if_neg (by omega), if_pos rfl]]; rfl, belOn hb0 (by omega) hb3⟩
  cases bN
  · go_enter Tryz.func43, Tryz.ntmps43
    go_wp2_with (first
      | (go_at_call 73; refine (HE.out _ HBR.out).mono ?_; rintro e1 w1 ⟨rfl, hb1⟩; obtain ⟨⟨c10, c11, c12, c13, c14⟩, cz1⟩ := HC.out w1 hb1)
      | (go_at_call 74; refine (HN.out _ hb1).mono ?_; clear c10 c11 c12 c13 c14 cz1; rintro e2 w2 ⟨rfl, hb2⟩; obtain ⟨⟨c20, c21, c22, c23, c24⟩, cz2⟩ := HC.out w2 hb2)
      | (go_at_call 75; refine (HX.out _ hb2).mono ?_; clear c20 c21 c22 c23 c24 cz2; rintro e3 w3 ⟨rfl, hb3⟩; obtain ⟨⟨c30, c31, c32, c33, c34⟩, cz3⟩ := HC.out w3 hb3)
      | (go_at_call 76; refine (HM.out _ hb3).mono ?_; clear c30 c31 c32 c33 c34 cz3; rintro e4 w4 ⟨rfl, hb4⟩; obtain ⟨⟨c40, c41, c42, c43, c44⟩, cz4⟩ := HC.out w4 hb4)
      | (go_at_call 77; refine (HA.out _ hb3).mono ?_; clear c30 c31 c32 c33 c34 cz3; rintro e5 w5 ⟨rfl, hb5⟩; obtain ⟨⟨c50, c51, c52, c53, c54⟩, cz5⟩ := HC.out w5 hb5))
    go_ret
    exact ⟨by rw [show faultB _ _ _ _ _ _ _ _ = (21 : Int) by unfold faultB; rw [if_neg (by omega), if_neg (by omega), if_neg (by simp), if_pos rfl]]; rfl, belOn hb0 (by omega) hb3⟩
  cases bX
  · go_enter Tryz.func43, Tryz.ntmps43
    go_wp2_with (first
      | (go_at_call 73; refine (HE.out _ HBR.out).mono ?_; rintro e1 w1 ⟨rfl, hb1⟩; obtain ⟨⟨c10, c11, c12, c13, c14⟩, cz1⟩ := HC.out w1 hb1)
      | (go_at_call 74; refine (HN.out _ hb1).mono ?_; clear c10 c11 c12 c13 c14 cz1; rintro e2 w2 ⟨rfl, hb2⟩; obtain ⟨⟨c20, c21, c22, c23, c24⟩, cz2⟩ := HC.out w2 hb2)
      | (go_at_call 75; refine (HX.out _ hb2).mono ?_; clear c20 c21 c22 c23 c24 cz2; rintro e3 w3 ⟨rfl, hb3⟩; obtain ⟨⟨c30, c31, c32, c33, c34⟩, cz3⟩ := HC.out w3 hb3)
      | (go_at_call 76; refine (HM.out _ hb3).mono ?_; clear c30 c31 c32 c33 c34 cz3; rintro e4 w4 ⟨rfl, hb4⟩; obtain ⟨⟨c40, c41, c42, c43, c44⟩, cz4⟩ := HC.out w4 hb4)
      | (go_at_call 77; refine (HA.out _ hb3).mono ?_; clear c30 c31 c32 c33 c34 cz3; rintro e5 w5 ⟨rfl, hb5⟩; obtain ⟨⟨c50, c51, c52, c53, c54⟩, cz5⟩ := HC.out w5 hb5))
    go_ret
    exact ⟨by rw [show faultB _ _ _ _ _ _ _ _ = (22 : Int) by unfold faultB; rw [if_neg (by omega), if_neg (by omega), if_neg (by simp), if_neg (by simp), if_pos rfl]]; rfl, belOn hb0 (by omega) hb3⟩
  by_cases h22 : k = 22
  · subst h22
    cases bM
    · go_enter Tryz.func43, Tryz.ntmps43
      go_wp2_with (first
        | (go_at_call 73; refine (HE.out _ HBR.out).mono ?_; rintro e1 w1 ⟨rfl, hb1⟩; obtain ⟨⟨c10, c11, c12, c13, c14⟩, cz1⟩ := HC.out w1 hb1)
        | (go_at_call 74; refine (HN.out _ hb1).mono ?_; clear c10 c11 c12 c13 c14 cz1; rintro e2 w2 ⟨rfl, hb2⟩; obtain ⟨⟨c20, c21, c22, c23, c24⟩, cz2⟩ := HC.out w2 hb2)
        | (go_at_call 75; refine (HX.out _ hb2).mono ?_; clear c20 c21 c22 c23 c24 cz2; rintro e3 w3 ⟨rfl, hb3⟩; obtain ⟨⟨c30, c31, c32, c33, c34⟩, cz3⟩ := HC.out w3 hb3)
        | (go_at_call 76; refine (HM.out _ hb3).mono ?_; clear c30 c31 c32 c33 c34 cz3; rintro e4 w4 ⟨rfl, hb4⟩; obtain ⟨⟨c40, c41, c42, c43, c44⟩, cz4⟩ := HC.out w4 hb4)
        | (go_at_call 77; refine (HA.out _ hb3).mono ?_; clear c30 c31 c32 c33 c34 cz3; rintro e5 w5 ⟨rfl, hb5⟩; obtain ⟨⟨c50, c51, c52, c53, c54⟩, cz5⟩ := HC.out w5 hb5))
      go_ret
      exact ⟨by rw [show faultB _ _ _ _ _ _ _ _ = (23 : Int) by unfold faultB; rw [if_neg (by omega), if_neg (by omega), if_neg (by simp), if_neg (by simp), if_neg (by simp), if_pos ⟨rfl, rfl⟩]]; rfl, belOn hb0 (by omega) hb4⟩
    · go_enter Tryz.func43, Tryz.ntmps43
      go_wp2_with (first
        | (go_at_call 73; refine (HE.out _ HBR.out).mono ?_; rintro e1 w1 ⟨rfl, hb1⟩; obtain ⟨⟨c10, c11, c12, c13, c14⟩, cz1⟩ := HC.out w1 hb1)
        | (go_at_call 74; refine (HN.out _ hb1).mono ?_; clear c10 c11 c12 c13 c14 cz1; rintro e2 w2 ⟨rfl, hb2⟩; obtain ⟨⟨c20, c21, c22, c23, c24⟩, cz2⟩ := HC.out w2 hb2)
        | (go_at_call 75; refine (HX.out _ hb2).mono ?_; clear c20 c21 c22 c23 c24 cz2; rintro e3 w3 ⟨rfl, hb3⟩; obtain ⟨⟨c30, c31, c32, c33, c34⟩, cz3⟩ := HC.out w3 hb3)
        | (go_at_call 76; refine (HM.out _ hb3).mono ?_; clear c30 c31 c32 c33 c34 cz3; rintro e4 w4 ⟨rfl, hb4⟩; obtain ⟨⟨c40, c41, c42, c43, c44⟩, cz4⟩ := HC.out w4 hb4)
        | (go_at_call 77; refine (HA.out _ hb3).mono ?_; clear c30 c31 c32 c33 c34 cz3; rintro e5 w5 ⟨rfl, hb5⟩; obtain ⟨⟨c50, c51, c52, c53, c54⟩, cz5⟩ := HC.out w5 hb5))
      go_ret
      exact ⟨by rw [show faultB _ _ _ _ _ _ _ _ = (0 : Int) by unfold faultB; rw [if_neg (by omega), if_neg (by omega), if_neg (by simp), if_neg (by simp), if_neg (by simp), if_neg (by simp), if_neg (by simp), if_neg (by simp)]]; rfl, belOn hb0 (by omega) hb4⟩
  by_cases h23 : k = 23
  · subst h23
    cases bA
    · go_enter Tryz.func43, Tryz.ntmps43
      go_wp2_with (first
        | (go_at_call 73; refine (HE.out _ HBR.out).mono ?_; rintro e1 w1 ⟨rfl, hb1⟩; obtain ⟨⟨c10, c11, c12, c13, c14⟩, cz1⟩ := HC.out w1 hb1)
        | (go_at_call 74; refine (HN.out _ hb1).mono ?_; clear c10 c11 c12 c13 c14 cz1; rintro e2 w2 ⟨rfl, hb2⟩; obtain ⟨⟨c20, c21, c22, c23, c24⟩, cz2⟩ := HC.out w2 hb2)
        | (go_at_call 75; refine (HX.out _ hb2).mono ?_; clear c20 c21 c22 c23 c24 cz2; rintro e3 w3 ⟨rfl, hb3⟩; obtain ⟨⟨c30, c31, c32, c33, c34⟩, cz3⟩ := HC.out w3 hb3)
        | (go_at_call 76; refine (HM.out _ hb3).mono ?_; clear c30 c31 c32 c33 c34 cz3; rintro e4 w4 ⟨rfl, hb4⟩; obtain ⟨⟨c40, c41, c42, c43, c44⟩, cz4⟩ := HC.out w4 hb4)
        | (go_at_call 77; refine (HA.out _ hb3).mono ?_; clear c30 c31 c32 c33 c34 cz3; rintro e5 w5 ⟨rfl, hb5⟩; obtain ⟨⟨c50, c51, c52, c53, c54⟩, cz5⟩ := HC.out w5 hb5))
      go_ret
      exact ⟨by rw [show faultB _ _ _ _ _ _ _ _ = (24 : Int) by unfold faultB; rw [if_neg (by omega), if_neg (by omega), if_neg (by simp), if_neg (by simp), if_neg (by simp), if_neg (by simp), if_pos ⟨rfl, rfl⟩]]; rfl, belOn hb0 (by omega) hb5⟩
    · go_enter Tryz.func43, Tryz.ntmps43
      go_wp2_with (first
        | (go_at_call 73; refine (HE.out _ HBR.out).mono ?_; rintro e1 w1 ⟨rfl, hb1⟩; obtain ⟨⟨c10, c11, c12, c13, c14⟩, cz1⟩ := HC.out w1 hb1)
        | (go_at_call 74; refine (HN.out _ hb1).mono ?_; clear c10 c11 c12 c13 c14 cz1; rintro e2 w2 ⟨rfl, hb2⟩; obtain ⟨⟨c20, c21, c22, c23, c24⟩, cz2⟩ := HC.out w2 hb2)
        | (go_at_call 75; refine (HX.out _ hb2).mono ?_; clear c20 c21 c22 c23 c24 cz2; rintro e3 w3 ⟨rfl, hb3⟩; obtain ⟨⟨c30, c31, c32, c33, c34⟩, cz3⟩ := HC.out w3 hb3)
        | (go_at_call 76; refine (HM.out _ hb3).mono ?_; clear c30 c31 c32 c33 c34 cz3; rintro e4 w4 ⟨rfl, hb4⟩; obtain ⟨⟨c40, c41, c42, c43, c44⟩, cz4⟩ := HC.out w4 hb4)
        | (go_at_call 77; refine (HA.out _ hb3).mono ?_; clear c30 c31 c32 c33 c34 cz3; rintro e5 w5 ⟨rfl, hb5⟩; obtain ⟨⟨c50, c51, c52, c53, c54⟩, cz5⟩ := HC.out w5 hb5))
      go_ret
      exact ⟨by rw [show faultB _ _ _ _ _ _ _ _ = (0 : Int) by unfold faultB; rw [if_neg (by omega), if_neg (by omega), if_neg (by simp), if_neg (by simp), if_neg (by simp), if_neg (by simp), if_neg (by simp), if_neg (by simp)]]; rfl, belOn hb0 (by omega) hb5⟩
  by_cases h24 : k = 24
  · subst h24
    by_cases hl2 : l.length = 2
    · have hl2' : ((l.length : Int) == 2) = true := by simp; omega
      have HL2 := hide hl2
      clear hl2
      go_enter Tryz.func43, Tryz.ntmps43
      go_wp2_with (first
        | (go_at_call 73; refine (HE.out _ HBR.out).mono ?_; rintro e1 w1 ⟨rfl, hb1⟩; obtain ⟨⟨c10, c11, c12, c13, c14⟩, cz1⟩ := HC.out w1 hb1)
        | (go_at_call 74; refine (HN.out _ hb1).mono ?_; clear c10 c11 c12 c13 c14 cz1; rintro e2 w2 ⟨rfl, hb2⟩; obtain ⟨⟨c20, c21, c22, c23, c24⟩, cz2⟩ := HC.out w2 hb2)
        | (go_at_call 75; refine (HX.out _ hb2).mono ?_; clear c20 c21 c22 c23 c24 cz2; rintro e3 w3 ⟨rfl, hb3⟩; obtain ⟨⟨c30, c31, c32, c33, c34⟩, cz3⟩ := HC.out w3 hb3)
        | (go_at_call 76; refine (HM.out _ hb3).mono ?_; clear c30 c31 c32 c33 c34 cz3; rintro e4 w4 ⟨rfl, hb4⟩; obtain ⟨⟨c40, c41, c42, c43, c44⟩, cz4⟩ := HC.out w4 hb4)
        | (go_at_call 77; refine (HA.out _ hb3).mono ?_; clear c30 c31 c32 c33 c34 cz3; rintro e5 w5 ⟨rfl, hb5⟩; obtain ⟨⟨c50, c51, c52, c53, c54⟩, cz5⟩ := HC.out w5 hb5))
      go_ret
      exact ⟨by rw [show faultB _ _ _ _ _ _ _ _ = (0 : Int) by unfold faultB; rw [if_neg (by omega), if_neg (by omega), if_neg (by simp), if_neg (by simp), if_neg (by simp), if_neg (by simp), if_neg (by simp), if_neg (fun h => h.2 HL2.out)]]; rfl, belOn hb0 (by omega) hb3⟩
    · have hl2' : ((l.length : Int) == 2) = false := by simp; omega
      go_enter Tryz.func43, Tryz.ntmps43
      go_wp2_with (first
        | (go_at_call 73; refine (HE.out _ HBR.out).mono ?_; rintro e1 w1 ⟨rfl, hb1⟩; obtain ⟨⟨c10, c11, c12, c13, c14⟩, cz1⟩ := HC.out w1 hb1)
        | (go_at_call 74; refine (HN.out _ hb1).mono ?_; clear c10 c11 c12 c13 c14 cz1; rintro e2 w2 ⟨rfl, hb2⟩; obtain ⟨⟨c20, c21, c22, c23, c24⟩, cz2⟩ := HC.out w2 hb2)
        | (go_at_call 75; refine (HX.out _ hb2).mono ?_; clear c20 c21 c22 c23 c24 cz2; rintro e3 w3 ⟨rfl, hb3⟩; obtain ⟨⟨c30, c31, c32, c33, c34⟩, cz3⟩ := HC.out w3 hb3)
        | (go_at_call 76; refine (HM.out _ hb3).mono ?_; clear c30 c31 c32 c33 c34 cz3; rintro e4 w4 ⟨rfl, hb4⟩; obtain ⟨⟨c40, c41, c42, c43, c44⟩, cz4⟩ := HC.out w4 hb4)
        | (go_at_call 77; refine (HA.out _ hb3).mono ?_; clear c30 c31 c32 c33 c34 cz3; rintro e5 w5 ⟨rfl, hb5⟩; obtain ⟨⟨c50, c51, c52, c53, c54⟩, cz5⟩ := HC.out w5 hb5))
      go_ret
      exact ⟨by rw [show faultB _ _ _ _ _ _ _ _ = (27 : Int) by unfold faultB; rw [if_neg (by omega), if_neg (by omega), if_neg (by simp), if_neg (by simp), if_neg (by simp), if_neg (by simp), if_neg (by simp), if_pos ⟨rfl, hl2⟩]]; rfl, belOn hb0 (by omega) hb3⟩
  go_enter Tryz.func43, Tryz.ntmps43
  go_wp2_with (first
    | (go_at_call 73; refine (HE.out _ HBR.out).mono ?_; rintro e1 w1 ⟨rfl, hb1⟩; obtain ⟨⟨c10, c11, c12, c13, c14⟩, cz1⟩ := HC.out w1 hb1)
    | (go_at_call 74; refine (HN.out _ hb1).mono ?_; clear c10 c11 c12 c13 c14 cz1; rintro e2 w2 ⟨rfl, hb2⟩; obtain ⟨⟨c20, c21, c22, c23, c24⟩, cz2⟩ := HC.out w2 hb2)
    | (go_at_call 75; refine (HX.out _ hb2).mono ?_; clear c20 c21 c22 c23 c24 cz2; rintro e3 w3 ⟨rfl, hb3⟩; obtain ⟨⟨c30, c31, c32, c33, c34⟩, cz3⟩ := HC.out w3 hb3)
    | (go_at_call 76; refine (HM.out _ hb3).mono ?_; clear c30 c31 c32 c33 c34 cz3; rintro e4 w4 ⟨rfl, hb4⟩; obtain ⟨⟨c40, c41, c42, c43, c44⟩, cz4⟩ := HC.out w4 hb4)
    | (go_at_call 77; refine (HA.out _ hb3).mono ?_; clear c30 c31 c32 c33 c34 cz3; rintro e5 w5 ⟨rfl, hb5⟩; obtain ⟨⟨c50, c51, c52, c53, c54⟩, cz5⟩ := HC.out w5 hb5))
  go_ret
  exact ⟨by rw [show faultB _ _ _ _ _ _ _ _ = (0 : Int) by unfold faultB; rw [if_neg (by omega), if_neg (by omega), if_neg (by simp), if_neg (by simp), if_neg (by simp), if_neg (fun h => h22 h.1), if_neg (fun h => h23 h.1), if_neg (fun h => h24 h.1)]]; rfl, belOn hb0 (by omega) hb3⟩
end Go.Proofs.YthhlpjhkeendcaaGreatDoor
