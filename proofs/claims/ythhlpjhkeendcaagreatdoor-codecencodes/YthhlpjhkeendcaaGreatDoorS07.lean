/- VCmp, VOrd, VOrdD, VWeigh, VEq -/
import Derived.Test.YthhlpjhkeendcaaGreatDoorS01
import Derived.Test.YthhlpjhkeendcaaGreatDoorProg
import Derived.WalkLawsBesides
import Derived.Handy
import Derived.Outline
namespace Go.Proofs.YthhlpjhkeendcaaGreatDoor
open Go.RowKit
set_option linter.unusedVariables false
theorem nan_int (a : Int) (w : World) : Calls Tryz.prog 118 #[.int .i64 a] w fun e w' => e = .returned (.bool false) ∧ w = w' := by
  go_enter Tryz.func118, Tryz.ntmps118
  go_wp2
  go_ret
  exact ⟨by simp, rfl⟩
theorem nan_u64 (a : Int) (w : World) : Calls Tryz.prog 119 #[.int .u64 a] w fun e w' => e = .returned (.bool false) ∧ w = w' := by
  go_enter Tryz.func119, Tryz.ntmps119
  go_wp2
  go_ret
  exact ⟨by simp, rfl⟩
theorem nan_str (a : ByteArray) (w : World) : Calls Tryz.prog 120 #[.string a] w fun e w' => e = .returned (.bool false) ∧ w = w' := by
  go_enter Tryz.func120, Tryz.ntmps120
  go_wp2
  go_ret
  exact ⟨by simp, rfl⟩
theorem cmp_int (a b : Int) (w : World) : Calls Tryz.prog 101 #[.int .i64 a, .int .i64 b] w fun e w' => e = .returned (.int .i64 (cmpZ a b)) ∧ w = w' := by
  go_enter Tryz.func101, Tryz.ntmps101
  go_wp2_with (go_at_call 118; refine (nan_int _ _).mono ?_; rintro e w' ⟨rfl, rfl⟩)
  all_goals
    go_ret
    exact ⟨ret_int (by unfold cmpZ; split <;> (try split) <;> omega), rfl⟩
theorem cmp_u64 (a b : Int) (w : World) : Calls Tryz.prog 102 #[.int .u64 a, .int .u64 b] w fun e w' => e = .returned (.int .i64 (cmpZ a b)) ∧ w = w' := by
  go_enter Tryz.func102, Tryz.ntmps102
  go_wp2_with (go_at_call 119; refine (nan_u64 _ _).mono ?_; rintro e w' ⟨rfl, rfl⟩)
  all_goals
    go_ret
    exact ⟨ret_int (by unfold cmpZ; split <;> (try split) <;> omega), rfl⟩
theorem cmp_str (a b : ByteArray) (w : World) : Calls Tryz.prog 103 #[.string a, .string b] w fun e w' => e = .returned (.int .i64 (cmpB a.toList b.toList)) ∧ w = w' := by
  go_enter Tryz.func103, Tryz.ntmps103
  go_wp2_with (go_at_call 120; refine (nan_str _ _).mono ?_; rintro e w' ⟨rfl, rfl⟩)
  all_goals
    go_ret
    refine ⟨ret_int ?_, rfl⟩
    rw [cmpB_less] at *
    have hz := cmpB_zero a.toList b.toList
    have hs := sgn_cmpB a.toList b.toList
    simp only [decide_eq_true_eq, decide_eq_false_iff_not, Bool.not_eq_true', Bool.not_eq_false', beq_eq_false_iff_ne, beq_iff_eq, ne_eq] at *
    unfold Sgn at hs
    grind
theorem ords_step {l m : List V} {k : Nat} (h1 : k < l.length) (h2 : k < m.length) : T.ords (V.ts (l.drop k)) (V.ts (m.drop k)) = lex (T.ord l[k].t m[k].t) (T.ords (V.ts (l.drop (k + 1))) (V.ts (m.drop (k + 1)))) := by
  rw [List.drop_eq_getElem_cons h1, List.drop_eq_getElem_cons h2, V.ts, V.ts, T.ords]
structure BelD (B : Nat) (w w' : World) : Prop where
  below : Below B w w'
  drawn : w'.drawn = w.drawn
theorem BelD.refl (B : Nat) (w : World) : BelD B w w := ⟨Below.refl _ _, rfl⟩
theorem beld1 {B : Nat} {w wr : World} (h : BelD B w wr) (hB : B ≤ wr.heap.size) (o : Obj) : BelD B w (wr.alloc o) := ⟨bel1 h.below hB o, h.drawn⟩
theorem beld2 {B : Nat} {w wr : World} (h : BelD B w wr) (hB : B ≤ wr.heap.size) (o p : Obj) : BelD B w ((wr.alloc o).alloc p) := ⟨bel2 h.below hB o p, h.drawn⟩
theorem beldOn {B : Nat} {w w1 w2 : World} (h : BelD B w w1) (hB : B ≤ w1.heap.size) (k : BelD w1.heap.size w1 w2) : BelD B w w2 := ⟨belOn h.below hB k.below, k.drawn.trans h.drawn⟩
def OrdOkD (x : V) : Prop := ∀ (y : V) (n₀ : Nat) (w : World), n₀ ≤ w.heap.size → Lies n₀ w x → Lies n₀ w y →
  Calls Tryz.prog 87 #[x.val, y.val] w fun e w' => e = .returned (.int .i64 (T.ord x.t y.t)) ∧ BelD w.heap.size w w'
set_option maxRecDepth 100000 in
set_option maxHeartbeats 1000000 in
theorem cmpf_someD (l m : List V) (ih : ∀ x ∈ l, OrdOkD x) (lb lo lc : Nat) (ma : Option Addr) (mc n₀ : Nat) (w : World) (hn : n₀ ≤ w.heap.size) (hl : l.length ≤ lc) (hlc : l.length ≤ 281474976710656) (hm : m.length ≤ mc) (hmc : m.length ≤ 281474976710656)
    (hlt : lb < n₀) (lr : Row w lb lo l) (ls : ∀ x ∈ l, Lies n₀ w x) (mr : 0 < m.length → ∃ b o, ma = some ⟨b, o, none⟩ ∧ b < n₀ ∧ Row w b o m) (ms : ∀ x ∈ m, Lies n₀ w x) :
    Calls Tryz.prog 104 #[.slice (some ⟨lb, lo, none⟩) l.length lc, .slice ma m.length mc, .func (.func 87) #[] #[]] w fun e w' =>
      e = .returned (.int .i64 (T.ords (V.ts l) (V.ts m))) ∧ BelD w.heap.size w w' := by
  have LR := hide lr
  have LS := hide ls
  have MR := hide mr
  have MS := hide ms
  have IH := hide ih
  clear lr ls mr ms ih
  go_enter Tryz.func104, Tryz.ntmps104
  go_wp2
  go_loopw [13] (fun i wr => ∃ k : Nat, i = .int .i64 k ∧ k ≤ l.length ∧ k ≤ m.length ∧ BelD w.heap.size w wr ∧ Hid (T.ords (V.ts l) (V.ts m) = T.ords (V.ts (l.drop k)) (V.ts (m.drop k)))) (fun i _ => l.length - (intOf i).toNat)
  case atStart => exact ⟨0, rfl, Nat.zero_le _, Nat.zero_le _, BelD.refl _ _, rfl⟩
  case round =>
    obtain ⟨k, rfl, hk, hkm, hb, HO⟩ := hrel
    by_cases h1 : k < l.length
    · by_cases h2 : k < m.length
      · obtain ⟨mb, mo, rfl, hmlt, mr⟩ := MR.out (by omega)
        obtain ⟨x0, x1, x2, x3, x4⟩ := (LR.out.below hb.below (by omega)) k h1
        obtain ⟨y0, y1, y2, y3, y4⟩ := (mr.below hb.below (by omega)) k h2
        have MR' := hide mr
        clear mr
        have hsz := hb.below.size
        have hA : lb < wr.heap.size := by omega
        have hB : mb < wr.heap.size := by omega
        have hA' : lb ≠ wr.heap.size := by omega
        have hB' : mb ≠ wr.heap.size := by omega
        have hx := IH.out l[k] (List.getElem_mem h1) m[k]
        rw [V.val_eq, V.val_eq] at hx
        have HX := hide hx
        clear hx
        go_wp2_with fail
        have hbb := beld2 hb hsz (Obj.cells #[.int .i64 l[k].k, .int .u64 l[k].n, .string l[k].s, .slice l[k].a l[k].l.length l[k].c, .int .i64 l[k].e] 25) (Obj.cells #[.int .i64 m[k].k, .int .u64 m[k].n, .string m[k].s, .slice m[k].a m[k].l.length m[k].c, .int .i64 m[k].e] 25)
        refine Calls.mono (HX.out n₀ _ ?_ ((LS.out _ (List.getElem_mem h1)).keep hbb.below hn) ((MS.out _ (List.getElem_mem h2)).keep hbb.below hn)) ?_
        · simp; omega
        · rintro e w1 ⟨rfl, hb1⟩
          have hbw := beldOn hbb (by simp; omega) hb1
          have hst := hide (ords_step h1 h2)
          clear hb1 hbb
          go_wp2
          · have hne : T.ord l[k].t m[k].t ≠ 0 := by rename_i h; simpa using h
            go_ret
            exact ⟨ret_int (by rw [HO.out, hst.out, lex, if_neg hne]), hbw⟩
          · have he : T.ord l[k].t m[k].t = 0 := by rename_i h; simpa using h
            go_roundw
            case rel => exact ⟨k + 1, by go_num, h1, h2, hbw, by rw [HO.out, hst.out, lex, if_pos he]; rfl⟩
            case measure => simp [intOf]; omega
      · obtain rfl : k = m.length := by omega
        obtain ⟨x0, x1, x2, x3, x4⟩ := (LR.out.below hb.below (by omega)) m.length h1
        have hsz := hb.below.size
        have hA : lb < wr.heap.size := by omega
        go_wp2
        go_ret
        refine ⟨ret_int ?_, beld1 hb hsz _⟩
        rw [HO.out, List.drop_eq_getElem_cons h1, List.drop_length, V.ts, V.ts, T.ords]
    · obtain rfl : k = l.length := by omega
      go_wp2
      · go_ret
        refine ⟨ret_int ?_, hb⟩
        rw [HO.out, List.drop_length, List.drop_eq_getElem_cons (by omega), V.ts, V.ts, T.ords]
      · go_ret
        refine ⟨ret_int ?_, hb⟩
        have : m.drop l.length = [] := List.drop_of_length_le (by omega)
        rw [HO.out, List.drop_length, this, V.ts, T.ords]
set_option maxRecDepth 100000 in
theorem cmpf_noneD (m : List V) (la : Option Addr) (lc : Nat) (ma : Option Addr) (mc : Nat) (w : World) (hm : m.length ≤ 281474976710656) :
    Calls Tryz.prog 104 #[.slice la 0 lc, .slice ma m.length mc, .func (.func 87) #[] #[]] w fun e w' =>
      e = .returned (.int .i64 (T.ords (V.ts []) (V.ts m))) ∧ BelD w.heap.size w w' := by
  go_enter Tryz.func104, Tryz.ntmps104
  go_wp2
  refine wp_loop_rounds 1 ?_
  rw [rounds_succ]
  by_cases h : 0 < m.length
  · go_wp2
    go_ret
    refine ⟨ret_int ?_, BelD.refl _ _⟩
    cases m with
    | nil => simp at h
    | cons x m => rw [V.ts, V.ts, T.ords]
  · obtain rfl : m = [] := List.eq_nil_of_length_eq_zero (by omega)
    go_wp2
    go_ret
    exact ⟨ret_int (by rw [V.ts, T.ords]), BelD.refl _ _⟩
set_option maxRecDepth 100000 in
set_option maxHeartbeats 1000000 in
theorem order_anyD : ∀ x, OrdOkD x := by
  refine V.ind ?_
  intro k n s a c e l ih y n₀ w hn hx hy
  obtain ⟨k', n', s', a', c', e', l', rfl⟩ := V.ex y
  case _ =>
    have hf : ∀ w1, BelD w.heap.size w w1 → Calls Tryz.prog 104 #[.slice a l.length c, .slice a' l'.length c', .func (.func 87) #[] #[]] w1 fun e w' =>
        e = .returned (.int .i64 (T.ords (V.ts l) (V.ts l'))) ∧ BelD w1.heap.size w1 w' := by
      intro w1 hb
      have hx1 := hx.keep hb.below hn
      have hy1 := hy.keep hb.below hn
      have hsz := hb.below.size
      have o1 := hx1.ok
      have o2 := hy1.ok
      by_cases h : 0 < l.length
      · obtain ⟨b, o, rfl, hlt, hr⟩ := hx1.row h
        exact cmpf_someD l l' ih b o c a' c' n₀ w1 (by omega) o1.l (by have := o1.c; omega) o2.l (by have := o2.c; omega) hlt hr hx1.sub hy1.row hy1.sub
      · obtain rfl : l = [] := List.eq_nil_of_length_eq_zero (by omega)
        exact cmpf_noneD l' a c a' c' w1 (by have := o2.l; have := o2.c; omega)
    have HF := hide hf
    clear hf ih
    rw [V.val_of, V.val_of]
    go_enter Tryz.func87, Tryz.ntmps87
    go_wp2_with (first
      | (go_at_call 101; refine (cmp_int _ _ _).mono ?_; rintro e w' ⟨rfl, rfl⟩)
      | (go_at_call 102; refine (cmp_u64 _ _ _).mono ?_; rintro e w' ⟨rfl, rfl⟩)
      | (go_at_call 103; refine (cmp_str _ _ _).mono ?_; rintro e w' ⟨rfl, rfl⟩)
      | (go_at_call 104; refine (HF.out _ (beld2 (BelD.refl _ _) (Nat.le_refl _) _ _)).mono ?_; rintro e w' ⟨rfl, hbw⟩; obtain ⟨hc, hfz⟩ := bcell hbw.below; have hz : w.heap.size + 1 < w'.heap.size := (by have := hbw.below.size; simp at this; omega)))
    all_goals
      go_ret
      refine ⟨ret_int ?_, ?_⟩
      · rw [V.t_of, V.t_of, T.of, T.of, T.ord_of]
        simp only [V.k_of, V.n_of, V.s_of, V.e_of, V.l_of, lex]
        simp_all
      · first | exact beld2 (BelD.refl _ _) (Nat.le_refl _) _ _ | exact beldOn (beld2 (BelD.refl _ _) (Nat.le_refl _) _ _) (by simp; omega) hbw
def T.wt : T → Nat := V.fold (fun p ws => 1 + p.s.size / 64 + ws.sum) 0
def T.wts : List T → Nat
  | [] => 0
  | x :: l => T.wt x + T.wts l
theorem wts_sum (l : List T) : (l.map T.wt).sum = T.wts l := by
  induction l with
  | nil => rfl
  | cons x l ih => rw [List.map_cons, List.sum_cons, ih, T.wts]
theorem T.wt_of (k n : Int) (s : ByteArray) (e : Int) (l : List T) : T.wt (T.of k n s e l) = 1 + s.size / 64 + T.wts l := by
  rw [← wts_sum]
  unfold T.wt T.of
  rw [V.fold_of]
theorem wts_snoc (l : List V) (k : Nat) (h : k < l.length) : T.wts (V.ts (l.take (k + 1))) = T.wts (V.ts (l.take k)) + T.wt l[k].t := by
  induction l generalizing k with
  | nil => simp at h
  | cons x l ih =>
    cases k with
    | zero => simp [V.ts, T.wts]
    | succ k =>
      have := ih k (by simpa using h)
      simp only [List.take_succ_cons, V.ts, T.wts, List.getElem_cons_succ]
      omega
def WtOk (x : V) : Prop := ∀ (n : Int) (n₀ : Nat) (w : World), n₀ ≤ w.heap.size → Lies n₀ w x → 0 ≤ n → n ≤ 100000 →
  Calls Tryz.prog 18 #[x.val, .int .i64 n] w fun e w' => ∃ z, e = .returned (.int .i64 z) ∧ Hid (0 ≤ z ∧ z ≤ 35184372088832 ∧ (z ≤ 100000 → z = n + T.wt x.t)) ∧ Below w.heap.size w w'
set_option maxRecDepth 100000 in
set_option maxHeartbeats 1000000 in
theorem weigh_any : ∀ x, WtOk x := by
  refine V.ind ?_
  intro k n s a c e l ih m n₀ w hn hx h0 h1
  have HX := hide hx
  have IH := hide ih
  have ok := hx.ok
  have o1 := ok.s
  have o2 := ok.l
  have o3 := ok.c
  have OK := hide ok
  clear ok
  clear hx ih
  rw [V.val_of]
  go_enter Tryz.func18, Tryz.ntmps18
  go_wp2
  obtain ⟨W0, hW0⟩ : ∃ W0, w.alloc (Obj.cells #[.int .i64 k, .int .u64 n, .string s, .slice a l.length c, .int .i64 e] 25) = W0 := ⟨_, rfl⟩
  have c3 : W0.cell? ⟨w.heap.size, 3, none⟩ = some (.slice a l.length c) := by rw [← hW0]; simp [World.cell?_alloc_at]
  have hs0 : W0.heap.size = w.heap.size + 1 := by rw [← hW0]; simp
  have hb0 : Below w.heap.size w W0 := by rw [← hW0]; exact bel1 (Below.refl _ _) (Nat.le_refl _) _
  rw [hW0]
  clear hW0
  go_loopw [1, 5] (fun z i wr => ∃ (j : Nat) (y : Int), i = .int .i64 j ∧ z = .int .i64 y ∧ j ≤ l.length ∧ Below W0.heap.size W0 wr ∧ Hid (0 ≤ y ∧ y ≤ 35184372088832 ∧ (y ≤ 100000 → y = m + 1 + s.size / 64 + T.wts (V.ts (l.take j))))) (fun _ i _ => l.length - (intOf i).toNat)
  case atStart =>
    refine ⟨0, _, rfl, rfl, Nat.zero_le _, Below.refl _ _, by omega, by omega, fun _ => by simp [V.ts, T.wts]⟩
  case round =>
    obtain ⟨j, y, rfl, rfl, hj, hb, HY⟩ := hrel
    have cc := (hb.cell (p := ⟨w.heap.size, 3, none⟩) (by simp; omega)).trans c3
    by_cases hjl : j < l.length
    · by_cases hy : y ≤ 100000
      · obtain ⟨b, o, rfl, hlt, hr⟩ := HX.out.row (by omega)
        obtain ⟨x0, x1, x2, x3, x4⟩ := (hr.below (belOn hb0 (by omega) hb) (by omega)) j hjl
        have hx := IH.out l[j] (List.getElem_mem hjl) y
        rw [V.val_eq] at hx
        have HH := hide hx
        clear hx
        have hsz := hb.size
        obtain ⟨y1, y2, y3⟩ := HY.out
        go_wp2_with fail
        refine Calls.mono (HH.out n₀ wr (by omega) ((HX.out.sub _ (List.getElem_mem hjl)).keep (belOn hb0 (by omega) hb) hn) y1 hy) ?_
        rintro e w1 ⟨z, rfl, HZ, hb1⟩
        have hbw := belOn hb (by omega) hb1
        go_wp2
        go_roundw
        case rel =>
          refine ⟨j + 1, z, by go_num, rfl, hjl, hbw, HZ.out.1, HZ.out.2.1, fun hz => ?_⟩
          have e1 := HZ.out.2.2 hz
          have e2 := y3 hy
          rw [wts_snoc l j hjl]
          omega
        case measure => simp [intOf]; omega
      · have hy' : ¬ y ≤ 100000 := hy
        go_wp2
        go_ret
        refine ⟨y, rfl, ⟨HY.out.1, HY.out.2.1, fun h => by omega⟩, belOn hb0 (by omega) hb⟩
    · obtain rfl : j = l.length := by omega
      go_wp2
      go_ret
      refine ⟨y, rfl, ⟨HY.out.1, HY.out.2.1, fun h => ?_⟩, belOn hb0 (by omega) hb⟩
      have := HY.out.2.2 h
      rw [List.take_length] at this
      rw [V.t_of, T.wt_of]
      omega
set_option maxRecDepth 100000 in
set_option maxHeartbeats 1000000 in
theorem greatall_any (b o c n₀ : Nat) (l : List V) (w : World) (hn : n₀ ≤ w.heap.size) (hr : Row w b o l) (hlt : b < w.heap.size) (hl : ∀ x ∈ l, Lies n₀ w x) (hc : l.length ≤ c) (hcc : c ≤ 281474976710656) :
    Calls Tryz.prog 5 #[.slice (some ⟨b, o, none⟩) l.length c] w fun e w' => (e = .returned (.bool true) ∧ Below w.heap.size w w') ∨ (e = .returned (.bool false) ∧ T.wts (V.ts l) ≤ 100000 ∧ Below w.heap.size w w') := by
  have HR := hide hr
  have HL := hide hl
  clear hr hl
  go_enter Tryz.func5, Tryz.ntmps5
  go_wp2
  go_loopw [3, 4] (fun z i wr => ∃ (j : Nat) (y : Int), i = .int .i64 j ∧ z = .int .i64 y ∧ j ≤ l.length ∧ Below w.heap.size w wr ∧ Hid (0 ≤ y ∧ y ≤ 35184372088832 ∧ (y ≤ 100000 → y = T.wts (V.ts (l.take j))))) (fun _ i _ => l.length - (intOf i).toNat)
  case atStart =>
    refine ⟨0, _, rfl, rfl, Nat.zero_le _, Below.refl _ _, by omega, by omega, fun _ => by simp [V.ts, T.wts]⟩
  case round =>
    obtain ⟨j, y, rfl, rfl, hj, hb, HY⟩ := hrel
    have hsz := hb.size
    by_cases hjl : j < l.length
    · by_cases hy : y ≤ 100000
      · obtain ⟨x0, x1, x2, x3, x4⟩ := (HR.out.below hb (by omega)) j hjl
        have hx := weigh_any l[j] y
        rw [V.val_eq] at hx
        have HH := hide hx
        clear hx
        obtain ⟨y1, y2, y3⟩ := HY.out
        go_wp2_with fail
        refine Calls.mono (HH.out n₀ wr (by omega) ((HL.out _ (List.getElem_mem hjl)).keep hb hn) y1 hy) ?_
        rintro e w1 ⟨z, rfl, HZ, hb1⟩
        have hbw := belOn hb (by omega) hb1
        go_wp2
        go_roundw
        case rel =>
          refine ⟨j + 1, z, by go_num, rfl, hjl, hbw, HZ.out.1, HZ.out.2.1, fun hz => ?_⟩
          have e1 := HZ.out.2.2 hz
          have e2 := y3 hy
          rw [wts_snoc l j hjl]
          omega
        case measure => simp [intOf]; omega
      · have hy' : ¬ y ≤ 100000 := hy
        go_wp2
        go_ret
        exact .inl ⟨rfl, hb⟩
    · obtain rfl : j = l.length := by omega
      have hyb := HY.out
      rw [List.take_length] at hyb
      by_cases hy : y ≤ 100000
      · go_wp2
        go_ret
        exact .inr ⟨by simp; omega, by have := hyb.2.2 hy; omega, hb⟩
      · go_wp2
        go_ret
        exact .inl ⟨rfl, hb⟩
set_option linter.unusedSimpArgs false
def eqT (x y : T) : Bool := decide (T.ord x y = 0)
def eqsT (l m : List T) : Bool := decide (T.ords l m = 0)
theorem lex_zero (a b : Int) : lex a b = 0 ↔ a = 0 ∧ b = 0 := by unfold lex; split <;> omega
theorem cmpZ_zero (a b : Int) : cmpZ a b = 0 ↔ a = b := by unfold cmpZ; split <;> (try split) <;> omega
theorem eqsT_len {l m : List T} (h : eqsT l m = true) : l.length = m.length := by
  induction l generalizing m with
  | nil => cases m with
    | nil => rfl
    | cons y m => simp [eqsT, T.ords] at h
  | cons x l ih => cases m with
    | nil => simp [eqsT, T.ords] at h
    | cons y m =>
      simp only [eqsT, T.ords, decide_eq_true_eq, lex_zero] at h
      have := ih (m := m) (by simpa [eqsT] using h.2)
      simp [this]
theorem eqsT_step {l m : List V} {k : Nat} (h1 : k < l.length) (h2 : k < m.length) : eqsT (V.ts (l.drop k)) (V.ts (m.drop k)) = (eqT l[k].t m[k].t && eqsT (V.ts (l.drop (k + 1))) (V.ts (m.drop (k + 1)))) := by
  unfold eqsT eqT
  rw [ords_step h1 h2, Bool.eq_iff_iff]
  simp [lex_zero]
theorem eqT_of (k n : Int) (s : ByteArray) (a : Option Addr) (c : Nat) (e : Int) (l : List V) (k' n' : Int) (s' : ByteArray) (a' : Option Addr) (c' : Nat) (e' : Int) (l' : List V) :
    eqT (V.of k n s a c e l).t (V.of k' n' s' a' c' e' l').t = (decide (k = k') && decide (n = n') && decide (s.toList = s'.toList) && decide (e = e') && eqsT (V.ts l) (V.ts l')) := by
  unfold eqT eqsT
  rw [V.t_of, V.t_of, T.of, T.of, T.ord_of, V.l_of, Bool.eq_iff_iff]
  simp only [lex_zero, cmpZ_zero, cmpB_zero, V.k_of, V.n_of, V.s_of, V.e_of, Bool.and_eq_true, decide_eq_true_eq]
  constructor
  · rintro ⟨h1, h2, h3, h4, h5⟩; exact ⟨⟨⟨⟨h1, h2⟩, h3⟩, h5⟩, h4⟩
  · rintro ⟨⟨⟨⟨h1, h2⟩, h3⟩, h5⟩, h4⟩; exact ⟨h1, h2, h3, h4, h5⟩
def EqOk (x : V) : Prop := ∀ (y : V) (n₀ : Nat) (w : World), n₀ ≤ w.heap.size → Lies n₀ w x → Lies n₀ w y →
  Calls Tryz.prog 88 #[x.val, y.val] w fun e w' => e = .returned (.bool (eqT x.t y.t)) ∧ Below w.heap.size w w'
set_option maxRecDepth 100000 in
set_option maxHeartbeats 1000000 in
theorem eqf_any (l m : List V) (ih : ∀ x ∈ l, EqOk x) (la : Option Addr) (lc : Nat) (ma : Option Addr) (mc n₀ : Nat) (w : World) (hn : n₀ ≤ w.heap.size) (hlc : l.length ≤ 281474976710656) (hmc : m.length ≤ 281474976710656)
    (lr : 0 < l.length → ∃ b o, la = some ⟨b, o, none⟩ ∧ b < n₀ ∧ Row w b o l) (ls : ∀ x ∈ l, Lies n₀ w x) (mr : 0 < m.length → ∃ b o, ma = some ⟨b, o, none⟩ ∧ b < n₀ ∧ Row w b o m) (ms : ∀ x ∈ m, Lies n₀ w x) :
    Calls Tryz.prog 105 #[.slice la l.length lc, .slice ma m.length mc, .func (.func 88) #[] #[]] w fun e w' =>
      e = .returned (.bool (eqsT (V.ts l) (V.ts m))) ∧ Below w.heap.size w w' := by
  by_cases hlen : l.length = m.length
  · rw [← hlen]
    have hl1 : l.length ≤ m.length := by omega
    have hl2 : m.length ≤ l.length := by omega
    clear hlen
    have LR := hide lr
    have LS := hide ls
    have MR := hide mr
    have MS := hide ms
    have IH := hide ih
    clear lr ls mr ms ih
    go_enter Tryz.func105, Tryz.ntmps105
    go_wp2
    go_loopw [17] (fun i wr => ∃ k : Nat, i = .int .i64 k ∧ k ≤ l.length ∧ Below w.heap.size w wr ∧ Hid (eqsT (V.ts l) (V.ts m) = eqsT (V.ts (l.drop k)) (V.ts (m.drop k)))) (fun i _ => l.length - (intOf i).toNat)
    case atStart => exact ⟨0, rfl, Nat.zero_le _, Below.refl _ _, rfl⟩
    case round =>
      obtain ⟨k, rfl, hk, hb, HO⟩ := hrel
      have hsz := hb.size
      by_cases h1 : k < l.length
      · have h2 : k < m.length := by omega
        obtain ⟨b, o, rfl, hlt, hr⟩ := LR.out (by omega)
        obtain ⟨b', o', rfl, hlt', hr'⟩ := MR.out (by omega)
        obtain ⟨x0, x1, x2, x3, x4⟩ := (hr.below hb (by omega)) k h1
        obtain ⟨y0, y1, y2, y3, y4⟩ := (hr'.below hb (by omega)) k h2
        have hA : b < wr.heap.size := by omega
        have hB : b' < wr.heap.size := by omega
        have hA' : b ≠ wr.heap.size := by omega
        have hB' : b' ≠ wr.heap.size := by omega
        have hx := IH.out l[k] (List.getElem_mem h1) m[k]
        rw [V.val_eq, V.val_eq] at hx
        have HX := hide hx
        clear hx hr hr'
        go_wp2_with fail
        have hbb := bel2 hb hsz (Obj.cells #[.int .i64 l[k].k, .int .u64 l[k].n, .string l[k].s, .slice l[k].a l[k].l.length l[k].c, .int .i64 l[k].e] 25) (Obj.cells #[.int .i64 m[k].k, .int .u64 m[k].n, .string m[k].s, .slice m[k].a m[k].l.length m[k].c, .int .i64 m[k].e] 25)
        refine Calls.mono (HX.out n₀ _ ?_ ((LS.out _ (List.getElem_mem h1)).keep hbb hn) ((MS.out _ (List.getElem_mem h2)).keep hbb hn)) ?_
        · simp; omega
        · rintro e w1 ⟨rfl, hb1⟩
          have hbw := belOn hbb (by simp; omega) hb1
          have hst := eqsT_step h1 h2
          generalize eqT l[k].t m[k].t = q at hst ⊢
          have HST := hide hst
          clear hb1 hbb hst
          cases q
          · go_wp2
            go_ret
            exact ⟨by rw [HO.out, HST.out]; rfl, hbw⟩
          · go_wp2
            go_roundw
            case rel => exact ⟨k + 1, by go_num, h1, hbw, by rw [HO.out, HST.out, Bool.true_and]; rfl⟩
            case measure => simp [intOf]; omega
      · obtain rfl : k = l.length := by omega
        go_wp2
        go_ret
        refine ⟨?_, hb⟩
        have e1 : m.drop l.length = [] := List.drop_of_length_le (by omega)
        rw [HO.out, List.drop_length, e1]
        rfl
  · have hlb : ((l.length : Int) == (m.length : Int)) = false := by simp; omega
    have he : eqsT (V.ts l) (V.ts m) = false := by
      cases h : eqsT (V.ts l) (V.ts m) with
      | false => rfl
      | true =>
        have := eqsT_len h
        simp [V.ts_length] at this
        omega
    rw [he]
    clear lr ls mr ms ih
    go_enter Tryz.func105, Tryz.ntmps105
    go_wp2
    go_ret
    exact ⟨rfl, Below.refl _ _⟩
set_option maxRecDepth 100000 in
set_option maxHeartbeats 1000000 in
theorem equal_any : ∀ x, EqOk x := by
  refine V.ind ?_
  intro k n s a c e l ih y n₀ w hn hx hy
  obtain ⟨k', n', s', a', c', e', l', rfl⟩ := V.ex y
  rw [eqT_of]
  have hf : ∀ w1, Below w.heap.size w w1 → Calls Tryz.prog 105 #[.slice a l.length c, .slice a' l'.length c', .func (.func 88) #[] #[]] w1 fun e w' =>
      e = .returned (.bool (eqsT (V.ts l) (V.ts l'))) ∧ Below w1.heap.size w1 w' := by
    intro w1 hb
    have hx1 := hx.keep hb hn
    have hy1 := hy.keep hb hn
    have hsz := hb.size
    exact eqf_any l l' ih a c a' c' n₀ w1 (by omega) (by have := hx1.ok.c; omega) (by have := hy1.ok.c; omega) hx1.row hx1.sub hy1.row hy1.sub
  have HF := hide hf
  clear hf ih hx hy
  generalize eqsT (V.ts l) (V.ts l') = q at HF ⊢
  rw [V.val_of, V.val_of]
  have hbel := fun A B => bel2 (Below.refl w.heap.size w) (Nat.le_refl _) A B
  by_cases hk : k = k'
  · subst hk
    by_cases hnn : n = n'
    · subst hnn
      by_cases hss : s.toList = s'.toList
      · have hsb : (s.toList == s'.toList) = true := by simpa using hss
        by_cases hee : e = e'
        · subst hee
          go_enter Tryz.func88, Tryz.ntmps88
          go_wp2_with fail
          refine Calls.mono (HF.out _ (hbel _ _)) ?_
          rintro e1 w1 ⟨rfl, hb1⟩
          go_wp2
          go_ret
          exact ⟨by simp [hss], belOn (hbel _ _) (by simp; omega) hb1⟩
        · have heb : ((e : Int) == e') = false := by simpa using hee
          go_enter Tryz.func88, Tryz.ntmps88
          go_wp2
          go_ret
          exact ⟨by simp [hee], hbel _ _⟩
      · have hsb : (s.toList == s'.toList) = false := by simpa using hss
        go_enter Tryz.func88, Tryz.ntmps88
        go_wp2
        go_ret
        exact ⟨by simp [hss], hbel _ _⟩
    · have hnb : ((n : Int) == n') = false := by simpa using hnn
      go_enter Tryz.func88, Tryz.ntmps88
      go_wp2
      go_ret
      exact ⟨by simp [hnn], hbel _ _⟩
  · have hkb : ((k : Int) == k') = false := by simpa using hk
    go_enter Tryz.func88, Tryz.ntmps88
    go_wp2
    go_ret
    exact ⟨by simp [hk], hbel _ _⟩
end Go.Proofs.YthhlpjhkeendcaaGreatDoor
