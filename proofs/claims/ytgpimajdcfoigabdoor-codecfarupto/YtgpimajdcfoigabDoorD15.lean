import Derived.Shelf.SlSortCmp.WholeK
import Derived.Ground.SlsfProg
import Derived.Test.YtgpimajdcfoigabDoorProg
import Derived.Test.YtgpimajdcfoigabDoorD02
import Derived.WalkLawsBesides
import Derived.Handy
import Derived.Outline
/-
  DERIVED: THE SHELF's CONTRACTS AT THIS DUMP, IN PLAIN WORDS (tools/lay-plain.mjs out of 'TrydSort.lean', which tools/lay-shelf.mjs wrote): THE SAME DECLARATIONS UNDER THE SAME NAMES: 'import', 'namespace', 'open', 'def', 'theorem' AND NOTHING ELSE: no command of the shelf's: FOR A HAND-IN. Each laying: the table of numbers ('.._ren') and one theorem, a field a fact of the dump's own or the kernel's comparison; each contract: ONE APPLICATION.
-/
namespace Go.Proofs
open Go.Shelf
def Tryd.sortV_ren : Go.Shelf.Ren := ⟨fun | 6 => 61 | 15 => 65 | 14 => 64 | 28 => 79 | 29 => 80 | 20 => 71 | 21 => 72 | 22 => 73 | 23 => 74 | 24 => 75 | 25 => 76 | 26 => 77 | 27 => 78 | 46 => 84 | 47 => 85 | 48 => 86 | 49 => 87 | 50 => 88 | 57 => 89 | n => n, fun | 22 => 23 | 24 => 25 | 25 => 92 | 3 => 3 | 39 => 85 | 0 => 0 | 53 => 109 | 55 => 22 | 4 => 4 | 46 => 103 | 45 => 102 | 50 => 57 | 5 => 5 | 9 => 9 | 66 => 117 | 70 => 121 | 76 => 123 | 77 => 124 | n => n, fun | n => n⟩
theorem Tryd.sortV : Go.Proofs.SlLaysF0.n6 Tryd.prog Tryd.sortV_ren := {
  mixed := by kernel_rfl
  f6 := ⟨Tryd.f61.name, by decide, Tryd.func61.trans (congrArg some (by kernel_rfl))⟩
  f14 := ⟨Tryd.f64.name, by decide, Tryd.func64.trans (congrArg some (by kernel_rfl))⟩
  f15 := Tryd.func65.trans (congrArg some (by kernel_rfl))
  f20 := ⟨Tryd.f71.name, by decide, Tryd.func71.trans (congrArg some (by kernel_rfl))⟩
  f21 := ⟨Tryd.f72.name, by decide, Tryd.func72.trans (congrArg some (by kernel_rfl))⟩
  f22 := ⟨Tryd.f73.name, by decide, Tryd.func73.trans (congrArg some (by kernel_rfl))⟩
  f23 := ⟨Tryd.f74.name, by decide, Tryd.func74.trans (congrArg some (by kernel_rfl))⟩
  f24 := ⟨Tryd.f75.name, by decide, Tryd.func75.trans (congrArg some (by kernel_rfl))⟩
  f25 := ⟨Tryd.f76.name, by decide, Tryd.func76.trans (congrArg some (by kernel_rfl))⟩
  f26 := ⟨Tryd.f77.name, by decide, Tryd.func77.trans (congrArg some (by kernel_rfl))⟩
  f27 := ⟨Tryd.f78.name, by decide, Tryd.func78.trans (congrArg some (by kernel_rfl))⟩
  f28 := Tryd.func79.trans (congrArg some (by kernel_rfl))
  f29 := Tryd.func80.trans (congrArg some (by kernel_rfl))
  f46 := ⟨Tryd.f84.name, by decide, Tryd.func84.trans (congrArg some (by kernel_rfl))⟩
  f47 := Tryd.func85.trans (congrArg some (by kernel_rfl))
  f48 := Tryd.func86.trans (congrArg some (by kernel_rfl))
  f49 := ⟨Tryd.f87.name, by decide, Tryd.func87.trans (congrArg some (by kernel_rfl))⟩
  f50 := ⟨Tryd.f88.name, by decide, Tryd.func88.trans (congrArg some (by kernel_rfl))⟩
  f57 := ⟨Tryd.f89.name, by decide, Tryd.func89.trans (congrArg some (by kernel_rfl))⟩
  t0 := Tryd.underlying0
  a0 := Tryd.isAgg0
  z0 := Tryd.sizeOf0
  v0 := Tryd.zeroValue0
  t3 := Tryd.underlying3
  a3 := Tryd.isAgg3
  z3 := Tryd.sizeOf3
  v3 := Tryd.zeroValue3
  t4 := Tryd.underlying4
  a4 := Tryd.isAgg4
  z4 := Tryd.sizeOf4
  v4 := Tryd.zeroValue4
  t5 := Tryd.underlying5
  a5 := Tryd.isAgg5
  z5 := Tryd.sizeOf5
  v5 := Tryd.zeroValue5
  t9 := Tryd.underlying9
  a9 := Tryd.isAgg9
  z9 := Tryd.sizeOf9
  v9 := Tryd.zeroValue9
  t22 := Tryd.underlying23
  a22 := Tryd.isAgg23
  z22 := Tryd.sizeOf23
  v22 := Tryd.zeroValue23
  t25 := Tryd.underlying92
  a25 := Tryd.isAgg92
  z25 := Tryd.sizeOf92
  v25 := Tryd.zeroValue92
  t39 := Tryd.underlying85
  a39 := Tryd.isAgg85
  z39 := Tryd.sizeOf85
  v39 := Tryd.zeroValue85
  t45 := Tryd.underlying102
  a45 := Tryd.isAgg102
  z45 := Tryd.sizeOf102
  v45 := Tryd.zeroValue102
  t46 := Tryd.underlying103
  a46 := Tryd.isAgg103
  z46 := Tryd.sizeOf103
  v46 := Tryd.zeroValue103
  t50 := Tryd.underlying57
  a50 := Tryd.isAgg57
  z50 := Tryd.sizeOf57
  v50 := Tryd.zeroValue57
  t53 := Tryd.underlying109
  a53 := Tryd.isAgg109
  z53 := Tryd.sizeOf109
  v53 := Tryd.zeroValue109
  t55 := Tryd.underlying22
  a55 := Tryd.isAgg22
  z55 := Tryd.sizeOf22
  v55 := Tryd.zeroValue22
  t66 := Tryd.underlying117
  a66 := Tryd.isAgg117
  z66 := Tryd.sizeOf117
  v66 := Tryd.zeroValue117
  t70 := Tryd.underlying121
  a70 := Tryd.isAgg121
  z70 := Tryd.sizeOf121
  v70 := Tryd.zeroValue121
  t76 := Tryd.underlying123
  a76 := Tryd.isAgg123
  z76 := Tryd.sizeOf123
  v76 := Tryd.zeroValue123
  t77 := Tryd.underlying124
  a77 := Tryd.isAgg124
  z77 := Tryd.sizeOf124
  v77 := Tryd.zeroValue124 }
open Go.RowKit Go.Lib Go.Sort in
theorem Tryd.slices_SortFuncV {α : Type} [Inhabited α] (aE : ∀ w, (isAgg 25).run Tryd.prog w = .ok true w) (zE : ∀ w, (Go.sizeOf 25).run Tryd.prog w = .ok 5 w) (enc : α → List Value) (hk : ∀ x, (enc x).length = 5) (h1 : ∀ x, ∀ v ∈ enc x, v.oneCell' = true) (cf : α → α → Int) (hO : SWO (ltOf cf)) (g : Nat) (cb : Array Value) (blk off cap : Nat) (d : Array α) (w : World)
    (eg : ∀ args w, (callFunc g args).run Tryd.prog w = .ok (.enter g args) w) (hcmp : CmpLays Tryd.prog g cb enc 5 cf blk off d.size w) (hH : HoldsK enc 5 w blk off d) (hblk : blk < w.heap.size) (hsz : d.size < 4611686018427387904) :
    Calls Tryd.prog 61 #[.slice (some ⟨blk, off, none⟩) d.size cap, .func (.func g) #[] cb] w fun e w' =>
      e = .returned (.tuple #[]) ∧ ∃ d' n os, PermIn 0 d.size d d' ∧ SortedIn (ltOf cf) 0 d.size d' ∧ w' = sortWorldK enc 5 w blk off n d' os := AnyQ.slices_SortFunc Tryd.sortV 5 aE zE enc hk h1 cf hO g cb blk off cap d w eg hcmp hH hblk hsz
end Go.Proofs


/- cmp.Compare. -/
namespace Go.Proofs.YtgpimajdcfoigabDoor
open Go.RowKit
set_option linter.unusedVariables false

theorem nan_int (a : Int) (w : World) : Calls Tryd.prog 81 #[.int .i64 a] w fun e w' => e = .returned (.bool false) ∧ w = w' := by
  go_enter Tryd.func81, Tryd.ntmps81
  go_wp2
  go_ret
  exact ⟨by simp, rfl⟩
theorem nan_u64 (a : Int) (w : World) : Calls Tryd.prog 82 #[.int .u64 a] w fun e w' => e = .returned (.bool false) ∧ w = w' := by
  go_enter Tryd.func82, Tryd.ntmps82
  go_wp2
  go_ret
  exact ⟨by simp, rfl⟩
theorem nan_str (a : ByteArray) (w : World) : Calls Tryd.prog 83 #[.string a] w fun e w' => e = .returned (.bool false) ∧ w = w' := by
  go_enter Tryd.func83, Tryd.ntmps83
  go_wp2
  go_ret
  exact ⟨by simp, rfl⟩
theorem cmp_int (a b : Int) (w : World) : Calls Tryd.prog 66 #[.int .i64 a, .int .i64 b] w fun e w' => e = .returned (.int .i64 (cmpZ a b)) ∧ w = w' := by
  go_enter Tryd.func66, Tryd.ntmps66
  go_wp2_with (go_at_call 81; refine (nan_int _ _).mono ?_; rintro e w' ⟨rfl, rfl⟩)
  all_goals
    go_ret
    exact ⟨ret_int (by unfold cmpZ; split <;> (try split) <;> omega), rfl⟩
theorem cmp_u64 (a b : Int) (w : World) : Calls Tryd.prog 67 #[.int .u64 a, .int .u64 b] w fun e w' => e = .returned (.int .i64 (cmpZ a b)) ∧ w = w' := by
  go_enter Tryd.func67, Tryd.ntmps67
  go_wp2_with (go_at_call 82; refine (nan_u64 _ _).mono ?_; rintro e w' ⟨rfl, rfl⟩)
  all_goals
    go_ret
    exact ⟨ret_int (by unfold cmpZ; split <;> (try split) <;> omega), rfl⟩
theorem cmp_str (a b : ByteArray) (w : World) : Calls Tryd.prog 68 #[.string a, .string b] w fun e w' => e = .returned (.int .i64 (cmpB a.toList b.toList)) ∧ w = w' := by
  go_enter Tryd.func68, Tryd.ntmps68
  go_wp2_with (go_at_call 83; refine (nan_str _ _).mono ?_; rintro e w' ⟨rfl, rfl⟩)
  all_goals
    go_ret
    refine ⟨ret_int ?_, rfl⟩
    rw [cmpB_less] at *
    have hz := cmpB_zero a.toList b.toList
    have hs := sgn_cmpB a.toList b.toList
    simp only [decide_eq_true_eq, decide_eq_false_iff_not, Bool.not_eq_true', Bool.not_eq_false', beq_eq_false_iff_ne, beq_iff_eq, ne_eq] at *
    unfold Sgn at hs
    grind
end Go.Proofs.YtgpimajdcfoigabDoor


/- value.Order. -/
namespace Go.Proofs.YtgpimajdcfoigabDoor
open Go.RowKit
set_option linter.unusedVariables false

/-- what Order is asked, of a value x -/
def OrdOk (x : V) : Prop := ∀ (y : V) (n₀ : Nat) (w : World), n₀ ≤ w.heap.size → Lies n₀ w x → Lies n₀ w y →
  Calls Tryd.prog 62 #[x.val, y.val] w fun e w' => e = .returned (.int .i64 (T.ord x.t y.t)) ∧ Below w.heap.size w w'

theorem ords_step {l m : List V} {k : Nat} (h1 : k < l.length) (h2 : k < m.length) : T.ords (V.ts (l.drop k)) (V.ts (m.drop k)) = lex (T.ord l[k].t m[k].t) (T.ords (V.ts (l.drop (k + 1))) (V.ts (m.drop (k + 1)))) := by
  rw [List.drop_eq_getElem_cons h1, List.drop_eq_getElem_cons h2, V.ts, V.ts, T.ords]

set_option maxRecDepth 100000 in
set_option maxHeartbeats 1000000 in
theorem cmpf_some (l m : List V) (ih : ∀ x ∈ l, OrdOk x) (lb lo lc : Nat) (ma : Option Addr) (mc n₀ : Nat) (w : World) (hn : n₀ ≤ w.heap.size) (hl : l.length ≤ lc) (hlc : l.length ≤ 281474976710656) (hm : m.length ≤ mc) (hmc : m.length ≤ 281474976710656)
    (hlt : lb < n₀) (lr : Row w lb lo l) (ls : ∀ x ∈ l, Lies n₀ w x) (mr : 0 < m.length → ∃ b o, ma = some ⟨b, o, none⟩ ∧ b < n₀ ∧ Row w b o m) (ms : ∀ x ∈ m, Lies n₀ w x) :
    Calls Tryd.prog 69 #[.slice (some ⟨lb, lo, none⟩) l.length lc, .slice ma m.length mc, .func (.func 62) #[] #[]] w fun e w' =>
      e = .returned (.int .i64 (T.ords (V.ts l) (V.ts m))) ∧ Below w.heap.size w w' := by
  have LR := hide lr
  have LS := hide ls
  have MR := hide mr
  have MS := hide ms
  have IH := hide ih
  clear lr ls mr ms ih
  go_enter Tryd.func69, Tryd.ntmps69
  go_wp2
  go_loopw [13] (fun i wr => ∃ k : Nat, i = .int .i64 k ∧ k ≤ l.length ∧ k ≤ m.length ∧ Below w.heap.size w wr ∧ Hid (T.ords (V.ts l) (V.ts m) = T.ords (V.ts (l.drop k)) (V.ts (m.drop k)))) (fun i _ => l.length - (intOf i).toNat)
  case atStart => exact ⟨0, rfl, Nat.zero_le _, Nat.zero_le _, Below.refl _ _, rfl⟩
  case round =>
    obtain ⟨k, rfl, hk, hkm, hb, HO⟩ := hrel
    by_cases h1 : k < l.length
    · by_cases h2 : k < m.length
      · obtain ⟨mb, mo, rfl, hmlt, mr⟩ := MR.out (by omega)
        obtain ⟨x0, x1, x2, x3, x4⟩ := (LR.out.below hb (by omega)) k h1
        obtain ⟨y0, y1, y2, y3, y4⟩ := (mr.below hb (by omega)) k h2
        have MR' := hide mr
        clear mr
        have hsz := hb.size
        have hA : lb < wr.heap.size := by omega
        have hB : mb < wr.heap.size := by omega
        have hA' : lb ≠ wr.heap.size := by omega
        have hB' : mb ≠ wr.heap.size := by omega
        have hx := IH.out l[k] (List.getElem_mem h1) m[k]
        rw [V.val_eq, V.val_eq] at hx
        have HX := hide hx
        clear hx
        go_wp2_with fail
        have hbb := bel2 hb hsz (Obj.cells #[.int .i64 l[k].k, .int .u64 l[k].n, .string l[k].s, .slice l[k].a l[k].l.length l[k].c, .int .i64 l[k].e] 25) (Obj.cells #[.int .i64 m[k].k, .int .u64 m[k].n, .string m[k].s, .slice m[k].a m[k].l.length m[k].c, .int .i64 m[k].e] 25)
        refine Calls.mono (HX.out n₀ _ ?_ ((LS.out _ (List.getElem_mem h1)).keep hbb hn) ((MS.out _ (List.getElem_mem h2)).keep hbb hn)) ?_
        · simp; omega
        · rintro e w1 ⟨rfl, hb1⟩
          have hbw := belOn hbb (by simp; omega) hb1
          have hst := hide (ords_step h1 h2)
          clear hb1 hbb
          go_wp2
          · have hne : T.ord l[k].t m[k].t ≠ 0 := by rename_i h; simpa using h
            go_ret
            exact ⟨ret_int (by rw [HO.out, hst.out, lex, if_neg hne]), hbw⟩
          · have he : T.ord l[k].t m[k].t = 0 := by rename_i h; simpa using h
            go_roundw
            case rel => exact ⟨k + 1, by go_num, h1, h2, hbw, by rw [HO.out, hst.out, lex, if_pos he]; rfl⟩
            case measure => simp [intOf]; omega
      · obtain rfl : k = m.length := by omega
        obtain ⟨x0, x1, x2, x3, x4⟩ := (LR.out.below hb (by omega)) m.length h1
        have hsz := hb.size
        have hA : lb < wr.heap.size := by omega
        go_wp2
        go_ret
        refine ⟨ret_int ?_, bel1 hb hsz _⟩
        rw [HO.out, List.drop_eq_getElem_cons h1, List.drop_length, V.ts, V.ts, T.ords]
    · obtain rfl : k = l.length := by omega
      go_wp2
      · go_ret
        refine ⟨ret_int ?_, hb⟩
        rw [HO.out, List.drop_length, List.drop_eq_getElem_cons (by omega), V.ts, V.ts, T.ords]
      · go_ret
        refine ⟨ret_int ?_, hb⟩
        have : m.drop l.length = [] := List.drop_of_length_le (by omega)
        rw [HO.out, List.drop_length, this, V.ts, T.ords]

set_option maxRecDepth 100000 in
theorem cmpf_none (m : List V) (la : Option Addr) (lc : Nat) (ma : Option Addr) (mc : Nat) (w : World) (hm : m.length ≤ 281474976710656) :
    Calls Tryd.prog 69 #[.slice la 0 lc, .slice ma m.length mc, .func (.func 62) #[] #[]] w fun e w' =>
      e = .returned (.int .i64 (T.ords (V.ts []) (V.ts m))) ∧ Below w.heap.size w w' := by
  go_enter Tryd.func69, Tryd.ntmps69
  go_wp2
  refine wp_loop_rounds 1 ?_
  rw [rounds_succ]
  by_cases h : 0 < m.length
  · go_wp2
    go_ret
    refine ⟨ret_int ?_, Below.refl _ _⟩
    cases m with
    | nil => simp at h
    | cons x m => rw [V.ts, V.ts, T.ords]
  · obtain rfl : m = [] := List.eq_nil_of_length_eq_zero (by omega)
    go_wp2
    go_ret
    exact ⟨ret_int (by rw [V.ts, T.ords]), Below.refl _ _⟩

set_option maxRecDepth 100000 in
set_option maxHeartbeats 1000000 in
theorem order_any : ∀ x, OrdOk x := by
  refine V.ind ?_
  intro k n s a c e l ih y n₀ w hn hx hy
  obtain ⟨k', n', s', a', c', e', l', rfl⟩ := V.ex y
  case _ =>
    have hf : ∀ w1, Below w.heap.size w w1 → Calls Tryd.prog 69 #[.slice a l.length c, .slice a' l'.length c', .func (.func 62) #[] #[]] w1 fun e w' =>
        e = .returned (.int .i64 (T.ords (V.ts l) (V.ts l'))) ∧ Below w1.heap.size w1 w' := by
      intro w1 hb
      have hx1 := hx.keep hb hn
      have hy1 := hy.keep hb hn
      have hsz := hb.size
      have o1 := hx1.ok
      have o2 := hy1.ok
      by_cases h : 0 < l.length
      · obtain ⟨b, o, rfl, hlt, hr⟩ := hx1.row h
        exact cmpf_some l l' ih b o c a' c' n₀ w1 (by omega) o1.l (by have := o1.c; omega) o2.l (by have := o2.c; omega) hlt hr hx1.sub hy1.row hy1.sub
      · obtain rfl : l = [] := List.eq_nil_of_length_eq_zero (by omega)
        exact cmpf_none l' a c a' c' w1 (by have := o2.l; have := o2.c; omega)
    have HF := hide hf
    clear hf ih
    rw [V.val_of, V.val_of]
    go_enter Tryd.func62, Tryd.ntmps62
    go_wp2_with (first
      | (go_at_call 66; refine (cmp_int _ _ _).mono ?_; rintro e w' ⟨rfl, rfl⟩)
      | (go_at_call 67; refine (cmp_u64 _ _ _).mono ?_; rintro e w' ⟨rfl, rfl⟩)
      | (go_at_call 68; refine (cmp_str _ _ _).mono ?_; rintro e w' ⟨rfl, rfl⟩)
      | (go_at_call 69; refine (HF.out _ (bel2 (Below.refl _ _) (Nat.le_refl _) _ _)).mono ?_; rintro e w' ⟨rfl, hbw⟩; obtain ⟨hc, hfz⟩ := bcell hbw; have hz : w.heap.size + 1 < w'.heap.size := (by have := hbw.size; simp at this; omega)))
    all_goals
      go_ret
      refine ⟨ret_int ?_, ?_⟩
      · rw [V.t_of, V.t_of, T.of, T.of, T.ord_of]
        simp only [V.k_of, V.n_of, V.s_of, V.e_of, V.l_of, lex]
        simp_all
      · first | exact bel2 (Below.refl _ _) (Nat.le_refl _) _ _ | exact belOn (bel2 (Below.refl _ _) (Nat.le_refl _) _ _) (by simp; omega) hbw
end Go.Proofs.YtgpimajdcfoigabDoor
