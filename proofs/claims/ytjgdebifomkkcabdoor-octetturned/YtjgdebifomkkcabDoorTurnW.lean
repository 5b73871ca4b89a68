/- OctetTurned: the walk. -/
import Derived.Test.YtjgdebifomkkcabDoorTurnP
import Derived.Test.YtjgdebifomkkcabDoorLive
namespace Go.Proofs.YtjgdebifomkkcabDoor
open Go.RowKit
set_option linter.unusedVariables false

set_option maxRecDepth 100000 in
set_option maxHeartbeats 1000000 in
theorem turned_neg (a : Option Addr) (n cap : Nat) (l : List Nat) (x M : Int) (h : x < 0) (w : World) (hr : Rd w a n l) (hn : n ≤ 140737488351232) (hT : Lib.Utf8Tabs 0 1 w) :
    Calls Tryd.prog 7 #[.slice a n cap, .int .i64 x, .int .u32 M] w fun e w' => e = .returned (.bool true) ∧ Below w.heap.size w w' := by
  have HT := hide hT
  have HR := hide hr
  clear hT hr
  go_enter Tryd.func7, Tryd.ntmps7
  go_wp2_with fail
  refine (live_any w HT.out).mono ?_
  rintro e w1 ⟨rfl, hb1⟩
  go_wp2_with fail
  refine (sum_one a n cap l w1 (HR.out.below hb1) (by omega)).mono ?_
  rintro e w2 ⟨rfl, hb2⟩
  generalize (4294967295 ^^^ Oc.crc 4294967295 l : Nat) = S
  have hb : Below w.heap.size w w2 := hb1.trans (hb2.mono hb1.size)
  go_wp2
  go_ret
  exact ⟨rfl, hb⟩
set_option maxRecDepth 100000 in
set_option maxHeartbeats 1000000 in
theorem turned_far (a : Option Addr) (n cap : Nat) (l : List Nat) (p : Nat) (M : Int) (h : (n : Int) ≤ (p : Int) / 8) (hw : wrap64 ((p : Int) / 8) = (p : Int) / 8) (w : World) (hr : Rd w a n l) (hn : n ≤ 140737488351232) (hT : Lib.Utf8Tabs 0 1 w) :
    Calls Tryd.prog 7 #[.slice a n cap, .int .i64 (p : Int), .int .u32 M] w fun e w' => e = .returned (.bool true) ∧ Below w.heap.size w w' := by
  have HT := hide hT
  have HR := hide hr
  clear hT hr
  go_enter Tryd.func7, Tryd.ntmps7
  go_wp2_with fail
  refine (live_any w HT.out).mono ?_
  rintro e w1 ⟨rfl, hb1⟩
  go_wp2_with fail
  refine (sum_one a n cap l w1 (HR.out.below hb1) (by omega)).mono ?_
  rintro e w2 ⟨rfl, hb2⟩
  generalize (4294967295 ^^^ Oc.crc 4294967295 l : Nat) = S
  have hb : Below w.heap.size w w2 := hb1.trans (hb2.mono hb1.size)
  go_wp2
  go_ret
  exact ⟨rfl, hb⟩
set_option maxRecDepth 100000 in
set_option maxHeartbeats 1000000 in
theorem turned_zero (a : Option Addr) (n cap : Nat) (l : List Nat) (p : Nat) (h : p / 8 < n) (w : World) (hr : Rd w a n l) (hn : n ≤ 140737488351232) (hT : Lib.Utf8Tabs 0 1 w) :
    Calls Tryd.prog 7 #[.slice a n cap, .int .i64 (p : Int), .int .u32 0] w fun e w' => e = .returned (.bool true) ∧ Below w.heap.size w w' := by
  have HT := hide hT
  have HR := hide hr
  clear hT hr
  go_enter Tryd.func7, Tryd.ntmps7
  go_wp2_with fail
  refine (live_any w HT.out).mono ?_
  rintro e w1 ⟨rfl, hb1⟩
  go_wp2_with fail
  refine (sum_one a n cap l w1 (HR.out.below hb1) (by omega)).mono ?_
  rintro e w2 ⟨rfl, hb2⟩
  generalize (4294967295 ^^^ Oc.crc 4294967295 l : Nat) = S
  have hb : Below w.heap.size w w2 := hb1.trans (hb2.mono hb1.size)
  go_wp2
  go_ret
  exact ⟨rfl, hb⟩
theorem Tryd.info5b : (Tryd.prog.info? 5).map (fun i => (i.zero, i.size, i.bytes)) = some (some (.int .u8 0), 1, 1) := by kernel_rfl

set_option maxRecDepth 100000 in
set_option maxHeartbeats 4000000 in
theorem turned_in (a : Option Addr) (n cap : Nat) (l : List Nat) (p M : Nat) (w : World) (hr : Rd w a n l) (hn : n ≤ 140737488351232) (hp : p / 8 < n) (hM : M < 4294967296) (hM0 : M ≠ 0) (hT : Lib.Utf8Tabs 0 1 w) :
    Calls Tryd.prog 7 #[.slice a n cap, .int .i64 (p : Int), .int .u32 (M : Int)] w fun e w' => e = .returned (.bool true) ∧ Below w.heap.size w w' := by
  have HT := hide hT
  have HR := hide hr
  have hln := hr.1
  have hM1 : ((M : Int) == 0) = false := by simp; omega
  have HM0 := hide hM0
  clear hT hr hM0
  obtain ⟨i0, hi, hz0, hz1, hz2⟩ := info_parts Tryd.info5b
  have HI := hide hi
  have HZ0 := hide hz0
  have HZ1 := hide hz1
  have HZ2 := hide hz2
  clear hi hz0 hz1 hz2
  go_enter Tryd.func7, Tryd.ntmps7
  go_wp2_with fail
  refine (live_any w HT.out).mono ?_
  rintro e w1 ⟨rfl, hb1⟩
  go_wp2_with fail
  refine (sum_one a n cap l w1 (HR.out.below hb1) (by omega)).mono ?_
  rintro e w2 ⟨rfl, hb2⟩
  have HSS := hide (show ∃ S, S = (4294967295 ^^^ Oc.crc 4294967295 l : Nat) from ⟨_, rfl⟩)
  obtain ⟨S, hS⟩ := HSS.out
  rw [← hS]
  have HS := hide hS
  clear hS HSS
  have hb : Below w.heap.size w w2 := hb1.trans (hb2.mono hb1.size)
  have HR2 := hide (HR.out.below hb)
  go_wp2
  go_loopw [9, 10] (fun vc i wr => ∃ k : Nat, k ≤ n ∧ i = .int .i64 k ∧ wr.ownsRow w2.heap.size 5 1 vc k ((l.take k).map byteV) ∧ Below w2.heap.size w2 wr) (fun _ i _ => n - (intOf i).toNat)
  case atStart => exact ⟨0, Nat.zero_le _, rfl, World.ownsRow_nil _ _ _ _, Below.refl _ _⟩
  case round =>
    obtain ⟨k, hk, rfl, hown, hbw⟩ := hrel
    have HO := hide hown
    clear hown
    by_cases hkn : k < n
    · obtain ⟨b, off, rfl, hblt, hc0⟩ := HR2.out.2.2 (by omega)
      have hc := (hbw.cell (p := ⟨b, off + k, none⟩) hblt).trans (hc0 k hkn)
      have HTK : Hid ((l.take (k + 1)).map byteV = (l.take k).map byteV ++ [byteV (l.getD k 0)]) := by
        rw [take_snocN _ _ (by omega), List.map_append]; exact rfl
      generalize l.getD k 0 = y at *
      clear hc0
      go_wp2_with (at_builtin; refine wpList_append_new _ rfl (.tmp 41) (.tmp 46) 27 rfl w2.heap.size 5 i0 (.int .u8 0) 1 Tryd.underlying27 HI.out HZ0.out HZ1.out HZ2.out rfl _ k _ rfl (HO.out.alloc _) ⟨wr.heap.size, 0, none⟩ 1 (byteV y) rfl (cell_one_new' _ _ _) rfl (by unfold maxLen; omega) (by omega) (by have := hbw.size; simp; omega) ?_; intro vc' w3 r1 r2 r3; have HR1 := hide r1; have HBW3 := hide ((hbw.alloc hbw.size _).grown r2 (by have := hbw.size; simp; omega) (fun g hg => (HO.out.lt g hg).1)); clear r1 r2 r3)
      go_roundw
      case rel => exact ⟨k + 1, by omega, by go_num, by rw [HTK.out]; exact HR1.out, HBW3.out⟩
      case measure => simp [intOf]; omega
    · have hkn' : k = n := by omega
      subst hkn'
      rcases HO.out.2 with ⟨rfl, h0⟩ | ⟨g, cg, cur, rfl, hrest⟩
      · omega
      clear hrest
      have hV : M * 2 ^ (p % 8) < 1099511627776 := by
        have h1 : 2 ^ (p % 8) ≤ 2 ^ 7 := Nat.pow_le_pow_right (by omega) (by omega)
        have h2 : M * 2 ^ (p % 8) ≤ 4294967295 * 2 ^ 7 := Nat.mul_le_mul (by omega) h1
        have h3 : 4294967295 * 2 ^ 7 < 1099511627776 := by decide
        omega
      have HV : Hid (IntKind.u64.wrap ((M : Int) * 2 ^ (p % 8)) = ((M * 2 ^ (p % 8) : Nat) : Int)) := by
        show _ = _
        rw [IntKind.wrap_u64]
        have e : ((M : Int) * 2 ^ (p % 8)) = ((M * 2 ^ (p % 8) : Nat) : Int) := by simp
        rw [e]
        omega
      have HE := hide (fun j (hj : j = min 5 (l.length - p / 8)) => turn_end l (p / 8) j M (p % 8) hM HM0.out (by omega) (by omega) hj)
      generalize hVd : M * 2 ^ (p % 8) = V at *
      have HVd := hide hVd
      clear hVd
      have HL := hide HR.out.2.1
      have HO2 : Hid (wr.ownsRow w2.heap.size 5 1 (.slice (some ⟨g, 0, none⟩) k cg) k ((turnL l (p / 8) 0 V).map byteV)) := by
        have := HO.out
        rw [List.take_of_length_le (by omega)] at this
        have e : turnL l (p / 8) 0 V = l := by unfold turnL; rw [Oc.mixL]; exact List.take_append_drop _ _
        rw [e]
        exact this
      clear HO
      go_wp2
      go_loopw [12, 13, 14] (fun wd tn i wq => ∃ j : Nat, j ≤ 5 ∧ p / 8 + j ≤ k ∧ i = .int .i64 j ∧ wd = .int .u64 ((V / 256 ^ j : Nat) : Int) ∧ tn = .bool (decide (V % 256 ^ j ≠ 0)) ∧
          wq.ownsRow w2.heap.size 5 1 (.slice (some ⟨g, 0, none⟩) k cg) k ((turnL l (p / 8) j V).map byteV) ∧ Below w2.heap.size w2 wq) (fun _ _ i _ => 5 - (intOf i).toNat)
      case atStart =>
        refine ⟨0, by omega, by omega, rfl, ?_, by simp [Nat.mod_one], HO2.out, hbw⟩
        rw [HV.out]; simp
      case round =>
        obtain ⟨j, hj5, hjn, rfl, rfl, rfl, hown, hbq⟩ := hrel
        have HOQ := hide hown
        clear hown
        by_cases hin : j < 5 ∧ p / 8 + j < k
        · obtain ⟨h5, hjk⟩ := hin
          have hca := HOQ.out.cellAt (p / 8 + j) (by omega)
          have hfr := HOQ.out.frozenAt (p / 8 + j)
          have hlen : (turnL l (p / 8) j V).length = k := by rw [turnL_length _ _ _ _ (by omega)]; exact hln
          have hta := turnL_at l (p / 8) j V (by omega)
          rw [List.getElem?_map, List.getElem?_eq_getElem (by omega)] at hca
          rw [List.getD_eq_getElem?_getD, List.getElem?_eq_getElem (by omega)] at hta
          simp only [Option.getD_some] at hta
          rw [hta] at hca
          simp only [Option.map_some, byteV] at hca
          have hy : l.getD (p / 8 + j) 0 < 256 := HR.out.lt _ (by omega)
          have hX : V / 256 ^ j % 256 < 256 := by omega
          have hst := HOQ.out.stored (p / 8 + j) (byteV (l.getD (p / 8 + j) 0 ^^^ (V / 256 ^ j % 256)))
          rw [← List.map_set, ← turnL_step l (p / 8) j V (by omega)] at hst
          have HST := hide hst
          have HTS := hide (turned_step V j)
          have HDS : Hid (V / 256 ^ j / 256 = V / 256 ^ (j + 1)) := by show _ = _; rw [Nat.div_div_eq_div_mul, Nat.pow_succ]
          have hVj : V / 256 ^ j < 1099511627776 := Nat.lt_of_le_of_lt (Nat.div_le_self _ _) hV
          clear hst hta hlen
          generalize V / 256 ^ j = Vj at *
          have ex := Go.u8_xor_nat (l.getD (p / 8 + j) 0) (Vj % 256) hy hX
          have emod : (Vj : Int) % 256 = ((Vj % 256 : Nat) : Int) := by omega
          generalize l.getD (p / 8 + j) 0 = y at *
          generalize hXd : Vj % 256 = X at *
          clear hXd
          generalize decide (V % 256 ^ j ≠ 0) = T at *
          generalize hq : p / 8 + j = q at *
          have HQ := hide hq
          clear hq
          have hqi : (p : Int) / 8 + (j : Int) = (q : Int) := by have := HQ.out; omega
          have hbs : Below w2.heap.size w2 (wr.setCell ⟨g, q, none⟩ (.int .u8 ((y ^^^ X : Nat) : Int))) := hbq.setCell (HOQ.out.lt g rfl).1 _
          have HBS := hide hbs
          clear hbs
          have fin : ∀ T', T' = decide (V % 256 ^ (j + 1) ≠ 0) → (∃ j' : Nat, j' ≤ 5 ∧ p / 8 + j' ≤ k ∧ Value.int .i64 ((j : Int) + 1) = .int .i64 (j' : Int) ∧ Value.int .u64 ((Vj : Int) / 256) = .int .u64 ((V / 256 ^ j' : Nat) : Int) ∧ Value.bool T' = .bool (decide (V % 256 ^ j' ≠ 0)) ∧
              (wr.setCell ⟨g, q, none⟩ (.int .u8 ((y ^^^ X : Nat) : Int))).ownsRow w2.heap.size 5 1 (.slice (some ⟨g, 0, none⟩) k cg) k ((turnL l (p / 8) j' V).map byteV) ∧ Below w2.heap.size w2 (wr.setCell ⟨g, q, none⟩ (.int .u8 ((y ^^^ X : Nat) : Int)))) := fun T' hT' => by
            refine ⟨j + 1, by omega, by have := HQ.out; omega, by go_num, ?_, by rw [hT'], HST.out.1, HBS.out⟩
            rw [← HDS.out]
            go_num
          have FIN := hide fin
          clear fin
          cases T
          · by_cases hX0 : X = 0
            · have e0 : ((X : Int) != 0) = false := by simp; omega
              have HX0 := hide hX0
              clear hX0
              go_wp2
              go_roundw
              case rel => exact FIN.out false (by rw [HTS.out]; simp [HX0.out])
              case measure => simp [intOf]; omega
            · have e0 : ((X : Int) != 0) = true := by simp; omega
              have HX0 := hide hX0
              clear hX0
              go_wp2
              go_roundw
              case rel => exact FIN.out true (by rw [HTS.out]; simp [HX0.out])
              case measure => simp [intOf]; omega
          · go_wp2
            go_roundw
            case rel => exact FIN.out true (by rw [HTS.out]; simp)
            case measure => simp [intOf]; omega
        · have hjm : j = min 5 (l.length - p / 8) := by omega
          have he := HE.out j hjm
          have HRD := hide (Rd.of_own HOQ.out (turnL_lt l (p / 8) j V HL.out))
          have HSUM := hide (sum_one (some ⟨g, 0, none⟩) k cg (turnL l (p / 8) j V) wr HRD.out (by omega))
          rw [← HS.out] at he
          generalize (4294967295 ^^^ Oc.crc 4294967295 (turnL l (p / 8) j V) : Nat) = S2 at *
          have HEQ : Hid ((((S : Int) != (S2 : Int)) == decide (V % 256 ^ j ≠ 0)) = true) := by
            show _ = _
            by_cases h0 : V % 256 ^ j = 0
            · have := he.2 h0
              simp [h0, this]
            · have h1 : S ≠ S2 := fun hs => h0 (he.1 hs)
              have h2 : ((S : Int) != (S2 : Int)) = true := by simp; omega
              rw [h2]
              simp [h0]
          clear he
          generalize decide (V % 256 ^ j ≠ 0) = T at *
          have hcase : 5 ≤ j ∨ (j < 5 ∧ k ≤ p / 8 + j) := by omega
          clear hin hjm
          have heq := HEQ.out
          rcases hcase with h5 | ⟨h5, hk2⟩
          · go_wp2_with fail
            refine HSUM.out.mono ?_
            rintro e w6 ⟨rfl, hb6⟩
            go_wp2
            go_ret
            exact ⟨rfl, (hb.trans (hbq.mono hb.size)).trans (hb6.mono (Nat.le_trans hb.size hbq.size))⟩
          · have hk3 : ¬ ((p : Int) / 8 + (j : Int) < (k : Int)) := by omega
            go_wp2_with fail
            refine HSUM.out.mono ?_
            rintro e w6 ⟨rfl, hb6⟩
            go_wp2
            go_ret
            exact ⟨rfl, (hb.trans (hbq.mono hb.size)).trans (hb6.mono (Nat.le_trans hb.size hbq.size))⟩
end Go.Proofs.YtjgdebifomkkcabDoor
