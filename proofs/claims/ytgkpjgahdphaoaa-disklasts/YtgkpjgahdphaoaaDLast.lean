
/- DiskLasts: the walk. -/
import Derived.Test.YtgkpjgahdphaoaaDAwk
import Derived.Test.YtgkpjgahdphaoaaDLstM
import Derived.Deep.DeepCutAuto
namespace Go.Proofs.Ytgkpjgahdphaoaa
open Go.RowKit Go.MuLone
set_option linter.unusedVariables false
set_option linter.unusedSimpArgs false
/-- a list of operations that is read -/
def RO (w : World) (a : Option Addr) (n : Nat) (fs : Nat → Oq) : Prop := ∀ j, j < n → (∃ b off, a = some ⟨b, off, none⟩ ∧ b < w.heap.size ∧ w.rangeAt b (off + j * 7) (fs j).cells.toList) ∧ Rb w (.slice (fs j).a (fs j).l.length (fs j).c) (fs j).l
theorem RO.cells {w w' : World} {a : Option Addr} {n : Nat} {fs : Nat → Oq} (h : RO w a n fs) (hb : Below w.heap.size w w') {j : Nat} (hj : j < n) : ∃ b off, a = some ⟨b, off, none⟩ ∧
    w'.cell? ⟨b, off + j * 7, none⟩ = some (.int .i64 (fs j).k) ∧ w'.cell? ⟨b, off + j * 7 + 1, none⟩ = some (.int .i64 (fs j).on) ∧ w'.cell? ⟨b, off + j * 7 + 2, none⟩ = some (.int .i64 (fs j).n) ∧ w'.cell? ⟨b, off + j * 7 + 3, none⟩ = some (.int .i64 (fs j).m) ∧ w'.cell? ⟨b, off + j * 7 + 4, none⟩ = some (.string (fs j).s) ∧ w'.cell? ⟨b, off + j * 7 + 5, none⟩ = some (.string (fs j).t) ∧ w'.cell? ⟨b, off + j * 7 + 6, none⟩ = some (.slice (fs j).a (fs j).l.length (fs j).c) := by
  obtain ⟨b, off, e, hlt, hr⟩ := (h j hj).1
  have c : ∀ q u, (fs j).cells.toList[q]? = some u → w'.cell? ⟨b, off + j * 7 + q, none⟩ = some u := fun q u hu => (hb.cell (p := ⟨b, off + j * 7 + q, none⟩) hlt).trans (hr q u hu)
  exact ⟨b, off, e, c 0 _ rfl, c 1 _ rfl, c 2 _ rfl, c 3 _ rfl, c 4 _ rfl, c 5 _ rfl, c 6 _ rfl⟩
/-- a row of files, and their bytes, stay -/
theorem row_keep {w w' : World} {B : Nat} {v : Value} {W : List Fo} (hw : Wy FK w B v W) (ht : Told B w W) (hk : ∀ k, B ≤ k → k < w.heap.size → w'.heap[k]? = w.heap[k]?) : Wy FK w' B v W ∧ Told B w' W :=
  ⟨hw.at (fun k e => hk k (hw.lt e).1 (hw.lt e).2), ht.keep (fun o ho g hg => hk g ((ht.own o ho).lt g hg).1 ((ht.own o ho).lt g hg).2)⟩
theorem row_below {w w' : World} {B : Nat} {v : Value} {W : List Fo} (h : Wy FK w B v W ∧ Told B w W) (hb : Below w.heap.size w w') : Wy FK w' B v W ∧ Told B w' W := row_keep h.1 h.2 (fun k _ hk => hb.block k hk)
/-- the first of a name -/
theorem first_of {W : List Fo} {f : Fi} (hn : ((W.map (·.1)).map (·.1)).Nodup) (hf : f ∈ W.map (·.1)) : ∃ i0, ∃ h : i0 < W.length, W[i0].1 = f ∧ ∀ j (hj : j < i0), W[j].1.1 ≠ f.1 := by
  obtain ⟨q, hq, rfl⟩ := List.mem_map.1 hf
  obtain ⟨i0, h, rfl⟩ := List.getElem_of_mem hq
  refine ⟨i0, h, rfl, fun j hj e => ?_⟩
  have h1 := List.pairwise_iff_getElem.1 hn j i0 (by simpa using Nat.lt_trans hj h) (by simpa using h) hj
  simp only [List.getElem_map] at h1
  exact h1 e
set_option maxHeartbeats 16000000 in
set_option maxRecDepth 100000 in
theorem lasts_walk (a : Option Addr) (len cap : Nat) (fs : Nat → Oq) (n acts keep : Int) (w : World) (hlen : len ≤ 1700000000000) (hcap : len ≤ cap) (hR : RO w a len fs) (hn : -9223372036854775808 ≤ n ∧ n < 9223372036854775808) (ha : -9223372036854775808 ≤ acts ∧ acts < 9223372036854775808) (hk : -9223372036854775808 ≤ keep ∧ keep < 9223372036854775808) :
    Calls Try.prog 5 #[.slice a len cap, .int .i64 n, .agg #[.int .i64 acts, .int .i64 keep]] w fun e w' => e = .returned (.bool true) ∧ Below w.heap.size w w' := by
  have HR := hide hR
  have HA := hide ha
  have HK := hide hk
  obtain ⟨W0, hW0⟩ : ∃ W0, W0 = w.alloc (.cells #[.int .i64 acts, .int .i64 keep] 53) := ⟨_, rfl⟩
  have hb0 : Below w.heap.size w W0 := by rw [hW0]; exact bel1 (Below.refl _ _) (Nat.le_refl _) _
  have hB0 : W0.heap[w.heap.size]? = some (.cells #[.int .i64 acts, .int .i64 keep] 53 (0, 0)) := by rw [hW0]; exact heap_new _ _
  have q0 := cellOf hB0 0 (.int .i64 acts) rfl
  have q1 := cellOf hB0 1 (.int .i64 keep) rfl
  have HB0 := hide hb0
  have HW0 := hide hW0
  have HN := hide hn
  clear hR ha hk hb0 hB0 hW0
  go_enter Try.func5, Try.ntmps5
  go_wp2_with (first | (rw [← HW0.out]; refine Shut.out ?_))
  unfold Shut
  go_wp2_with fail
  refine (awake_any W0).mono ?_
  rintro e w1 ⟨rfl, hb1⟩
  have HB1 : Hid (Below w.heap.size w w1) := belOn HB0.out HB0.out.size hb1
  clear hb1
  go_wp2_with fail
  refine (aw_new w w1 HB1.out 16777216 (by omega) (by omega)).mono ?_
  rintro e w2 ⟨d, S2, rfl, hA2, _, _⟩
  have HA2 := hide hA2
  clear hA2
  go_upto_if 38 with fail
  go_cut [1] (fun v wx => (∃ n2 : Int, v = .int .i64 n2 ∧ 0 ≤ n2 ∧ n2 < 9223372036854775808) ∧ wx = w2)
  case first =>
    by_cases h0 : n < 0
    · have hw1 : IntKind.i64.wrap (n + 1) = n + 1 := by have := HN.out; rw [IntKind.wrap_i64]; omega
      have hw2 : IntKind.i64.wrap (-(n + 1)) = -(n + 1) := by have := HN.out; rw [IntKind.wrap_i64]; omega
      go_wp2
      go_meet
      exact ⟨⟨_, rfl, by omega, by have := HN.out; omega⟩, rfl⟩
    · go_wp2
      go_meet
      exact ⟨⟨_, rfl, by omega, by have := HN.out; omega⟩, rfl⟩
  case rest =>
    obtain ⟨⟨n2, rfl, hn2, hn3⟩, rfl⟩ := hcut
    have hwl : IntKind.i64.wrap ((len : Int) + 1) = (len : Int) + 1 := by rw [IntKind.wrap_i64]; omega
    have hl1 : ¬ ((len : Int) + 1) = 0 := by omega
    clear hn HN q0 q1
    go_wp2_with fail
    go_loopw [11] (fun vi wr => (∃ i : Nat, i ≤ len ∧ vi = .int .i64 i ∧ Hid (∃ S x F, AW S w wr d x F ∧ x.down = false ∧ F.length ≤ i))) (fun vi _ => len - (intOf vi).toNat)
    case atStart => exact ⟨0, Nat.zero_le _, rfl, S2, dx0 16777216, [], HA2.out, rfl, Nat.le_refl _⟩
    case round =>
      obtain ⟨i, hi, rfl, HI⟩ := hrel
      by_cases hil : i < len
      · go_upto_if 54 with fail
        go_cut [] (fun wx => Hid (∃ S x F, AW S w wx d x F ∧ x.down = false ∧ F.length ≤ i))
        case first =>
          obtain ⟨S, x, F, hA, hd, hF⟩ := HI.out
          have HAR := hide (aw_arm hA acts keep HA.out.2 HK.out)
          have HZ : Hid (AW S w wr d x F ∧ x.down = false ∧ F.length ≤ i) := ⟨hA, hd, hF⟩
          clear hA hd hF
          go_wp2_with (go_at_call 21; refine HAR.out.mono ?_; rintro e w3 ⟨rfl, hN⟩; have HN3 := hide hN; clear hN)
          · go_meet
            obtain ⟨S', _, h2, _⟩ := HN3.out
            refine ⟨S', _, F, h2, ?_, HZ.out.2.2⟩
            unfold dArm
            rw [if_neg (by rw [HZ.out.2.1]; simp)]
            exact HZ.out.2.1
          · go_meet
            exact ⟨S, x, F, HZ.out⟩
        case rest =>
          obtain ⟨S, x, F, hA, hd, hF⟩ := hcut
          rename World => wx
          have HFL := hide (aw_files hA (by omega))
          have HAx := hide hA
          have HD := hide hd
          have hF9 := hF
          clear hA hd hF HI
          go_wp2_with fail
          refine HFL.out.mono ?_
          rintro e w3 ⟨v3, W3, rfl, hw3, hp3, hs3, ht3, hA3, hk3⟩
          obtain ⟨va, vc, rfl⟩ := hw3.shape
          obtain ⟨b, off, hab, c0, c1, c2, c3, c4, c5, c6⟩ := HR.out.cells hA3.bel hil
          have HRO := hide ((HR.out i hil).2.below hA3.bel)
          have HRO0 := hide (HR.out i hil).2
          have hblt : b < w3.heap.size := by
            obtain ⟨b', off', e', hlt', _⟩ := (HR.out i hil).1
            rw [hab] at e'
            simp only [Option.some.injEq, Addr.mk.injEq] at e'
            have := hA3.bel.size
            omega
          subst hab
          have HW3 := hide hw3
          have HP3 := hide hp3
          have HS3 := hide hs3
          have HT3 := hide ht3
          have HA3 := hide hA3
          have hz3 : wx.heap.size ≤ w3.heap.size := hk3.size
          clear hw3 hp3 hs3 ht3 hA3 hk3 HFL
          obtain ⟨o, ho⟩ : ∃ o, o = fs i := ⟨_, rfl⟩
          rw [← ho] at c0 c1 c2 c3 c4 c5 c6 HRO HRO0
          clear ho
          obtain ⟨ok, on, on2, om, os, ot, oa, ol, oc⟩ := o
          dsimp only at c0 c1 c2 c3 c4 c5 c6 HRO HRO0
          go_wp2_with fail
          obtain ⟨w4, hw4⟩ : ∃ w4, w4 = w3.alloc (.cells #[.int .i64 ok, .int .i64 on, .int .i64 on2, .int .i64 om, .string os, .string ot, .slice oa ol.length oc] 36) := ⟨_, rfl⟩
          have hb4 : Below w3.heap.size w3 w4 := by rw [hw4]; exact bel1 (Below.refl _ _) (Nat.le_refl _) _
          have hz4 : w4.heap.size = w3.heap.size + 1 := by rw [hw4]; simp
          have hB4 : w4.heap[w3.heap.size]? = some (.cells #[.int .i64 ok, .int .i64 on, .int .i64 on2, .int .i64 om, .string os, .string ot, .slice oa ol.length oc] 36 (0, 0)) := by rw [hw4]; exact heap_new _ _
          rw [← hw4]
          have HA4 : Hid (AW S w w4 d x F) := HA3.out.below hb4
          obtain ⟨o, ho⟩ : ∃ o : Oq, o = ⟨ok, on, on2, om, os, ot, oa, ol, oc⟩ := ⟨_, rfl⟩
          have HC : Hid (Calls Try.prog 22 #[.pointer (some ⟨d, 0, none⟩), .agg #[.int .i64 ok, .int .i64 on, .int .i64 on2, .int .i64 om, .string os, .string ot, .slice oa ol.length oc]] w4 fun e w' => e = .returned (.int .i64 (dOp x F o).1) ∧ Nx S w w4 d (dOp x F o).2.1 (dOp x F o).2.2 w') := by
            rw [ho]
            exact lawact_any HA4.out ⟨ok, on, on2, om, os, ot, oa, ol, oc⟩ (HRO.out.below hb4) (by unfold maxLen; omega)
          have HSx : Hid (∀ k, S k → k < wx.heap.size) := fun k hk => (HAx.out.at_ k hk).2
          have HR4 : Hid (Wy FK w4 wx.heap.size (.slice va W3.length vc) W3 ∧ Told wx.heap.size w4 W3) := row_below ⟨HW3.out, HT3.out⟩ hb4
          have HOo := hide ho
          have HZ4 := hide hz4
          have HZ3 := hide hz3
          have HW4 := hide hw4
          have HB4 := hide hB4
          clear hb4 hw4 hB4 c0 c1 c2 c3 c4 c5 c6 ho hz4 hz3 hblt
          refine HC.out.mono ?_
          rintro e w5 ⟨rfl, S', hS', hA5, hk5⟩
          have HZ5 : Hid (w4.heap.size ≤ w5.heap.size) := hk5.size
          have HA5 := hide hA5
          have HS' := hide hS'
          have HSM : Hid (∀ k, wx.heap.size ≤ k → k < w4.heap.size → w5.heap[k]? = w4.heap[k]? ∧ ¬ S' k) := fun k h1 h2 =>
            ⟨hk5.block h2 (fun hs => by have := HSx.out k hs; omega), fun hs => by
              rcases hS' k hs with h | h
              · have := HSx.out k h; omega
              · omega⟩
          clear hA5 hS' hk5
          by_cases he3 : (dOp x F o).1 = 3
          · obtain ⟨hx5, hF5, hol⟩ := op_fell HAx.out.dd.ok HD.out he3
            obtain ⟨x5, hx5e⟩ : ∃ x5, x5 = (dOp x F o).2.1 := ⟨_, rfl⟩
            obtain ⟨F5, hF5e⟩ : ∃ F5, F5 = (dOp x F o).2.2 := ⟨_, rfl⟩
            have hl5 : F5.length ≤ i + 1 := by rw [hF5e]; exact Nat.le_trans (op_len x F o) (by omega)
            rw [← hx5e, ← hF5e] at HA5
            rw [← hx5e] at hx5
            rw [← hF5e] at hF5
            have HX5 := hide hx5
            have HF5 := hide hF5
            have HOL := hide hol
            have HFL := hide (aw_files HA5.out (by omega))
            rw [he3]
            clear hx5 hF5 hol hx5e hF5e he3 HC
            go_wp2_with fail
            refine HFL.out.mono ?_
            rintro e w6 ⟨v6, W6, rfl, hw6, hp6, hs6, ht6, hA6, hk6⟩
            obtain ⟨va6, vc6, rfl⟩ := hw6.shape
            have HU := hide (aw_up hA6)
            have HR6 : Hid (Wy FK w6 w5.heap.size (.slice va6 W6.length vc6) W6 ∧ Told w5.heap.size w6 W6) := ⟨hw6, ht6⟩
            have HP6 := hide hp6
            have HS6 := hide hs6
            have HSM6 : Hid (∀ k, wx.heap.size ≤ k → k < w4.heap.size → w6.heap[k]? = w4.heap[k]?) := fun k h1 h2 => (hk6.block (by have := HZ5.out; omega) (HSM.out k h1 h2).2).trans (HSM.out k h1 h2).1
            have HZ6 : Hid (w5.heap.size ≤ w6.heap.size) := hk6.size
            rw [HX5.out] at HU
            clear hw6 hp6 hs6 ht6 hA6 hk6 HFL
            go_wp2_with fail
            refine HU.out.mono ?_
            rintro e w7 ⟨rfl, S7, hS7, hA7, hk7⟩
            have HA7 := hide hA7
            have HSM7 : Hid (∀ k, wx.heap.size ≤ k → k < w4.heap.size → w7.heap[k]? = w4.heap[k]?) := fun k h1 h2 => (hk7.block (by have := HZ5.out; have := HZ6.out; omega) (HSM.out k h1 h2).2).trans (HSM6.out k h1 h2)
            have HRa : Hid (Wy FK w7 wx.heap.size (.slice va W3.length vc) W3 ∧ Told wx.heap.size w7 W3) := row_keep HR4.out.1 HR4.out.2 HSM7.out
            have HRb : Hid (Wy FK w7 w5.heap.size (.slice va6 W6.length vc6) W6 ∧ Told w5.heap.size w7 W6) := row_keep HR6.out.1 HR6.out.2 (fun k h1 h2 => hk7.block h2 (fun hs => by have := (HA5.out.at_ k hs).2; omega))
            have HBo : Hid (w7.heap[w3.heap.size]? = some (.cells #[.int .i64 ok, .int .i64 on, .int .i64 on2, .int .i64 om, .string os, .string ot, .slice oa ol.length oc] 36 (0, 0))) := (HSM7.out w3.heap.size HZ3.out (by have := HZ4.out; omega)).trans HB4.out
            have HRd : Hid (Rb w7 (.slice oa ol.length oc) ol) := HRO0.out.below hA7.bel
            have HS7 : Hid (∀ k, w5.heap.size ≤ k → k < w6.heap.size → ¬ S7 k) := fun k h1 h2 hs => by
              rcases hS7 k hs with h | h
              · have := (HA5.out.at_ k h).2; omega
              · omega
            have HZ7 : Hid (w6.heap.size ≤ w7.heap.size) := hk7.size
            have HK7 : Hid (∀ k, w5.heap.size ≤ k → k < w6.heap.size → w7.heap[k]? = w6.heap[k]?) := fun k h1 h2 => hk7.block h2 (fun hs => by have := (HA5.out.at_ k hs).2; omega)
            clear hS7 hA7 hk7 HU
            go_wp2_with fail
            go_loopw [17] (fun vi wq => (∃ k : Nat, k ≤ W3.length ∧ vi = .int .i64 k) ∧ Hid (Below w7.heap.size w7 wq)) (fun vi _ => W3.length - (intOf vi).toNat)
            case atStart => exact ⟨⟨0, Nat.zero_le _, rfl⟩, Below.refl _ _⟩
            case round =>
              obtain ⟨⟨k, hk, rfl⟩, HQ⟩ := hrel
              rename World => wq
              by_cases hkl : k < W3.length
              · have hra := row_below HRa.out HQ.out
                have hrb := row_below HRb.out HQ.out
                obtain ⟨g, o3, cap3, e, hc1, hc2, hg, r0, r1, r2⟩ := hra.1.elem k hkl
                simp only [Value.slice.injEq] at e
                obtain ⟨rfl, _, rfl⟩ := e
                have ob3 := hra.2.own _ (List.getElem_mem hkl)
                rw [fV_slice ob3] at r1
                obtain ⟨f, hf⟩ : ∃ f, f = W3[k].1 := ⟨_, rfl⟩
                have hfm : f ∈ F := HP3.out.mem_iff.1 (by rw [hf]; exact List.mem_map_of_mem (List.getElem_mem hkl))
                obtain ⟨f', hf', hn', hs1, hs2, hs3, hs4⟩ := fell_one HAx.out.dd.ok HAx.out.names (o := o) hfm
                rw [← HF5.out] at hf'
                obtain ⟨i0, hi0, e6, hne6⟩ := first_of (W := W6) (by
                  have := HA7.out.names
                  exact ((HP6.out.map (·.1)).nodup_iff).2 this) (HP6.out.mem_iff.2 hf')
                have ob6 := hrb.2.own _ (List.getElem_mem hi0)
                obtain ⟨a0, k0, e0, _⟩ := ob3.slice
                obtain ⟨a1, k1, e1, _⟩ := ob6.slice
                have hv6 : fV W6[i0] = .slice a1 W6[i0].1.2.1.length k1 := (fV_slice ob6).trans e1
                rw [e0] at r1 ob3
                rw [e1] at ob6
                rw [← hf] at r0 r1 r2 ob3
                rw [e6] at ob6 hv6
                have he7 : f'.2.1.length = f'.2.2 := by rw [hs3, List.length_take]; omega
                rw [he7] at hv6
                have hlf : f.2.1.length ≤ 16777216 := Nat.le_trans (le_usd hfm) HAx.out.dd.ok.usd_le
                have hlw : (whl f o).length ≤ 33554432 := by
                  unfold whl
                  split
                  · rename_i hh
                    have := HOL.out (by rintro (h | h | h) <;> omega)
                    have := HAx.out.dd.ok.room
                    have := HAx.out.dd.ok.most
                    have := HAx.out.dd.ok.used
                    rw [List.length_append]
                    omega
                  · omega
                obtain ⟨wq1, hwq1⟩ : ∃ wq1, wq1 = wq.alloc (.cells #[.string f.1, .slice a0 f.2.1.length k0, .int .i64 (f.2.2 : Int)] 44) := ⟨_, rfl⟩
                have hbq1 : Below wq.heap.size wq wq1 := by rw [hwq1]; exact bel1 (Below.refl _ _) (Nat.le_refl _) _
                have hBq1 : wq1.heap[wq.heap.size]? = some (.cells #[.string f.1, .slice a0 f.2.1.length k0, .int .i64 (f.2.2 : Int)] 44 (0, 0)) := by rw [hwq1]; exact heap_new _ _
                have HFI : Hid (Calls Try.prog 23 #[.slice va6 W6.length vc6, .string f.1] wq1 fun e w' => e = .returned (.tuple #[.agg #[.string f.1, .slice a1 f'.2.2 k1, .int .i64 (f'.2.2 : Int)], .bool true]) ∧ Below wq1.heap.size wq1 w') := by
                  have := file_yes wq1 _ _ W6 (row_below hrb hbq1).1 f.1 i0 hi0 (by rw [e6]; exact hn') (fun j hj => by rw [← hn']; exact hne6 j hj) a1 f'.2.2 k1 hv6
                  rw [e6] at this
                  exact this
                have HCV0 : Hid (∀ W, Below wq.heap.size wq W → (convert 34 9 (.slice a0 f.2.1.length k0)).run Try.prog W = .ok (.string (mkS f.2.1)) W) := fun W hW => by
                  obtain ⟨a, c, e, _, _, hr⟩ := (ob3.rb).below hW
                  simp only [Value.slice.injEq] at e
                  obtain ⟨rfl, _, rfl⟩ := e
                  exact conv_any hr _
                have HCVs : Hid (∀ W, Below wq.heap.size wq W → (convert 34 9 (.slice a0 f.2.2 k0)).run Try.prog W = .ok (.string (mkS (f.2.1.take f.2.2))) W) := fun W hW => by
                  obtain ⟨a, c, e, _, _, hr⟩ := ((ob3.rb).below hW).cut hs4
                  have hll : (f.2.1.take f.2.2).length = f.2.2 := by simp; omega
                  rw [hll] at e hr
                  simp only [Value.slice.injEq] at e
                  obtain ⟨rfl, _, rfl⟩ := e
                  exact conv_any hr _
                have HCV1 : Hid (∀ W, Below wq.heap.size wq W → (convert 34 9 (.slice a1 f'.2.2 k1)).run Try.prog W = .ok (.string (mkS f'.2.1)) W) := fun W hW => by
                  obtain ⟨a, c, e, _, _, hr⟩ := (ob6.rb).below hW
                  simp only [Value.slice.injEq] at e
                  obtain ⟨rfl, _, rfl⟩ := e
                  rw [he7] at hr
                  exact conv_any hr _
                have HCVo : Hid (∀ W, Below wq.heap.size wq W → (convert 34 9 (.slice oa ol.length oc)).run Try.prog W = .ok (.string (mkS ol)) W) := fun W hW => by
                  obtain ⟨a, c, e, _, _, hr⟩ := (HRd.out.below HQ.out).below hW
                  simp only [Value.slice.injEq] at e
                  obtain ⟨rfl, _, rfl⟩ := e
                  exact conv_any hr _
                have HBoq : Hid (∀ W, Below wq.heap.size wq W → W.cell? ⟨w3.heap.size, 0, none⟩ = some (.int .i64 ok) ∧ W.cell? ⟨w3.heap.size, 4, none⟩ = some (.string os) ∧ W.cell? ⟨w3.heap.size, 6, none⟩ = some (.slice oa ol.length oc)) := fun W hW => by
                  have hlt : w3.heap.size < w7.heap.size := (Array.getElem?_eq_some_iff.1 HBo.out).1
                  have hz := HQ.out.size
                  have hb := ((hW.block _ (by omega)).trans (HQ.out.block _ hlt)).trans HBo.out
                  exact ⟨cellOf hb 0 _ rfl, cellOf hb 4 _ rfl, cellOf hb 6 _ rfl⟩
                have hwt : (whl f o).take f.2.2 = f.2.1.take f.2.2 := by
                  unfold whl
                  split
                  · rw [List.take_append_of_le_length hs4]
                  · rfl
                have HBG1 : Hid (∀ W, Calls Try.prog 24 #[.string (mkS (f.2.1.take f.2.2)), .string (mkS f'.2.1)] W fun e w' => e = .returned (.bool true) ∧ w' = W) := fun W => by
                  refine begins_take (n := f.2.2) (by omega) ?_ W (by omega)
                  rw [hs3, List.take_take, Nat.min_eq_left hs1, hwt]
                have HBG2 : Hid (∀ W, Calls Try.prog 24 #[.string (mkS f'.2.1), .string (mkS (whl f o))] W fun e w' => e = .returned (.bool true) ∧ w' = W) := fun W => begins_take (n := f'.2.2) hs2 hs3 W (by omega)
                have HS1 := hide hs1
                have HS2 := hide hs2
                have HS3' := hide hs3
                have HLF := hide hlf
                have HLW := hide hlw
                have z1 : ¬ ((f.2.2 : Int) < 0) := by omega
                have z2 : ¬ ((f.2.1.length : Int) < (f.2.2 : Int)) := by omega
                have hs4' : f.2.2 ≤ f.2.1.length := hs4
                have hk0 : f.2.1.length ≤ k0 := by
                  obtain ⟨a, c, e, _, h2, _⟩ := ob3.rb
                  simp only [Value.slice.injEq] at e
                  obtain ⟨_, _, rfl⟩ := e
                  exact h2
                have HWQ1 := hide hwq1
                have HBq1 := hide hBq1
                have Hbq1 := hide hbq1
                have HKL := hide hkl
                have hkb : k < 1700000000000 := by
                  have h2 := HP3.out.length_eq
                  rw [List.length_map] at h2
                  omega
                clear hwt he7 hra hrb ob3 ob6 e0 e1 hv6 hf hfm hf' hn' hs1 hs2 hs3 hs4 e6 hne6 hlf hlw hwq1 hBq1 hbq1
                go_wp2_with fail
                rw [← HWQ1.out]
                refine HFI.out.mono ?_
                rintro e wq2 ⟨rfl, hbq2⟩
                obtain ⟨wq3, hwq3⟩ : ∃ wq3, wq3 = wq2.alloc (.cells #[.string f.1, .slice a1 f'.2.2 k1, .int .i64 (f'.2.2 : Int)] 44) := ⟨_, rfl⟩
                have hbq3 : Below wq1.heap.size wq1 wq3 := by rw [hwq3]; exact bel1 hbq2 hbq2.size _
                have hBq3 : wq3.heap[wq2.heap.size]? = some (.cells #[.string f.1, .slice a1 f'.2.2 k1, .int .i64 (f'.2.2 : Int)] 44 (0, 0)) := by rw [hwq3]; exact heap_new _ _
                have hltq : wq.heap.size < wq1.heap.size := (Array.getElem?_eq_some_iff.1 HBq1.out).1
                have hbB : wq3.heap[wq.heap.size]? = some (.cells #[.string f.1, .slice a0 f.2.1.length k0, .int .i64 (f.2.2 : Int)] 44 (0, 0)) := (hbq3.block _ hltq).trans HBq1.out
                have HB3 : Hid (Below wq.heap.size wq wq3) := belOn Hbq1.out Hbq1.out.size hbq3
                have y1 : (wq2.alloc (.cells #[.string f.1, .slice a1 f'.2.2 k1, .int .i64 (f'.2.2 : Int)] 44)).cell? ⟨wq.heap.size, 1, none⟩ = some (.slice a0 f.2.1.length k0) := by rw [← hwq3]; exact cellOf hbB 1 _ rfl
                have y2 : (convert 34 9 (.slice a0 f.2.1.length k0)).run Try.prog (wq2.alloc (.cells #[.string f.1, .slice a1 f'.2.2 k1, .int .i64 (f'.2.2 : Int)] 44)) = .ok (.string (mkS f.2.1)) (wq2.alloc (.cells #[.string f.1, .slice a1 f'.2.2 k1, .int .i64 (f'.2.2 : Int)] 44)) := by rw [← hwq3]; exact HCV0.out _ HB3.out
                have HBb := hide hbB
                have HBa := hide hBq3
                have HWQ3 := hide hwq3
                clear hbq2 hbq3 hBq3 hbB hwq3 HFI
                go_upto_region 28 with fail
                rw [← HWQ3.out]
                clear y1 y2
                have b0 := cellOf HBb.out 0 (.string f.1) rfl
                have b1 := cellOf HBb.out 1 (.slice a0 f.2.1.length k0) rfl
                have b2 := cellOf HBb.out 2 (.int .i64 (f.2.2 : Int)) rfl
                have p1 := cellOf HBa.out 1 (.slice a1 f'.2.2 k1) rfl
                have p2 := cellOf HBa.out 2 (.int .i64 (f'.2.2 : Int)) rfl
                obtain ⟨o0, o4, o6⟩ := HBoq.out wq3 HB3.out
                obtain ⟨bw, hbw⟩ : ∃ bw, bw = decide ((ok ≠ 2 ∧ ok ≠ 3 ∧ ok ≠ 4) ∧ os = f.1) := ⟨_, rfl⟩
                have HBW := hide hbw
                clear hbw
                go_cut [124] (fun v wy => v = .bool bw ∧ wy = wq3)
                case first =>
                  have hbs : (os.toList == f.1.toList) = decide (os = f.1) := str_eq _ _
                  by_cases k2 : ok = 2
                  · have hb : bw = false := by rw [HBW.out]; simp [k2]
                    subst k2
                    go_wp2
                    go_meet
                    exact ⟨by rw [hb], rfl⟩
                  by_cases k3 : ok = 3
                  · have hb : bw = false := by rw [HBW.out]; simp [k3]
                    subst k3
                    go_wp2
                    go_meet
                    exact ⟨by rw [hb], rfl⟩
                  by_cases k4 : ok = 4
                  · have hb : bw = false := by rw [HBW.out]; simp [k4]
                    subst k4
                    go_wp2
                    go_meet
                    exact ⟨by rw [hb], rfl⟩
                  · have hb : bw = decide (os = f.1) := by rw [HBW.out]; simp [k2, k3, k4]
                    have hb2 : (ok == 2) = false := by simp [k2]
                    have hb3 : (ok == 3) = false := by simp [k3]
                    have hb4 : (ok == 4) = false := by simp [k4]
                    go_wp2
                    go_meet
                    exact ⟨by rw [hb]; simp [hbs, k2, k3, k4], rfl⟩
                case rest =>
                  obtain ⟨rfl, rfl⟩ := hcut
                  have HWH : Hid (whl f o = if bw then f.2.1 ++ ol else f.2.1) := by
                    show whl f o = _
                    rw [HBW.out, HOo.out]
                    unfold whl
                    simp only [decide_eq_true_eq]
                  have hcvo := HCVo.out wc HB3.out
                  clear HBW
                  go_upto_if 124 with fail
                  go_cut [21] (fun v wy => v = .string (mkS (whl f o)) ∧ wy = wc)
                  case first =>
                    cases bw with
                    | true =>
                      have hw : mkS (whl f o) = mkS f.2.1 ++ mkS ol := by rw [HWH.out, if_pos rfl, mkS_app]
                      have hsz : ¬ (9223372036854775807 < (mkS f.2.1).size + (mkS ol).size) := by
                        have := HLW.out
                        rw [HWH.out, if_pos rfl, List.length_append] at this
                        rw [mkS_size, mkS_size]
                        omega
                      go_wp2
                      go_meet
                      exact ⟨by rw [hw], rfl⟩
                    | false =>
                      have hw : mkS (whl f o) = mkS f.2.1 := by rw [HWH.out]; rfl
                      go_wp2
                      go_meet
                      exact ⟨by rw [hw], rfl⟩
                  case rest =>
                    obtain ⟨rfl, hwe⟩ := hcut
                    subst hwe
                    have HBD : Hid (Below wq.heap.size wq wc.drew) := belOn HB3.out HB3.out.size (drew_below wc)
                    have cvs := HCVs.out wc.drew HBD.out
                    have cv1 := HCV1.out wc.drew HBD.out
                    clear HCV0 HCVs HCV1 HCVo hcvo o0 o4 o6 b0
                    go_wp2_with fail
                    go_region_held (fun V => V.cell? ⟨wq.heap.size, 1, none⟩ = some (.slice a0 f.2.1.length k0) ∧ V.cell? ⟨wq.heap.size, 2, none⟩ = some (.int .i64 (f.2.2 : Int)) ∧ V.cell? ⟨wq2.heap.size, 1, none⟩ = some (.slice a1 f'.2.2 k1) ∧ (convert 34 9 (.slice a0 f.2.2 k0)).run Try.prog V = .ok (.string (mkS (f.2.1.take f.2.2))) V ∧ (convert 34 9 (.slice a1 f'.2.2 k1)).run Try.prog V = .ok (.string (mkS f'.2.1)) V) (exact ⟨b1, b2, p1, cvs, cv1⟩) (first | (go_at_call 24; refine (HBG1.out _).mono ?_; rintro e9 w9 ⟨rfl, rfl⟩))
                    have p1d : wc.drew.cell? ⟨wq2.heap.size, 1, none⟩ = some (.slice a1 f'.2.2 k1) := p1
                    have p2d : wc.drew.cell? ⟨wq2.heap.size, 2, none⟩ = some (.int .i64 (f'.2.2 : Int)) := p2
                    have HNQ : Hid (Below w7.heap.size w7 wc.drew) := belOn HQ.out HQ.out.size HBD.out
                    have HBG := hide (HBG2.out wc.drew)
                    clear cvs b1 b2 p1 p2
                    go_wp2_with fail
                    refine HBG.out.mono ?_
                    rintro e10 w10 ⟨rfl, hw10⟩
                    rw [hw10]
                    clear hw10
                    go_wp2
                    go_roundw
                    case rel => exact ⟨⟨k + 1, HKL.out, by go_num⟩, HNQ⟩
                    case measure => have h9 : k < W3.length := HKL.out; simp [intOf]; omega
              · have hke : k = W3.length := by omega
                subst hke
                have HAq : Hid (AW S7 w wq d x5 F5) := HA7.out.below HQ.out
                have HST := hide (aw_start HAq.out)
                have hcl : ¬ ((W3.length : Int) + 1 < (W6.length : Int)) := by
                  have h1 := HP6.out.length_eq
                  have h2 := HP3.out.length_eq
                  have h3 := fell_len F o x.keep
                  rw [← HF5.out] at h3
                  rw [List.length_map] at h1 h2
                  omega
                have hw3 : IntKind.i64.wrap ((W3.length : Int) + 1) = (W3.length : Int) + 1 := by
                  have h2 := HP3.out.length_eq
                  rw [List.length_map] at h2
                  rw [IntKind.wrap_i64]
                  omega
                go_wp2_with fail
                refine HST.out.mono ?_
                rintro e w8 ⟨rfl, S8, hS8, hA8, hk8⟩
                have HFL8 := hide (aw_files hA8 (by omega))
                have HS8 : Hid (∀ k, w5.heap.size ≤ k → k < w6.heap.size → ¬ S8 k ∧ w8.heap[k]? = w7.heap[k]?) := fun k h1 h2 => by
                  have hz := HZ7.out
                  have hzq := HQ.out.size
                  refine ⟨fun hs => ?_, (hk8.block (by omega) (HS7.out k h1 h2)).trans (HQ.out.block k (by omega))⟩
                  rcases hS8 k hs with h | h
                  · exact HS7.out k h1 h2 h
                  · omega
                have HZ8 : Hid (w6.heap.size ≤ w8.heap.size) := by have := HZ7.out; have := HQ.out.size; exact Nat.le_trans (by omega) hk8.size
                clear hA8 hS8 hk8 HST
                go_wp2_with fail
                refine HFL8.out.mono ?_
                rintro e w9 ⟨v9, W9, rfl, hw9, hp9, hs9, ht9, hA9, hk9⟩
                obtain ⟨va9, vc9, rfl⟩ := hw9.shape
                have hr9 : Wy FK w9 w5.heap.size (.slice va6 W6.length vc6) W6 ∧ Told w5.heap.size w9 W6 := row_keep HR6.out.1 HR6.out.2 (fun k h1 h2 => by
                  have e7 : w7.heap[k]? = w6.heap[k]? := HK7.out k h1 h2
                  exact ((hk9.block (by have := HZ8.out; omega) (HS8.out k h1 h2).1).trans (HS8.out k h1 h2).2).trans e7)
                have heq : W9.map (·.1) = W6.map (·.1) := srt_eq hs9 HS6.out (hp9.trans HP6.out.symm) (by
                  have := HA7.out.names
                  exact ((hp9.map (·.1)).nodup_iff).2 this)
                have HSA := hide (same_yes w9 _ _ _ _ W9 W6 hw9 hr9.1 heq ht9 hr9.2)
                have HA9 := hide hA9
                clear hw9 hp9 hs9 ht9 hA9 hk9 hr9 heq HFL8
                go_wp2_with fail
                refine HSA.out.mono ?_
                rintro e w10 ⟨rfl, hb10⟩
                have HNX : Hid (∃ S x F, AW S w w10 d x F ∧ x.down = false ∧ F.length ≤ i + 1) := ⟨_, _, _, HA9.out.below hb10, rfl, hl5⟩
                clear hb10
                go_wp2
                go_roundw
                case rel => exact ⟨i + 1, by omega, by go_num, HNX⟩
                case measure => simp [intOf]; omega
          · have HNX : Hid (∃ S x F, AW S w w5 d x F ∧ x.down = false ∧ F.length ≤ i + 1) := ⟨S', _, _, HA5.out, op_down o HD.out he3, Nat.le_trans (op_len x F o) (by omega)⟩
            generalize (dOp x F o).1 = r at *
            go_wp2
            go_roundw
            case rel => exact ⟨i + 1, by omega, by go_num, HNX⟩
            case measure => simp [intOf]; omega
      · have HE : Hid (Below w.heap.size w wr) := by
          obtain ⟨S, x, F, h, _⟩ := HI.out
          exact h.bel
        go_wp2
        go_ret
        exact ⟨rfl, HE.out⟩
end Go.Proofs.Ytgkpjgahdphaoaa
