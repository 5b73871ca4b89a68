import Derived.Test.YtknkmamjdmadcaaGWalkMM9
import Derived.Test.YtknkmamjdmadcaaLAwWM9
import Derived.BigQuiet

/- Stage 14: LinkResumes: the walk. -/
namespace Go.Proofs.Ytknkmamjdmadcaa.G
open Go.RowKit Go.Maps
set_option linter.unusedVariables false
set_option linter.unusedSimpArgs false
theorem wpList_wanted {P : Program} {ops : Array Oper} {Q : Exit → Act → World → Prop} {a : Act} {w : World} {rest : List Oper} {o : Oper} {v : Value} (hw : Region.wanted o (yielded ops a.tmps) = true) (hr : (execOp a.eval o).run P w = .ok (.value v) w) (h : wpList P ops Q rest (a.put o.dst v) w) : wpList P ops Q (o :: rest) a w := by
  unfold wpList
  rw [if_pos hw]
  left
  unfold Oper.wp
  rw [hr]
  exact h
theorem bel_drewN (w : World) (n : Nat) : Below w.heap.size w (w.drewN n) := ⟨rfl, rfl, rfl, Nat.le_refl _, fun _ _ => rfl⟩
theorem st_keep {d : Nat} {ps : List Un} {w w1 : World} (h : ∀ x ∈ ps, StIn (fun b => b < w.heap.size) w d x.2) (hb : Below w.heap.size w w1) : ∀ x ∈ ps, StIn (fun b => b < w1.heap.size) w1 d x.2 := fun x hx =>
  StIn.keep (fun b hq => hb.block b hq) (fun b hq => Nat.lt_of_lt_of_le hq hb.size) (h x hx)
theorem RdR.below {w w' : World} {a : Option Addr} {ks : List Rs} (h : RdR w a ks) (hb : Below w.heap.size w w') : RdR w' a ks := fun j hj => by
  obtain ⟨b, off, e, h1, h2, h3⟩ := h j hj
  exact ⟨b, off, e, Nat.lt_of_lt_of_le h1 hb.size, (hb.cell (p := ⟨b, _, none⟩) h1).trans h2, (hb.cell (p := ⟨b, _, none⟩) h1).trans h3⟩
set_option maxRecDepth 100000 in
set_option maxHeartbeats 8000000 in
theorem resumes_walk (d : Nat) (rc : Bool) (hs ts ls : List Un) (pa qa ra : Option Addr) (pc qc lc : Nat) (w : World) (hP : RdP w pa hs) (hQ : RdP w qa ts) (hR : RdP w ra ls)
    (hS : ∀ x ∈ hs, StIn (fun b => b < w.heap.size) w d x.2) (hT : ∀ x ∈ ts, StIn (fun b => b < w.heap.size) w d x.2) (hL : ∀ x ∈ ls, StIn (fun b => b < w.heap.size) w d x.2)
    (hz1 : ∀ x ∈ hs, x.1.size ≤ maxLen) (hz2 : ∀ x ∈ ts, x.1.size ≤ maxLen) (hz3 : ∀ x ∈ ls, x.1.size ≤ maxLen) (hl1 : hs.length ≤ 140737488355328) (hl2 : ts.length ≤ 140737488355328) (hl3 : ls.length ≤ 140737488355328) :
    Calls Try.prog 4 #[.bool rc, .slice pa hs.length pc, .slice qa ts.length qc, .slice ra ls.length lc] w fun e w' => e = .returned (.bool true) ∧ Below w.heap.size w w' := by
  have HG : Hid (∀ (ps : List Un) (a : Option Addr) (c : Nat) (w1 : World), Below w.heap.size w w1 → RdP w a ps → (∀ x ∈ ps, StIn (fun b => b < w.heap.size) w d x.2) → ps.length ≤ 140737488355328 → Calls Try.prog 12 #[.agg (opA (.slice a ps.length c))] w1 fun e w' => ∃ v, e = .returned v ∧ GrP ps w1 w' v) :=
    fun ps a c w1 hb h1 h2 h3 => lawGreat_any d ps a c w1 (h1.below hb) (st_keep h2 hb) h3
  have HP := hide hP
  have HQ := hide hQ
  have HR := hide hR
  have HS := hide hS
  have HT := hide hT
  have HL := hide hL
  have HZ1 := hide hz1
  have HZ2 := hide hz2
  have HZ3 := hide hz3
  have Hl1 := hide hl1
  have Hl2 := hide hl2
  have Hl3 := hide hl3
  clear hP hQ hR hS hT hL hz1 hz2 hz3 hl1 hl2 hl3
  go_enter Try.func4, Try.ntmps4
  go_wp2_with (first | (go_at_call 5; refine (awake_any w).mono ?_; rintro e1 w1 ⟨rfl, hb1⟩; refine Shut.out ?_))
  unfold Shut
  have HG1 := hide (HG.out hs pa pc w1 hb1 HP.out HS.out Hl1.out)
  go_wp2_with (first | (refine wpList_buildTo rfl 59 _ rfl (some 29) rfl (opA (.slice pa hs.length pc)) (by kernel_rfl) ?_) | (go_at_call 12; refine HG1.out.mono ?_; rintro e2 w2 ⟨v2, rfl, q2, rfl, hq2, hb2⟩; refine Shut.out ?_))
  unfold Shut
  have hbw2 := hb1.trans (hb2.mono hb1.size)
  clear HG1 hb1 hb2
  cases q2 with
  | true =>
    go_wp2
    go_ret
    exact ⟨rfl, hbw2⟩
  | false =>
  have hn1 := hq2 rfl
  clear hq2
  have HG1 := hide (HG.out ts qa qc w2 hbw2 HQ.out HT.out Hl2.out)
  have HBx := hide hbw2
  clear hbw2
  go_wp2_with (first | (refine wpList_buildTo rfl 59 _ rfl (some 33) rfl (opA (.slice qa ts.length qc)) (by kernel_rfl) ?_) | (go_at_call 12; refine HG1.out.mono ?_; rintro e3 w3 ⟨v3, rfl, q3, rfl, hq3, hb3⟩; refine Shut.out ?_))
  unfold Shut
  have hbw3 := HBx.out.trans (hb3.mono HBx.out.size)
  clear HG1 HBx hb3
  cases q3 with
  | true =>
    go_wp2
    go_ret
    exact ⟨rfl, hbw3⟩
  | false =>
  have hn2 := hq3 rfl
  clear hq3
  have HG1 := hide (HG.out ls ra lc w3 hbw3 HR.out HL.out Hl3.out)
  have HBx := hide hbw3
  clear hbw3
  go_wp2_with (first | (refine wpList_buildTo rfl 59 _ rfl (some 38) rfl (opA (.slice ra ls.length lc)) (by kernel_rfl) ?_) | (go_at_call 12; refine HG1.out.mono ?_; rintro e4 w4 ⟨v4, rfl, q4, rfl, hq4, hb4⟩; refine Shut.out ?_))
  unfold Shut
  have hbw4 := HBx.out.trans (hb4.mono HBx.out.size)
  clear HG1 HBx hb4
  cases q4 with
  | true =>
    go_wp2
    go_ret
    exact ⟨rfl, hbw4⟩
  | false =>
  have hn3 := hq4 rfl
  clear hq4
  have HO := hide (open_any d rc hs ts pa qa pc qc w4 (HP.out.below hbw4) (HQ.out.below hbw4) (st_keep HS.out hbw4) (st_keep HT.out hbw4) HZ1.out HZ2.out hn1 hn2)
  have HR4 := hide (HR.out.below hbw4)
  have HB4 := hide hbw4
  clear hbw4 HP HQ HS HT HZ1 HZ2 Hl1 Hl2 Hl3 HG HR
  go_wp2_with (first | (go_at_call 13; refine HO.out.mono ?_; rintro e5 w5 ⟨v5, rfl, g, rfl, l, T, hI, _⟩; refine Shut.out ?_))
  unfold Shut
  have HI := hide hI
  have hrc := hI.hr
  have HRs := hide (resume_any g l T ls ra lc w5 hI.lk (HR4.out.below hI.be) HZ3.out (fun p hp => Nat.le_trans (hI.ks p hp).2 (by decide)) (by have := hI.len; omega) (by omega))
  clear hI HO
  rw [hrc] at HRs
  clear hrc
  go_wp2_with (first | (go_at_call 14; refine HRs.out.mono ?_; rintro e6 w6 ⟨v6, rfl, oa, oc, ks, M, rfl, hpm, hnd, hsy, hso, hrd, hb6⟩; refine Shut.out ?_))
  unfold Shut
  have HTl : Hid (Tld rc T ls ks) := tld_of hpm hnd hsy hso hn3 (by have := HI.out.len; omega)
  have hkl := HTl.out.len
  have HRd := hide hrd
  have HB6 := hide hb6
  have HI6 : Hid (OpI d g rc w4 w6 hs.length l T) := HI.out.below hb6
  have HR6 := hide ((HR4.out.below HI.out.be).below hb6)
  have HBw : Hid (Below w.heap.size w w6) := (HB4.out.trans (HI.out.be.mono HB4.out.size)).trans (hb6.mono (by have := HB4.out.size; have := HI.out.be.size; omega))
  clear hpm hnd hsy hso hrd hb6 HRs HI HR4 HB4 HB6
  go_wp2
  go_loopw [13] (fun u wr => ∃ i : Nat, u = .int .i64 i ∧ i ≤ ks.length ∧ Below w6.heap.size w6 wr) (fun u _ => ks.length + 1 - (intOf u).toNat)
  case atStart => exact ⟨0, rfl, by omega, Below.refl _ _⟩
  case round =>
    obtain ⟨i, rfl, hi, hb⟩ := hrel
    have HB := hide hb
    clear hb
    by_cases hil : i < ks.length
    · obtain ⟨x, hx⟩ : ∃ x, ks[i] = x := ⟨_, rfl⟩
      have HX := hide hx
      obtain ⟨b, off, rfl, hbl, hc0, hc1⟩ := (HRd.out.below HB.out) i hil
      rw [hx] at hc0 hc1
      have hIs := HTl.out.is x (hx ▸ List.getElem_mem hil)
      have hzx : x.1.size ≤ maxLen := by
        rcases (Bool.or_eq_true _ _).mp hIs.1 with h | h
        · obtain ⟨p, hp, e⟩ := List.mem_map.1 (any_iff.1 h)
          rw [← e]
          exact HZ3.out p hp
        · obtain ⟨p, hp, e⟩ := List.mem_map.1 (any_iff.1 h)
          rw [← e]
          exact Nat.le_trans (HI6.out.ks p hp).2 (by decide)
      have HZx := hide hzx
      have HC : Hid (∀ W, Below w6.heap.size w6 W → W.cell? ⟨b, off + i * 2, none⟩ = some (.string x.1) ∧ W.cell? ⟨b, off + i * 2 + 1, none⟩ = some (.int .i64 x.2) ∧ b < W.heap.size) := fun W hb => by
        obtain ⟨b', off', e, k0, k1, k2⟩ := (HRd.out.below hb) i hil
        cases e
        rw [HX.out] at k1 k2
        exact ⟨k1, k2, k0⟩
      have HIs := hide hIs
      clear hx hIs hzx
      have hib : (i : Int) ≤ 200000 := by omega
      by_cases h0 : i = 0
      · have hd : decide (0 < (i : Int)) = false := by simp; omega
        go_wp2
        go_quiet (fail)
        obtain ⟨W0, hW0⟩ : ∃ W0, W0 = wr.drewN nq := ⟨_, rfl⟩
        have HB0 : Hid (Below w6.heap.size w6 W0) := by rw [hW0]; exact HB.out.trans ((bel_drewN wr nq).mono HB.out.size)
        rw [← hW0]
        clear hW0 hc0 hc1 hbl hd h0
        obtain ⟨ib, hie⟩ : ∃ ib, hasK T x.1 = ib := ⟨_, rfl⟩
        have HLk := hide (look_any d g l T x.1 W0 (HI6.out.lk.below HB0.out) (HI6.out.st.kp (Kp.ofBelow HB0.out)) HZx.out)
        rw [hie] at HLk
        have HIe := hide hie
        obtain ⟨hc0, hc1, hbl⟩ := HC.out W0 HB0.out
        clear hie hc1
        go_wp2_with (first | (go_at_call 15; refine HLk.out.mono ?_; rintro e7 w7 ⟨⟨a, q, rfl, hqk⟩, hb7⟩; refine Shut.out ?_))
        unfold Shut
        obtain ⟨V, hV⟩ : ∃ V, (w7.alloc (.cells sw0.A 53)).alloc (.cells sw0.A 53) = V := ⟨_, rfl⟩
        have h1 : V.heap[w7.heap.size]? = some (.cells sw0.A 53 (0, 0)) := hV ▸ heap_past (heap_alloc_last w7 _) _
        have h2 : V.heap[w7.heap.size + 1]? = some (.cells sw0.A 53 (0, 0)) := hV ▸ heap_last1 w7 _ _
        have HBV : Hid (Below w7.heap.size w7 V) := hV ▸ bel1 (bel1 (Below.refl _ _) (Nat.le_refl _) _) (by simp) _
        have H1 := hide h1
        have H2 : Hid ((V.setRow w7.heap.size a.A).heap[w7.heap.size + 1]? = some (.cells sw0.A 53 (0, 0))) := (setRow_other V a.A (by omega)).trans h2
        have HV : Hid ((w7.alloc (.cells #[.int .i64 0, .int .i64 0, .int .i64 0, .string ⟨#[]⟩, .string ⟨#[]⟩, .int .i64 0, .int .u64 0, .string ⟨#[]⟩, .slice none 0 0, .int .i64 0, .bool false, .bool false, .int .i64 0, .int .u64 0, .string ⟨#[]⟩, .slice none 0 0, .int .i64 0, .string ⟨#[]⟩, .slice none 0 0] 53)).alloc (.cells #[.int .i64 0, .int .i64 0, .int .i64 0, .string ⟨#[]⟩, .string ⟨#[]⟩, .int .i64 0, .int .u64 0, .string ⟨#[]⟩, .slice none 0 0, .int .i64 0, .bool false, .bool false, .int .i64 0, .int .u64 0, .string ⟨#[]⟩, .slice none 0 0, .int .i64 0, .string ⟨#[]⟩, .slice none 0 0] 53) = V) := hV
        have HB7 : Hid (Below w6.heap.size w6 w7) := HB0.out.trans (hb7.mono HB0.out.size)
        have Hqk := hide hqk
        clear hV h1 h2 HLk hb7 hc0 hbl hqk
        go_wp2_with (first | (rw [HV.out]; refine Shut.out ?_))
        unfold Shut
        go_wp2_with (first | (refine wpList_store_row rfl 53 (.tmp 14) (.tmp 81) rfl w7.heap.size a.A rfl rfl 53 _ H1.out Try.infoSt rfl a.one ?_) | (refine wpList_store_row rfl 53 (.tmp 15) (.tmp 82) rfl (w7.heap.size + 1) q.A rfl rfl 53 _ H2.out Try.infoSt rfl q.one ?_; refine Shut.out ?_))
        unfold Shut
        obtain ⟨W1, hW1⟩ : ∃ W1, (V.setRow w7.heap.size a.A).setRow (w7.heap.size + 1) q.A = W1 := ⟨_, rfl⟩
        have HQ1 : Hid (W1.heap[w7.heap.size + 1]? = some (.cells q.A 53 (0, 0))) := hW1 ▸ setRow_same H2.out _
        have HB1 : Hid (Below w6.heap.size w6 W1) := by
          have h5 := bel_setRow (bel_setRow HBV.out (Nat.le_refl _) a.A) (show w7.heap.size ≤ w7.heap.size + 1 by omega) q.A
          rw [hW1] at h5
          exact HB7.out.trans (h5.mono HB7.out.size)
        rw [hW1]
        clear hW1 H1 H2 HV HBV HB7
        have HF := hide (first_any ls ra lc x.1 W1 (HR6.out.below HB1.out) (by omega))
        obtain ⟨hc0, hc1, hbl⟩ := HC.out W1 HB1.out
        clear hc1
        go_wp2_with (first | (go_at_call 16; refine HF.out.mono ?_; rintro e8 w8 ⟨⟨r, rfl, hfa⟩, hb8⟩; refine Shut.out ?_))
        unfold Shut
        have HB8 : Hid (Below w6.heap.size w6 w8) := HB1.out.trans (hb8.mono HB1.out.size)
        have HQ8 : Hid (w8.heap[w7.heap.size + 1]? = some (.cells q.A 53 (0, 0))) := (hb8.block _ (Array.getElem?_eq_some_iff.1 HQ1.out).1).trans HQ1.out
        have hl8 : w7.heap.size + 1 < w8.heap.size := (Array.getElem?_eq_some_iff.1 HQ8.out).1
        clear HF hb8 hc0 hbl HQ1 HB1 HB0
        rcases hfa with ⟨rfl, hno⟩ | ⟨j, hj, rfl, hje, hjt⟩
        · have hTt : ib = true := by
            have h5 := HIs.out.1
            rw [hno, HIe.out] at h5
            simpa using h5
          subst hTt
          have hwt : x.2 = ofH rc q.k := by rw [HIs.out.2, res_none hno, Hqk.out]
          cases rc with
          | true =>
            obtain ⟨hc0, hc1, hbl⟩ := HC.out w8 HB8.out
            have hw1 : x.2 = 1 := hwt
            rw [hw1] at hc1
            have HBE := HB8
            clear hwt hw1 hc0 hno
            go_wp2
            go_roundw
            case rel => exact ⟨i + 1, by go_num, by omega, HBE.out⟩
            case measure => simp [intOf]; omega
          | false =>
            obtain ⟨f, hf⟩ : ∃ f, fin q.k = f := ⟨_, rfl⟩
            have HLo := hide (lawOut_any q w8)
            rw [hf] at HLo
            have hwt2 : x.2 = if f then 1 else 3 := by rw [hwt]; unfold ofH; rw [hf]; rfl
            clear hwt hf hno
            go_wp2_with (first | (refine wpList_wanted (v := .agg q.A) (by first | rfl | decide | kernel_rfl) (row_run w8 _ 53 (.tmp 15) rfl (w7.heap.size + 1) q.A 53 (0, 0) rfl HQ8.out _ Try.underlying53 rfl Try.infoSt) ?_) | (go_at_call 17; refine HLo.out.mono ?_; rintro e9 w9 ⟨rfl, hb9⟩; refine Shut.out ?_))
            unfold Shut
            have HBE : Hid (Below w6.heap.size w6 w9) := HB8.out.trans (hb9.mono HB8.out.size)
            obtain ⟨hc0, hc1, hbl⟩ := HC.out w9 HBE.out
            rw [hwt2] at hc1
            clear hwt2 hc0 hb9 HLo HQ8 HB8 hl8
            cases f with
            | true =>
              have hc2 : w9.cell? ⟨b, off + i * 2 + 1, none⟩ = some (.int .i64 1) := hc1
              clear hc1
              go_wp2
              go_roundw
              case rel => exact ⟨i + 1, by go_num, by omega, HBE.out⟩
              case measure => simp [intOf]; omega
            | false =>
              have hc2 : w9.cell? ⟨b, off + i * 2 + 1, none⟩ = some (.int .i64 3) := hc1
              clear hc1
              go_wp2
              go_roundw
              case rel => exact ⟨i + 1, by go_num, by omega, HBE.out⟩
              case measure => simp [intOf]; omega
        · obtain ⟨b2, off2, era, hbl2, hrg⟩ := (HR6.out.below HB8.out) j hj
          obtain ⟨y, hy⟩ : ∃ y, ls[j] = y := ⟨_, rfl⟩
          rw [hy] at hrg
          have hwt : x.2 = ofT rc ib y.2.k := by rw [HIs.out.2, res_some hje hjt, HIe.out, hy]
          have HRw : Hid (w8.rangeAt b2 (off2 + j * 20 + 1) y.2.L) := fun z v hv => by
            have := hrg (z + 1) v (by simpa [Un.enc] using hv)
            rwa [show off2 + j * 20 + (z + 1) = off2 + j * 20 + 1 + z by omega] at this
          obtain ⟨f, hf⟩ : ∃ f, fin y.2.k = f := ⟨_, rfl⟩
          have HLo := hide (lawOut_any y.2 w8)
          rw [hf] at HLo
          have hwt2 : x.2 = if rc then 4 else if ib && !f then 3 else 2 := by rw [hwt]; unfold ofT; rw [hf]
          subst era
          clear hrg hwt hf hy hje hjt
          have hjb : (j : Int) ≤ 100000 := by omega
          have hd0 : decide ((0 : Int) ≤ (j : Int)) = true := by simp
          have hd1 : decide ((j : Int) < 0) = false := by simp
          go_wp2_with (first | (refine wpList_wanted (v := .agg y.2.A) (by first | rfl | decide | kernel_rfl) (mid_run w8 _ 53 (.tmp 97) rfl b2 (off2 + j * 20 + 1) y.2.L rfl HRw.out _ Try.underlying53 rfl Try.infoSt) ?_) | (go_at_call 17; refine HLo.out.mono ?_; rintro e9 w9 ⟨rfl, hb9⟩; refine Shut.out ?_))
          unfold Shut
          have HBE : Hid (Below w6.heap.size w6 w9) := HB8.out.trans (hb9.mono HB8.out.size)
          obtain ⟨hc0, hc1, hbl⟩ := HC.out w9 HBE.out
          rw [hwt2] at hc1
          clear hwt2 hc0 hb9 HLo HQ8 HB8 hl8 HRw
          cases rc with
          | true =>
            have hc2 : w9.cell? ⟨b, off + i * 2 + 1, none⟩ = some (.int .i64 4) := hc1
            clear hc1
            cases ib with
            | true =>
              go_wp2
              go_roundw
              case rel => exact ⟨i + 1, by go_num, by omega, HBE.out⟩
              case measure => simp [intOf]; omega
            | false =>
              go_wp2
              go_roundw
              case rel => exact ⟨i + 1, by go_num, by omega, HBE.out⟩
              case measure => simp [intOf]; omega
          | false =>
            cases ib with
            | false =>
              have hc2 : w9.cell? ⟨b, off + i * 2 + 1, none⟩ = some (.int .i64 2) := hc1
              clear hc1
              go_wp2
              go_roundw
              case rel => exact ⟨i + 1, by go_num, by omega, HBE.out⟩
              case measure => simp [intOf]; omega
            | true =>
              cases f with
              | true =>
                have hc2 : w9.cell? ⟨b, off + i * 2 + 1, none⟩ = some (.int .i64 2) := hc1
                clear hc1
                go_wp2
                go_roundw
                case rel => exact ⟨i + 1, by go_num, by omega, HBE.out⟩
                case measure => simp [intOf]; omega
              | false =>
                have hc2 : w9.cell? ⟨b, off + i * 2 + 1, none⟩ = some (.int .i64 3) := hc1
                clear hc1
                go_wp2
                go_roundw
                case rel => exact ⟨i + 1, by go_num, by omega, HBE.out⟩
                case measure => simp [intOf]; omega
      · obtain ⟨k, hk⟩ : ∃ k, i = k + 1 := ⟨i - 1, by omega⟩
        have hd : decide (0 < (i : Int)) = true := by simp; omega
        have hip : 0 < i := by omega
        have hdn : decide (0 < i) = true := by simp; omega
        have hkl' : k < ks.length := by omega
        have hkn : ((k : Nat) : Int) ≤ 200000 := by omega
        have hwk : IntKind.i64.wrap ((i : Int) - 1) = (k : Int) := by rw [IntKind.wrap_i64]; omega
        have hup := HTl.out.up k (by omega)
        have hxe : ks[k + 1] = x := by have := HX.out; subst hk; exact this
        rw [hxe] at hup
        obtain ⟨y, hy⟩ : ∃ y, ks[k] = y := ⟨_, rfl⟩
        rw [hy] at hup
        obtain ⟨b', off', e, hbl', hp0, hp1⟩ := (HRd.out.below HB.out) k (by omega)
        cases e
        rw [hy] at hp0
        have HKi := hide hk
        clear hp1 hy hbl' hxe hk h0
        go_wp2
        go_quiet (fail)
        obtain ⟨W0, hW0⟩ : ∃ W0, W0 = wr.drewN nq := ⟨_, rfl⟩
        have HB0 : Hid (Below w6.heap.size w6 W0) := by rw [hW0]; exact HB.out.trans ((bel_drewN wr nq).mono HB.out.size)
        rw [← hW0]
        clear hW0 hc0 hc1 hbl hd hip hdn hkl' hkn hwk hup hp0
        obtain ⟨ib, hie⟩ : ∃ ib, hasK T x.1 = ib := ⟨_, rfl⟩
        have HLk := hide (look_any d g l T x.1 W0 (HI6.out.lk.below HB0.out) (HI6.out.st.kp (Kp.ofBelow HB0.out)) HZx.out)
        rw [hie] at HLk
        have HIe := hide hie
        obtain ⟨hc0, hc1, hbl⟩ := HC.out W0 HB0.out
        clear hie hc1
        go_wp2_with (first | (go_at_call 15; refine HLk.out.mono ?_; rintro e7 w7 ⟨⟨a, q, rfl, hqk⟩, hb7⟩; refine Shut.out ?_))
        unfold Shut
        obtain ⟨V, hV⟩ : ∃ V, (w7.alloc (.cells sw0.A 53)).alloc (.cells sw0.A 53) = V := ⟨_, rfl⟩
        have h1 : V.heap[w7.heap.size]? = some (.cells sw0.A 53 (0, 0)) := hV ▸ heap_past (heap_alloc_last w7 _) _
        have h2 : V.heap[w7.heap.size + 1]? = some (.cells sw0.A 53 (0, 0)) := hV ▸ heap_last1 w7 _ _
        have HBV : Hid (Below w7.heap.size w7 V) := hV ▸ bel1 (bel1 (Below.refl _ _) (Nat.le_refl _) _) (by simp) _
        have H1 := hide h1
        have H2 : Hid ((V.setRow w7.heap.size a.A).heap[w7.heap.size + 1]? = some (.cells sw0.A 53 (0, 0))) := (setRow_other V a.A (by omega)).trans h2
        have HV : Hid ((w7.alloc (.cells #[.int .i64 0, .int .i64 0, .int .i64 0, .string ⟨#[]⟩, .string ⟨#[]⟩, .int .i64 0, .int .u64 0, .string ⟨#[]⟩, .slice none 0 0, .int .i64 0, .bool false, .bool false, .int .i64 0, .int .u64 0, .string ⟨#[]⟩, .slice none 0 0, .int .i64 0, .string ⟨#[]⟩, .slice none 0 0] 53)).alloc (.cells #[.int .i64 0, .int .i64 0, .int .i64 0, .string ⟨#[]⟩, .string ⟨#[]⟩, .int .i64 0, .int .u64 0, .string ⟨#[]⟩, .slice none 0 0, .int .i64 0, .bool false, .bool false, .int .i64 0, .int .u64 0, .string ⟨#[]⟩, .slice none 0 0, .int .i64 0, .string ⟨#[]⟩, .slice none 0 0] 53) = V) := hV
        have HB7 : Hid (Below w6.heap.size w6 w7) := HB0.out.trans (hb7.mono HB0.out.size)
        have Hqk := hide hqk
        clear hV h1 h2 HLk hb7 hc0 hbl hqk
        go_wp2_with (first | (rw [HV.out]; refine Shut.out ?_))
        unfold Shut
        go_wp2_with (first | (refine wpList_store_row rfl 53 (.tmp 14) (.tmp 81) rfl w7.heap.size a.A rfl rfl 53 _ H1.out Try.infoSt rfl a.one ?_) | (refine wpList_store_row rfl 53 (.tmp 15) (.tmp 82) rfl (w7.heap.size + 1) q.A rfl rfl 53 _ H2.out Try.infoSt rfl q.one ?_; refine Shut.out ?_))
        unfold Shut
        obtain ⟨W1, hW1⟩ : ∃ W1, (V.setRow w7.heap.size a.A).setRow (w7.heap.size + 1) q.A = W1 := ⟨_, rfl⟩
        have HQ1 : Hid (W1.heap[w7.heap.size + 1]? = some (.cells q.A 53 (0, 0))) := hW1 ▸ setRow_same H2.out _
        have HB1 : Hid (Below w6.heap.size w6 W1) := by
          have h5 := bel_setRow (bel_setRow HBV.out (Nat.le_refl _) a.A) (show w7.heap.size ≤ w7.heap.size + 1 by omega) q.A
          rw [hW1] at h5
          exact HB7.out.trans (h5.mono HB7.out.size)
        rw [hW1]
        clear hW1 H1 H2 HV HBV HB7
        have HF := hide (first_any ls ra lc x.1 W1 (HR6.out.below HB1.out) (by omega))
        obtain ⟨hc0, hc1, hbl⟩ := HC.out W1 HB1.out
        clear hc1
        go_wp2_with (first | (go_at_call 16; refine HF.out.mono ?_; rintro e8 w8 ⟨⟨r, rfl, hfa⟩, hb8⟩; refine Shut.out ?_))
        unfold Shut
        have HB8 : Hid (Below w6.heap.size w6 w8) := HB1.out.trans (hb8.mono HB1.out.size)
        have HQ8 : Hid (w8.heap[w7.heap.size + 1]? = some (.cells q.A 53 (0, 0))) := (hb8.block _ (Array.getElem?_eq_some_iff.1 HQ1.out).1).trans HQ1.out
        have hl8 : w7.heap.size + 1 < w8.heap.size := (Array.getElem?_eq_some_iff.1 HQ8.out).1
        clear HF hb8 hc0 hbl HQ1 HB1 HB0
        rcases hfa with ⟨rfl, hno⟩ | ⟨j, hj, rfl, hje, hjt⟩
        · have hTt : ib = true := by
            have h5 := HIs.out.1
            rw [hno, HIe.out] at h5
            simpa using h5
          subst hTt
          have hwt : x.2 = ofH rc q.k := by rw [HIs.out.2, res_none hno, Hqk.out]
          cases rc with
          | true =>
            obtain ⟨hc0, hc1, hbl⟩ := HC.out w8 HB8.out
            have hw1 : x.2 = 1 := hwt
            rw [hw1] at hc1
            have HBE := HB8
            clear hwt hw1 hc0 hno
            go_wp2
            go_roundw
            case rel => exact ⟨i + 1, by go_num, by omega, HBE.out⟩
            case measure => simp [intOf]; omega
          | false =>
            obtain ⟨f, hf⟩ : ∃ f, fin q.k = f := ⟨_, rfl⟩
            have HLo := hide (lawOut_any q w8)
            rw [hf] at HLo
            have hwt2 : x.2 = if f then 1 else 3 := by rw [hwt]; unfold ofH; rw [hf]; rfl
            clear hwt hf hno
            go_wp2_with (first | (refine wpList_wanted (v := .agg q.A) (by first | rfl | decide | kernel_rfl) (row_run w8 _ 53 (.tmp 15) rfl (w7.heap.size + 1) q.A 53 (0, 0) rfl HQ8.out _ Try.underlying53 rfl Try.infoSt) ?_) | (go_at_call 17; refine HLo.out.mono ?_; rintro e9 w9 ⟨rfl, hb9⟩; refine Shut.out ?_))
            unfold Shut
            have HBE : Hid (Below w6.heap.size w6 w9) := HB8.out.trans (hb9.mono HB8.out.size)
            obtain ⟨hc0, hc1, hbl⟩ := HC.out w9 HBE.out
            rw [hwt2] at hc1
            clear hwt2 hc0 hb9 HLo HQ8 HB8 hl8
            cases f with
            | true =>
              have hc2 : w9.cell? ⟨b, off + i * 2 + 1, none⟩ = some (.int .i64 1) := hc1
              clear hc1
              go_wp2
              go_roundw
              case rel => exact ⟨i + 1, by go_num, by omega, HBE.out⟩
              case measure => simp [intOf]; omega
            | false =>
              have hc2 : w9.cell? ⟨b, off + i * 2 + 1, none⟩ = some (.int .i64 3) := hc1
              clear hc1
              go_wp2
              go_roundw
              case rel => exact ⟨i + 1, by go_num, by omega, HBE.out⟩
              case measure => simp [intOf]; omega
        · obtain ⟨b2, off2, era, hbl2, hrg⟩ := (HR6.out.below HB8.out) j hj
          obtain ⟨y, hy⟩ : ∃ y, ls[j] = y := ⟨_, rfl⟩
          rw [hy] at hrg
          have hwt : x.2 = ofT rc ib y.2.k := by rw [HIs.out.2, res_some hje hjt, HIe.out, hy]
          have HRw : Hid (w8.rangeAt b2 (off2 + j * 20 + 1) y.2.L) := fun z v hv => by
            have := hrg (z + 1) v (by simpa [Un.enc] using hv)
            rwa [show off2 + j * 20 + (z + 1) = off2 + j * 20 + 1 + z by omega] at this
          obtain ⟨f, hf⟩ : ∃ f, fin y.2.k = f := ⟨_, rfl⟩
          have HLo := hide (lawOut_any y.2 w8)
          rw [hf] at HLo
          have hwt2 : x.2 = if rc then 4 else if ib && !f then 3 else 2 := by rw [hwt]; unfold ofT; rw [hf]
          subst era
          clear hrg hwt hf hy hje hjt
          have hjb : (j : Int) ≤ 100000 := by omega
          have hd0 : decide ((0 : Int) ≤ (j : Int)) = true := by simp
          have hd1 : decide ((j : Int) < 0) = false := by simp
          go_wp2_with (first | (refine wpList_wanted (v := .agg y.2.A) (by first | rfl | decide | kernel_rfl) (mid_run w8 _ 53 (.tmp 97) rfl b2 (off2 + j * 20 + 1) y.2.L rfl HRw.out _ Try.underlying53 rfl Try.infoSt) ?_) | (go_at_call 17; refine HLo.out.mono ?_; rintro e9 w9 ⟨rfl, hb9⟩; refine Shut.out ?_))
          unfold Shut
          have HBE : Hid (Below w6.heap.size w6 w9) := HB8.out.trans (hb9.mono HB8.out.size)
          obtain ⟨hc0, hc1, hbl⟩ := HC.out w9 HBE.out
          rw [hwt2] at hc1
          clear hwt2 hc0 hb9 HLo HQ8 HB8 hl8 HRw
          cases rc with
          | true =>
            have hc2 : w9.cell? ⟨b, off + i * 2 + 1, none⟩ = some (.int .i64 4) := hc1
            clear hc1
            cases ib with
            | true =>
              go_wp2
              go_roundw
              case rel => exact ⟨i + 1, by go_num, by omega, HBE.out⟩
              case measure => simp [intOf]; omega
            | false =>
              go_wp2
              go_roundw
              case rel => exact ⟨i + 1, by go_num, by omega, HBE.out⟩
              case measure => simp [intOf]; omega
          | false =>
            cases ib with
            | false =>
              have hc2 : w9.cell? ⟨b, off + i * 2 + 1, none⟩ = some (.int .i64 2) := hc1
              clear hc1
              go_wp2
              go_roundw
              case rel => exact ⟨i + 1, by go_num, by omega, HBE.out⟩
              case measure => simp [intOf]; omega
            | true =>
              cases f with
              | true =>
                have hc2 : w9.cell? ⟨b, off + i * 2 + 1, none⟩ = some (.int .i64 2) := hc1
                clear hc1
                go_wp2
                go_roundw
                case rel => exact ⟨i + 1, by go_num, by omega, HBE.out⟩
                case measure => simp [intOf]; omega
              | false =>
                have hc2 : w9.cell? ⟨b, off + i * 2 + 1, none⟩ = some (.int .i64 3) := hc1
                clear hc1
                go_wp2
                go_roundw
                case rel => exact ⟨i + 1, by go_num, by omega, HBE.out⟩
                case measure => simp [intOf]; omega
    · have hie : i = ks.length := by omega
      subst hie
      obtain ⟨wo, hwo⟩ : ∃ wo, wo = wr := ⟨_, rfl⟩
      subst hwo
      have HU := hide (unsettled_any d g l T wo (HI6.out.lk.below HB.out) (HI6.out.st.kp (Kp.ofBelow HB.out)) (by have := HI6.out.len; omega))
      clear hi hil
      go_wp2_with (first | (go_at_call 10; refine HU.out.mono ?_; rintro e7 w7 ⟨v7, rfl, ua, uc, tg, rfl, hpu, _, hru, hb7⟩; refine Shut.out ?_))
      unfold Shut
      have HB7 : Hid (Below w6.heap.size w6 w7) := HB.out.trans (hb7.mono HB.out.size)
      have HRu := hide hru
      have htl : tg.length ≤ 100000 := by
        have h5 := hpu.length_eq
        rw [List.length_map] at h5
        have := HI6.out.len
        omega
      have HIn : Hid (∀ t ∈ tg, t ∈ ks.map (·.1)) := fun t ht => HTl.out.all t (by
        have h5 : t ∈ T.map unOf := (hpu.mem_iff).1 ht
        have h6 : hasK T t = true := any_iff.2 h5
        rw [h6, Bool.or_true])
      have HIl : Hid (∀ x ∈ ls, x.1 ∈ ks.map (·.1)) := fun x hx => HTl.out.all x.1 (by rw [has_of_mem (k := x.1) (x := x.2) hx, Bool.true_or])
      clear hpu hru hb7 HU HB HTl HI6 HZ3
      go_wp2
      go_loopw [21] (fun u wr2 => ∃ m : Nat, u = .int .i64 m ∧ m ≤ tg.length ∧ Below w7.heap.size w7 wr2) (fun u _ => tg.length + 1 - (intOf u).toNat)
      case atStart => exact ⟨0, rfl, by omega, Below.refl _ _⟩
      case round =>
        obtain ⟨m, rfl, hm, hb⟩ := hrel
        have HB := hide hb
        clear hb
        by_cases hml : m < tg.length
        · obtain ⟨b, off, rfl, hbl7, hc7⟩ := HRu.out m hml
          obtain ⟨t, ht⟩ : ∃ t, tg[m] = t := ⟨_, rfl⟩
          rw [ht] at hc7
          have hc : wr.cell? ⟨b, off + m * 20, none⟩ = some (.string t) := (HB.out.cell (p := ⟨b, off + m * 20, none⟩) hbl7).trans hc7
          have hbl : b < wr.heap.size := Nat.lt_of_lt_of_le hbl7 HB.out.size
          have HBo : Hid (Below w6.heap.size w6 wr) := HB7.out.trans (HB.out.mono HB7.out.size)
          have HA := hide (among_yes ks oa oc t wr (HRd.out.below HBo.out) (by omega) (HIn.out t (ht ▸ List.getElem_mem hml)))
          have hmb : (m : Int) ≤ 100000 := by omega
          clear ht hc7 hbl7
          go_wp2_with (first | (go_at_call 18; refine HA.out.mono ?_; rintro e8 w8 ⟨rfl, hb8⟩; refine Shut.out ?_))
          unfold Shut
          have HB8 := hide (HB.out.trans (hb8.mono HB.out.size))
          clear HA hb8 hc
          go_wp2
          go_roundw
          case rel => exact ⟨m + 1, by go_num, by omega, HB8.out⟩
          case measure => simp [intOf]; omega
        · obtain ⟨wp, hwp⟩ : ∃ wp, wp = wr := ⟨_, rfl⟩
          subst hwp
          have HBp : Hid (Below w6.heap.size w6 wp) := HB7.out.trans (HB.out.mono HB7.out.size)
          clear HB HB7 HRu HIn
          go_wp2
          go_loopw [23] (fun u wr3 => ∃ m : Nat, u = .int .i64 m ∧ m ≤ ls.length ∧ Below w6.heap.size w6 wr3) (fun u _ => ls.length + 1 - (intOf u).toNat)
          case atStart => exact ⟨0, rfl, by omega, HBp.out⟩
          case round =>
            clear HBp
            obtain ⟨z, rfl, hz, hb⟩ := hrel
            have HB := hide hb
            clear hb
            by_cases hzl : z < ls.length
            · obtain ⟨b, off, rfl, hbl, hrg⟩ := (HR6.out.below HB.out) z hzl
              obtain ⟨x, hx⟩ : ∃ x, ls[z] = x := ⟨_, rfl⟩
              rw [hx] at hrg
              have hc := range_head hrg
              have HA := hide (among_yes ks oa oc x.1 wr (HRd.out.below HB.out) (by omega) (HIl.out x (hx ▸ List.getElem_mem hzl)))
              have hzb : (z : Int) ≤ 100000 := by omega
              clear hx hrg
              go_wp2_with (first | (go_at_call 18; refine HA.out.mono ?_; rintro e8 w8 ⟨rfl, hb8⟩; refine Shut.out ?_))
              unfold Shut
              have HB8 := hide (HB.out.trans (hb8.mono HB.out.size))
              clear HA hb8 hc
              go_wp2
              go_roundw
              case rel => exact ⟨z + 1, by go_num, by omega, HB8.out⟩
              case measure => simp [intOf]; omega
            · go_wp2
              go_ret
              exact ⟨rfl, HBw.out.trans (HB.out.mono HBw.out.size)⟩
end Go.Proofs.Ytknkmamjdmadcaa.G
