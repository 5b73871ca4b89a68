import Derived.Test.YtknkmamjdmadcaaLGFM9
import Derived.Test.YtknkmamjdmadcaaLUnsM9
import Derived.Test.YtknkmamjdmadcaaLWayM9

/- Stage 14: owned.State of any state. -/
namespace Go.Proofs.Ytknkmamjdmadcaa
open Go.RowKit Go.Maps
set_option linter.unusedVariables false
set_option linter.unusedSimpArgs false

/-- a state lies in w, in blocks of Q, no deeper than d -/
def StIn (Q : Nat → Prop) (w : World) : Nat → Sw → Prop
  | 0, s => U.LiesIn Q w s.inf ∧ U.LiesIn Q w s.an ∧ s.il ≤ s.ic ∧ s.il = 0
  | d + 1, s => U.LiesIn Q w s.inf ∧ U.LiesIn Q w s.an ∧ s.il ≤ s.ic ∧ s.il ≤ 606627104962 ∧ ∃ fs : Nat → Sw, (0 < s.il → ∃ b o, s.ia = some ⟨b, o, none⟩ ∧ Q b ∧ ∀ i, i < s.il → w.rangeAt b (o + i * 19) (fs i).L) ∧ ∀ i, i < s.il → StIn Q w d (fs i)
theorem StIn.vals {Q : Nat → Prop} {w : World} {d : Nat} {s : Sw} (h : StIn Q w d s) : U.LiesIn Q w s.inf ∧ U.LiesIn Q w s.an := by
  cases d with
  | zero => exact ⟨h.1, h.2.1⟩
  | succ d => exact ⟨h.1, h.2.1⟩
theorem range_keep {W w : World} {b o : Nat} {cs : List Value} (h : W.rangeAt b o cs) (hb : w.heap[b]? = W.heap[b]?) : w.rangeAt b o cs := fun j v hv => (World.cell?_of_block (a := ⟨b, o + j, none⟩) hb).trans (h j v hv)
theorem StIn.keep {Q Q' : Nat → Prop} {W w : World} (hs : ∀ b, Q b → w.heap[b]? = W.heap[b]?) (hq : ∀ b, Q b → Q' b) : ∀ {d : Nat} {s : Sw}, StIn Q W d s → StIn Q' w d s
  | 0, s, h => ⟨lies_keep h.1 hs hq, lies_keep h.2.1 hs hq, h.2.2.1, h.2.2.2⟩
  | d + 1, s, ⟨h1, h2, h3, h4, fs, h5, h6⟩ => ⟨lies_keep h1 hs hq, lies_keep h2 hs hq, h3, h4, fs, fun h0 => by
      obtain ⟨b, o, e, hb, hr⟩ := h5 h0
      exact ⟨b, o, e, hq b hb, fun i hi => range_keep (hr i hi) (hs b hb)⟩, fun i hi => StIn.keep hs hq (h6 i hi)⟩
theorem StIn.up {Q : Nat → Prop} {w : World} : ∀ {d : Nat} {s : Sw}, StIn Q w d s → StIn Q w (d + 1) s
  | 0, s, ⟨h1, h2, h3, h4⟩ => ⟨h1, h2, h3, by omega, fun _ => s, fun h0 => by omega, fun i hi => by omega⟩
  | d + 1, s, ⟨h1, h2, h3, h4, fs, h5, h6⟩ => ⟨h1, h2, h3, h4, fs, h5, fun i hi => StIn.up (h6 i hi)⟩
def StOk (d : Nat) : Prop := ∀ (s : Sw) (n₀ : Nat) (w : World), n₀ ≤ w.heap.size → StIn (fun b => b < n₀) w d s →
  Calls Try.prog 29 #[.agg s.A] w fun e w' => ∃ s' : Sw, e = .returned (.agg s'.A) ∧ s'.k = s.k ∧ Hid (StIn (New w w') w' d s') ∧ Below w.heap.size w w'
/-- the inner states -/
structure Inn (Q : Nat → Prop) (w : World) (d : Nat) (ia : Option Addr) (il ic : Nat) (fs : Nat → Sw) : Prop where
  cap : il ≤ ic
  sm : il ≤ 606627104962
  row : 0 < il → ∃ b o, ia = some ⟨b, o, none⟩ ∧ Q b ∧ ∀ i, i < il → w.rangeAt b (o + i * 19) (fs i).L
  sub : ∀ i, i < il → StIn Q w d (fs i)
theorem Inn.keep {Q Q' : Nat → Prop} {W w : World} {d : Nat} {ia : Option Addr} {il ic : Nat} {fs : Nat → Sw} (h : Inn Q W d ia il ic fs) (hs : ∀ b, Q b → w.heap[b]? = W.heap[b]?) (hq : ∀ b, Q b → Q' b) : Inn Q' w d ia il ic fs :=
  ⟨h.cap, h.sm, fun h0 => by
      obtain ⟨b, o, e, hb, hr⟩ := h.row h0
      exact ⟨b, o, e, hq b hb, fun i hi => range_keep (hr i hi) (hs b hb)⟩, fun i hi => StIn.keep hs hq (h.sub i hi)⟩
theorem Try.infoS3 : (Try.prog.info? 53).map (fun i => (i.zero.map (·.cells.size), i.size, i.bytes)) = some (some 19, 19, 232) := by kernel_rfl
theorem run_makeSt (n : Nat) (hn : n ≤ 606627104962) (w : World) :
    ∃ cur, (Instr.makeSlice 51 (.int .i64 n) (.int .i64 n)).run Try.prog w = .ok (.slice (some ⟨w.heap.size, 0, none⟩) n n) (w.alloc (.cells cur 53)) ∧ cur.size = n * 19 := by
  obtain ⟨i, z, hi, hz, hzs, his, hib⟩ := info3 Try.infoS3
  have hr := run_make (P := Try.prog) w 51 53 i _ Try.underlying51 hi hz .i64 .i64 n n (by omega) (by omega) (by rw [hib]; omega) (by omega)
  simp only [his] at hr
  exact ⟨_, by simpa using hr, by simp [madeCells, hzs]⟩
set_option maxRecDepth 100000 in
set_option maxHeartbeats 2000000 in
theorem states_any (d : Nat) (ih : StOk d) (ia : Option Addr) (il ic : Nat) (fs : Nat → Sw) (n₀ : Nat) (w : World) (hn : n₀ ≤ w.heap.size) (h : Inn (fun b => b < n₀) w d ia il ic fs) :
    Calls Try.prog 52 #[.slice ia il ic] w fun e w' => ∃ ia' ic' fs', e = .returned (.slice ia' il ic') ∧ Hid (Inn (New w w') w' d ia' il ic' fs') ∧ Below w.heap.size w w' := by
  by_cases h0 : il = 0
  · subst h0
    refine (states_none ia ic w).mono ?_
    rintro e w' ⟨rfl, rfl⟩
    exact ⟨none, 0, fs, rfl, ⟨Nat.le_refl _, by omega, fun h => by omega, fun i hi => by omega⟩, Below.refl _ _⟩
  obtain ⟨b, o, rfl, hb, hr⟩ := h.row (by omega)
  obtain ⟨cur, hmk, hcs⟩ := run_makeSt il h.sm w
  have hi0 : ((il : Int) == 0) = false := by rw [beq_eq_false_iff_ne]; omega
  have hsm : (il : Int) ≤ 606627104962 := by have := h.sm; omega
  have hcap := h.cap
  have HI := hide h
  have HR := hide hr
  have IH := hide ih
  have HN := hide hn
  have HBn := hide hb
  obtain ⟨W0, hW0⟩ : ∃ W0, w.alloc (.cells cur 53) = W0 := ⟨_, rfl⟩
  have hk0 : W0.heap[w.heap.size]? = some (.cells cur 53 (0, 0)) := hW0 ▸ heap_alloc_last w _
  have hb0 : Below w.heap.size w W0 := hW0 ▸ bel1 (Below.refl _ _) (Nat.le_refl _) _
  have hbl : b < w.heap.size := Nat.lt_of_lt_of_le hb hn
  rw [hW0] at hmk
  have K0 := hide hk0
  have HB0 := hide hb0
  have hls : w.heap.size < W0.heap.size := (Array.getElem?_eq_some_iff.1 hk0).1
  have HCs := hide hcs
  clear h hr ih hn hb hk0 hb0 hcs hW0 h0
  go_enter Try.func52, Try.ntmps52
  go_wp2
  go_loopw [14] (fun i wr => ∃ (j : Nat) (cu : Array Value) (gs : Nat → Sw), i = .int .i64 (j : Int) ∧ j ≤ il ∧ Hid (wr.heap[w.heap.size]? = some (.cells cu 53 (0, 0)) ∧ cu.size = il * 19) ∧ Hid (∀ q, q < j → wr.rangeAt w.heap.size (q * 19) (gs q).L) ∧ Hid (∀ q, q < j → StIn (fun b => w.heap.size < b ∧ b < wr.heap.size) wr d (gs q)) ∧ Hid (Below w.heap.size w wr)) (fun i _ => il - (intOf i).toNat)
  case atStart => exact ⟨0, cur, fs, rfl, Nat.zero_le _, ⟨K0.out, HCs.out⟩, fun q hq => by omega, fun q hq => by omega, HB0.out⟩
  case round =>
    obtain ⟨j, cu, gs, rfl, hj, HK, HG, HS, HB⟩ := hrel
    by_cases hjn : j < il
    · have hbw := HB.out
      have hszw : w.heap.size < wr.heap.size := (Array.getElem?_eq_some_iff.1 HK.out.1).1
      have hrj : wr.rangeAt b (o + j * 19) (fs j).L := range_keep (HR.out j hjn) (hbw.block b hbl)
      have hblr : b < wr.heap.size := by omega
      obtain ⟨V1, hV1⟩ : ∃ V1, wr.alloc (.cells (fs j).A 53) = V1 := ⟨_, rfl⟩
      have hb1 : Below wr.heap.size wr V1 := hV1 ▸ bel1 (Below.refl _ _) (Nat.le_refl _) _
      have hn1 : V1.heap[wr.heap.size]? = some (.cells (fs j).A 53 (0, 0)) := hV1 ▸ heap_alloc_last wr _
      have hs1 : V1.heap.size = wr.heap.size + 1 := by rw [← hV1]; simp
      have hbV : Below w.heap.size w V1 := hbw.trans (hb1.mono hbw.size)
      have HC := hide (IH.out (fs j) n₀ V1 (by have := HN.out; omega) (StIn.keep (fun q hq => hbV.block q (Nat.lt_of_lt_of_le hq HN.out)) (fun _ h => h) (HI.out.sub j hjn)))
      have HV1 := hide hV1
      have N1 := hide hn1
      have HB1 := hide hb1
      have HS1 := hide hs1
      have HRj := hide hrj
      have hjb : (j : Int) ≤ 606627104962 := by omega
      clear hV1 hn1 hb1 hs1 hbV hbw hrj
      go_wp2_with (first | (refine wpList_load_mid rfl 53 (.tmp 17) rfl b (o + j * 19) rfl (fs j).L _ HRj.out Try.underlying53 rfl Try.infoSt ?_) | (refine wpList_store_row rfl 53 (.tmp 5) (.tmp 18) rfl wr.heap.size (fs j).A rfl rfl 53 _ (heap_alloc_last wr _) Try.infoSt rfl (fs j).one ?_; rw [World.setRow_alloc_new, HV1.out]) | (refine wpList_load_row rfl 53 (.tmp 5) rfl wr.heap.size rfl 53 (fs j).A (0, 0) _ N1.out Try.underlying53 rfl Try.infoSt ?_) | (go_at_call 29; refine HC.out.mono ?_; rintro e2 w2 ⟨s', rfl, hk2, hs2, hb2⟩; refine Shut.out ?_))
      unfold Shut
      have hb3 : Below wr.heap.size wr w2 := HB1.out.trans (hb2.mono HB1.out.size)
      have k2 := (hb3.block _ hszw).trans HK.out.1
      have hcu := HK.out.2
      have hle : (j + 1) * 19 ≤ il * 19 := Nat.mul_le_mul_right _ hjn
      have HT : Hid (w2.there w.heap.size (j * 19) s'.A.size) := there_of k2 (by show j * 19 + 19 ≤ cu.size; omega)
      obtain ⟨w3, hw3⟩ : ∃ w3, w2.setCells w.heap.size (j * 19) s'.L = w3 := ⟨_, rfl⟩
      obtain ⟨cu', k3, k4⟩ := setCs_keeps w.heap.size s'.L (j * 19) w2 cu _ _ k2
      have HK3 : Hid (w3.heap[w.heap.size]? = some (.cells cu' 53 (0, 0)) ∧ cu'.size = il * 19) := ⟨hw3 ▸ k3, by rw [k4]; exact hcu⟩
      have hoth : ∀ q, q ≠ w.heap.size → w3.heap[q]? = w2.heap[q]? := fun q hq => by rw [← hw3]; exact setCells_other _ _ hq _ _ _
      have hs3 : w3.heap.size = w2.heap.size := by rw [← hw3, setCells_size]
      have HG3 : Hid (∀ q, q < j + 1 → w3.rangeAt w.heap.size (q * 19) ((fun q => if q = j then s' else gs q) q).L) := fun q hq => by
        by_cases e : q = j
        · subst e
          simp only [if_true]
          rw [← hw3]
          exact World.rangeAt_setCells_same _ _ _ _ (fun i hi => there_of k2 (by show q * 19 + 19 ≤ cu.size; omega) i (by rw [Sw.len] at hi; exact hi))
        · simp only [e, if_false]
          rw [← hw3]
          have hq9 : (q + 1) * 19 ≤ j * 19 := Nat.mul_le_mul_right _ (by omega)
          exact World.rangeAt_setCells_apart (range_keep (HG.out q (by omega)) (hb3.block _ hszw)) _ _ _ (.inr (.inl (by rw [Sw.len]; omega)))
      have HS3 : Hid (∀ q, q < j + 1 → StIn (fun b => w.heap.size < b ∧ b < w3.heap.size) w3 d ((fun q => if q = j then s' else gs q) q)) := fun q hq => by
        have h9 := hb2.size
        have h8 := HS1.out
        by_cases e : q = j
        · subst e
          simp only [if_true]
          refine StIn.keep (fun b hb => hoth b ?_) (fun b hb => ⟨?_, ?_⟩) hs2.out
          · have : V1.heap.size ≤ b := hb.1
            omega
          · have : V1.heap.size ≤ b := hb.1
            omega
          · rw [hs3]
            exact hb.2
        · simp only [e, if_false]
          refine StIn.keep (fun b hb => (hoth b (by omega)).trans (hb3.block b hb.2)) (fun b hb => ⟨hb.1, by omega⟩) (HS.out q (by omega))
      have HB3 : Hid (Below w.heap.size w w3) := by rw [← hw3]; exact setCells_below (Nat.le_refl _) _ _ _ (HB.out.trans (hb3.mono HB.out.size))
      have HW3 := hide hw3
      clear hk2 hs2 hb2 hb3 k2 hcu hle hw3 k3 k4 hoth hs3 HC HV1 N1 HRj
      go_wp2_with (first | (refine wpList_store_mid rfl 53 (.tmp 23) (.tmp 22) rfl w.heap.size (j * 19) s'.A rfl rfl HT.out Try.infoSt s'.one ?_; rw [show s'.A.toList = s'.L from rfl, HW3.out]; refine Shut.out ?_))
      unfold Shut
      go_wp2
      go_roundw
      case rel => exact ⟨j + 1, cu', fun q => if q = j then s' else gs q, by go_num, by omega, HK3.out, HG3.out, HS3.out, HB3.out⟩
      case measure => simp [intOf]; omega
    · obtain rfl : j = il := by omega
      go_wp2
      go_ret
      have hsz : w.heap.size < wr.heap.size := (Array.getElem?_eq_some_iff.1 HK.out.1).1
      exact ⟨_, _, gs, rfl, ⟨Nat.le_refl _, HI.out.sm, fun _ => ⟨w.heap.size, 0, rfl, ⟨Nat.le_refl _, hsz⟩, fun i hi => by rw [Nat.zero_add]; exact HG.out i hi⟩, fun i hi => StIn.keep (fun _ _ => rfl) (fun b hb => ⟨by omega, hb.2⟩) (HS.out i hi)⟩, HB.out⟩
theorem Sw.info (s : Sw) : (Try.prog.info? 53).map (·.size) = some s.A.size := by rw [Try.infoSt]; rfl
def Sw.pre (s : Sw) : List Value := [.int .i64 s.k, .int .i64 s.se, .int .i64 s.ofs] ++ fL s.co s.tx s.inf ++ [.bool s.fa, .bool s.el]
theorem Sw.ann (s : Sw) : s.L = s.pre ++ wL s.an ++ [.string s.tn, .slice s.ia s.il s.ic] := by simp [Sw.L, Sw.pre]
theorem Sw.flt (s : Sw) : s.L = [.int .i64 s.k, .int .i64 s.se, .int .i64 s.ofs] ++ fL s.co s.tx s.inf ++ ([.bool s.fa, .bool s.el] ++ wL s.an ++ [.string s.tn, .slice s.ia s.il s.ic]) := rfl
theorem Sw.set_inf {w : World} {N : Nat} {s : Sw} {t : TypeId} {fr : Nat × Nat} (h : w.heap[N]? = some (.cells s.A t fr)) (y : U.V) : (w.setCells N 3 (fL s.co s.tx y)).heap[N]? = some (.cells ({ s with inf := y } : Sw).A t fr) :=
  setCells_at N (fL s.co s.tx y) 3 w [.int .i64 s.k, .int .i64 s.se, .int .i64 s.ofs] (fL s.co s.tx s.inf) ([Value.bool s.fa, Value.bool s.el] ++ wL s.an ++ [Value.string s.tn, Value.slice s.ia s.il s.ic]) h rfl rfl
theorem Sw.set_an {w : World} {N : Nat} {s : Sw} {t : TypeId} {fr : Nat × Nat} (h : w.heap[N]? = some (.cells s.A t fr)) (y : U.V) : (w.setCells N 12 (wL y)).heap[N]? = some (.cells ({ s with an := y } : Sw).A t fr) := by
  have := setCells_at N (wL y) 12 w s.pre (wL s.an) [.string s.tn, .slice s.ia s.il s.ic] (by rw [← Sw.ann]; exact h) rfl rfl
  rw [this]
  rfl
theorem Sw.set_in {w : World} {N : Nat} {s : Sw} {t : TypeId} {fr : Nat × Nat} (h : w.heap[N]? = some (.cells s.A t fr)) (ia : Option Addr) (ic : Nat) : (w.setCell ⟨N, 18, none⟩ (.slice ia s.il ic)).heap[N]? = some (.cells ({ s with ia := ia, ic := ic } : Sw).A t fr) := by
  have h2 : w.heap[N]? = some (.cells ⟨s.L⟩ t fr) := h
  simp [World.setCell, Array.getElem?_modify, h2, Sw.A, Sw.L, fL, wL]
set_option maxRecDepth 100000 in
set_option maxHeartbeats 2000000 in
theorem state_step (s : Sw) (n₀ : Nat) (w : World) (hn : n₀ ≤ w.heap.size) (h1 : U.LiesIn (fun b => b < n₀) w s.inf) (h2 : U.LiesIn (fun b => b < n₀) w s.an) (d : Nat) (fs : Nat → Sw)
    (hi : Inn (fun b => b < n₀) w d s.ia s.il s.ic fs) (hS : ∀ w1, Below w.heap.size w w1 → Calls Try.prog 52 #[.slice s.ia s.il s.ic] w1 fun e w' => ∃ ia' ic' fs', e = .returned (.slice ia' s.il ic') ∧ Hid (Inn (New w1 w') w' d ia' s.il ic' fs') ∧ Below w1.heap.size w1 w') :
    Calls Try.prog 29 #[.agg s.A] w fun e w' => ∃ (s' : Sw) (fs' : Nat → Sw), e = .returned (.agg s'.A) ∧ s'.k = s.k ∧ Hid (U.LiesIn (New w w') w' s'.inf ∧ U.LiesIn (New w w') w' s'.an ∧ s'.il = s.il ∧ Inn (New w w') w' d s'.ia s'.il s'.ic fs') ∧ Below w.heap.size w w' := by
  obtain ⟨V, hV⟩ : ∃ V, (w.alloc (.cells s.A 53)).alloc (.cells (stA 0) 53) = V := ⟨_, rfl⟩
  have a0 : V.heap[w.heap.size]? = some (.cells s.A 53 (0, 0)) := hV ▸ heap_past (heap_alloc_last w _) _
  have a1 : V.heap[w.heap.size + 1]? = some (.cells (stA 0) 53 (0, 0)) := hV ▸ heap_last1 w _ _
  have hbV : Below w.heap.size w V := hV ▸ bel1 (bel1 (Below.refl _ _) (Nat.le_refl _) _) (by simp) _
  have hVs : V.heap.size = w.heap.size + 2 := by rw [← hV]; simp
  have HV : Hid ((w.alloc (.cells s.A 53)).alloc (.cells #[.int .i64 0, .int .i64 0, .int .i64 0, .string ⟨#[]⟩, .string ⟨#[]⟩, .int .i64 0, .int .u64 0, .string ⟨#[]⟩, .slice none 0 0, .int .i64 0, .bool false, .bool false, .int .i64 0, .int .u64 0, .string ⟨#[]⟩, .slice none 0 0, .int .i64 0, .string ⟨#[]⟩, .slice none 0 0] 53) = V) := hV
  have HR : Hid (V.rangeAt w.heap.size 3 (fL s.co s.tx s.inf)) := range_at a0 [.int .i64 s.k, .int .i64 s.se, .int .i64 s.ofs] (fL s.co s.tx s.inf) _ rfl
  have hk1 : U.Lies n₀ V s.inf := lies_keep h1 (fun b hb => hbV.block b (Nat.lt_of_lt_of_le hb hn)) (fun _ h => h)
  have HF := hide (ownFault s.co s.tx s.inf n₀ V (Nat.le_trans hn hbV.size) hk1)
  have H2 := hide h2
  have HS := hide hS
  have A0 := hide a0
  have A1 := hide a1
  have HB := hide hbV
  have HVs := hide hVs
  have HN := hide hn
  clear hV a0 a1 hbV hVs hk1 h1 h2 hi hS hn
  go_enter Try.func29, Try.ntmps29
  go_wp2_with (first | rw [HV.out] | (refine wpList_load_mid rfl 50 (.tmp 3) rfl w.heap.size 3 rfl (fL s.co s.tx s.inf) _ HR.out Try.underlying50 rfl Try.infoFa ?_) | (go_at_call 50; refine HF.out.mono ?_; rintro e1 w1 ⟨y, rfl, hy, hb1⟩; refine Shut.out ?_))
  unfold Shut
  have k0 := (hb1.block _ (by have := HVs.out; omega)).trans A0.out
  have k1 := (hb1.block _ (by have := HVs.out; omega)).trans A1.out
  obtain ⟨w2, hw2⟩ : ∃ w2, w1.setCells w.heap.size 3 (fL s.co s.tx y) = w2 := ⟨_, rfl⟩
  have k2 : w2.heap[w.heap.size]? = some (.cells ({ s with inf := y } : Sw).A 53 (0, 0)) := hw2 ▸ Sw.set_inf k0 y
  have k3 : w2.heap[w.heap.size + 1]? = some (.cells (stA 0) 53 (0, 0)) := by
    rw [← hw2, setCells_other _ _ (by omega)]
    exact k1
  have hs2 : w2.heap.size = w1.heap.size := by rw [← hw2, setCells_size]
  have hB2 : Below w.heap.size w w2 := by rw [← hw2]; exact setCells_below (Nat.le_refl _) _ _ _ (HB.out.trans (hb1.mono HB.out.size))
  have hY : U.LiesIn (fun b => w.heap.size + 2 ≤ b ∧ b < w2.heap.size) w2 y := by
    refine lies_keep hy.out (fun q hq => ?_) (fun q hq => ⟨?_, ?_⟩)
    · have h9 : V.heap.size ≤ q := hq.1
      rw [← hw2, setCells_other _ _ (by have := HVs.out; omega)]
    · have h9 : V.heap.size ≤ q := hq.1
      have := HVs.out
      omega
    · rw [hs2]
      exact hq.2
  have hsz2 : w.heap.size + 2 ≤ w2.heap.size := by have := hb1.size; have := HVs.out; omega
  have HT : Hid (w1.there w.heap.size 3 (⟨fL s.co s.tx y⟩ : Array Value).size) := there_of k0 (by show 3 + 7 ≤ 19; omega)
  have hk2 : U.Lies n₀ w2 s.an := lies_keep H2.out (fun b hb => hB2.block b (Nat.lt_of_lt_of_le hb HN.out)) (fun _ h => h)
  have HA := hide (ownValue s.an n₀ w2 (by have := HN.out; omega) hk2)
  have HR2 : Hid (w2.rangeAt w.heap.size 12 (wL s.an)) := range_at (cs := ({ s with inf := y } : Sw).L) k2 ({ s with inf := y } : Sw).pre (wL s.an) _ (Sw.ann _)
  have HW2 := hide hw2
  have K2 := hide k2
  have K3 := hide k3
  have HB2 := hide hB2
  have HY := hide hY
  have HZ2 := hide hsz2
  clear hw2 k0 k1 k2 k3 hy hb1 HF HR A0 A1 HB hs2 hB2 hY hsz2 hk2 H2
  go_wp2_with (first | (refine wpList_store_mid rfl 50 (.tmp 6) (.tmp 5) rfl w.heap.size 3 ⟨fL s.co s.tx y⟩ rfl rfl HT.out Try.infoFa (fL_one _ _ y) ?_; rw [show (⟨fL s.co s.tx y⟩ : Array Value).toList = fL s.co s.tx y from rfl, HW2.out]; refine Shut.out ?_))
  unfold Shut
  clear HW2 HT HV
  go_wp2_with (first | (refine wpList_load_mid rfl 48 (.tmp 7) rfl w.heap.size 12 rfl (wL s.an) _ HR2.out Try.underlying48 rfl Try.infoVa ?_) | (go_at_call 51; refine HA.out.mono ?_; rintro e3 w3 ⟨y2, rfl, hy2, hb3⟩; refine Shut.out ?_))
  unfold Shut
  have k0 := (hb3.block _ (by have := HZ2.out; omega)).trans K2.out
  have k1 := (hb3.block _ (by have := HZ2.out; omega)).trans K3.out
  obtain ⟨w4, hw4⟩ : ∃ w4, w3.setCells w.heap.size 12 (wL y2) = w4 := ⟨_, rfl⟩
  have k2 : w4.heap[w.heap.size]? = some (.cells ({ s with inf := y, an := y2 } : Sw).A 53 (0, 0)) := hw4 ▸ Sw.set_an k0 y2
  have k3 : w4.heap[w.heap.size + 1]? = some (.cells (stA 0) 53 (0, 0)) := by
    rw [← hw4, setCells_other _ _ (by omega)]
    exact k1
  have hs4 : w4.heap.size = w3.heap.size := by rw [← hw4, setCells_size]
  have hB4 : Below w.heap.size w w4 := by rw [← hw4]; exact setCells_below (Nat.le_refl _) _ _ _ (HB2.out.trans (hb3.mono HB2.out.size))
  have hsz4 : w.heap.size + 2 ≤ w4.heap.size := by have := hb3.size; have := HZ2.out; omega
  have hY : U.LiesIn (fun b => w.heap.size + 2 ≤ b ∧ b < w4.heap.size) w4 y ∧ U.LiesIn (fun b => w.heap.size + 2 ≤ b ∧ b < w4.heap.size) w4 y2 := by
    have h9 := hb3.size
    have h8 := HZ2.out
    refine ⟨lies_keep HY.out (fun q hq => ?_) (fun q hq => ⟨hq.1, by omega⟩), lies_keep hy2.out (fun q hq => ?_) (fun q hq => ⟨?_, ?_⟩)⟩
    · rw [← hw4, setCells_other _ _ (by omega)]
      exact hb3.block q hq.2
    · have h7 : w2.heap.size ≤ q := hq.1
      rw [← hw4, setCells_other _ _ (by omega)]
    · have h7 : w2.heap.size ≤ q := hq.1
      omega
    · rw [hs4]
      exact hq.2
  have HT : Hid (w3.there w.heap.size 12 (⟨wL y2⟩ : Array Value).size) := there_of k0 (by show 12 + 5 ≤ 19; omega)
  have i18 : w4.cell? ⟨w.heap.size, 18, none⟩ = some (.slice s.ia s.il s.ic) := cellOf k2 18 _ rfl
  have i18l : w.heap.size < w4.heap.size := (Array.getElem?_eq_some_iff.1 k2).1
  have HC := hide (HS.out w4 hB4)
  have HW4 := hide hw4
  have K2' := hide k2
  have K3' := hide k3
  have HB4 := hide hB4
  have HY4 := hide hY
  have HZ4 := hide hsz4
  clear hw4 k0 k1 k2 k3 hy2 hb3 HA HR2 K2 K3 HB2 hs4 hB4 hY hsz4 HY HZ2 HS
  rw [wA_wL]
  go_wp2_with (first | (refine wpList_store_mid rfl 48 (.tmp 10) (.tmp 9) rfl w.heap.size 12 ⟨wL y2⟩ rfl rfl HT.out Try.infoVa (wL_one y2) ?_; rw [show (⟨wL y2⟩ : Array Value).toList = wL y2 from rfl, HW4.out]; refine Shut.out ?_))
  unfold Shut
  clear HW4 HT
  go_wp2_with (first | (go_at_call 52; refine HC.out.mono ?_; rintro e5 w5 ⟨ia', ic', fs', rfl, hin, hb5⟩; refine Shut.out ?_))
  unfold Shut
  have k0 := (hb5.block _ (by have := HZ4.out; omega)).trans K2'.out
  have k1 := (hb5.block _ (by have := HZ4.out; omega)).trans K3'.out
  have j18 : w5.cell? ⟨w.heap.size, 18, none⟩ = some (.slice s.ia s.il s.ic) := cellOf k0 18 _ rfl
  have j18l : w.heap.size < w5.heap.size := (Array.getElem?_eq_some_iff.1 k0).1
  have j18f : ∀ o, w5.frozen? ⟨w.heap.size, o, none⟩ = false := fun o => by simp [World.frozen?, k0]
  obtain ⟨w6, hw6⟩ : ∃ w6, w5.setCell ⟨w.heap.size, 18, none⟩ (.slice ia' s.il ic') = w6 := ⟨_, rfl⟩
  have k2 : w6.heap[w.heap.size]? = some (.cells (⟨s.k, s.se, s.ofs, s.co, s.tx, y, s.fa, s.el, y2, s.tn, ia', s.il, ic'⟩ : Sw).A 53 (0, 0)) := hw6 ▸ Sw.set_in k0 ia' ic'
  have hoth : ∀ q, q ≠ w.heap.size → w6.heap[q]? = w5.heap[q]? := fun q hq => by rw [← hw6]; exact blk_set_other _ _ _ _ hq
  have k3 : w6.heap[w.heap.size + 1]? = some (.cells (stA 0) 53 (0, 0)) := (hoth _ (by omega)).trans k1
  have hs6 : w6.heap.size = w5.heap.size := by rw [← hw6]; simp
  have hB6 : Below w.heap.size w w6 := by rw [← hw6]; exact bel_setCell (HB4.out.trans (hb5.mono HB4.out.size)) (Nat.le_refl _) _ _
  have HQ : Hid (U.LiesIn (fun b => w.heap.size + 2 ≤ b ∧ b < w6.heap.size) w6 y ∧ U.LiesIn (fun b => w.heap.size + 2 ≤ b ∧ b < w6.heap.size) w6 y2 ∧ Inn (fun b => w.heap.size + 2 ≤ b ∧ b < w6.heap.size) w6 d ia' s.il ic' fs') := by
    have h9 := hb5.size
    have h8 := HZ4.out
    refine ⟨lies_keep HY4.out.1 (fun q hq => (hoth q (by omega)).trans (hb5.block q hq.2)) (fun q hq => ⟨hq.1, by omega⟩), lies_keep HY4.out.2 (fun q hq => (hoth q (by omega)).trans (hb5.block q hq.2)) (fun q hq => ⟨hq.1, by omega⟩), hin.out.keep (fun q hq => hoth q ?_) (fun q hq => ⟨?_, ?_⟩)⟩
    · have h7 : w4.heap.size ≤ q := hq.1
      omega
    · have h7 : w4.heap.size ≤ q := hq.1
      omega
    · rw [hs6]
      exact hq.2
  have HW6 := hide hw6
  have K6 := hide k2
  have K7 := hide k3
  have HB6 := hide hB6
  clear hw6 k0 k1 k2 k3 hin hb5 HC K2' K3' HB4 HY4 HZ4 hoth hs6 hB6 i18 i18l
  go_wp2_with (first | (rw [HW6.out]; refine Shut.out ?_))
  unfold Shut
  clear HW6 j18 j18l j18f
  go_wp2_with (first | (refine wpList_load_row rfl 53 (.tmp 1) rfl w.heap.size rfl 53 (⟨s.k, s.se, s.ofs, s.co, s.tx, y, s.fa, s.el, y2, s.tn, ia', s.il, ic'⟩ : Sw).A (0, 0) _ K6.out Try.underlying53 rfl Try.infoSt ?_) | (refine wpList_store_row rfl 53 (.tmp 2) (.tmp 15) rfl (w.heap.size + 1) (⟨s.k, s.se, s.ofs, s.co, s.tx, y, s.fa, s.el, y2, s.tn, ia', s.il, ic'⟩ : Sw).A rfl rfl 53 _ K7.out Try.infoSt rfl (Sw.one _) ?_))
  refine bodyPost_ret (v := .agg (⟨s.k, s.se, s.ofs, s.co, s.tx, y, s.fa, s.el, y2, s.tn, ia', s.il, ic'⟩ : Sw).A) (results_cell_row Try.results29 _ _ (w.heap.size + 1) 53 _ (0, 0) _ rfl (setRow_same K7.out _) Try.underlying53 rfl Try.infoSt) rfl ⟨⟨s.k, s.se, s.ofs, s.co, s.tx, y, s.fa, s.el, y2, s.tn, ia', s.il, ic'⟩, fs', rfl, rfl, ?_, bel_setRow HB6.out (by omega) _⟩
  have hne : ∀ q, w.heap.size + 2 ≤ q → (w6.setRow (w.heap.size + 1) (⟨s.k, s.se, s.ofs, s.co, s.tx, y, s.fa, s.el, y2, s.tn, ia', s.il, ic'⟩ : Sw).A).heap[q]? = w6.heap[q]? := fun q hq => setRow_other _ _ _ _ (by omega)
  have hqq : ∀ q, (w.heap.size + 2 ≤ q ∧ q < w6.heap.size) → New w (w6.setRow (w.heap.size + 1) (⟨s.k, s.se, s.ofs, s.co, s.tx, y, s.fa, s.el, y2, s.tn, ia', s.il, ic'⟩ : Sw).A) q := fun q hq => ⟨by omega, by rw [setRow_size]; exact hq.2⟩
  exact ⟨lies_keep HQ.out.1 (fun q hq => hne q hq.1) hqq, lies_keep HQ.out.2.1 (fun q hq => hne q hq.1) hqq, rfl, HQ.out.2.2.keep (fun q hq => hne q hq.1) hqq⟩
theorem inn_of {Q : Nat → Prop} {w : World} {d : Nat} {s : Sw} (h : StIn Q w (d + 1) s) : ∃ fs, Inn Q w d s.ia s.il s.ic fs := by
  obtain ⟨h1, h2, h3, h4, fs, h5, h6⟩ := h
  exact ⟨fs, h3, h4, h5, h6⟩
theorem stin_of {Q : Nat → Prop} {w : World} {d : Nat} {s : Sw} {fs : Nat → Sw} (h1 : U.LiesIn Q w s.inf) (h2 : U.LiesIn Q w s.an) (h : Inn Q w d s.ia s.il s.ic fs) : StIn Q w (d + 1) s := ⟨h1, h2, h.cap, h.sm, fs, h.row, h.sub⟩
theorem state_any : ∀ d, StOk d
  | 0 => fun s n₀ w hn h => by
    obtain ⟨h1, h2, h3, h4⟩ := h
    have hi : Inn (fun b => b < n₀) w 0 s.ia s.il s.ic (fun _ => s) := ⟨h3, by omega, fun h => by omega, fun i hi => by omega⟩
    refine (state_step s n₀ w hn h1 h2 0 (fun _ => s) hi (fun w1 hb => ?_)).mono ?_
    · rw [h4]
      refine (states_none s.ia s.ic w1).mono ?_
      rintro e w' ⟨rfl, rfl⟩
      exact ⟨none, 0, fun _ => s, rfl, ⟨Nat.le_refl _, by omega, fun h => by omega, fun i hi => by omega⟩, Below.refl _ _⟩
    · rintro e w' ⟨s', fs', rfl, hk, hs, hb⟩
      obtain ⟨g1, g2, g3, g4⟩ := hs.out
      exact ⟨s', rfl, hk, ⟨g1, g2, g4.cap, by rw [g3]; exact h4⟩, hb⟩
  | d + 1 => fun s n₀ w hn h => by
    obtain ⟨fs, hi⟩ := inn_of h
    refine (state_step s n₀ w hn h.vals.1 h.vals.2 d fs hi (fun w1 hb => ?_)).mono ?_
    · exact states_any d (state_any d) s.ia s.il s.ic fs n₀ w1 (Nat.le_trans hn hb.size) (hi.keep (fun q hq => hb.block q (Nat.lt_of_lt_of_le hq hn)) (fun _ h => h))
    · rintro e w' ⟨s', fs', rfl, hk, hs, hb⟩
      obtain ⟨g1, g2, g3, g4⟩ := hs.out
      exact ⟨s', rfl, hk, stin_of g1 g2 g4, hb⟩
end Go.Proofs.Ytknkmamjdmadcaa
