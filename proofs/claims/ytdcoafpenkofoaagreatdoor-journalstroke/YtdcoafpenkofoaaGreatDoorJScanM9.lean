import Derived.Test.YtdcoafpenkofoaaGreatDoorJWhAM9
import Derived.Test.YtdcoafpenkofoaaGreatDoorJIsM9

/- Stage 20: a log's whole batches. -/
namespace Go.Proofs.YtdcoafpenkofoaaGreatDoor
open Go.RowKit Go.Shelf
set_option linter.unusedVariables false
set_option linter.unusedSimpArgs false
attribute [local go_sem] Oper.semAt_some
set_option maxRecDepth 100000 in
set_option maxHeartbeats 8000000 in
theorem whole_any (g : Addr) (a : Option Addr) (cap : Nat) (l : List Nat) (w : World) (hE : Eb w g) (hT : Er w) (hrd : Rd w a l.length l) (hc : l.length ≤ cap) (hn : l.length ≤ 70368744177664) :
    Calls Tryz.prog 37 #[.slice a l.length cap] w fun e w' => WhP w.heap.size g l e w' ∧ Below w.heap.size w w' := by
  suffices h : ∀ n, CallsIn Fence.wide n Tryz.prog 37 #[.slice a l.length cap] w (fun e w' => WhP w.heap.size g l e w' ∧ Below w.heap.size w w') from callsIn_wide.1 (h 1)
  intro n
  have hdd : ∀ k : Nat, (Fence.wide.depth.isSome = true → 1 ≤ k) := fun k h => by cases h
  refine callsIn_of_wp_marks Tryz.func37 rfl trivial ?_ rfl
  simp only [Tryz.ntmps37, List.size_toArray, List.length_cons, List.length_nil, Nat.reduceAdd, Nat.reduceSub, Array.replicate_succ, Array.replicate_zero, List.push_toArray, List.append_toArray, List.nil_append, List.cons_append]
  have HE := hide hE
  have HT := hide hT
  have HR := hide hrd
  clear hE hT hrd
  gi_wp2_with fail
  refine ⟨trivial, hdd _, ?_⟩
  refine (callsIn_wide.2 (batchesOf_any a l.length cap _)).mono ?_
  rintro e w1 ⟨rfl, hw1⟩
  gi_wp2_with fail
  obtain ⟨B, hB⟩ : ∃ B, w.heap.size = B := ⟨_, rfl⟩
  have hb1 : Below B w w1 := by
    rw [hw1, ← hB]
    exact bel1 (bel1 (bel1 (bel1 (bel1 (Below.refl _ _) (Nat.le_refl _) _) (by simp only [World.size_alloc]; omega) _) (by simp only [World.size_alloc]; omega) _) (by simp only [World.size_alloc]; omega) _) (by simp only [World.size_alloc]; omega) _
  have hs1 : w1.heap.size = B + 5 := by rw [hw1, ← hB]; simp
  have q0 : w1.heap[B]? = some (.cells #[.slice none 0 0] 24 (0, 0)) := by rw [hw1, ← hB]; exact heap_past (heap_past (heap_past (heap_past (heap_new _ _) _) _) _) _
  have q1 : w1.heap[B + 1]? = some (.cells #[.int .i64 0] 3 (0, 0)) := by
    rw [hw1, ← hB]; refine heap_past (heap_past (heap_past ?_ _) _) _
    have := heap_new (w.alloc (.cells #[.slice none 0 0] 24)) (.cells #[.int .i64 0] 3)
    rwa [World.size_alloc] at this
  have q2 : w1.heap[B + 2]? = some (.cells #[.nilIface] 78 (0, 0)) := by
    rw [hw1, ← hB]; refine heap_past (heap_past ?_ _) _
    have := heap_new ((w.alloc (.cells #[.slice none 0 0] 24)).alloc (.cells #[.int .i64 0] 3)) (.cells #[.nilIface] 78)
    rwa [World.size_alloc, World.size_alloc] at this
  have q3 : w1.heap[B + 3]? = some (.cells #[.slice none 0 0] 24 (0, 0)) := by
    rw [hw1, ← hB]; refine heap_past ?_ _
    have := heap_new (((w.alloc (.cells #[.slice none 0 0] 24)).alloc (.cells #[.int .i64 0] 3)).alloc (.cells #[.nilIface] 78)) (.cells #[.slice none 0 0] 24)
    rwa [World.size_alloc, World.size_alloc, World.size_alloc] at this
  have q4 : w1.heap[B + 4]? = some (.cells #[.slice a l.length cap] 23 (0, 0)) := by
    rw [hw1, ← hB]
    have := heap_new ((((w.alloc (.cells #[.slice none 0 0] 24)).alloc (.cells #[.int .i64 0] 3)).alloc (.cells #[.nilIface] 78)).alloc (.cells #[.slice none 0 0] 24)) (.cells #[.slice a l.length cap] 23)
    rwa [World.size_alloc, World.size_alloc, World.size_alloc, World.size_alloc] at this
  have HQ := hide (And.intro hb1 (And.intro hs1 (And.intro q0 (And.intro q1 (And.intro q2 (And.intro q3 q4))))))
  have HBB := hide hB
  rw [← hw1, hB]
  clear hb1 hs1 q0 q1 q2 q3 q4 hw1
  clear hB
  have HI0 : Hid (IW w1 (B + 3) l (0, 0) w1) := ⟨rfl, Nat.zero_le _, Kp.refl _ _, .slice none 0 0, [], HQ.out.2.2.2.2.2.1, .inl ⟨rfl, rfl⟩, ToldL.nil _ _, by simp [batches], by simp, by simp, by simp⟩
  have HG : Hid (∀ t A, IW w1 (B + 3) l t A → GB g (B + 4) a cap l t A ∧ Er A) := fun t A hI => by
    obtain ⟨h1, h2, h3, _⟩ := hI
    obtain ⟨p1, p2, p3, p4, p5, p6, p7⟩ := HQ.out
    have hbA : Below B w A := p1.trans (h3.toBelow (by omega) (fun k hk e => by omega))
    have hbA' : Below w.heap.size w A := by rw [HBB.out]; exact hbA
    exact ⟨⟨h2, (h3.block (by omega) (by omega)).trans p7, HR.out.below hbA', HE.out.below hbA'⟩, HT.out.below hbA'⟩
  refine range_j (gf := 116) (lb := #[.pointer (some ⟨B + 4, 0, none⟩)]) rfl (enters_of Tryz.func116 (by kernel_rfl) rfl) (batches_seq g (B + 4) a cap l hc (by omega)) (fun _ => rfl)
    (IW w1 (B + 3) l) (fun c W => c = .ret ∧ XW w1 B g l W) (IW.own _ _ _) (XW.own _ _ _ _) (fun t A h => (HG.out t A h).1) (fun _ _ _ _ _ h => h.elim) (fun t x t' A A' _ h => Nc.of_below h.1) (fun _ _ _ _ _ h => h.elim) (0, 0) HI0.out rfl
    (fun t x t' A a' W => TolB g l t x t' A W ∧ a' = actW a l.length cap B x) ?assign ?body ?done ?stop
  case assign =>
    rintro lp t x t' A A' K hI ht hK
    have HKK := hide hK
    have HTT := hide ht
    simp only [encB]
    clear hK ht hI
    gi_wp2
    exact HKK.out _ _ (KpB.refl _ A') ⟨HTT.out, rfl⟩
  case body =>
    rintro lp t x t' A a' W1 r r' hl' hA hW1 hI ⟨hT1, rfl⟩
    obtain ⟨hb, ht0, htl, hx⟩ := hT1
    have hs1 := HQ.out.2.1
    have hsw0 := hI.2.2.1.size
    obtain ⟨⟨hGl, hGb, hGr, hGe⟩, hGt⟩ := HG.out t A hI
    obtain ⟨_, _, hk, v, Z, hv, hwy, htz, z1, z2, z3, z4⟩ := hI
    -- the world in which the round begins
    have hstay : ∀ k cs ty f, A.heap[k]? = some (Obj.cells cs ty f) → (W1.putObj lp (.loop r')).heap[k]? = some (Obj.cells cs ty f) := fun k cs ty f hk' => by
      have hne : k ≠ lp := fun e => by subst e; rw [hA] at hk'; cases hk'
      exact (World.putObj_heap_other hne).trans ((hb.block k (Array.getElem?_eq_some_iff.1 hk').1).trans hk')
    have hstay1 : ∀ k cs ty f, W1.heap[k]? = some (Obj.cells cs ty f) → (W1.putObj lp (.loop r')).heap[k]? = some (Obj.cells cs ty f) := fun k cs ty f hk' => by
      have hne : k ≠ lp := fun e => by subst e; rw [hW1] at hk'; cases hk'
      exact (World.putObj_heap_other hne).trans hk'
    have hkp : Kp (fun k => k = B + 3) w1 (W1.putObj lp (.loop r')) := by
      obtain ⟨g1, g2, g3, g4, g5⟩ := hk.below hb
      refine ⟨g1, g2, g3, by simpa using g4, fun k hk1 hk2 => (World.putObj_heap_other (by omega)).trans (g5 k hk1 hk2)⟩
    have hv2 := hstay _ _ _ _ hv
    have hwy2 : Wy AK (W1.putObj lp (.loop r')) w1.heap.size v Z := hwy.cells (fun k cs f _ hk' => (hstay k _ _ _ hk').trans hk'.symm)
    have htz2 : ToldL w1.heap.size (W1.putObj lp (.loop r')) Z := htz.keep (fun k cs ty f _ hk' _ => (hstay k _ _ _ hk').trans hk'.symm)
    have hsz2 : A.heap.size ≤ (W1.putObj lp (.loop r')).heap.size := by simpa using hb.size
    have hsw : w1.heap.size ≤ A.heap.size := hk.size
    obtain ⟨va, vc, rfl⟩ := hwy.shape
    rcases hx with ⟨hf, rfl, p, rfl, hp1, hp2⟩ | ⟨hf, rfl, vb, rfl, hbt⟩
    · -- a fault
      have hp3 := hstay1 _ _ _ _ hp2
      have hwb := wl_bad (b := l.drop t.1) (by rw [List.length_drop]; omega) hf
      rw [hwb] at z1 z2 z3
      have hge2 : Er (W1.putObj lp (.loop r')) := (World.cell?_of_block (a := ⟨0, 0, none⟩) ((World.putObj_heap_other (show (0 : Nat) ≠ lp by omega)).trans (hb.block 0 (by omega)))).trans hGt
      generalize W1.putObj lp (.loop r') = W2 at *
      have HAS : Hid (Calls Tryz.prog 78 #[ftV p, .iface 132 (.pointer (some ⟨W2.heap.size, 0, none⟩))] (W2.alloc (.cells #[.pointer none] 130)) fun e w' => e = .returned (.bool true) ∧ Hid (Below W2.heap.size W2 w') ∧ w'.cell? ⟨W2.heap.size, 0, none⟩ = some (.pointer (some ⟨p, 0, none⟩))) := by
        refine (AsF.as_hit ⟨p, 0, none⟩ ⟨W2.heap.size, 0, none⟩ (.pointer none) (W2.alloc (.cells #[.pointer none] 130)) ?_ ?_ ?_).mono ?_
        · exact hge2.below (bel1 (Below.refl _ _) (Nat.le_refl _) _)
        · exact cellOf (heap_new _ _) 0 _ rfl
        · exact frozen_new _ _ _
        · rintro e w' ⟨rfl, rfl⟩
          refine ⟨rfl, ?_, ?_⟩
          · exact Below.setCell (bel1 (bel1 (bel1 (bel1 (bel1 (Below.refl _ _) (Nat.le_refl _) _) (by simp only [World.size_alloc]; omega) _) (by simp only [World.size_alloc]; omega) _) (by simp only [World.size_alloc]; omega) _) (by simp only [World.size_alloc]; omega) _) (Nat.le_refl _) _
          · refine cell_set (v0 := .pointer none) (t := 130) (f := (0, 0)) ?_ _
            exact heap_past (heap_past (heap_past (heap_past (heap_new _ _) _) _) _) _
      have c5 : ∀ w', Below W2.heap.size W2 w' → w'.cell? ⟨B + 1 + 1 + 1, 0, none⟩ = some (.slice va Z.length vc) := fun w' hb' => (hb'.cell (p := ⟨B + 1 + 1 + 1, 0, none⟩) (by show B + 1 + 1 + 1 < _; omega)).trans (cellOf hv2 0 _ rfl)
      have cp : ∀ w', Below W2.heap.size W2 w' → w'.cell? ⟨p, 0, none⟩ = some (.int .i64 (t.1 : Int)) := fun w' hb' => (hb'.cell (p := ⟨p, 0, none⟩) (Array.getElem?_eq_some_iff.1 hp3).1).trans (cellOf hp3 0 _ rfl)
      have HHH := hide (And.intro hkp (And.intro hv2 (And.intro hwy2 (And.intro htz2 (And.intro hp3 (And.intro hsz2 hsw))))))
      have HZZ := hide (And.intro z1 (And.intro z2 (And.intro z3 hf)))
      have HBX := hide HQ.out.2.2
      have hpl : w1.heap.size ≤ p := by omega
      clear hkp hv2 hwy2 htz2 hstay hstay1 hsz2 hk hv hwy htz hp2 hwb hb hGl hGb hGr hGe hGt hA hW1 hge2
      unfold actW
      unfold ftV at HAS ⊢
      gi_wp2_with fail
      refine ⟨trivial, hdd _, ?_⟩
      refine (CallsIn.inRound lp (callsIn_wide.2 HAS.out)).mono ?_
      rintro e w3 ⟨rfl, HB3, cf⟩
      have c5' := c5 w3 HB3.out
      have cp' := cp w3 HB3.out
      clear c5 cp HAS
      have hz3 := HB3.out.size
      obtain ⟨hkp, _⟩ := HHH.out
      have hzs : w1.heap.size ≤ W2.heap.size := hkp.size
      have m0 : w3.heap[B]? = some (.cells #[.slice none 0 0] 24 (0, 0)) := (HB3.out.block B (by omega)).trans ((hkp.block (by omega) (by omega)).trans HBX.out.1)
      have m1 : w3.heap[B + 1]? = some (.cells #[.int .i64 0] 3 (0, 0)) := (HB3.out.block (B + 1) (by omega)).trans ((hkp.block (by omega) (by omega)).trans HBX.out.2.1)
      have m2 : w3.heap[B + 1 + 1]? = some (.cells #[.nilIface] 78 (0, 0)) := (HB3.out.block (B + 1 + 1) (by omega)).trans ((hkp.block (by omega) (by omega)).trans HBX.out.2.2.1)
      have r0 := cellOf m0 0 _ rfl
      have r1 := cellOf m1 0 _ rfl
      have r2 := cellOf m2 0 _ rfl
      have f0 := frozen_ofJ m0 0
      have f1 := frozen_ofJ m1 0
      have f2 := frozen_ofJ m2 0
      have n0 : ¬ p = B := by omega
      have n1 : ¬ p = B + 1 := by omega
      have n2 : ¬ p = B + 1 + 1 := by omega
      have n3 : ¬ W2.heap.size = B := by omega
      have n4 : ¬ W2.heap.size = B + 1 := by omega
      have n5 : ¬ W2.heap.size = B + 1 + 1 := by omega
      have HM := hide (And.intro m0 (And.intro m1 m2))
      have HFIN : Hid (∀ W4 : World, W4.heap = (((w3.setCell ⟨B, 0, none⟩ (.slice va Z.length vc)).setCell ⟨B + 1, 0, none⟩ (.int .i64 (t.1 : Int))).setCell ⟨B + 1 + 1, 0, none⟩ (ftV p)).heap → W4.os = w3.os → W4.tape = w3.tape → W4.output = w3.output → KpB w1.heap.size W2 W4 ∧ Code.ret = Code.ret ∧ XW w1 B g l W4) := fun W4 e1 e2 e3 e4 => by
        exact fin_whole HB3.out HHH.out HZZ.out m0 m1 m2 hs1 hpl e1 e2 e3 e4
      clear m0 m1 m2 hkp hpl
      gi_wp2_with fail
      refine wpIn_mono (Q := fun e a' W4 => e = Exit.normal ∧ W4.heap = (((w3.setCell ⟨B, 0, none⟩ (.slice va Z.length vc)).setCell ⟨B + 1, 0, none⟩ (.int .i64 (t.1 : Int))).setCell ⟨B + 1 + 1, 0, none⟩ (ftV p)).heap ∧ W4.os = w3.os ∧ W4.tape = w3.tape ∧ W4.output = w3.output) ?reg ?cont
      case reg =>
        gi_region
        all_goals exact ⟨rfl, rfl, rfl, rfl, rfl⟩
      case cont =>
        rintro e a' W4 ⟨rfl, e1, e2, e3, e4⟩
        have HF4 := hide (HFIN.out W4 e1 e2 e3 e4)
        clear e1 e2 e3 e4
        gi_wp2
        exact ⟨HF4.out.1, rfl, HF4.out.2.2⟩
    · obtain ⟨Wb, hm, hwb, hrb⟩ := hbt
      obtain ⟨xa, xc, rfl⟩ := hwb.shape
      have hsz := fst1_size _ hf
      rw [List.length_drop] at hsz
      have hwo := wl_one (b := l.drop t.1) (by rw [List.length_drop]; omega) hf
      rw [hwo, List.drop_drop] at z1 z2 z3
      have hwb2 : Wy BK (W1.putObj lp (.loop r')) A.heap.size (.slice xa Wb.length xc) Wb := hwb.cells (fun k cs f _ hk' => (hstay1 k _ _ _ hk').trans hk'.symm)
      have hrb2 : ToldR A.heap.size (W1.putObj lp (.loop r')) Wb := hrb.keep (fun o ho g hg => by
        obtain ⟨cs, f, hc⟩ := (hrb.own o ho).blk hg
        exact (hstay1 g _ _ _ hc).trans hc.symm)
      have hZ1 : ∀ z ∈ Z, ∀ g, z.2.ownBlock = some g → g < A.heap.size := fun z hz g hg => ((htz.row z hz).lt hg).2
      have hZ2 : ∀ z ∈ Z, ∀ o ∈ z.1, ∀ g, o.2.ownBlock = some g → g < A.heap.size := fun z hz o ho g hg => ((htz.rcs.own o (List.mem_flatMap.2 ⟨z, hz, ho⟩)).lt g hg).2
      have HHH := hide (And.intro hkp (And.intro hv2 (And.intro hwy2 (And.intro htz2 (And.intro hsw (And.intro hZ1 (And.intro hZ2 (And.intro hwb2 (And.intro hrb2 (And.intro hsz2 hm))))))))))
      have HZZ := hide (And.intro z1 (And.intro z2 (And.intro z3 (And.intro z4 (And.intro hsz.1 (show t.1 + (fst1 (l.drop t.1)).2.2 ≤ l.length by omega))))))
      generalize W1.putObj lp (.loop r') = W2 at *
      have c5 : W2.cell? ⟨B + 1 + 1 + 1, 0, none⟩ = some (.slice va Z.length vc) := cellOf hv2 0 _ rfl
      have hlt3 : B + 1 + 1 + 1 < W2.heap.size := (Array.getElem?_eq_some_iff.1 hv2).1
      have HZL : Hid ((Z.length + 1) * AK.bs ≤ 140737488355328) := by
        show (Z.length + 1) * 24 ≤ _
        omega
      have HV2 := hide hv2
      have HW1s : Hid (w1.heap.size ≤ W2.heap.size) := Nat.le_trans hsw hsz2
      clear hkp hv2 hwy2 htz2 hstay hstay1 hsz2 hk hv hwy htz hwb hrb hwb2 hrb2 hZ1 hZ2 hb hGl hGb hGr hGe hGt hA hW1 hwo hm z1 z2 z3 z4 hsw hsw0
      unfold actW
      gi_wp2_with fail
      refine ⟨trivial, hdd _, ?_⟩
      refine (CallsIn.inRound lp (callsIn_wide.2 (nil_whole W2.heap.size _))).mono ?_
      rintro e w3 ⟨rfl, rfl⟩
      gi_wp2_with (gi_at_builtin; go_loud (refine wpListIn_append_way akOk _ rfl (.tmp 22) (.tmp 24) rfl w1.heap.size (.slice va Z.length vc) Z (Wb, .slice xa Wb.length xc) rfl (HHH.out.2.2.1.at fun k hk => (bel1 (bel1 (Below.refl _ W2) (Nat.le_refl _) _) (by simp only [World.size_alloc]; omega) _).block k (HHH.out.2.2.1.lt hk).2) (W2.heap.size + 1) 1 rfl ?_ ?_ HZL.out ?_))
      · have := heap_new (W2.alloc (.cells #[.pointer none] 130)) (.cells #[.slice xa Wb.length xc] 29)
        rw [World.size_alloc] at this
        exact this
      · simp only [World.size_alloc]
        have := HW1s.out
        omega
      · intro v5 w5 hw5 hg5 _
        have HFN := hide (fin_next HHH.out HZZ.out HQ.out.2.1 (by rw [HQ.out.2.1]; exact hw5) hg5)
        obtain ⟨va5, vc5, rfl⟩ := hw5.shape
        have hb5 : w5.heap[B + 3]? = some (.cells #[.slice va Z.length vc] 24 (0, 0)) := by
          have hba : Below W2.heap.size W2 ((W2.alloc (.cells #[.pointer none] 130)).alloc (.cells #[.slice xa Wb.length xc] 29)) := bel1 (bel1 (Below.refl _ _) (Nat.le_refl _) _) (by simp only [World.size_alloc]; omega) _
          refine (hg5.block (B + 3) (by have := hba.size; omega) (fun e => ?_)).trans ((hba.block _ (by omega)).trans HV2.out)
          obtain ⟨cur, hc⟩ := HHH.out.2.2.1.typ e.symm
          rw [HV2.out] at hc
          simp [AK] at hc
        have r3 := cellOf hb5 0 _ rfl
        have f3 := frozen_ofJ hb5 0
        clear hw5 hg5 hb5 c5
        have hlz : (Z ++ [(Wb, Value.slice xa Wb.length xc)]).length = Z.length + 1 := by simp
        rw [hlz] at HFN
        clear hlz
        gi_wp2
        exact HFN.out
  case done =>
    rintro D t W' hD hF hI hK
    obtain ⟨h1, h2, hk, v, Z, hv, hwy, htz, z1, z2, z3, z4⟩ := hI
    have htl : t.1 = l.length := hF.elim id (fun h => absurd h1 h)
    rw [wl_nil (b := l.drop t.1) (by rw [List.length_drop]; omega)] at z1 z2 z3
    obtain ⟨va, vc, rfl⟩ := hwy.shape
    have hs1 := HQ.out.2.1
    have hw1s := hk.size
    have m0 : W'.heap[B]? = some (.cells #[.slice none 0 0] 24 (0, 0)) := (hk.block (by omega) (by omega)).trans HQ.out.2.2.1
    have m1 : W'.heap[B + 1]? = some (.cells #[.int .i64 0] 3 (0, 0)) := (hk.block (by omega) (by omega)).trans HQ.out.2.2.2.1
    have m2 : W'.heap[B + 1 + 1]? = some (.cells #[.nilIface] 78 (0, 0)) := (hk.block (by omega) (by omega)).trans HQ.out.2.2.2.2.1
    have c5 : W'.cell? ⟨B + 1 + 1 + 1, 0, none⟩ = some (.slice va Z.length vc) := cellOf hv 0 _ rfl
    have r0 := cellOf m0 0 _ rfl
    have r1 := cellOf m1 0 _ rfl
    have r2 := cellOf m2 0 _ rfl
    have f0 := frozen_ofJ m0 0
    have f1 := frozen_ofJ m1 0
    have f2 := frozen_ofJ m2 0
    have HZZ := hide (And.intro z1 (And.intro z2 z3))
    have HK := hide hk
    have HWY := hide hwy
    have HTZ := hide htz
    have HM := hide (And.intro m0 (And.intro m1 m2))
    have HD := hide hK
    clear z1 z2 z3 hk hwy htz m0 m1 m2 hK hv
    gi_wp2
    have HX := done_whole (g := g) HQ.out.2.1 HD.out hD HM.out.1 HM.out.2.1 HM.out.2.2 HK.out HWY.out HTZ.out (by rw [← HZZ.out.1, List.append_nil]) (by rw [← HZZ.out.2.1]; omega) HZZ.out.2.2.symm
    obtain ⟨x3, x0, x1, x2, x4, x5, x6⟩ := HX
    refine ⟨by simp, .inl ⟨_, _, rfl, run_takeDeferred x3, ?_⟩⟩
    refine ⟨.tuple #[.slice va Z.length vc, .int .i64 (l.length : Int), .nilIface], ?_, ?_, ?_⟩
    · exact results_three (p := 2) (q := 3) (u := 4) (t1 := 24) (t2 := 3) (t3 := 78) rfl (by rfl) (by rfl) (by rfl) x0 x1 x2 (fun W => by first | exact Tryz.isAgg24 W | rfl) (fun W => by first | exact Tryz.isAgg3 W | rfl) (fun W => by first | exact Tryz.isAgg78 W | rfl)
    · have hle : B ≤ w1.heap.size := by rw [HQ.out.2.1]; omega
      refine ⟨.slice va Z.length vc, Z, .nilIface, by rw [← HZZ.out.2.1, ← htl]; rfl, x4.mono (by rw [HBB.out]; exact hle), x5.mono (by rw [HBB.out]; exact hle), by rw [← HZZ.out.1, List.append_nil], .inl ⟨HZZ.out.2.2.symm, rfl⟩⟩
    · rw [HBB.out]
      exact HQ.out.1.trans (x6.toBelow (by rw [HQ.out.2.1]; omega) (fun k hk e => by omega))
  case stop =>
    rintro D c W' hD ⟨rfl, h1⟩ hK
    have HX := hide (XW.put h1 hD hK rfl (.deferred none))
    have HD := hide hK
    clear h1 hK
    gi_wp2
    obtain ⟨x1, x2, v, Z, p, y0, y1, y2, hp, y3, hwy, htz, hz⟩ := HX.out
    refine ⟨by simp, .inl ⟨_, _, rfl, run_takeDeferred HD.out, ?_⟩⟩
    refine ⟨.tuple #[v, .int .i64 ((wl l).2.1 : Int), ftV p], ?_, ?_, ?_⟩
    · exact results_three (p := 2) (q := 3) (u := 4) (t1 := 24) (t2 := 3) (t3 := 78) rfl (by rfl) (by rfl) (by rfl) (cellOf y0 0 _ rfl) (cellOf y1 0 _ rfl) (cellOf y2 0 _ rfl) (fun W => by first | exact Tryz.isAgg24 W | rfl) (fun W => by first | exact Tryz.isAgg3 W | rfl) (fun W => by first | exact Tryz.isAgg78 W | rfl)
    · have hs1 := HQ.out.2.1
      exact ⟨v, Z, ftV p, rfl, hwy.mono (by rw [HBB.out]; omega), htz.mono (by rw [HBB.out]; omega), hz, .inr ⟨x2, p, rfl, by rw [HBB.out]; exact hp, y3⟩⟩
    · rw [HBB.out]
      exact HQ.out.1.trans (x1.toBelow (by rw [HQ.out.2.1]; omega) (fun k hk e => by omega))
end Go.Proofs.YtdcoafpenkofoaaGreatDoor


/- Stage 20: Scan. -/
namespace Go.Proofs.YtdcoafpenkofoaaGreatDoor
open Go.RowKit
set_option linter.unusedVariables false
set_option linter.unusedSimpArgs false
/-- what Scan answers: its batches, the place, the number -/
def scn (l : List Nat) (s : Int) : List (List (List Nat)) × Nat × Nat :=
  if s < 0 ∨ (l.length : Int) < s then ([], 0, 1) else if ((wl l).2.1 : Int) < s ∧ 2 ≤ (wl l).2.2 then ([], (wl l).2.1, 201) else ((wl l).1, (wl l).2.1, 0)
def ScP (base : Nat) (l : List Nat) (s : Int) (e : Ending) (w' : World) : Prop := ∃ v Z, e = .returned (.tuple #[v, .int .i64 ((scn l s).2.1 : Int), .int .i64 ((scn l s).2.2 : Int)]) ∧ Wy AK w' base v Z ∧ ToldL base w' Z ∧ batches Z = (scn l s).1
theorem ScP.nil {base : Nat} {l : List Nat} {s : Int} {n c : Nat} (h : scn l s = ([], n, c)) (w' : World) : ScP base l s (.returned (.tuple #[.slice none 0 0, .int .i64 (n : Int), .int .i64 (c : Int)])) w' :=
  ⟨_, [], by rw [h], .inl ⟨rfl, rfl⟩, ToldL.nil _ _, by rw [h]; rfl⟩
set_option maxHeartbeats 2000000 in
theorem scan_any (g : Addr) (a : Option Addr) (cap : Nat) (l : List Nat) (s : Int) (w : World) (hE : Eb w g) (hT : Er w) (hrd : Rd w a l.length l) (hc : l.length ≤ cap) (hn : l.length ≤ 70368744177664) :
    Calls Tryz.prog 10 #[.slice a l.length cap, .int .i64 s] w fun e w' => ScP w.heap.size l s e w' ∧ Below w.heap.size w w' := by
  have HW := hide (whole_any g a cap l w hE hT hrd hc hn)
  clear hrd
  by_cases h0 : s < 0
  · have HQ := hide (fun w' => ScP.nil (base := w.heap.size) (l := l) (s := s) (n := 0) (c := 1) (by unfold scn; rw [if_pos (.inl h0)]) w')
    go_enter Tryz.func10, Tryz.ntmps10
    go_wp2
    refine bodyPost_ret (results_tmp3 rfl _ _ _) rfl ?_
    exact ⟨HQ.out _, Below.refl _ _⟩
  · by_cases h1 : (l.length : Int) < s
    · have HQ := hide (fun w' => ScP.nil (base := w.heap.size) (l := l) (s := s) (n := 0) (c := 1) (by unfold scn; rw [if_pos (.inr h1)]) w')
      go_enter Tryz.func10, Tryz.ntmps10
      go_wp2
      refine bodyPost_ret (results_tmp3 rfl _ _ _) rfl ?_
      exact ⟨HQ.out _, Below.refl _ _⟩
    · have HNB : Hid (¬ (s < 0 ∨ (l.length : Int) < s)) := fun h => h.elim h0 h1
      go_enter Tryz.func10, Tryz.ntmps10
      go_wp2_with fail
      refine HW.out.mono ?_
      rintro e w1 ⟨⟨v, Z, er, rfl, hwy, htz, hbz, her⟩, hb1⟩
      obtain ⟨va, vc, rfl⟩ := hwy.shape
      have HB1 := hide hb1
      have HZ := hide (And.intro hwy (And.intro htz hbz))
      obtain ⟨en, hen⟩ : ∃ en, (wl l).2.1 = en := ⟨_, rfl⟩
      have HEN := hide hen
      rw [hen] at her ⊢
      clear hen hwy htz hbz hb1 HW
      by_cases h2 : (en : Int) < s
      · rcases her with ⟨hc0, rfl⟩ | ⟨hc0, p, rfl, hp1, hp2⟩
        · have HQ : Hid (scn l s = ((wl l).1, en, 0)) := by
            show _ = _
            unfold scn
            rw [if_neg HNB.out, if_neg (by rw [hc0]; omega), HEN.out]
          clear hc0
          go_wp2_with (go_at_call 38; refine (is_nil 201 _).mono ?_; rintro e w2 ⟨rfl, rfl⟩)
          refine bodyPost_ret (results_tmp3 rfl _ _ _) rfl ?_
          exact ⟨⟨_, Z, by rw [HQ.out]; rfl, HZ.out.1, HZ.out.2.1, by rw [HQ.out]; exact HZ.out.2.2⟩, HB1.out⟩
        · have c1 : w1.cell? ⟨p, 1, none⟩ = some (errV g (wl l).2.2) := cellOf hp2 1 _ rfl
          obtain ⟨c, hcc⟩ : ∃ c, (wl l).2.2 = c := ⟨_, rfl⟩
          have HCC := hide hcc
          rw [hcc] at c1 hc0
          clear hp1 hp2 hcc
          unfold ftV
          match c, hc0 with
          | 0, h => exact absurd rfl h
          | 1, _ =>
            have HQ : Hid (scn l s = ((wl l).1, en, 0)) := by
              show _ = _
              unfold scn
              rw [if_neg HNB.out, if_neg (by rw [HCC.out]; omega), HEN.out]
            have HI := hide (is_fltE p g 201 w1 c1)
            clear c1
            go_wp2_with (go_at_call 38; refine HI.out.mono ?_; rintro e w2 ⟨rfl, rfl⟩)
            refine bodyPost_ret (results_tmp3 rfl _ _ _) rfl ?_
            exact ⟨⟨_, Z, by rw [HQ.out]; rfl, HZ.out.1, HZ.out.2.1, by rw [HQ.out]; exact HZ.out.2.2⟩, HB1.out⟩
          | c + 2, _ =>
            have HQ : Hid (scn l s = ([], en, 201)) := by
              show _ = _
              unfold scn
              rw [if_neg HNB.out, if_pos ⟨by rw [HEN.out]; exact h2, by rw [HCC.out]; omega⟩, HEN.out]
            have HI := hide (is_fltN p 201 201 w1 c1)
            clear c1
            go_wp2_with (go_at_call 38; refine HI.out.mono ?_; rintro e w2 ⟨rfl, rfl⟩)
            refine bodyPost_ret (results_tmp3 rfl _ _ _) rfl ?_
            exact ⟨ScP.nil HQ.out _, HB1.out⟩
      · have HQ : Hid (scn l s = ((wl l).1, en, 0)) := by
          show _ = _
          unfold scn
          rw [if_neg HNB.out, if_neg (by rw [HEN.out]; exact fun h => h2 h.1), HEN.out]
        clear her
        go_wp2
        refine bodyPost_ret (results_tmp3 rfl _ _ _) rfl ?_
        exact ⟨⟨_, Z, by rw [HQ.out]; rfl, HZ.out.1, HZ.out.2.1, by rw [HQ.out]; exact HZ.out.2.2⟩, HB1.out⟩
end Go.Proofs.YtdcoafpenkofoaaGreatDoor
