
/- Stages 19, 20: the document's disk: put. -/
import Derived.Test.YtgkdecjlanbmhaaJXb
import Derived.BigQuiet
namespace Go.Proofs.Ytgkdecjlanbmhaa
open Go.RowKit Go.Maps Go.MuLone
set_option linter.unusedVariables false
set_option linter.unusedSimpArgs false
theorem bl_eq : ∀ (x y : List UInt8), Op.bytesLess x y = decide (x < y)
  | [], [] => by simp [Op.bytesLess]
  | _ :: _, [] => by simp [Op.bytesLess]
  | [], _ :: _ => by simp [Op.bytesLess]
  | a :: x, b :: y => by
    rw [Op.bytesLess, bl_eq x y]
    simp only [List.cons_lt_cons_iff]
    by_cases h1 : a < b <;> by_cases h2 : a = b <;> by_cases h3 : x < y <;> simp [h1, h2, h3]
/-- is a file's name above another's? -/
def abv (o f : Fo) : Bool := !(Op.bytesLess o.1.1.toList f.1.1.toList || o.1.1.toList == f.1.1.toList)
theorem abv_yes {o f : Fo} (h : abv o f = true) : f.1.1.toList < o.1.1.toList := by
  unfold abv at h
  rw [bl_eq] at h
  simp only [Bool.not_eq_true', Bool.or_eq_false_iff, decide_eq_false_iff_not, beq_eq_false_iff_ne, ne_eq] at h
  exact Std.lt_of_le_of_ne h.1 (fun e => h.2 e.symm)
theorem abv_no {o f : Fo} (h : abv o f = false) (hn : o.1.1 ≠ f.1.1) : o.1.1.toList < f.1.1.toList := by
  unfold abv at h
  rw [bl_eq] at h
  simp only [Bool.not_eq_false', Bool.or_eq_true, decide_eq_true_eq, beq_iff_eq] at h
  refine h.resolve_right (fun e => hn ?_)
  have := str_eq o.1.1 f.1.1
  rw [e] at this
  simpa using this
def insL (f : Fo) : List Fo → List Fo
  | [] => [f]
  | o :: W => if abv o f then f :: o :: W else o :: insL f W
theorem insL_le {f : Fo} : ∀ (A B : List Fo), (∀ o ∈ A, abv o f = false) → insL f (A ++ B) = A ++ insL f B
  | [], B, _ => rfl
  | o :: A, B, h => by
    have h1 := h o (by simp)
    show (if abv o f then f :: o :: (A ++ B) else o :: insL f (A ++ B)) = _
    rw [h1, if_neg (by simp), insL_le A B (fun q hq => h q (by simp [hq]))]
    rfl
theorem insL_some {f : Fo} : ∀ (A B : List Fo), (∃ o ∈ A, abv o f = true) → insL f (A ++ B) = insL f A ++ B
  | [], B, h => by obtain ⟨o, ho, _⟩ := h; cases ho
  | o :: A, B, h => by
    show (if abv o f then f :: o :: (A ++ B) else o :: insL f (A ++ B)) = (if abv o f then f :: o :: A else o :: insL f A) ++ B
    cases h1 : abv o f
    · rw [if_neg (by simp), if_neg (by simp), insL_some A B (by
        obtain ⟨q, hq, h2⟩ := h
        rcases List.mem_cons.1 hq with rfl | hq
        · rw [h1] at h2; cases h2
        · exact ⟨q, hq, h2⟩)]
      rfl
    · rw [if_pos rfl, if_pos rfl]
      rfl
theorem insL_perm (f : Fo) : ∀ (W : List Fo), (insL f W).Perm (f :: W)
  | [] => List.Perm.refl _
  | o :: W => by
    unfold insL
    split
    · exact List.Perm.refl _
    · exact ((insL_perm f W).cons o).trans (List.Perm.swap f o W)
theorem insL_len (f : Fo) (W : List Fo) : (insL f W).length = W.length + 1 := (insL_perm f W).length_eq
theorem insL_srt (f : Fo) : ∀ (W : List Fo), (W.map (·.1.1.toList)).Pairwise (· < ·) → (∀ o ∈ W, o.1.1 ≠ f.1.1) → ((insL f W).map (·.1.1.toList)).Pairwise (· < ·)
  | [], _, _ => by simp [insL]
  | o :: W, h, hn => by
    have hp := List.pairwise_cons.1 (by simpa using h : ((o.1.1.toList) :: W.map (·.1.1.toList)).Pairwise (· < ·))
    unfold insL
    cases h1 : abv o f
    · rw [if_neg (by simp)]
      have ih := insL_srt f W hp.2 (fun q hq => hn q (by simp [hq]))
      rw [List.map_cons, List.pairwise_cons]
      refine ⟨fun b hb => ?_, ih⟩
      obtain ⟨q, hq, rfl⟩ := List.mem_map.1 hb
      rcases List.mem_cons.1 ((insL_perm f W).mem_iff.1 hq) with rfl | hq
      · exact abv_no h1 (hn o (by simp))
      · exact hp.1 _ (List.mem_map_of_mem hq)
    · rw [if_pos rfl]
      rw [List.map_cons, List.pairwise_cons]
      refine ⟨fun b hb => ?_, h⟩
      obtain ⟨q, hq, rfl⟩ := List.mem_map.1 hb
      rcases List.mem_cons.1 hq with rfl | hq
      · exact abv_yes h1
      · exact List.lt_trans (abv_yes h1) (hp.1 _ (List.mem_map_of_mem hq))
set_option maxHeartbeats 4000000 in
set_option maxRecDepth 100000 in
/-- put: a file more, at its place -/
theorem put_r {w : World} {B r : Nat} {lv : Value} {x : Dx} {W : List Fo} (h : RD w B r lv x W) (hn : W.length ≤ 2000000000000) (hB : B ≤ w.heap.size) (s : ByteArray) (a : Option Addr) (l : List Nat) (c z : Nat) (hd : DB B w (.slice a l.length c) l) (hdr : ∀ g, (Value.slice a l.length c).ownBlock = some g → g ≠ r) (hnk : ∀ o ∈ W, o.1.1 ≠ s) :
    Calls Try.prog 48 #[.pointer (some ⟨r, 0, none⟩), .agg #[.string s, .slice a l.length c, .int .i64 (z : Int)]] w fun e w' => e = .returned (.tuple #[]) ∧ ∃ lv', RD w' B r lv' x (insL ((s, l, z), .slice a l.length c) W) ∧ Kp (fun k => k = r) w w' ∧ ∀ g, lv'.ownBlock = some g → w.heap.size ≤ g := by
  obtain ⟨f, hf⟩ : ∃ f : Fo, f = ((s, l, z), .slice a l.length c) := ⟨_, rfl⟩
  obtain ⟨W0, hW0⟩ : ∃ W0, w.alloc (.cells #[.string s, .slice a l.length c, .int .i64 (z : Int)] 44) = W0 := ⟨_, rfl⟩
  have hb0 : Below w.heap.size w W0 := by rw [← hW0]; exact bel1 (Below.refl _ _) (Nat.le_refl _) _
  have hO : W0.heap[w.heap.size]? = some (.cells #[.string s, .slice a l.length c, .int .i64 (z : Int)] 44 (0, 0)) := by rw [← hW0]; exact heap_new _ _
  have HLT : Hid (w.heap.size < W0.heap.size) := (Array.getElem?_eq_some_iff.1 hO).1
  have HH := hide (h.below hb0)
  have HH0 := hide h
  have HOB := hide hO
  have HB0 := hide hb0
  have HW0 := hide hW0
  have HDD := hide (And.intro hd hdr)
  have HNK := hide hnk
  obtain ⟨ac, _, c0, _⟩ := h.cells
  obtain ⟨la, lc, rfl⟩ := h.row.shape
  have HF := hide hf
  clear h hb0 hO hW0 hd hdr hnk c0 hf
  go_enter Try.func48, Try.ntmps48
  go_wp2
  rw [HW0.out]
  go_loopw [4, 5, 6] (fun ov bv iv wr => ∃ (j : Nat) (b : Bool) (Z : List Fo), j ≤ W.length ∧ iv = .int .i64 (j : Int) ∧ bv = .bool b ∧ Hid (Wy FK wr W0.heap.size ov Z ∧ Z.length ≤ j + 1) ∧ Hid ((b = false ∧ Z = W.take j ∧ ∀ o ∈ W.take j, abv o f = false) ∨ (b = true ∧ Z = insL f (W.take j) ∧ ∃ o ∈ W.take j, abv o f = true)) ∧ Hid (Below W0.heap.size W0 wr)) (fun _ _ iv _ => W.length - (intOf iv).toNat)
  case atStart => exact ⟨0, false, [], Nat.zero_le _, rfl, rfl, ⟨.inl ⟨rfl, rfl⟩, by simp⟩, .inl ⟨rfl, rfl, by simp⟩, Below.refl _ _⟩
  case round =>
    obtain ⟨j, b, Z, hj, rfl, rfl, HW, HC, HB⟩ := hrel
    obtain ⟨oa, oc, rfl⟩ := HW.out.1.shape
    have HR := hide (HH.out.below HB.out)
    obtain ⟨ac2, _, d0, _, _, _, _, _, df⟩ := HR.out.cells
    have df0 := df 0
    have hO := (HB.out.block _ HLT.out).trans HOB.out
    have f0 : wr.cell? ⟨w.heap.size, 0, none⟩ = some (.string s) := cellOf hO 0 _ rfl
    have f1 : wr.cell? ⟨w.heap.size, 1, none⟩ = some (.slice a l.length c) := cellOf hO 1 _ rfl
    have f2 : wr.cell? ⟨w.heap.size, 2, none⟩ = some (.int .i64 (z : Int)) := cellOf hO 2 _ rfl
    have HBA : Hid (W0.heap.size ≤ wr.heap.size) := HB.out.size
    clear df hO
    by_cases hjl : j < W.length
    · obtain ⟨g, off, cap, a1, c1, e, h1, h2, hg, hgr, r0, r1, r2, he2, _⟩ := HR.out.elem j hjl
      simp only [Value.slice.injEq] at e
      obtain ⟨rfl, _, rfl⟩ := e
      have HTJ : Hid (W.take (j + 1) = W.take j ++ [W[j]]) := List.take_succ_eq_append_getElem hjl
      have hji : (j : Int) < (W.length : Int) := by omega
      obtain ⟨o, ho⟩ : ∃ o, W[j] = o := ⟨_, rfl⟩
      rw [ho] at r0 r1 r2 he2 HTJ
      obtain ⟨⟨s1, l1, z1⟩, ov2⟩ := o
      dsimp only at r0 r1 r2 he2 HTJ
      subst he2
      have HOJ := hide ho
      clear ho
      have HAB : Hid (abv ((s1, l1, z1), .slice a1 l1.length c1) f = !(Op.bytesLess s1.toList s.toList || s1.toList == s.toList)) := by rw [HF.out]; rfl
      cases b
      · obtain ⟨hz, hle⟩ : Z = W.take j ∧ ∀ o ∈ W.take j, abv o f = false := by
          rcases HC.out with ⟨_, h⟩ | ⟨h, _⟩
          · exact h
          · cases h
        have HZ := hide (And.intro hz hle)
        clear hz hle HC
        cases hab : abv ((s1, l1, z1), .slice a1 l1.length c1) f
        · have HAV := hide hab
          have hcm := HAB.out.symm.trans hab
          clear hab HAB
          have HWW := hide HW.out.1
          have HLE := hide HW.out.2
          have hln : Z.length ≤ 2000000000001 := by have := HLE.out; omega
          go_wp2_with fail
          go_region_held (fun V => V.cell? ⟨r, 0, none⟩ = some (.slice (some ⟨g, off, none⟩) W.length lc) ∧ V.cell? ⟨g, off + j * 3, none⟩ = some (.string s1) ∧ V.cell? ⟨w.heap.size, 0, none⟩ = some (.string s)) (go_keep) (fail)
          go_wp2_with (at_builtin; go_loud (refine wpList_append_way fkOk _ rfl (.tmp 35) (.tmp 43) rfl W0.heap.size (.slice oa Z.length oc) Z ((s1, l1, z1), .slice a1 l1.length c1) rfl (HWW.out.at fun q e => by first | exact Below.heap_alloc _ _ _ (HWW.out.lt e).2 | rfl) _ 1 rfl (heap_new _ _) (by simp; exact Nat.le_trans HBA.out (Nat.le_succ _)) (by show (List.length _ + 1) * 48 ≤ _; first | omega | (simp; omega)) ?_); intro v7 w7 hw7 hg7 hs7; have HW7 := hide hw7; have HG7 := hide hg7; clear hw7 hg7 hs7)
          have HB7 : Hid (Below W0.heap.size W0 w7) := by
            first
            | exact (bel1 HB.out HBA.out _).grown HG7.out (Nat.le_trans HBA.out (by simp)) (fun q hq => (HWW.out.lt hq).1)
            | exact (bel1 (below_drewN HB.out _) HBA.out _).grown HG7.out (Nat.le_trans HBA.out (by simp)) (fun q hq => (HWW.out.lt hq).1)
            | exact (bel1 HB.out.drew HBA.out _).grown HG7.out (Nat.le_trans HBA.out (by simp)) (fun q hq => (HWW.out.lt hq).1)

          refine ⟨⟨j + 1, false, _, by omega, by go_num, rfl, ⟨HW7.out, by rw [List.length_append, List.length_singleton]; have := HLE.out; omega⟩, .inl ⟨rfl, by rw [HTJ.out, HZ.out.1], ?_⟩, HB7.out⟩, by simp [intOf]; omega⟩
          rw [HTJ.out]
          intro q hq
          rcases List.mem_append.1 hq with hq | hq
          · exact HZ.out.2 q hq
          · rw [List.mem_singleton.1 hq]; exact HAV.out
        · have HAV := hide hab
          have hcm := HAB.out.symm.trans hab
          clear hab HAB
          have HWW := hide HW.out.1
          have HLE := hide HW.out.2
          have hln : Z.length ≤ 2000000000001 := by have := HLE.out; omega
          go_wp2_with fail
          go_region_held (fun V => V.cell? ⟨r, 0, none⟩ = some (.slice (some ⟨g, off, none⟩) W.length lc) ∧ V.cell? ⟨g, off + j * 3, none⟩ = some (.string s1) ∧ V.cell? ⟨w.heap.size, 0, none⟩ = some (.string s)) (go_keep) (fail)
          go_wp2_with (at_builtin; go_loud (refine wpList_append_way fkOk _ rfl (.tmp 31) (.tmp 33) rfl W0.heap.size (.slice oa Z.length oc) Z ((s, l, z), .slice a l.length c) rfl (HWW.out.at fun q e => by first | exact Below.heap_alloc _ _ _ (HWW.out.lt e).2 | rfl) _ 1 rfl (heap_new _ _) (by simp; exact Nat.le_trans HBA.out (Nat.le_succ _)) (by show (List.length _ + 1) * 48 ≤ _; first | omega | (simp; omega)) ?_); intro v7 w7 hw7 hg7 hs7; have HW7 := hide hw7; have HG7 := hide hg7; clear hw7 hg7 hs7; refine Shut.out ?_)
          have HB7 : Hid (Below W0.heap.size W0 w7) := by
            first
            | exact (bel1 HB.out HBA.out _).grown HG7.out (Nat.le_trans HBA.out (by simp)) (fun q hq => (HWW.out.lt hq).1)
            | exact (bel1 (below_drewN HB.out _) HBA.out _).grown HG7.out (Nat.le_trans HBA.out (by simp)) (fun q hq => (HWW.out.lt hq).1)
            | exact (bel1 HB.out.drew HBA.out _).grown HG7.out (Nat.le_trans HBA.out (by simp)) (fun q hq => (HWW.out.lt hq).1)

          have HR7 := hide (HH.out.below HB7.out)
          obtain ⟨g9, off9, cap9, a9, c9, e9, _, _, _, _, k0, k1, k2, k3, _⟩ := HR7.out.elem j hjl
          simp only [Value.slice.injEq, Option.some.injEq, Addr.mk.injEq, and_true, true_and] at e9
          obtain ⟨⟨rfl, rfl⟩, rfl⟩ := e9
          rw [HOJ.out] at k0 k1 k2 k3
          dsimp only at k0 k1 k2 k3
          simp only [Value.slice.injEq, true_and] at k3
          obtain ⟨rfl, rfl⟩ := k3
          obtain ⟨_, _, d7, _⟩ := HR7.out.cells
          obtain ⟨va, vc, rfl⟩ := HW7.out.shape
          have HL7 : Hid ((Z ++ [(((s, l, z), .slice a l.length c) : Fo)]).length = Z.length + 1) := by show _ = _; rw [List.length_append, List.length_singleton]
          have HBA7 : Hid (W0.heap.size ≤ w7.heap.size) := HB7.out.size
          unfold Shut
          clear r0 r1 r2 HBA
          have HBA := HBA7
          clear HBA7
          go_wp2_with (at_builtin; go_loud (refine wpList_append_way fkOk _ rfl (.tmp 35) (.tmp 43) rfl W0.heap.size _ (Z ++ [(((s, l, z), .slice a l.length c) : Fo)]) ((s1, l1, z1), .slice a1 l1.length c1) rfl (HW7.out.at fun q e => by first | exact Below.heap_alloc _ _ _ (HW7.out.lt e).2 | rfl) _ 1 rfl (heap_new _ _) (by simp; exact Nat.le_trans HBA.out (Nat.le_succ _)) (by show (List.length _ + 1) * 48 ≤ _; first | omega | (simp; omega)) ?_); intro v8 w8 hw8 hg8 hs8; have HW8 := hide hw8; have HG8 := hide hg8; clear hw8 hg8 hs8)

          have HB8 : Hid (Below W0.heap.size W0 w8) := (bel1 HB7.out HBA.out _).grown HG8.out (Nat.le_trans HBA.out (by simp)) (fun q hq => (HW7.out.lt hq).1)
          refine ⟨⟨j + 1, true, _, by omega, by go_num, rfl, ⟨HW8.out, by rw [List.length_append, HL7.out, List.length_singleton, HZ.out.1, List.length_take]; omega⟩, .inr ⟨rfl, ?_, ?_⟩, HB8.out⟩, by simp [intOf]; omega⟩
          · rw [HTJ.out, insL_le _ _ HZ.out.2, HZ.out.1]
            unfold insL
            rw [HAV.out, if_pos rfl, ← HF.out]
            simp
          · exact ⟨_, by rw [HTJ.out]; exact List.mem_append.2 (.inr (List.mem_singleton.2 rfl)), HAV.out⟩
      · obtain ⟨hz, hle⟩ : Z = insL f (W.take j) ∧ ∃ o ∈ W.take j, abv o f = true := by
          rcases HC.out with ⟨h, _⟩ | ⟨_, h⟩
          · cases h
          · exact h
        have HZ := hide (And.intro hz hle)
        clear hz hle HC HAB
        have HWW := hide HW.out.1
        have HLE := hide HW.out.2
        have hln : Z.length ≤ 2000000000001 := by have := HLE.out; omega
        go_wp2_with fail
        go_quiet (fail)
        go_wp2_with (at_builtin; go_loud (refine wpList_append_way fkOk _ rfl (.tmp 35) (.tmp 43) rfl W0.heap.size (.slice oa Z.length oc) Z ((s1, l1, z1), .slice a1 l1.length c1) rfl (HWW.out.at fun q e => by first | exact Below.heap_alloc _ _ _ (HWW.out.lt e).2 | rfl) _ 1 rfl (heap_new _ _) (by simp; exact Nat.le_trans HBA.out (Nat.le_succ _)) (by show (List.length _ + 1) * 48 ≤ _; first | omega | (simp; omega)) ?_); intro v7 w7 hw7 hg7 hs7; have HW7 := hide hw7; have HG7 := hide hg7; clear hw7 hg7 hs7)
        have HB7 : Hid (Below W0.heap.size W0 w7) := by
          first
          | exact (bel1 HB.out HBA.out _).grown HG7.out (Nat.le_trans HBA.out (by simp)) (fun q hq => (HWW.out.lt hq).1)
          | exact (bel1 (below_drewN HB.out _) HBA.out _).grown HG7.out (Nat.le_trans HBA.out (by simp)) (fun q hq => (HWW.out.lt hq).1)
          | exact (bel1 HB.out.drew HBA.out _).grown HG7.out (Nat.le_trans HBA.out (by simp)) (fun q hq => (HWW.out.lt hq).1)

        refine ⟨⟨j + 1, true, _, by omega, by go_num, rfl, ⟨HW7.out, by rw [List.length_append, List.length_singleton]; have := HLE.out; omega⟩, .inr ⟨rfl, by rw [HTJ.out, HZ.out.1, insL_some _ _ HZ.out.2], ?_⟩, HB7.out⟩, by simp [intOf]; omega⟩
        obtain ⟨q, hq, h9⟩ := HZ.out.2
        exact ⟨q, by rw [HTJ.out]; exact List.mem_append.2 (.inl hq), h9⟩
    · have hjl' : j = W.length := by omega
      subst hjl'
      have HWW := hide HW.out.1
      have HLE := hide HW.out.2
      have hln : Z.length ≤ 2000000000001 := by have := HLE.out; omega
      have HEND : Hid (∀ (wl : World) (lv2 : Value), Below W0.heap.size W0 wl → Wy FK wl W0.heap.size lv2 (insL f W) → RD (wl.setCell ⟨r, 0, none⟩ lv2) B r lv2 x (insL f W)) := fun wl lv2 hb hw => by
        have hR := HH.out.below hb
        have hz0 := HB0.out.size
        refine hR.row_put (wy_mono hw (by omega)) (fun g hg q hq e => ?_) (fun q hq => ?_) (insL_srt f W hR.srt (fun q hq => by rw [HF.out]; exact HNK.out q hq))
        · have h1 := (hw.lt hg).1
          rcases List.mem_cons.1 ((insL_perm f W).mem_iff.1 hq) with rfl | hq
          · rw [HF.out] at e
            have := (HDD.out.1.2 g e).2
            omega
          · have := ((HH0.out.dat q hq).1.2 g e).2
            omega
        · rcases List.mem_cons.1 ((insL_perm f W).mem_iff.1 hq) with rfl | hq
          · rw [HF.out]
            exact ⟨(HDD.out.1.below HB0.out).below (belOn (Below.refl _ _) (Nat.le_refl _) hb), HDD.out.2⟩
          · exact ⟨(hR.dat q hq).1, fun g e => ((hR.dat q hq).2 g e).1⟩
      cases b
      · obtain ⟨hz, hle⟩ : Z = W.take W.length ∧ ∀ o ∈ W.take W.length, abv o f = false := by
          rcases HC.out with ⟨_, h⟩ | ⟨h, _⟩
          · exact h
          · cases h
        rw [List.take_length] at hz hle
        have HZ : Hid (insL f W = Z ++ [f]) := by
          show _ = _
          have := insL_le W [] hle
          rw [List.append_nil] at this
          rw [this, hz]
          rfl
        clear hz hle HC
        go_wp2_with (at_builtin; go_loud (refine wpList_append_way fkOk _ rfl (.tmp 47) (.tmp 49) rfl W0.heap.size (.slice oa Z.length oc) Z ((s, l, z), .slice a l.length c) rfl (HWW.out.at fun q e => by first | exact Below.heap_alloc _ _ _ (HWW.out.lt e).2 | rfl) _ 1 rfl (heap_new _ _) (by simp; exact Nat.le_trans HBA.out (Nat.le_succ _)) (by show (List.length _ + 1) * 48 ≤ _; first | omega | (simp; omega)) ?_); intro v7 w7 hw7 hg7 hs7; have HW7 := hide hw7; have HG7 := hide hg7; clear hw7 hg7 hs7; refine Shut.out ?_)
        have HB7 : Hid (Below W0.heap.size W0 w7) := by
          first
          | exact (bel1 HB.out HBA.out _).grown HG7.out (Nat.le_trans HBA.out (by simp)) (fun q hq => (HWW.out.lt hq).1)
          | exact (bel1 (below_drewN HB.out _) HBA.out _).grown HG7.out (Nat.le_trans HBA.out (by simp)) (fun q hq => (HWW.out.lt hq).1)
          | exact (bel1 HB.out.drew HBA.out _).grown HG7.out (Nat.le_trans HBA.out (by simp)) (fun q hq => (HWW.out.lt hq).1)

        have HR7 := hide (HH.out.below HB7.out)
        obtain ⟨_, _, d7, _, _, _, _, _, df7⟩ := HR7.out.cells
        have df70 := df7 0
        obtain ⟨va, vc, rfl⟩ := HW7.out.shape
        have HE7 := hide (HEND.out w7 _ HB7.out (by rw [HZ.out, HF.out]; exact HW7.out))
        have HLO : Hid (∀ g, (Value.slice va (Z ++ [(((s, l, z), .slice a l.length c) : Fo)]).length vc).ownBlock = some g → w.heap.size ≤ g) := fun g e => by have := (HW7.out.lt e).1; have := HB0.out.size; omega
        obtain ⟨n7, hn7⟩ : ∃ n7, (Z ++ [(((s, l, z), .slice a l.length c) : Fo)]).length = n7 := ⟨_, rfl⟩
        rw [hn7] at HE7 HLO ⊢
        unfold Shut
        clear df7 hn7
        go_wp2
        first | go_end0 | refine bodyPost_ret (results_none rfl _ _ _) rfl ?_
        refine ⟨rfl, _, ?_, Kp.setCell (S := fun k => k = r) (Kp.ofBelow (belOn HB0.out HB0.out.size HB7.out)) rfl _, HLO.out⟩
        rw [← HF.out]
        exact HE7.out
      · obtain ⟨hz, hle⟩ : Z = insL f (W.take W.length) ∧ ∃ o ∈ W.take W.length, abv o f = true := by
          rcases HC.out with ⟨h, _⟩ | ⟨_, h⟩
          · cases h
          · exact h
        rw [List.take_length] at hz
        have HE7 := hide (HEND.out wr _ HB.out (by rw [← hz]; exact HWW.out))
        have HLO : Hid (∀ g, (Value.slice oa Z.length oc).ownBlock = some g → w.heap.size ≤ g) := fun g e => by have := (HWW.out.lt e).1; have := HB0.out.size; omega
        clear hz hle HC
        go_wp2
        first | go_end0 | refine bodyPost_ret (results_none rfl _ _ _) rfl ?_
        refine ⟨rfl, _, ?_, Kp.setCell (S := fun k => k = r) (Kp.ofBelow (belOn HB0.out HB0.out.size HB.out)) rfl _, HLO.out⟩
        rw [← HF.out]
        exact HE7.out
end Go.Proofs.Ytgkdecjlanbmhaa
