
/- Stages 19, 20: the document's disk: Append. -/
import Derived.Test.YtgkdecjlanbmhaaJXh
import Derived.Deep.RegionHeld3
namespace Go.Proofs.Ytgkdecjlanbmhaa
open Go.RowKit Go.Maps Go.MuLone
set_option linter.unusedVariables false
set_option linter.unusedSimpArgs false
theorem cell_far {w : World} {a : Addr} {v : Value} {b o : Nat} (h : b ≠ a.block) : (w.setCell a v).cell? ⟨b, o, none⟩ = w.cell? ⟨b, o, none⟩ := by
  have := blk_set_other w a v b h
  simp [World.cell?, this]
section
variable {w w' : World} {B r : Nat} {lv : Value} {x : Dx} {W : List Fo}
/-- the disk with a file of that name in it, its bytes as they were -/
def Rdy (w : World) (B r : Nat) (lv : Value) (x : Dx) (W : List Fo) (k : ByteArray) (wx : World) : Prop := ∃ lv1 W1, RD wx B r lv1 x W1 ∧ (∃ o ∈ W1, o.1.1 = k) ∧ dat k (W1.map (·.1)) = dat k (W.map (·.1)) ∧ (woF k (W1.map (·.1))).Perm (woF k (W.map (·.1))) ∧ W1.length ≤ W.length + 1 ∧ Kp (Wr r lv) w wx ∧ (∀ g, lv1.ownBlock = some g → lv.ownBlock = some g ∨ w.heap.size ≤ g) ∧ ∀ o ∈ W1, o.1.2.1.length ≤ 16777216
theorem dat_names {F : List Fi} {k : ByteArray} (h : ∀ f ∈ F, ¬ f.1 = k) : dat k F = ([], 0) := by
  unfold Go.Proofs.Ytgkdecjlanbmhaa.dat
  rw [List.find?_eq_none.2 (fun f hf => by simpa using h f hf)]
theorem rdy_put (h : XD w B r lv x W) {y : Dx} {wy wx : World} {lv1 : Value} {k : ByteArray} (hno : ∀ o ∈ W, o.1.1 ≠ k) (hk : Kp (Wr r lv) w wy) (h1 : RD wx B r lv1 y (insL ((k, [], 0), .slice none 0 0) W)) (h2 : Kp (fun q => q = r) wy wx) (h3 : ∀ g, lv1.ownBlock = some g → wy.heap.size ≤ g) : Rdy w B r lv y W k wx := by
  have hp := insL_perm ((k, [], 0), .slice none 0 0) W
  have hpm : ((insL ((k, [], 0), .slice none 0 0) W).map (·.1)).Perm ((k, [], 0) :: W.map (·.1)) := hp.map (·.1)
  have hnoF : ∀ f ∈ W.map (·.1), ¬ f.1 = k := fun f hf => by
    obtain ⟨o, ho, rfl⟩ := List.mem_map.1 hf
    exact hno o ho
  have hd0 : dat k (W.map (·.1)) = ([], 0) := dat_names hnoF
  have hmem : (k, [], 0) ∈ (insL ((k, [], 0), .slice none 0 0) W).map (·.1) := hpm.mem_iff.2 List.mem_cons_self
  refine ⟨lv1, _, h1, ⟨((k, [], 0), .slice none 0 0), hp.mem_iff.2 List.mem_cons_self, rfl⟩, ?_, ?_, by rw [insL_len]; exact Nat.le_refl _, (hk.trans (h2.mono (fun q hq => .inl hq))), fun g e => .inr (Nat.le_trans hk.size (h3 g e)), fun o ho => ?_⟩
  · rw [dat_mem h1.nodup hmem rfl, hd0]
  · have := hpm.filter (fun f => !decide (f.1 = k))
    refine this.trans ?_
    show (woF k ((k, [], 0) :: W.map (·.1))).Perm _
    have e : woF k ((k, [], 0) :: W.map (·.1)) = woF k (W.map (·.1)) := by unfold woF; rw [List.filter_cons, if_neg (by simp)]
    rw [e]
  · rcases List.mem_cons.1 (hp.mem_iff.1 ho) with rfl | ho
    · exact Nat.zero_le _
    · exact (h.size o ho).2
set_option maxHeartbeats 8000000 in
set_option maxRecDepth 100000 in
theorem append_r (h : XD w B r lv x W) (hB : B ≤ w.heap.size) (hfew : W.length + 1 ≤ 1000000000000) (k : ByteArray) (hk : k.size ≤ 4611686018427387904) (a : Option Addr) (c : Nat) (t : List Nat) (hr : ∀ W', Kp (Wr r lv) w W' → Rb W' (.slice a t.length c) t) (ht : t.length ≤ 70368744177664) :
    Calls Try.prog 31 #[.pointer (some ⟨r, 0, none⟩), .string k, .slice a t.length c] w fun e w' => e = .returned (.int .i64 (dApp x (W.map (·.1)) k t).1) ∧ XN w B r lv (dApp x (W.map (·.1)) k t).2.1 (dApp x (W.map (·.1)) k t).2.2 w' := by
  have HA := hide (asked_r h.rd k hk)
  have HX := hide h
  have HRR := hide hr
  obtain ⟨R, hR⟩ : ∃ R, findE x.down ((W.map (·.1)).map (·.1)) k [] = R := ⟨_, rfl⟩
  rw [hR] at HA
  have hcase : (x.down = true ∧ R = 3) ∨ (x.down = false ∧ nm k = false ∧ R = 1) ∨ (x.down = false ∧ nm k = true ∧ ((R = 0 ∧ ∃ o ∈ W, o.1.1 = k) ∨ (R = 191 ∧ ∀ o ∈ W, o.1.1 ≠ k))) := by
    rw [← hR]
    unfold findE
    cases hd : x.down
    · cases hn : nm k
      · exact .inr (.inl ⟨rfl, rfl, rfl⟩)
      · refine .inr (.inr ⟨rfl, rfl, ?_⟩)
        cases hh : hasN ((W.map (·.1)).map (·.1)) k
        · exact .inr ⟨rfl, fun o ho e => by have := hasN_names.2 ⟨o, ho, e⟩; rw [hh] at this; cases this⟩
        · exact .inl ⟨rfl, hasN_names.1 hh⟩
    · exact .inl ⟨rfl, rfl⟩
  clear hR hr
  rcases hcase with ⟨hd, rfl⟩ | ⟨hd, hn, rfl⟩ | ⟨hd, hn, hc⟩
  · have HD : Hid (dApp x (W.map (·.1)) k t = (3, x, W.map (·.1))) := by show _ = _; unfold dApp refE; rw [hd]; rfl
    clear h hk ht hd
    go_enter Try.func31, Try.ntmps31
    go_wp2_with (go_at_call 64; refine HA.out.mono ?_; rintro e w' ⟨rfl, rfl⟩)
    go_ret
    rw [HD.out]
    exact ⟨rfl, HX.out.same⟩
  · have HD : Hid (dApp x (W.map (·.1)) k t = (1, x, W.map (·.1))) := by show _ = _; unfold dApp refE; rw [hd]; simp [hn]
    clear h hk ht hd hn
    go_enter Try.func31, Try.ntmps31
    go_wp2_with (go_at_call 64; refine HA.out.mono ?_; rintro e w' ⟨rfl, rfl⟩)
    go_ret
    rw [HD.out]
    exact ⟨rfl, HX.out.same⟩
  · have hrf : refE x.down [k] = 0 := by unfold refE; rw [hd]; simp [hn]
    have hu := h.ok.used
    have hro := h.ok.room
    have hmo := h.ok.most
    have HUS := hide (fun V (hV : Below w.heap.size w V) => used_r (h.rd.below hV) (by omega))
    obtain ⟨_, _, _, c1, _, _, _, _, _⟩ := h.rd.cells
    have hR9 : R = 0 ∨ R = 191 := hc.imp (·.1) (·.1)
    have hR3 : (R == 3) = false := beq_eq_false_iff_ne.2 (by omega)
    have hR1 : (R == 1) = false := beq_eq_false_iff_ne.2 (by omega)
    obtain ⟨U, hU⟩ : ∃ U, usd (W.map (·.1)) = U := ⟨_, rfl⟩
    rw [hU] at HUS hu hro
    have hwu : IntKind.i64.wrap ((U : Int) + (t.length : Int)) = (U : Int) + (t.length : Int) := by rw [IntKind.wrap_i64]; omega
    have HC := hide hc
    by_cases hful : x.room - x.used < (t.length : Int)
    · have HD : Hid (dApp x (W.map (·.1)) k t = (190, x, W.map (·.1))) := by show _ = _; unfold dApp; rw [if_neg (by rw [hrf]; simp), if_pos hful]
      have hgt : (U : Int) + (t.length : Int) > x.room := by omega
      clear h hk hd hn hrf hu hro hmo hU hc hful
      go_enter Try.func31, Try.ntmps31
      go_wp2_with fail
      refine HA.out.mono ?_
      rintro e w' ⟨rfl, hw'⟩
      obtain rfl := hw'.symm
      go_wp2_with fail
      go_region_held (fun V => V.cell? ⟨r, 1, none⟩ = some (.int .i64 x.room)) (go_keep) ((go_at_call 49; refine Calls.mono (HUS.out _ (by first | exact Below.refl _ _ | exact (Below.refl _ _).drew | exact (Below.refl _ _).drew.drew)) ?_; rintro e2 w2 ⟨rfl, rfl⟩))
      all_goals go_wp2
      all_goals go_ret
      all_goals rw [HD.out]
      all_goals exact ⟨rfl, XN.via (lv1 := lv) (x1 := x) (W1 := W) (Kp.ofBelow (by first | exact (Below.refl _ _).drew | exact (Below.refl _ _).drew.drew | exact Below.refl _ _)) (fun g e => .inl e) (XD.same ⟨HX.out.rd.below (by first | exact (Below.refl _ _).drew | exact (Below.refl _ _).drew.drew | exact Below.refl _ _), HX.out.ok, HX.out.few⟩)⟩
    · have hgt : ¬ (U : Int) + (t.length : Int) > x.room := by omega
      have HFA := hide (fun V (hV : Below w.heap.size w V) => fails_r (h.rd.below hV) ⟨h.ok.left0, h.ok.left1⟩)
      have HD : Hid (dApp x (W.map (·.1)) k t = (actE x, actX { x with used := x.used + (t.length : Int) } (addF k t (W.map (·.1))), actF x (addF k t (W.map (·.1))))) := by show _ = _; unfold dApp; rw [if_neg (by rw [hrf]; simp), if_neg hful]
      have HFL := hide hful
      clear h hd hn hrf hu hro hmo hU hc hful
      go_enter Try.func31, Try.ntmps31
      go_wp2_with fail
      refine HA.out.mono ?_
      rintro e w' ⟨rfl, hw'⟩
      obtain rfl := hw'.symm
      go_wp2_with fail
      go_region_held (fun V => V.cell? ⟨r, 1, none⟩ = some (.int .i64 x.room)) (go_keep) ((go_at_call 49; refine Calls.mono (HUS.out _ (by first | exact Below.refl _ _ | exact (Below.refl _ _).drew | exact (Below.refl _ _).drew.drew)) ?_; rintro e2 w2 ⟨rfl, rfl⟩))
      all_goals go_wp2_with fail
      refine (HFA.out _ (by first | exact (Below.refl _ _).drew | exact (Below.refl _ _).drew.drew | exact Below.refl _ _)).mono ?_
      rintro e w3 ⟨rfl, h3, hk3⟩
      have HK3 : Hid (Kp (Wr r lv) w w3) := (Kp.ofBelow (by first | exact (Below.refl _ _).drew | exact (Below.refl _ _).drew.drew | exact Below.refl _ _)).trans (hk3.mono (fun q hq => .inl hq))
      have H3 := hide h3
      have HZ3 : Hid (B ≤ w3.heap.size) := Nat.le_trans hB HK3.out.size
      clear h3 hk3 HFA HUS HA
      go_upto_if 34 with fail
      go_cut [] (fun wx => Hid (Rdy w B r lv (fX x) W k wx))
      case first =>
        rcases HC.out with ⟨rfl, he⟩ | ⟨rfl, he⟩
        · have HRD : Hid (Rdy w B r lv (fX x) W k w3) := ⟨lv, W, H3.out, he, rfl, List.Perm.refl _, Nat.le_succ _, HK3.out, fun g e => .inl e, fun o ho => (HX.out.size o ho).2⟩
          clear he
          go_wp2
          go_meet
          exact HRD
        · have HPT := hide (put_r H3.out (by have := HX.out.few; omega) HZ3.out k none [] 0 0 (DB.nil _ _) (fun g e => by cases e) he)
          have HE := hide he
          clear he
          go_wp2_with fail
          refine HPT.out.mono ?_
          rintro e w4 ⟨rfl, lv1, h1, h2, h3⟩
          have HRD : Hid (Rdy w B r lv (fX x) W k w4) := rdy_put HX.out HE.out HK3.out h1 h2 h3
          clear h1 h2 h3 HPT
          go_wp2
          go_meet
          exact HRD
      case rest =>
        obtain ⟨lv1, W1, g1, g2, g3, g4, g5, g6, g7, g8⟩ := hcut.out
        have HFD := hide (find_r g1 k)
        have HG := hide (And.intro g1 (And.intro g2 (And.intro g3 (And.intro g4 (And.intro g5 (And.intro g6 (And.intro g7 g8)))))))
        clear g1 g2 g3 g4 g5 g6 g7 g8
        go_wp2_with fail
        refine HFD.out.mono ?_
        rintro e w4 ⟨hf, hw4⟩
        obtain rfl := hw4.symm
        rcases hf with ⟨i, hi, he, rfl⟩ | ⟨hf, _⟩
        case inr => obtain ⟨o, ho, e⟩ := HG.out.2.1; exact absurd e (hf o ho)
        obtain ⟨g, off, cap, a1, c1, elv, _, _, hg, hgr, r0, r1, r2, he2, hc1⟩ := HG.out.1.elem i hi
        subst elv
        obtain ⟨_, _, d0, _, _, _, _, _, _⟩ := HG.out.1.cells
        have hde := HG.out.1.dat W1[i] (List.getElem_mem hi)
        have hsz := HG.out.2.2.2.2.2.2.2 W1[i] (List.getElem_mem hi)
        obtain ⟨o, ho⟩ : ∃ o, W1[i] = o := ⟨_, rfl⟩
        have HOO := hide ho
        have HHI := hide hi
        rw [ho] at r0 r1 r2 he2 hc1 hde he hsz
        obtain ⟨⟨s, l, z⟩, ov⟩ := o
        dsimp only at r0 r1 r2 he2 hc1 hde he hsz
        subst he2
        subst he
        have HDE := hide hde
        have HCP := hide (copied_any (.slice a1 l.length c1) l wc hde.1.1 (by omega))
        have hil : (i : Int) < (W1.length : Int) := by omega
        have HSZ := hide hsz
        have HCL : Hid (∀ w6, Below wc.heap.size wc w6 → w6.cell? ⟨g, off + i * 3 + 1, none⟩ = some (.slice a1 l.length c1)) := fun w6 hb => (hb.cell (p := ⟨g, off + i * 3 + 1, none⟩) hg).trans r1
        clear r0 r2 ho hde hc1 hsz
        go_wp2_with fail
        refine HCP.out.mono ?_
        rintro e w5 ⟨v5, rfl, ho5, hb5⟩
        obtain ⟨a5, c5, rfl, hc5⟩ := ho5.slice
        have H5 := hide (HG.out.1.below hb5)
        obtain ⟨_, _, d5, _, _, _, _, _, _⟩ := H5.out.cells
        have HO5 := hide ho5
        have HB5 := hide hb5
        have HRB : Hid (Rb w5 (.slice a t.length c) t) := HRR.out w5 (HG.out.2.2.2.2.2.1.below hb5)
        have HWZ : Hid (wc.heap.size ≤ w5.heap.size) := hb5.size
        have HRG : Hid (r ≠ g) := fun e => hgr e.symm
        have hrg : ¬ r = g := HRG.out
        clear ho5 hb5 r1 d0 HCP HFD
        go_wp2_with fail
        go_region_held_law (fun V => V.cell? ⟨r, 0, none⟩ = some (.slice (some ⟨g, off, none⟩) W1.length cap)) (first | go_keep | exact HCK.out | exact (cell_far HRG.out).trans HCK.out) ((refine step_app rfl (.tmp 56) (.tmp 57) rfl wc.heap.size (.slice a5 l.length c5) l (by first | rfl | simp [Act.eval, Act.put]) (by first | exact HO5.out | exact HO5.out.below (Below.drew (Below.refl _ _))) (.slice a t.length c) t (by first | rfl | simp [Act.eval, Act.put]) (by first | exact HRB.out | exact HRB.out.same (Nat.le_refl _) (fun _ _ => rfl)) (by have := HSZ.out; omega) (by first | exact HWZ.out | simpa using HWZ.out) ?_; intro v6 w6 r1 r2; obtain ⟨a6, c6, rfl, hc6⟩ := r1.slice; have HO6 := hide r1; have HB6 : Hid (Below wc.heap.size wc w6) := (by first | exact (HB5.out.drew).grown r2 (by first | exact HWZ.out | simpa using HWZ.out) (fun q hq => (HO5.out.lt q hq).1) | exact HB5.out.grown r2 HWZ.out (fun q hq => (HO5.out.lt q hq).1)); have HCK : Hid (w6.cell? ⟨r, 0, none⟩ = some (.slice (some ⟨g, off, none⟩) W1.length cap)) := (HG.out.1.below HB6.out).cells.elim (fun _ h => h.2.1); have hq6 := HCL.out _ HB6.out; have hz6 := wy_froz (HG.out.1.below HB6.out).row (off + i * 3 + 1); clear r1 r2))
        have hB6 : B ≤ wc.heap.size := Nat.le_trans hB HG.out.2.2.2.2.2.1.size
        have hla : (l ++ t).length = l.length + t.length := List.length_append
        have hR7 := (HG.out.1.below HB6.out).setF i HHI.out ((s, l ++ t, z), .slice a6 (l ++ t).length c6) 1 (.slice a6 (l.length + t.length) c6) (by decide) (by rw [HOO.out]; show [Value.string s, Value.slice a6 (l ++ t).length c6, _] = [Value.string s, Value.slice a6 (l.length + t.length) c6, _]; rw [hla]) (by rw [HOO.out]) (DB.of (HO6.out.mono hB6)) (fun q e => by
          have h1 := (HO6.out.lt q e).1
          have h2 := HG.out.1.lt
          exact ⟨by omega, by omega⟩)
        have hK7 : Kp (Wr r lv) w (w6.setCell ⟨g, off + i * 3 + 1, none⟩ (.slice a6 (l.length + t.length) c6)) :=
          HG.out.2.2.2.2.2.1.transN (Kp.setCell (S := Wr r (.slice (some ⟨g, off, none⟩) W1.length cap)) (Kp.ofBelow HB6.out) (.inr rfl) _) (fun q hq => by
            rcases hq with rfl | hq
            · exact .inl (.inl rfl)
            · exact (HG.out.2.2.2.2.2.2.1 q hq).imp (fun h => .inr h) id)
        have hnd := HG.out.1.nodup
        have hiF : i < (W1.map (·.1)).length := by rw [List.length_map]; exact HHI.out
        have hFi : (W1.map (·.1))[i] = (s, l, z) := by rw [List.getElem_map, HOO.out]
        have hdat : dat s (W.map (·.1)) = (l, z) := by
          rw [← HG.out.2.2.1]
          have := dat_mem hnd (List.getElem_mem hiF) (by rw [hFi])
          rw [hFi] at this
          exact this
        have hpm := set_perm hnd hiF (s, l ++ t, z)
        rw [hFi] at hpm
        have hmap : (W1.set i ((s, l ++ t, z), .slice a6 (l ++ t).length c6)).map (·.1) = (W1.map (·.1)).set i (s, l ++ t, z) := by rw [List.map_set]
        have HP7 : Hid (((W1.set i ((s, l ++ t, z), .slice a6 (l ++ t).length c6)).map (·.1)).Perm (addF s t (W.map (·.1)))) := by
          show List.Perm _ _
          rw [hmap]
          unfold addF
          rw [hdat]
          exact hpm.trans (HG.out.2.2.2.1.cons _)
        have HLN : Hid ((W1.set i ((s, l ++ t, z), .slice a6 (l ++ t).length c6)).length ≤ 1000000000000) := by show _ ≤ _; rw [List.length_set]; have := HG.out.2.2.2.2.1; omega
        have hOK : DOk { x with used := x.used + (t.length : Int) } (addF s t (W.map (·.1))) := HX.out.ok.add HX.out.rd.nodup (by have h1 := HX.out.ok.used; have h2 := HFL.out; omega)
        have HOK := hide hOK
        obtain ⟨W2, hW2⟩ : ∃ W2, W1.set i ((s, l ++ t, z), .slice a6 (l ++ t).length c6) = W2 := ⟨_, rfl⟩
        obtain ⟨w7, hw7⟩ : ∃ w7, w6.setCell ⟨g, off + i * 3 + 1, none⟩ (.slice a6 (l.length + t.length) c6) = w7 := ⟨_, rfl⟩
        rw [hW2] at hR7 HP7 HLN
        rw [hw7] at hR7 hK7 ⊢
        have HR7 := hide hR7
        have HK7 := hide hK7
        have HLV : Hid (∀ q, (Value.slice (some ⟨g, off, none⟩) W1.length cap).ownBlock = some q → lv.ownBlock = some q ∨ w.heap.size ≤ q) := HG.out.2.2.2.2.2.2.1
        obtain ⟨lv7, hlv7⟩ : ∃ lv7, (Value.slice (some ⟨g, off, none⟩) W1.length cap) = lv7 := ⟨_, rfl⟩
        rw [hlv7] at HR7 HLV
        clear hB6 hla hR7 hK7 hnd hiF hFi hdat hpm hmap hOK hW2 hw7 hlv7 hq6 hz6
        by_cases hl : x.left = 0
        · have hfx : fX x = x := if_pos (.inr hl)
          have hX7 : XD w7 B r lv7 { x with used := x.used + (t.length : Int) } W2 := by
            have h1 := HR7.out
            rw [hfx] at h1
            exact ⟨h1.cong rfl rfl rfl rfl, HOK.out.perm HP7.out.symm, HLN.out⟩
          have HFE := hide (hX7.fell hl)
          obtain ⟨_, _, _, _, _, _, _, k5, _⟩ := hX7.rd.cells
          have hdl : decide (x.left = 0) = true := decide_eq_true hl
          have HL := hide hl
          clear hX7 hfx hl
          go_wp2_with fail
          refine HFE.out.mono ?_
          rintro e w8 ⟨rfl, hn8⟩
          have HN8 := hide hn8
          clear hn8
          go_wp2
          go_ret
          rw [HD.out]
          have hE : actE x = 3 := if_pos HL.out
          obtain ⟨lv8, W8, b1, b2, b3, b4⟩ := XN.via (lv := lv) (lv1 := lv7) (x1 := x) (W1 := W2) HK7.out HLV.out HN8.out
          have hus : usd ((W2.map (·.1)).map (fl x.keep)) = usd ((addF s t (W.map (·.1))).map (fl x.keep)) := usd_perm (HP7.out.map _)
          have eX : actX { x with used := x.used + (t.length : Int) } (W2.map (·.1)) = actX { x with used := x.used + (t.length : Int) } (addF s t (W.map (·.1))) := by
            have hm : ¬ x.left = -1 := by have := HL.out; omega
            have key : ∀ G, actX { x with used := x.used + (t.length : Int) } G = { x with down := true, left := -1, used := (usd (G.map (fl x.keep)) : Int) } := fun G => (if_neg hm).trans (if_pos HL.out)
            rw [key, key, hus]
          have eF : actF { x with used := x.used + (t.length : Int) } (W2.map (·.1)) = (W2.map (·.1)).map (fl x.keep) := if_pos HL.out
          have eG : actF x (addF s t (W.map (·.1))) = (addF s t (W.map (·.1))).map (fl x.keep) := if_pos HL.out
          rw [eX] at b1
          rw [eF] at b2
          rw [hE, eG]
          exact ⟨rfl, lv8, W8, b1, b2.trans (HP7.out.map _), b3, b4⟩
        · have hdl : decide (x.left = 0) = false := decide_eq_false hl
          have HL := hide hl
          clear hl
          go_wp2
          go_ret
          rw [HD.out]
          have hE : actE x = 0 := if_neg HL.out
          have eG : actF x (addF s t (W.map (·.1))) = addF s t (W.map (·.1)) := if_neg HL.out
          have hac := HOK.out.act
          have eG2 : actF { x with used := x.used + (t.length : Int) } (addF s t (W.map (·.1))) = addF s t (W.map (·.1)) := if_neg HL.out
          rw [eG2] at hac
          obtain ⟨e1, e2, e3, e4⟩ := fX_act (x := { x with used := x.used + (t.length : Int) }) (F := addF s t (W.map (·.1))) HL.out
          have q1 : (fX { x with used := x.used + (t.length : Int) }).room = (fX x).room ∧ (fX { x with used := x.used + (t.length : Int) }).down = (fX x).down ∧ (fX { x with used := x.used + (t.length : Int) }).left = (fX x).left ∧ (fX { x with used := x.used + (t.length : Int) }).keep = (fX x).keep := by
            unfold fX
            by_cases h1 : x.left = -1 ∨ x.left = 0
            · rw [if_pos h1, if_pos h1]; exact ⟨rfl, rfl, rfl, rfl⟩
            · rw [if_neg h1, if_neg h1]; exact ⟨rfl, rfl, rfl, rfl⟩
          rw [hE, eG]
          exact ⟨rfl, lv7, W2, ⟨HR7.out.cong (e1.symm.trans q1.1) (e2.symm.trans q1.2.1) (e3.symm.trans q1.2.2.1) (e4.symm.trans q1.2.2.2), hac.perm HP7.out.symm, HLN.out⟩, HP7.out, HK7.out, HLV.out⟩
end
end Go.Proofs.Ytgkdecjlanbmhaa
