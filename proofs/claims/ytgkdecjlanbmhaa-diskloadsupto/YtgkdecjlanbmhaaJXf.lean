
/- Stages 19, 20: the document's disk: asked, Delete, Sync, Arm, Crash, Start, Up. -/
import Derived.Test.YtgkdecjlanbmhaaJXe
namespace Go.Proofs.Ytgkdecjlanbmhaa
open Go.RowKit Go.Maps Go.MuLone
set_option linter.unusedVariables false
set_option linter.unusedSimpArgs false
theorem copied_any (v : Value) (l : List Nat) (w : World) (hr : Rb w v l) (hz : l.length ≤ 140737488355328) : Calls Try.prog 47 #[v] w fun e w' => ∃ v', e = .returned v' ∧ Ob w.heap.size w' v' l ∧ Below w.heap.size w w' := by
  have HR := hide hr
  clear hr
  go_enter Try.func47, Try.ntmps47
  go_wp2_with (at_builtin; go_loud (refine wpList_app _ rfl (.tmp 4) (.tmp 5) rfl w.heap.size _ [] rfl (Ob.nil _ _) _ l rfl HR.out (by simpa using hz) (Nat.le_refl _) ?_; intro v' w3 r1 r2 r3; have HO := hide r1; have HG := hide r2; clear r1 r2 r3))
  go_ret
  exact ⟨_, rfl, by simpa using HO.out, (Below.refl w.heap.size w).trans ⟨HG.out.os, HG.out.tape, HG.out.output, HG.out.size, fun k hk => HG.out.block k hk (fun h => by cases h)⟩⟩
section
variable {w w' : World} {B r : Nat} {lv : Value} {x : Dx} {W : List Fo}
theorem RD.cong (h : RD w B r lv x W) {y : Dx} (h1 : y.room = x.room) (h2 : y.down = x.down) (h3 : y.left = x.left) (h4 : y.keep = x.keep) : RD w B r lv y W := by
  obtain ⟨ac, ha, hb⟩ := h.blk
  refine ⟨⟨ac, by rw [h3]; exact ha, ?_⟩, h.lo, h.row, h.dat, h.srt⟩
  unfold rxA at hb ⊢
  rw [h1, h2, h3, h4]
  exact hb
/-- the document's disk at rest -/
structure XD (w : World) (B r : Nat) (lv : Value) (x : Dx) (W : List Fo) : Prop where
  rd : RD w B r lv x W
  ok : DOk x (W.map (·.1))
  few : W.length ≤ 1000000000000
theorem RD.nodup (h : RD w B r lv x W) : ((W.map (·.1)).map (·.1)).Nodup := by
  rw [List.map_map]
  have h2 := h.srt
  rw [List.pairwise_map] at h2
  unfold List.Nodup
  rw [List.pairwise_map]
  exact h2.imp (fun {a b} hab e => by
    have e2 : a.1.1.toList = b.1.1.toList := by
      have e3 : a.1.1 = b.1.1 := e
      rw [e3]
    rw [e2] at hab
    exact List.lt_irrefl _ hab)
theorem XD.size (h : XD w B r lv x W) : ∀ o ∈ W, o.1.2.2 ≤ o.1.2.1.length ∧ o.1.2.1.length ≤ 16777216 := fun o ho => by
  have h1 := h.ok.safe o.1 (List.mem_map_of_mem ho)
  have h2 := h.ok.room
  have h3 := h.ok.most
  refine ⟨h1, ?_⟩
  have h4 : o.1.2.1.length ≤ usd (W.map (·.1)) := by
    obtain ⟨l1, l2, rfl⟩ := List.append_of_mem ho
    simp only [usd, List.map_append, List.map_cons, List.sum_append, List.sum_cons]
    omega
  omega
/-- the document's disk behind a call -/
def XN (w : World) (B r : Nat) (lv : Value) (x' : Dx) (F' : List Fi) (w' : World) : Prop := ∃ lv' W', XD w' B r lv' x' W' ∧ (W'.map (·.1)).Perm F' ∧ Kp (Wr r lv) w w' ∧ ∀ g, lv'.ownBlock = some g → lv.ownBlock = some g ∨ w.heap.size ≤ g
theorem XD.same (h : XD w B r lv x W) : XN w B r lv x (W.map (·.1)) w := ⟨lv, W, h, List.Perm.refl _, Kp.refl _ _, fun g e => .inl e⟩
theorem hasN_names {k : ByteArray} : hasN ((W.map (·.1)).map (·.1)) k = true ↔ ∃ o ∈ W, o.1.1 = k := by
  unfold hasN
  rw [List.map_map, List.any_eq_true]
  constructor
  · rintro ⟨z, hz, h⟩
    obtain ⟨o, ho, rfl⟩ := List.mem_map.1 hz
    exact ⟨o, ho, of_decide_eq_true h⟩
  · rintro ⟨o, ho, h⟩
    exact ⟨o.1.1, List.mem_map_of_mem (f := (fun o : Fo => o.1.1)) ho, decide_eq_true h⟩
set_option maxHeartbeats 1000000 in
theorem asked_r (h : RD w B r lv x W) (k : ByteArray) (hk : k.size ≤ 4611686018427387904) : Calls Try.prog 64 #[.pointer (some ⟨r, 0, none⟩), .string k] w fun e w' => e = .returned (.int .i64 (findE x.down ((W.map (·.1)).map (·.1)) k [])) ∧ w' = w := by
  obtain ⟨ac, _, c0, c1, c2, _⟩ := h.cells
  have HN := hide (isN_any k hk w)
  have HF := hide (find_r h k)
  have HH : Hid (∀ i (hi : i < W.length), W[i].1.1 = k → hasN ((W.map (·.1)).map (·.1)) k = true) := fun i hi e => hasN_names.2 ⟨_, List.getElem_mem hi, e⟩
  have HG : Hid ((∀ o ∈ W, o.1.1 ≠ k) → hasN ((W.map (·.1)).map (·.1)) k = false) := fun h => by
    cases hh : hasN ((W.map (·.1)).map (·.1)) k
    · rfl
    · obtain ⟨o, ho, e⟩ := hasN_names.1 hh
      exact absurd e (h o ho)
  obtain ⟨R, hR⟩ : ∃ R, findE x.down ((W.map (·.1)).map (·.1)) k [] = R := ⟨_, rfl⟩
  have HR := hide hR
  rw [hR]
  clear h hk hR c0 c1
  cases hd : x.down
  · rw [hd] at c2
    cases hn : nm k
    · rw [hn] at HN
      have HE : Hid (R = 1) := by show _ = _; rw [← HR.out]; unfold findE; rw [hd, hn]; rfl
      clear hd hn
      go_enter Try.func64, Try.ntmps64
      go_wp2_with (go_at_call 45; refine HN.out.mono ?_; rintro e w' ⟨rfl, rfl⟩)
      go_ret
      exact ⟨by rw [HE.out]; rfl, rfl⟩
    · rw [hn] at HN
      have HE : Hid (R = if hasN ((W.map (·.1)).map (·.1)) k then 0 else 191) := by show _ = _; rw [← HR.out]; unfold findE; rw [hd, hn]; rfl
      clear hd hn
      go_enter Try.func64, Try.ntmps64
      go_wp2_with fail
      refine HN.out.mono ?_
      rintro e w' ⟨rfl, hw'⟩
      obtain rfl := hw'.symm
      go_wp2_with fail
      refine HF.out.mono ?_
      rintro e w' ⟨hf, hw'⟩
      obtain rfl := hw'.symm
      rcases hf with ⟨i, hi, he, rfl⟩ | ⟨hf, rfl⟩
      · have HE2 : Hid (R = 0) := by show _ = _; rw [HE.out, HH.out i hi he]; rfl
        have hin : ¬ (i : Int) < 0 := by omega
        clear he
        go_wp2
        go_ret
        exact ⟨by rw [HE2.out]; rfl, rfl⟩
      · have HE2 : Hid (R = 191) := by show _ = _; rw [HE.out, HG.out hf]; rfl
        clear hf
        go_wp2
        go_ret
        exact ⟨by rw [HE2.out]; rfl, rfl⟩
  · rw [hd] at c2
    have HE : Hid (R = 3) := by show _ = _; rw [← HR.out]; unfold findE; rw [hd]; rfl
    clear hd
    go_enter Try.func64, Try.ntmps64
    go_wp2_with (go_at_call 45; refine HN.out.mono ?_; rintro e w' ⟨rfl, rfl⟩)
    go_ret
    exact ⟨by rw [HE.out]; rfl, rfl⟩
theorem fX_act {x : Dx} {F : List Fi} (hl : x.left ≠ 0) : (fX x).room = (actX x F).room ∧ (fX x).down = (actX x F).down ∧ (fX x).left = (actX x F).left ∧ (fX x).keep = (actX x F).keep := by
  unfold fX actX
  by_cases h1 : x.left = -1
  · rw [if_pos (.inl h1), if_pos h1]
    exact ⟨rfl, rfl, rfl, rfl⟩
  · rw [if_neg (by omega), if_neg h1, if_neg hl]
    exact ⟨rfl, rfl, rfl, rfl⟩
theorem XN.via {w0 w1 : World} {lv1 : Value} {x1 x' : Dx} {W1 : List Fo} {F' : List Fi} (hk : Kp (Wr r lv) w0 w1) (hl : ∀ g, lv1.ownBlock = some g → lv.ownBlock = some g ∨ w0.heap.size ≤ g) (h : XN w1 B r lv1 x' F' w') : XN w0 B r lv x' F' w' := by
  obtain ⟨lv', W', a1, a2, a3, a4⟩ := h
  refine ⟨lv', W', a1, a2, hk.transN a3 (fun k hk' => ?_), fun g e => ?_⟩
  · rcases hk' with rfl | hk'
    · exact .inl (.inl rfl)
    · exact (hl k hk').imp (fun h => .inr h) id
  · rcases a4 g e with h | h
    · exact hl g h
    · exact .inr (Nat.le_trans hk.size h)
/-- the power fails in an act -/
theorem XD.fell (h : XD w B r lv x W) (hl : x.left = 0) : Calls Try.prog 66 #[.pointer (some ⟨r, 0, none⟩), .int .i64 x.keep] w fun e w' => e = .returned (.tuple #[]) ∧ XN w B r lv (actX x (W.map (·.1))) (actF x (W.map (·.1))) w' := by
  refine (fall_r h.rd (fun o ho => ⟨(h.size o ho).1, by have := (h.size o ho).2; omega⟩) (by have := h.few; omega) x.keep ⟨h.ok.keep0, h.ok.keep1⟩ (usd ((W.map (·.1)).map (fl x.keep)) : Int)).mono ?_
  rintro e w' ⟨rfl, W', h1, h2, h3⟩
  have eX : actX x (W.map (·.1)) = { x with down := true, left := -1, used := (usd ((W.map (·.1)).map (fl x.keep)) : Int) } := by unfold actX; rw [if_neg (by omega), if_pos hl]
  have eF : actF x (W.map (·.1)) = (W.map (·.1)).map (fl x.keep) := if_pos hl
  have hlen : W'.length = W.length := by have := congrArg List.length h2; simpa using this
  refine ⟨rfl, lv, W', ⟨by rw [eX]; exact h1, ?_, by rw [hlen]; exact h.few⟩, by rw [eF, h2], h3, fun g e => .inl e⟩
  have := h.ok.act
  rw [eF, ← h2] at this
  exact this
set_option maxHeartbeats 1000000 in
theorem delete_r (h : XD w B r lv x W) (hB : B ≤ w.heap.size) (k : ByteArray) (hk : k.size ≤ 4611686018427387904) : Calls Try.prog 35 #[.pointer (some ⟨r, 0, none⟩), .string k] w fun e w' => e = .returned (.int .i64 (dDel x (W.map (·.1)) k).1) ∧ XN w B r lv (dDel x (W.map (·.1)) k).2.1 (dDel x (W.map (·.1)) k).2.2 w' := by
  have HA := hide (asked_r h.rd k hk)
  have HX := hide h
  obtain ⟨R, hR⟩ : ∃ R, findE x.down ((W.map (·.1)).map (·.1)) k [] = R := ⟨_, rfl⟩
  have HR := hide hR
  rw [hR] at HA
  by_cases h0 : R = 0
  · have HFA := hide (fails_r h.rd ⟨h.ok.left0, h.ok.left1⟩)
    subst h0
    clear h hR hk
    by_cases hl : x.left = 0
    · have HD : Hid (dDel x (W.map (·.1)) k = (3, actX x (W.map (·.1)), actF x (W.map (·.1)))) := by show _ = _; unfold dDel; rw [if_neg (by rw [HR.out]; simp), if_pos hl]
      rw [decide_eq_true hl] at HFA
      have HL := hide hl
      clear hl
      go_enter Try.func35, Try.ntmps35
      go_wp2_with fail
      refine HA.out.mono ?_
      rintro e w1 ⟨rfl, hw1⟩
      obtain rfl := hw1.symm
      go_wp2_with fail
      refine HFA.out.mono ?_
      rintro e w2 ⟨rfl, h2, hk2⟩
      have hfx : fX x = x := if_pos (.inr HL.out)
      rw [hfx] at h2
      have HX2 : Hid (XD w2 B r lv x W) := ⟨h2, HX.out.ok, HX.out.few⟩
      have HFL := hide (HX2.out.fell HL.out)
      obtain ⟨_, _, _, _, _, _, _, k5, _⟩ := h2.cells
      have HK2 := hide hk2
      clear h2 hk2 hfx
      go_wp2_with fail
      refine HFL.out.mono ?_
      rintro e w3 ⟨rfl, hn3⟩
      have HN3 := hide hn3
      clear hn3
      go_wp2
      go_ret
      rw [HD.out]
      exact ⟨rfl, XN.via (x1 := x) (W1 := W) (HK2.out.mono (fun k h => .inl h)) (fun g e => .inl e) HN3.out⟩
    · have HD : Hid (dDel x (W.map (·.1)) k = (0, { actX x (W.map (·.1)) with used := x.used - (lenOf k (W.map (·.1)) : Int) }, woF k (W.map (·.1)))) := by show _ = _; unfold dDel; rw [if_neg (by rw [HR.out]; simp), if_neg hl]
      rw [decide_eq_false hl] at HFA
      have HL := hide hl
      clear hl
      go_enter Try.func35, Try.ntmps35
      go_wp2_with fail
      refine HA.out.mono ?_
      rintro e w1 ⟨rfl, hw1⟩
      obtain rfl := hw1.symm
      go_wp2_with fail
      refine HFA.out.mono ?_
      rintro e w2 ⟨rfl, h2, hk2⟩
      have HTK := hide (take_r h2 (by have := HX.out.few; omega) (Nat.le_trans hB hk2.size) k)
      have HK2 := hide hk2
      clear h2 hk2
      go_wp2_with fail
      refine HTK.out.mono ?_
      rintro e w3 ⟨rfl, lv3, h3, hk3, hg3⟩
      have HX3 := hide (And.intro h3 (And.intro hk3 hg3))
      clear h3 hk3 hg3
      go_wp2
      go_ret
      have hdo := del_ok HX.out.ok HX.out.rd.nodup k
      rw [HD.out] at hdo ⊢
      obtain ⟨e1, e2, e3, e4⟩ := fX_act (F := W.map (·.1)) HL.out
      refine ⟨rfl, lv3, noK k W, ⟨HX3.out.1.cong e1.symm e2.symm e3.symm e4.symm, by rw [noK_map]; exact hdo, Nat.le_trans (List.length_filter_le _ _) HX.out.few⟩, by rw [noK_map], (HK2.out.mono (fun k h => .inl h)).trans (HX3.out.2.1.mono (fun k h => .inl h)), fun g e => .inr (Nat.le_trans HK2.out.size (HX3.out.2.2 g e))⟩
  · have HD : Hid (dDel x (W.map (·.1)) k = (R, x, W.map (·.1))) := by show _ = _; unfold dDel; rw [HR.out]; exact if_pos h0
    have hne : (R != 0) = true := by simpa using h0
    clear h hR hk h0
    go_enter Try.func35, Try.ntmps35
    go_wp2_with (go_at_call 64; refine HA.out.mono ?_; rintro e w' ⟨rfl, rfl⟩)
    go_ret
    rw [HD.out]
    exact ⟨rfl, HX.out.same⟩
end
end Go.Proofs.Ytgkdecjlanbmhaa
