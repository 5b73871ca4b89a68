
/- Stages 19, 20: the document's disk: fails, take. -/
import Derived.Test.YtgkdecjlanbmhaaJXa
namespace Go.Proofs.Ytgkdecjlanbmhaa
open Go.RowKit Go.Maps Go.MuLone
set_option linter.unusedVariables false
set_option linter.unusedSimpArgs false
section
variable {w w' : World} {B r : Nat} {lv : Value} {x : Dx} {W : List Fo}
/-- a cell of the disk's own struct is written -/
theorem RD.put (h : RD w B r lv x W) {ac : Int} (hb : w.heap[r]? = some (.cells (rxA lv x ac) 79 (0, 0))) (o : Nat) (v : Value) (x' : Dx) (ac' : Int) (ha : x'.left ≠ -1 → ac' = x'.left) (he : (rxA lv x ac).setIfInBounds o v = rxA lv x' ac') : RD (w.setCell ⟨r, o, none⟩ v) B r lv x' W := by
  have ho : ∀ k, k ≠ r → (w.setCell ⟨r, o, none⟩ v).heap[k]? = w.heap[k]? := fun k hk => blk_set_other _ _ _ _ hk
  refine ⟨⟨ac', ha, by rw [blk_set hb, he]⟩, h.lo, h.row.at (fun k e => ho k (fun e2 => h.nr (by rw [e, e2]))), fun q hq => ⟨(h.dat q hq).1.same (by simp) (fun g e => ho g ((h.dat q hq).2 g e).1), (h.dat q hq).2⟩, h.srt⟩
theorem wy_mono {A : Type} {K : WK A} {w : World} {base b2 : Nat} {v : Value} {W : List A} (h : Wy K w base v W) (hb : b2 ≤ base) : Wy K w b2 v W := by
  rcases h with h | ⟨g, off, cap, cur, e, h1, h2⟩
  · exact .inl h
  · exact .inr ⟨g, off, cap, cur, e, by omega, h2⟩
/-- one act more, or the last one -/
def fX (x : Dx) : Dx := if x.left = -1 ∨ x.left = 0 then x else { x with left := x.left - 1 }
set_option maxHeartbeats 1000000 in
theorem fails_r (h : RD w B r lv x W) (hl : -1 ≤ x.left ∧ x.left < 9223372036854775808) : Calls Try.prog 65 #[.pointer (some ⟨r, 0, none⟩)] w fun e w' => e = .returned (.bool (decide (x.left = 0))) ∧ RD w' B r lv (fX x) W ∧ Kp (fun k => k = r) w w' := by
  have HH := hide h
  obtain ⟨ac, ha, hb⟩ := h.blk
  have c3 : w.cell? ⟨r, 3, none⟩ = some (.bool (decide (x.left ≠ -1))) := cellOf hb 3 _ rfl
  have c4 : w.cell? ⟨r, 4, none⟩ = some (.int .i64 ac) := cellOf hb 4 _ rfl
  have f4 : w.frozen? ⟨r, 4, none⟩ = false := frozen_of hb 4
  have HB := hide hb
  clear h hb
  by_cases h1 : x.left = -1
  · have hd : decide (x.left ≠ -1) = false := decide_eq_false (fun h => h h1)
    have HX : Hid (fX x = x) := if_pos (.inl h1)
    have HZ : Hid (decide (x.left = 0) = false) := decide_eq_false (by omega)
    rw [hd] at c3
    clear hd h1 ha hl
    go_enter Try.func65, Try.ntmps65
    go_wp2
    go_ret
    exact ⟨by rw [HZ.out]; rfl, by rw [HX.out]; exact HH.out, Kp.refl _ _⟩
  · have hd : decide (x.left ≠ -1) = true := decide_eq_true h1
    obtain rfl := ha h1
    rw [hd] at c3
    by_cases h2 : x.left = 0
    · have HX : Hid (fX x = x) := if_pos (.inr h2)
      have HZ : Hid (decide (x.left = 0) = true) := decide_eq_true h2
      rw [h2] at c4
      clear hd h1 ha hl h2
      go_enter Try.func65, Try.ntmps65
      go_wp2
      go_ret
      exact ⟨by rw [HZ.out]; rfl, by rw [HX.out]; exact HH.out, Kp.refl _ _⟩
    · have HX : Hid (fX x = { x with left := x.left - 1 }) := if_neg (by omega)
      have HZ : Hid (decide (x.left = 0) = false) := decide_eq_false h2
      obtain ⟨n, hn⟩ : ∃ n, x.left = n := ⟨_, rfl⟩
      have hw : IntKind.i64.wrap (n - 1) = n - 1 := by rw [IntKind.wrap_i64]; omega
      have h2b : (n == 0) = false := beq_eq_false_iff_ne.2 (by omega)
      have HR : Hid (RD (w.setCell ⟨r, 4, none⟩ (.int .i64 (n - 1))) B r lv { x with left := x.left - 1 } W) := by
        refine HH.out.put HB.out 4 (.int .i64 (n - 1)) { x with left := x.left - 1 } (x.left - 1) (fun _ => rfl) ?_
        have e1 : decide (x.left - 1 ≠ -1) = decide (x.left ≠ -1) := by rw [decide_eq_true (show x.left - 1 ≠ -1 by omega), hd]
        unfold rxA
        rw [hn] at e1 ⊢
        show _ = #[lv, .int .i64 x.room, .bool x.down, .bool (decide (n - 1 ≠ -1)), .int .i64 (n - 1), .int .i64 x.keep]
        rw [e1]
        rfl
      rw [hn] at c4
      clear hd h1 ha hl h2 hn
      go_enter Try.func65, Try.ntmps65
      go_wp2
      go_ret
      exact ⟨by rw [HZ.out]; rfl, by rw [HX.out]; exact HR.out, Kp.setCell (S := fun k => k = r) (Kp.refl _ w) rfl _⟩
/-- a new row in the place of the old one -/
theorem RD.row_put (h : RD w B r lv x W) {lv' : Value} {W' : List Fo} (hw : Wy FK w B lv' W') (hf : ∀ g, lv'.ownBlock = some g → ∀ o ∈ W', o.2.ownBlock ≠ some g) (hd : ∀ o ∈ W', DB B w o.2 o.1.2.1 ∧ ∀ g, o.2.ownBlock = some g → g ≠ r) (hs : (W'.map (·.1.1.toList)).Pairwise (· < ·)) : RD (w.setCell ⟨r, 0, none⟩ lv') B r lv' x W' := by
  obtain ⟨ac, ha, hb⟩ := h.blk
  have ho : ∀ k, k ≠ r → (w.setCell ⟨r, 0, none⟩ lv').heap[k]? = w.heap[k]? := fun k hk => blk_set_other _ _ _ _ hk
  refine ⟨⟨ac, ha, by rw [blk_set hb]; rfl⟩, h.lo, hw.at (fun k e => ho k (fun e2 => ?_)), fun q hq => ⟨(hd q hq).1.same (by simp) (fun g e => ho g ((hd q hq).2 g e)), fun g e => ⟨(hd q hq).2 g e, fun e2 => hf g e2 q hq e⟩⟩, hs⟩
  rw [e2] at e
  obtain ⟨cur, h2⟩ := hw.typ e
  rw [hb] at h2
  simp [FK] at h2
def noK (k : ByteArray) (W : List Fo) : List Fo := W.filter fun o => !decide (o.1.1 = k)
theorem noK_map (k : ByteArray) (W : List Fo) : (noK k W).map (·.1) = woF k (W.map (·.1)) := by
  unfold noK woF
  rw [List.filter_map]
  rfl
theorem noK_sub {k : ByteArray} {W : List Fo} {o : Fo} (h : o ∈ noK k W) : o ∈ W := (List.mem_filter.1 h).1
theorem noK_srt {k : ByteArray} {W : List Fo} (h : (W.map (·.1.1.toList)).Pairwise (· < ·)) : ((noK k W).map (·.1.1.toList)).Pairwise (· < ·) := h.sublist (List.filter_sublist.map _)
theorem noK_take (k : ByteArray) (W : List Fo) {j : Nat} (hj : j < W.length) : noK k (W.take (j + 1)) = noK k (W.take j) ++ if W[j].1.1 = k then [] else [W[j]] := by
  unfold noK
  rw [List.take_succ_eq_append_getElem hj, List.filter_append]
  congr 1
  by_cases h : W[j].1.1 = k <;> simp [h]
set_option maxHeartbeats 2000000 in
set_option maxRecDepth 100000 in
theorem take_r (h : RD w B r lv x W) (hn : W.length ≤ 2000000000000) (hB : B ≤ w.heap.size) (k : ByteArray) : Calls Try.prog 67 #[.pointer (some ⟨r, 0, none⟩), .string k] w fun e w' => e = .returned (.tuple #[]) ∧ ∃ lv', RD w' B r lv' x (noK k W) ∧ Kp (fun k => k = r) w w' ∧ ∀ g, lv'.ownBlock = some g → w.heap.size ≤ g := by
  have HH := hide h
  obtain ⟨ac, _, c0, _⟩ := h.cells
  obtain ⟨la, lc, rfl⟩ := h.row.shape
  clear h
  go_enter Try.func67, Try.ntmps67
  go_wp2
  go_loopw [4, 5] (fun ov iv wr => ∃ j : Nat, j ≤ W.length ∧ iv = .int .i64 (j : Int) ∧ Hid (Wy FK wr w.heap.size ov (noK k (W.take j))) ∧ Hid (Below w.heap.size w wr)) (fun _ iv _ => W.length - (intOf iv).toNat)
  case atStart => exact ⟨0, Nat.zero_le _, rfl, .inl ⟨rfl, rfl⟩, Below.refl _ _⟩
  case round =>
    rename_i ov iv wr
    obtain ⟨j, hj, rfl, HW, HB⟩ := hrel
    obtain ⟨oa, oc, rfl⟩ := HW.out.shape
    have HR := hide (HH.out.below HB.out)
    obtain ⟨ac2, _, d0, _, _, _, _, _, df⟩ := HR.out.cells
    have df0 := df 0
    clear df
    by_cases hjl : j < W.length
    · obtain ⟨g, off, cap, a, c, e, h1, h2, hg, hgr, r0, r1, r2, he2, _⟩ := HR.out.elem j hjl
      simp only [Value.slice.injEq] at e
      obtain ⟨rfl, _, rfl⟩ := e
      have hs := str_eq W[j].1.1 k
      have HT := hide (noK_take k W hjl)
      have HLE : Hid ((noK k (W.take j)).length ≤ j) := by
        show _ ≤ _
        have h1 := List.length_filter_le (fun o : Fo => !decide (o.1.1 = k)) (W.take j)
        have h2 := List.length_take_le j W
        unfold noK
        omega
      have hji : (j : Int) < (W.length : Int) := by omega
      have HBA : Hid (w.heap.size ≤ wr.heap.size) := HB.out.size
      obtain ⟨o, ho⟩ : ∃ o, W[j] = o := ⟨_, rfl⟩
      rw [ho] at r0 r1 r2 hs HT he2
      obtain ⟨⟨s, l, z⟩, ov2⟩ := o
      dsimp only at r0 r1 r2 hs HT he2
      subst he2
      clear ho
      cases hd : decide (s = k)
      · rw [hd] at hs
        have HD := hide (of_decide_eq_false hd)
        have HWA : Hid (Wy FK (wr.alloc (.cells #[.string s, .slice a l.length c, .int .i64 (z : Int)] 44)) w.heap.size (.slice oa (noK k (W.take j)).length oc) (noK k (W.take j))) := HW.out.at fun q e => Below.heap_alloc _ _ _ (HW.out.lt e).2
        obtain ⟨Z, hZ⟩ : ∃ Z, noK k (W.take j) = Z := ⟨_, rfl⟩
        rw [hZ] at HWA HLE HT HW
        have hln : Z.length ≤ 2000000000000 := by have := HLE.out; omega
        rw [hZ]
        clear hd hZ
        go_wp2_with (at_builtin; go_loud (refine wpList_append_way fkOk _ rfl (.tmp 25) (.tmp 33) rfl w.heap.size (.slice oa Z.length oc) Z ((s, l, z), .slice a l.length c) rfl HWA.out wr.heap.size 1 rfl (heap_new _ _) (by simp; exact Nat.le_trans HBA.out (Nat.le_succ _)) (by show (Z.length + 1) * 48 ≤ _; omega) ?_); intro v' w7 hw7 hg7 hs7; have HW7 := hide hw7; have HG7 := hide hg7; clear hw7 hg7 hs7)
        refine ⟨⟨j + 1, by omega, by go_num, ?_, ?_⟩, by simp [intOf]; omega⟩
        · rw [HT.out, if_neg HD.out]; exact HW7.out
        · exact (bel1 HB.out HBA.out _).grown HG7.out (Nat.le_trans HBA.out (by simp)) (fun q hq => (HW.out.lt hq).1)
      · rw [hd] at hs
        have HD := hide (of_decide_eq_true hd)
        clear hd
        go_wp2
        refine ⟨⟨j + 1, by omega, by go_num, ?_, HB⟩, by simp [intOf]; omega⟩
        rw [HT.out, if_pos HD.out, List.append_nil]
        exact HW.out
    · have hjl' : j = W.length := by omega
      subst hjl'
      have hw0 := HW.out
      rw [List.take_length] at hw0
      have HWZ := hide hw0
      have HLN : Hid ((noK k (W.take W.length)).length = (noK k W).length) := by show _ = _; rw [List.take_length]
      rw [HLN.out]
      clear hw0 HW
      go_wp2
      first | go_end0 | refine bodyPost_ret (results_none rfl _ _ _) rfl ?_
      refine ⟨rfl, _, (HR.out.row_put (wy_mono HWZ.out hB) (fun g hg q hq e => ?_) (fun q hq => ⟨(HR.out.dat q (noK_sub hq)).1, fun g e => ((HR.out.dat q (noK_sub hq)).2 g e).1⟩) (noK_srt HR.out.srt)), Kp.setCell (S := fun k => k = r) (Kp.ofBelow HB.out) rfl _, fun g e => (HWZ.out.lt e).1⟩
      have h1 := (HWZ.out.lt hg).1
      have h2 := ((HH.out.dat q (noK_sub hq)).1.2 g e).2
      omega
end
end Go.Proofs.Ytgkdecjlanbmhaa
