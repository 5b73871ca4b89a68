
/- Stage 13: note, Deliver, Arrive. -/
import Derived.Test.YtondbhdlccpklaaQHand
namespace Go.Proofs.Ytondbhdlccpklaa
open Go.RowKit Go.Maps
set_option linter.unusedVariables false
set_option linter.unusedSimpArgs false

theorem TbI.alloc {w : World} {b : Nat} {l : List (Int × Int)} (h : TbI w b l) (o : Obj) : TbI (w.alloc o) b l := h.at (Below.heap_alloc _ _ _ h.lt)
theorem TbP.alloc {w : World} {b : Nat} {l : List (Int × Pd)} (h : TbP w b l) (o : Obj) : TbP (w.alloc o) b l := h.at (Below.heap_alloc _ _ _ h.lt)
theorem TbI.drew {w : World} {b : Nat} {l : List (Int × Int)} (h : TbI w b l) : TbI w.drew b l := h.at rfl
theorem TbP.drew {w : World} {b : Nat} {l : List (Int × Pd)} (h : TbP w b l) : TbP w.drew b l := h.at rfl
def noteE {A B : Type} (H : List (Int × A)) (L : List (Int × B)) (id h : Int) : Int := if hasK H h = false then 132 else if hasK L id = true then 131 else 0
set_option maxRecDepth 100000 in
theorem note_no (g : Nat) (s : Sn) (H : List (Int × Int)) (bw : Nat) (L : List (Int × Pd)) (id h : Int) (tag : ByteArray) (settled : Bool) (w : World) (hS : SB w g s) (hT : TbI w s.bh H) (hL : TbP w bw L) (hi : wf64 id) (hh : wf64 h) (hE : noteE H L id h ≠ 0 ∨ settled = true) :
    Calls Try.prog 56 #[.pointer (some ⟨g, 0, none⟩), .map (some bw), .agg #[.int .i64 id, .int .i64 h, .string tag], .bool settled] w fun e w' => e = .returned (.int .i64 (noteE H L id h)) ∧ Below w.heap.size w w' := by
  obtain ⟨s0, s1, s2, s3, s4, s5, s6, s7, s8, s9, s10, s11, s12, s13, s14, s15, s16⟩ := hS.facts
  have hlg := hS.lt
  have HI := hide (hasI_any s.bh H h ((w.alloc (.cells #[.int .i64 id, .int .i64 h, .string tag] 75)).drew) (hT.alloc _).drew hh)
  have HP := hide (hasP_any bw L id ((w.alloc (.cells #[.int .i64 id, .int .i64 h, .string tag] 75)).drew) (hL.alloc _).drew hi)
  have HB : Hid (Below w.heap.size w ((w.alloc (.cells #[.int .i64 id, .int .i64 h, .string tag] 75)).drew)) := (bel1 (Below.refl _ _) (Nat.le_refl _) _).trans ((bel_drew _).mono (by simp))
  unfold noteE at *
  cases hx : hasK H h
  · rw [hx] at HI
    rw [if_pos rfl]
    clear hS hT hL hi hh hE hx HP
    go_enter Try.func56, Try.ntmps56
    go_wp2
    go_region_held (fun W => W.cell? ⟨g, 13, none⟩ = some (.map (some s.bh)) ∧ W.cell? ⟨w.heap.size, 1, none⟩ = some (.int .i64 h)) (go_keep) ((go_at_call 54; refine Calls.mono HI.out ?_; rintro e2 w2 ⟨rfl, rfl⟩))
    go_wp2
    go_ret
    exact ⟨rfl, HB.out⟩
  · rw [hx] at HI hE
    rw [if_neg (by simp)] at hE ⊢
    cases hy : hasK L id
    · rw [hy] at HP hE
      rw [if_neg (by simp)] at hE ⊢
      obtain rfl : settled = true := by simpa using hE
      clear hS hT hL hi hh hE hx hy
      go_enter Try.func56, Try.ntmps56
      go_wp2
      go_region_held (fun W => W.cell? ⟨g, 13, none⟩ = some (.map (some s.bh)) ∧ W.cell? ⟨w.heap.size, 1, none⟩ = some (.int .i64 h)) (go_keep) ((go_at_call 54; refine Calls.mono HI.out ?_; rintro e2 w2 ⟨rfl, rfl⟩))
      go_wp2_with (go_at_call 59; refine HP.out.mono ?_; rintro e3 w3 ⟨rfl, hb3⟩)
      go_ret
      exact ⟨rfl, belOn HB.out HB.out.size hb3⟩
    · rw [hy] at HP hE
      rw [if_pos rfl]
      clear hS hT hL hi hh hE hx hy
      go_enter Try.func56, Try.ntmps56
      go_wp2
      go_region_held (fun W => W.cell? ⟨g, 13, none⟩ = some (.map (some s.bh)) ∧ W.cell? ⟨w.heap.size, 1, none⟩ = some (.int .i64 h)) (go_keep) ((go_at_call 54; refine Calls.mono HI.out ?_; rintro e2 w2 ⟨rfl, rfl⟩))
      go_wp2_with (go_at_call 59; refine HP.out.mono ?_; rintro e3 w3 ⟨rfl, hb3⟩)
      go_ret
      exact ⟨rfl, belOn HB.out HB.out.size hb3⟩
set_option maxRecDepth 100000 in
theorem note_yes (g : Nat) (s : Sn) (H : List (Int × Int)) (bw : Nat) (L : List (Int × Pd)) (id h : Int) (tag : ByteArray) (w : World) (hS : SB w g s) (hT : TbI w s.bh H) (hL : TbP w bw L) (hi : wf64 id) (hh : wf64 h) (hE : noteE H L id h = 0) (hm : L.length < maxLen) :
    Calls Try.prog 56 #[.pointer (some ⟨g, 0, none⟩), .map (some bw), .agg #[.int .i64 id, .int .i64 h, .string tag], .bool false] w fun e w' => e = .returned (.int .i64 0) ∧ TbP w' bw ((id, (id, h, tag)) :: L) ∧ Kp (fun q => q = bw) w w' := by
  obtain ⟨s0, s1, s2, s3, s4, s5, s6, s7, s8, s9, s10, s11, s12, s13, s14, s15, s16⟩ := hS.facts
  have hlg := hS.lt
  obtain ⟨W0, hW0⟩ : ∃ W0, (w.alloc (.cells #[.int .i64 id, .int .i64 h, .string tag] 75)).drew = W0 := ⟨_, rfl⟩
  have HI := hide (hasI_any s.bh H h W0 (hW0 ▸ (hT.alloc _).drew) hh)
  have HP := hide (hasP_any bw L id W0 (hW0 ▸ (hL.alloc _).drew) hi)
  have HB : Hid (Below w.heap.size w W0) := hW0 ▸ (bel1 (Below.refl _ _) (Nat.le_refl _) _).trans ((bel_drew _).mono (by simp))
  have HL : Hid (TbP W0 bw L) := hW0 ▸ (hL.alloc _).drew
  have HN : Hid (W0.heap[w.heap.size]? = some (.cells #[.int .i64 id, .int .i64 h, .string tag] 75 (0, 0))) := hW0 ▸ heap_alloc_last w _
  have HW0 := hide hW0
  have HK0 : Hid (W0.cell? ⟨g, 13, none⟩ = some (.map (some s.bh)) ∧ W0.cell? ⟨w.heap.size, 1, none⟩ = some (.int .i64 h)) := ⟨(HB.out.cell (p := ⟨g, 13, none⟩) hlg).trans s13, cellOf HN.out 1 _ rfl⟩
  unfold noteE at hE
  have hx : hasK H h = true := by
    cases hx : hasK H h
    · rw [hx] at hE; simp at hE
    · rfl
  rw [hx, if_neg (by simp)] at hE
  have hy : hasK L id = false := by
    cases hy : hasK L id
    · rfl
    · rw [hy] at hE; simp at hE
  rw [hx] at HI
  rw [hy] at HP
  have HY := hide hy
  have HM := hide hm
  have HH := hide hi
  clear hS hT hL hi hh hE hx hy hm hW0
  go_enter Try.func56, Try.ntmps56
  go_wp2
  go_region_held (fun W => W.cell? ⟨g, 13, none⟩ = some (.map (some s.bh)) ∧ W.cell? ⟨w.heap.size, 1, none⟩ = some (.int .i64 h)) (first | exact HK0.out | go_keep) ((go_at_call 54; rw [HW0.out]; refine Calls.mono HI.out ?_; rintro e2 w2 ⟨rfl, rfl⟩))
  have d0 := cellOf HN.out 0 _ rfl
  go_wp2_with fail
  refine HP.out.mono ?_
  rintro e3 w3 ⟨rfl, hb3⟩
  clear d0
  have hn3 := (hb3.block w.heap.size (by have := (Array.getElem?_eq_some_iff.1 HN.out).1; exact this)).trans HN.out
  have c0 := cellOf hn3 0 _ rfl
  have c1 := cellOf hn3 1 _ rfl
  have c2 := cellOf hn3 2 _ rfl
  have hlt3 := (Array.getElem?_eq_some_iff.1 hn3).1
  have HL3 : Hid (TbP w3 bw L) := HL.out.at (hb3.block _ HL.out.lt)
  have HB3 : Hid (Below w.heap.size w w3) := belOn HB.out HB.out.size hb3
  clear hb3 hn3 s0 s1 s2 s3 s4 s5 s6 s7 s8 s9 s10 s11 s12 s13 s14 s15 s16
  go_wp2_with (at_mapUpdate; refine put_P rfl _ _ _ rfl bw rfl id (id, h, tag) rfl rfl L HL3.out HH.out HM.out ?_; intro w4 T4 K4 z4)
  go_ret
  rw [filter_none (any_not.1 HY.out)] at T4
  exact ⟨rfl, T4, (Kp.ofBelow HB3.out).trans K4⟩

/-! ### Deliver -/
set_option maxRecDepth 100000 in
theorem deliver_no (g : Nat) (s : Sn) (H : List (Int × Int)) (L : List (Int × Pd)) (h : Int) (tag : ByteArray) (settled : Bool) (w : World) (hS : SB w g s) (hT : TbI w s.bh H) (hL : TbP w s.bs L) (hn : 0 ≤ s.nd ∧ s.nd ≤ 4294967295) (hh : wf64 h) (hE : noteE H L s.nd h ≠ 0) :
    Calls Try.prog 35 #[.pointer (some ⟨g, 0, none⟩), .int .i64 h, .string tag, .bool settled] w fun e w' => e = .returned (.tuple #[.int .i64 0, .int .i64 (noteE H L s.nd h)]) ∧ Below w.heap.size w w' := by
  obtain ⟨s0, s1, s2, s3, s4, s5, s6, s7, s8, s9, s10, s11, s12, s13, s14, s15, s16⟩ := hS.facts
  have hlg := hS.lt
  have HN := hide (note_no g s H s.bs L s.nd h tag settled w hS hT hL (wf_word hn) hh (.inl hE))
  obtain ⟨x, hx⟩ : ∃ x, x = noteE H L s.nd h := ⟨_, rfl⟩
  rw [← hx] at HN hE ⊢
  have hxb : (x == 0) = false := by simp [hE]
  clear hS hT hL hn hh hE hx
  go_enter Try.func35, Try.ntmps35
  go_wp2_with (go_at_call 56; refine HN.out.mono ?_; rintro e1 w1 ⟨rfl, hb1⟩)
  go_ret2
  exact ⟨rfl, hb1⟩
set_option maxRecDepth 100000 in
theorem deliver_settled (g : Nat) (s : Sn) (H : List (Int × Int)) (L : List (Int × Pd)) (h : Int) (tag : ByteArray) (w : World) (hS : SB w g s) (hT : TbI w s.bh H) (hL : TbP w s.bs L) (hn : 0 ≤ s.nd ∧ s.nd ≤ 4294967295) (hh : wf64 h) (hE : noteE H L s.nd h = 0) :
    Calls Try.prog 35 #[.pointer (some ⟨g, 0, none⟩), .int .i64 h, .string tag, .bool true] w fun e w' => e = .returned (.tuple #[.int .i64 s.nd, .int .i64 0]) ∧ SB w' g { s with nd := (s.nd + 1) % 4294967296 } ∧ Kp (fun k => k = g) w w' := by
  obtain ⟨s0, s1, s2, s3, s4, s5, s6, s7, s8, s9, s10, s11, s12, s13, s14, s15, s16⟩ := hS.facts
  have hlg := hS.lt
  have HS := hide hS
  have HN := hide (note_no g s H s.bs L s.nd h tag true w hS hT hL (wf_word hn) hh (.inr rfl))
  rw [hE] at HN
  clear hS hT hL hn hh hE
  go_enter Try.func35, Try.ntmps35
  go_wp2_with fail
  refine HN.out.mono ?_
  rintro e1 w1 ⟨rfl, hb1⟩
  have H1 := hide (HS.out.at (hb1.block g hlg))
  have HB := hide hb1
  clear hb1 s0 s1 s2 s3 s4 s5 s6 s7 s8 s9 s10 s11 s12 s13 s14 s15 s16
  have f7 := H1.out.frozen 7
  have hl1 := H1.out.lt
  obtain ⟨s0, s1, s2, s3, s4, s5, s6, s7, s8, s9, s10, s11, s12, s13, s14, s15, s16⟩ := H1.out.facts
  go_wp2_with (go_at_call 62; refine (add_any _ _ _).mono ?_; rintro e2 w2 ⟨rfl, rfl⟩)
  go_ret2
  exact ⟨rfl, H1.out.set_nd _, kp_self (Kp.ofBelow HB.out) _ _⟩
set_option maxRecDepth 100000 in
theorem deliver_yes (g : Nat) (s : Sn) (H : List (Int × Int)) (L : List (Int × Pd)) (h : Int) (tag : ByteArray) (w : World) (hS : SB w g s) (hT : TbI w s.bh H) (hL : TbP w s.bs L) (hn : 0 ≤ s.nd ∧ s.nd ≤ 4294967295) (hh : wf64 h) (hE : noteE H L s.nd h = 0) (hm : L.length < maxLen) :
    Calls Try.prog 35 #[.pointer (some ⟨g, 0, none⟩), .int .i64 h, .string tag, .bool false] w fun e w' => e = .returned (.tuple #[.int .i64 s.nd, .int .i64 0]) ∧ SB w' g { s with nd := (s.nd + 1) % 4294967296 } ∧ TbP w' s.bs ((s.nd, (s.nd, h, tag)) :: L) ∧ Kp (fun k => k = g ∨ k = s.bs) w w' := by
  obtain ⟨s0, s1, s2, s3, s4, s5, s6, s7, s8, s9, s10, s11, s12, s13, s14, s15, s16⟩ := hS.facts
  have hlg := hS.lt
  have HS := hide hS
  have hne : g ≠ s.bs := fun e => hL.ne hS e.symm
  have HN := hide (note_yes g s H s.bs L s.nd h tag w hS hT hL (wf_word hn) hh hE hm)
  clear hS hT hL hn hh hE hm
  go_enter Try.func35, Try.ntmps35
  go_wp2_with fail
  refine HN.out.mono ?_
  rintro e1 w1 ⟨rfl, t1, k1⟩
  have H1 := hide (HS.out.at (k1.block hlg hne))
  have HT := hide t1
  have HK := hide k1
  clear t1 k1 s0 s1 s2 s3 s4 s5 s6 s7 s8 s9 s10 s11 s12 s13 s14 s15 s16
  have f7 := H1.out.frozen 7
  have hl1 := H1.out.lt
  obtain ⟨s0, s1, s2, s3, s4, s5, s6, s7, s8, s9, s10, s11, s12, s13, s14, s15, s16⟩ := H1.out.facts
  go_wp2_with (go_at_call 62; refine (add_any _ _ _).mono ?_; rintro e2 w2 ⟨rfl, rfl⟩)
  go_ret2
  exact ⟨rfl, H1.out.set_nd _, HT.out.at (blk_set_other _ _ _ _ (fun e => hne e.symm)), (HK.out.mono (fun k hk => .inr hk)).setCell (.inl rfl) _⟩
end Go.Proofs.Ytondbhdlccpklaa
