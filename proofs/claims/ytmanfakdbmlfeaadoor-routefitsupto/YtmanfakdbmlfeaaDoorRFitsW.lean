
/- Stage 18: Fits, the document's; RouteFits: the walk. -/
import Derived.Test.YtmanfakdbmlfeaaDoorRRFit2
import Derived.Test.YtmanfakdbmlfeaaDoorRAwk
namespace Go.Proofs.YtmanfakdbmlfeaaDoor
open Go.RowKit Go.Maps
set_option linter.unusedVariables false
set_option linter.unusedSimpArgs false
theorem wy_tl {w : World} {base : Nat} {v : Value} {W : List ByteArray} (h : Wy SK w base v W) (hn : W ≠ []) : Tl w v W := by
  obtain ⟨g, off, c, h1, h2, h3, h4⟩ := h.tl hn
  exact ⟨g, off, c, h1, h2, h3, h4⟩
set_option maxHeartbeats 2000000 in
theorem rFits_any (p t : ByteArray) (hp : p.size ≤ 100000000) (ht : t.size ≤ 100000000) (w : World) : Calls Tryd.prog 10 #[.string p, .string t] w fun e w' => e = .returned (.tuple #[.bool (fitB p t), .int .i64 (fitE p t)]) ∧ Below w.heap.size w w' := by
  go_enter Tryd.func10, Tryd.ntmps10
  go_wp2_with fail
  refine (rpattern_any p hp w).mono ?_
  rintro e w1 ⟨rfl, hb1⟩
  cases h1 : patB (pcs p)
  · have HF : Hid (fitB p t = false ∧ fitE p t = 180) := by
      show fitB p t = false ∧ fitE p t = 180
      unfold fitB fitE
      rw [h1]
      exact ⟨rfl, rfl⟩
    clear h1
    go_wp2
    go_ret2
    exact ⟨by rw [HF.out.1, HF.out.2]; rfl, hb1⟩
  · have H1 := hide h1
    clear h1
    go_wp2_with fail
    refine (rtopic_any t ht w1).mono ?_
    rintro e w2 ⟨rfl, hb2⟩
    cases h2 : topB (pcs t)
    · have HF : Hid (fitB p t = false ∧ fitE p t = 82) := by
        show fitB p t = false ∧ fitE p t = 82
        unfold fitB fitE
        rw [H1.out, h2]
        exact ⟨rfl, rfl⟩
      clear h2
      go_wp2
      go_ret2
      exact ⟨by rw [HF.out.1, HF.out.2]; rfl, belOn hb1 hb1.size hb2⟩
    · have HF : Hid (fitB p t = fitP (pcs p) (pcs t) ∧ fitE p t = 0) := by
        show fitB p t = fitP (pcs p) (pcs t) ∧ fitE p t = 0
        unfold fitB fitE
        rw [H1.out, h2]
        exact ⟨rfl, rfl⟩
      have h8 := ((topB_iff t).1 h2).2.1
      have HB2 : Hid (Below w.heap.size w w2) := belOn hb1 hb1.size hb2
      clear h2 hb1 hb2
      go_wp2_with fail
      refine (parts_any p hp w2).mono ?_
      rintro e w3 ⟨v3, rfl, hw3, hb3⟩
      have HW3 := hide hw3
      have HB3 := hide hb3
      clear hw3 hb3
      go_wp2_with fail
      refine (parts_any t ht w3).mono ?_
      rintro e w4 ⟨v4, rfl, hw4, hb4⟩
      have hw3' : Wy SK w4 w2.heap.size v3 (pcs p) := HW3.out.at fun k hk => hb4.block k (HW3.out.lt hk).2
      have HR := hide (rfits_ok (pcs p) (pcs t) (by omega) w4 v3 v4 (wy_tl hw3' (pcs_ne p)) (wy_tl hw4 (pcs_ne t)))
      have HB4 : Hid (Below w.heap.size w w4) := belOn (belOn HB2.out HB2.out.size HB3.out) (Nat.le_trans HB2.out.size HB3.out.size) hb4
      clear hw4 hw3' hb4
      go_wp2_with fail
      refine HR.out.mono ?_
      rintro e w5 ⟨rfl, hb5⟩
      go_wp2
      go_ret2
      exact ⟨by rw [HF.out.1, HF.out.2]; rfl, belOn HB4.out HB4.out.size hb5⟩
set_option maxHeartbeats 2000000 in
theorem fits_walk (p t : ByteArray) (w : World) (hp : p.size ≤ 1048576) (ht : t.size ≤ 1048576) : Calls Tryd.prog 3 #[.string p, .string t] w fun e w' => e = .returned (.bool true) ∧ Below w.heap.size w w' := by
  go_enter Tryd.func3, Tryd.ntmps3
  go_wp2_with fail
  refine (awake_any w).mono ?_
  rintro e w0 ⟨rfl, hb0⟩
  go_wp2_with fail
  refine (Fits_any p t (by omega) (by omega) w0).mono ?_
  rintro e w1 ⟨rfl, hb1⟩
  go_wp2_with fail
  refine (rFits_any p t (by omega) (by omega) w1).mono ?_
  rintro e w2 ⟨rfl, hb2⟩
  go_wp2
  go_ret
  exact ⟨rfl, belOn (belOn hb0 hb0.size hb1) (Nat.le_trans hb0.size hb1.size) hb2⟩
end Go.Proofs.YtmanfakdbmlfeaaDoor
