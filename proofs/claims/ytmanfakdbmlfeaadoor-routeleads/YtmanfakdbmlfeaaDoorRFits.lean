
/- Stage 18: Fits. -/
import Derived.Test.YtmanfakdbmlfeaaDoorRFitC
import Derived.Lib.SliceRun
namespace Go.Proofs.YtmanfakdbmlfeaaDoor
open Go.RowKit
set_option linter.unusedVariables false
set_option linter.unusedSimpArgs false
theorem nil_yes (w : World) : (binOp .eql 39 (.slice none 0 0) (.slice none 0 0)).run Tryd.prog w = .ok (.bool true) w := by
  have := Lib.run_eql_slice_nil (P := Tryd.prog) w 39 9 none 0 0 0 0 Tryd.underlying39
  simpa using this
theorem nil_no (w : World) (a : Addr) (l c : Nat) : (binOp .eql 39 (.slice (some a) l c) (.slice none 0 0)).run Tryd.prog w = .ok (.bool false) w := by
  have := Lib.run_eql_slice_nil (P := Tryd.prog) w 39 9 (some a) l c 0 0 Tryd.underlying39
  simpa using this
def fitE (p t : ByteArray) : Int := if patB (pcs p) then (if topB (pcs t) then 0 else 82) else 180
theorem tl_of {w' : World} {g c : Nat} {l : List ByteArray} (hc : l.length ≤ c) (h9 : c ≤ 9) (ht : Tx w' g 0 l) : Tl w' (.slice (some ⟨g, 0, none⟩) l.length c) l := ⟨g, 0, c, rfl, hc, by unfold maxLen; omega, ht⟩
set_option maxHeartbeats 2000000 in
theorem Fits_any (p t : ByteArray) (hp : p.size ≤ 281474976710656) (ht : t.size ≤ 281474976710656) (w : World) : Calls Tryd.prog 9 #[.string p, .string t] w fun e w' => e = .returned (.tuple #[.bool (fitB p t), .int .i64 (fitE p t)]) ∧ Below w.heap.size w w' := by
  have n1 := nil_yes
  have n2 := nil_no
  go_enter Tryd.func9, Tryd.ntmps9
  go_wp2_with fail
  refine (patternOf_any p hp w).mono ?_
  rintro e w1 ⟨hb1, ⟨hk, rfl⟩ | ⟨hk, g, c, rfl, hg, hc, h9, hx⟩⟩
  · have HF : Hid (fitB p t = false ∧ fitE p t = 180) := by
      show fitB p t = false ∧ fitE p t = 180
      unfold fitB fitE
      rw [hk]
      exact ⟨rfl, rfl⟩
    have HB1 := hide hb1
    clear hk hb1
    go_wp2_with fail
    refine (topicOf_any t ht w1).mono ?_
    rintro e w2 ⟨hb2, ⟨hk2, rfl⟩ | ⟨hk2, g2, c2, rfl, hg2, hc2, h92, hx2⟩⟩
    · clear hk2
      go_wp2
      go_ret2
      exact ⟨by rw [HF.out.1, HF.out.2]; rfl, belOn HB1.out HB1.out.size hb2⟩
    · clear hk2 hx2
      go_wp2
      go_ret2
      exact ⟨by rw [HF.out.1, HF.out.2]; rfl, belOn HB1.out HB1.out.size hb2⟩
  · have HB1 := hide hb1
    have HX := hide hx
    have HK := hide hk
    clear hk hb1 hx
    go_wp2_with fail
    refine (topicOf_any t ht w1).mono ?_
    rintro e w2 ⟨hb2, ⟨hk2, rfl⟩ | ⟨hk2, g2, c2, rfl, hg2, hc2, h92, hx2⟩⟩
    · have HF : Hid (fitB p t = false ∧ fitE p t = 82) := by
        show fitB p t = false ∧ fitE p t = 82
        unfold fitB fitE
        rw [HK.out, hk2]
        exact ⟨rfl, rfl⟩
      clear hk2
      go_wp2
      go_ret2
      exact ⟨by rw [HF.out.1, HF.out.2]; rfl, belOn HB1.out HB1.out.size hb2⟩
    · have HF : Hid (fitB p t = fitP (pcs p) (pcs t) ∧ fitE p t = 0) := by
        show fitB p t = fitP (pcs p) (pcs t) ∧ fitE p t = 0
        unfold fitB fitE
        rw [HK.out, hk2]
        exact ⟨rfl, rfl⟩
      have HR := hide (fits_ok (pcs p) (pcs t) w2 _ _ ((tl_of hc h9 HX.out).keep hb2) (tl_of hc2 h92 hx2))
      have HB2 := hide hb2
      clear hk2 hx2 hb2
      go_wp2_with fail
      refine HR.out.mono ?_
      rintro e w3 ⟨rfl, hb3⟩
      go_wp2
      go_ret2
      exact ⟨by rw [HF.out.1, HF.out.2]; rfl, belOn (belOn HB1.out HB1.out.size HB2.out) (Nat.le_trans HB1.out.size HB2.out.size) hb3⟩
end Go.Proofs.YtmanfakdbmlfeaaDoor
