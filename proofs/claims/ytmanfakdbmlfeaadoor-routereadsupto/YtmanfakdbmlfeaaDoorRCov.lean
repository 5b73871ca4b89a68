
/- Stage 18: Covers. -/
import Derived.Test.YtmanfakdbmlfeaaDoorRAllB
namespace Go.Proofs.YtmanfakdbmlfeaaDoor
open Go.RowKit
set_option linter.unusedVariables false
set_option linter.unusedSimpArgs false
def covR (a b : ByteArray) : Bool := patB (pcs a) && patB (pcs b) && faB (pcs a) [] (pcs b)
def covE (a b : ByteArray) : Int := if patB (pcs a) && patB (pcs b) then 0 else 180
set_option maxHeartbeats 2000000 in
theorem Covers_any (p t : ByteArray) (hp : p.size ≤ 281474976710656) (ht : t.size ≤ 281474976710656) (w : World) : Calls Tryd.prog 11 #[.string p, .string t] w fun e w' => e = .returned (.tuple #[.bool (covR p t), .int .i64 (covE p t)]) ∧ Below w.heap.size w w' := by
  have n1 := nil_yes
  have n2 := nil_no
  go_enter Tryd.func11, Tryd.ntmps11
  go_wp2_with fail
  refine (patternOf_any p hp w).mono ?_
  rintro e w1 ⟨hb1, ⟨hk, rfl⟩ | ⟨hk, g, c, rfl, hg, hc, h9, hx⟩⟩
  · have HF : Hid (covR p t = false ∧ covE p t = 180) := by
      show covR p t = false ∧ covE p t = 180
      unfold covR covE
      rw [hk]
      exact ⟨rfl, rfl⟩
    have HB1 := hide hb1
    clear hk hb1
    go_wp2_with fail
    refine (patternOf_any t ht w1).mono ?_
    rintro e w2 ⟨hb2, ⟨hk2, rfl⟩ | ⟨hk2, g2, c2, rfl, hg2, hc2, h92, hx2⟩⟩
    · clear hk2
      go_wp2
      go_ret2
      exact ⟨by rw [HF.out.1, HF.out.2]; rfl, belOn HB1.out HB1.out.size hb2⟩
    · clear hk2 hx2
      go_wp2
      go_ret2
      exact ⟨by rw [HF.out.1, HF.out.2]; rfl, belOn HB1.out HB1.out.size hb2⟩
  · have HB1 := hide hb1
    have HX := hide hx
    have HK := hide hk
    clear hk hb1 hx
    go_wp2_with fail
    refine (patternOf_any t ht w1).mono ?_
    rintro e w2 ⟨hb2, ⟨hk2, rfl⟩ | ⟨hk2, g2, c2, rfl, hg2, hc2, h92, hx2⟩⟩
    · have HF : Hid (covR p t = false ∧ covE p t = 180) := by
        show covR p t = false ∧ covE p t = 180
        unfold covR covE
        rw [HK.out, hk2]
        exact ⟨rfl, rfl⟩
      clear hk2
      go_wp2
      go_ret2
      exact ⟨by rw [HF.out.1, HF.out.2]; rfl, belOn HB1.out HB1.out.size hb2⟩
    · have HF : Hid (covR p t = faB (pcs p) [] (pcs t) ∧ covE p t = 0) := by
        show covR p t = faB (pcs p) [] (pcs t) ∧ covE p t = 0
        unfold covR covE
        rw [HK.out, hk2]
        exact ⟨rfl, rfl⟩
      have hx1 := HX.out.keep hb2 HX.out.1
      have HR := hide (fa_ok (pcs p) (pcs t) w2 w2.heap.size _ (.slice none 0 0) _ (Nat.le_refl _) ⟨g, 0, c, rfl, hc, by unfold maxLen; omega, hx1.1, hx1⟩ (.inl ⟨rfl, rfl⟩) ⟨g2, 0, c2, rfl, hc2, by unfold maxLen; omega, hx2.1, hx2⟩)
      have HB2 := hide hb2
      clear hk2 hx2 hb2 hx1
      go_wp2_with fail
      refine HR.out.mono ?_
      rintro e w3 ⟨rfl, hu3, hk3⟩
      have HB3 : Hid (Below w2.heap.size w2 w3) := hk3.toBelow (Nat.le_refl _) (fun k _ e => by cases e)
      clear hu3 hk3
      go_wp2
      go_ret2
      exact ⟨by rw [HF.out.1, HF.out.2]; rfl, belOn (belOn HB1.out HB1.out.size HB2.out) (Nat.le_trans HB1.out.size HB2.out.size) HB3.out⟩
end Go.Proofs.YtmanfakdbmlfeaaDoor
