
/- RouteLeads: led of no bindings. -/
import Derived.Test.YtmanfakdbmlfeaaDoorRLed
namespace Go.Proofs.YtmanfakdbmlfeaaDoor
open Go.RowKit Go.Maps
set_option linter.unusedVariables false
set_option linter.unusedSimpArgs false
set_option maxRecDepth 100000 in
set_option maxHeartbeats 4000000 in
theorem led_none (a b : Option Addr) (c c' : Nat) (t d : ByteArray) (w : World) :
    Calls Tryd.prog 20 #[.slice a 0 c, .slice b 0 c', .string t, .string d] w fun e w' => e = .returned (.bool true) ∧ Below w.heap.size w w' := by
  go_enter Tryd.func20, Tryd.ntmps20
  go_wp2
  go_rounds 1
  go_wp2
  go_rounds 1
  go_wp2
  go_ret
  exact ⟨rfl, Below.refl _ _⟩
theorem led_any (W : List Bd) (M : List ByteArray) (t d : ByteArray) (base : Nat) (v vm : Value) (w : World) (hM : Wy SK w base vm M) (hW : Wy BK w base v W) (hL : LdB W M t d) (ht : t.size ≤ 281474976710656) (hn : W.length ≤ 4096) (hm : M.length ≤ 4096) :
    Calls Tryd.prog 20 #[v, vm, .string t, .string d] w fun e w' => e = .returned (.bool true) ∧ Below w.heap.size w w' := by
  by_cases hne : W = []
  · subst hne
    have hM0 : M = [] := by
      cases M with
      | nil => rfl
      | cons x M =>
        obtain ⟨j, b, h, _⟩ := hL.way 0 x rfl
        simp at h
    subst hM0
    obtain ⟨a, c, rfl⟩ := hW.shape
    obtain ⟨b, c', rfl⟩ := hM.shape
    exact led_none a b c c' t d w
  · exact led_some W M t d base v vm w hM hW hL ht hn hm hne
end Go.Proofs.YtmanfakdbmlfeaaDoor
