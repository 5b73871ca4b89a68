
/- Stage 19: an act; room. -/
import Derived.Test.YtgkdecjlanbmhaaDFallW
namespace Go.Proofs.Ytgkdecjlanbmhaa
open Go.RowKit Go.Maps
set_option linter.unusedVariables false
set_option linter.unusedSimpArgs false
/-- what a disk may be -/
structure DOk (x : Dx) (F : List Fi) : Prop where
  used : x.used = (usd F : Int)
  room : (usd F : Int) ≤ x.room
  most : x.room ≤ 16777216
  safe : ∀ f ∈ F, f.2.2 ≤ f.2.1.length
  left0 : -1 ≤ x.left
  left1 : x.left < 9223372036854775808
  keep0 : -9223372036854775808 ≤ x.keep
  keep1 : x.keep < 9223372036854775808
theorem DOk.usd_le {x : Dx} {F : List Fi} (h : DOk x F) : usd F ≤ 16777216 := by have := h.room; have := h.most; omega
/-- a disk behind an act: it stands, or it has fallen -/
def actX (x : Dx) (F : List Fi) : Dx := if x.left = -1 then x else if x.left = 0 then { x with down := true, left := -1, used := (usd (F.map (fl x.keep)) : Int) } else { x with left := x.left - 1 }
def actF (x : Dx) (F : List Fi) : List Fi := if x.left = 0 then F.map (fl x.keep) else F
def actE (x : Dx) : Int := if x.left = 0 then 3 else 0
/-- what an act is -/
def Acts (S : Nat → Prop) (w : World) (d : Nat) (x : Dx) (F : List Fi) (w' : World) : Prop := Dsk (Sx S w w') w' d (actX x F) (actF x F) ∧ Kp S w w'
theorem Sx.of {S : Nat → Prop} {w w' : World} {k : Nat} (h : S k) : Sx S w w' k := .inl h
theorem DkS.dsk {S : Nat → Prop} {w : World} {d m : Nat} {x : Dx} {E : List En} (h : DkS S w d m x E) : Dsk S w d x (E.map En.f) := ⟨m, E, rfl, h⟩
theorem map_id' {α : Type} (l : List α) : l.map id = l := List.map_id l
set_option maxHeartbeats 2000000 in
theorem act_any (S : Nat → Prop) (w : World) (d : Nat) (x : Dx) (F : List Fi) (hD : Dsk S w d x F) (hS : ∀ k, S k → k < w.heap.size) (hO : DOk x F) :
    Calls Try.prog 58 #[.pointer (some ⟨d, 0, none⟩)] w fun e w' => e = .returned (.int .i64 (actE x)) ∧ Acts S w d x F w' := by
  obtain ⟨m, E, rfl, hD⟩ := hD
  have HD := hide hD
  have c6 : w.cell? ⟨d, 6, none⟩ = some (.int .i64 x.left) := hD.cell 6 _ rfl
  have c7 : w.cell? ⟨d, 7, none⟩ = some (.int .i64 x.keep) := hD.cell 7 _ rfl
  have f6 : w.frozen? ⟨d, 6, none⟩ = false := hD.frozen 6
  have HS := hide hS
  have HO := hide hO
  clear hD hS hO
  rcases (show x.left = -1 ∨ x.left = 0 ∨ (x.left ≠ -1 ∧ x.left ≠ 0) by omega) with h1 | h1 | ⟨h1, h2⟩
  · have ha : actX x (E.map En.f) = x := if_pos h1
    have hb : actF x (E.map En.f) = E.map En.f := if_neg (by omega)
    have hc : actE x = 0 := if_neg (by omega)
    have HQ : Hid (Acts S w d x (E.map En.f) w) := by
      refine ⟨?_, Kp.refl _ _⟩
      rw [ha, hb]
      exact (HD.out.mono fun k hk => Sx.of hk).dsk
    rw [hc]
    rw [h1] at c6
    clear ha hb hc h1
    go_enter Try.func58, Try.ntmps58
    go_wp2
    go_ret
    exact ⟨rfl, HQ.out⟩
  · have ha : actX x (E.map En.f) = { x with down := true, left := -1, used := (usd ((E.map En.f).map (fl x.keep)) : Int) } := by unfold actX; rw [if_neg (by omega), if_pos h1]
    have hb : actF x (E.map En.f) = (E.map En.f).map (fl x.keep) := if_pos h1
    have hc : actE x = 3 := if_pos h1
    have HC : Hid (Calls Try.prog 63 #[.pointer (some ⟨d, 0, none⟩), .int .i64 x.keep] w fun e w' => e = .returned (.tuple #[]) ∧ Acts S w d x (E.map En.f) w') := by
      refine (dfall_any S w d m x E x.keep HD.out HS.out ⟨HO.out.keep0, HO.out.keep1⟩ (fun e he => HO.out.safe _ (List.mem_map_of_mem he)) HO.out.usd_le).mono ?_
      rintro e w' ⟨rfl, h2, h3⟩
      refine ⟨rfl, ?_, h3⟩
      rw [ha, hb]
      exact h2
    rw [hc]
    rw [h1] at c6
    clear ha hb hc h1
    go_enter Try.func58, Try.ntmps58
    go_wp2_with fail
    refine HC.out.mono ?_
    rintro e w1 ⟨rfl, hA⟩
    have HA := hide hA
    clear hA
    go_wp2
    go_ret
    exact ⟨rfl, HA.out⟩
  · have ha : actX x (E.map En.f) = { x with left := x.left - 1 } := by unfold actX; rw [if_neg h1, if_neg h2]
    have hb : actF x (E.map En.f) = E.map En.f := if_neg h2
    have hc : actE x = 0 := if_neg h2
    have hw1 : IntKind.i64.wrap (x.left - 1) = x.left - 1 := by have := HO.out.left0; have := HO.out.left1; rw [IntKind.wrap_i64]; omega
    have HQ : Hid (Acts S w d x (E.map En.f) (w.setCell ⟨d, 6, none⟩ (.int .i64 (x.left - 1)))) := by
      refine ⟨?_, (Kp.refl S w).setCell HD.out.sd _⟩
      rw [ha, hb]
      exact ((HD.out.setx 6 (.int .i64 (x.left - 1)) { x with left := x.left - 1 } rfl).mono fun k hk => Sx.of hk).dsk
    rw [hc]
    clear ha hb hc
    go_enter Try.func58, Try.ntmps58
    go_wp2
    go_ret
    exact ⟨rfl, HQ.out⟩
set_option maxHeartbeats 2000000 in
theorem hasRoom_any (S : Nat → Prop) (w : World) (d : Nat) (x : Dx) (F : List Fi) (hD : Dsk S w d x F) (hO : DOk x F) (a : Option Addr) (n c : Nat) :
    Calls Try.prog 52 #[.pointer (some ⟨d, 0, none⟩), .slice a n c] w fun e w' => e = .returned (.bool (decide ((n : Int) ≤ x.room - x.used))) ∧ Below w.heap.size w w' := by
  obtain ⟨m, E, rfl, hD⟩ := hD
  have c3 : w.cell? ⟨d, 3, none⟩ = some (.int .i64 x.room) := hD.cell 3 _ rfl
  have c4 : w.cell? ⟨d, 4, none⟩ = some (.int .i64 x.used) := hD.cell 4 _ rfl
  have hw1 : IntKind.i64.wrap (x.room - x.used) = x.room - x.used := by have := hO.used; have := hO.room; have := hO.most; rw [IntKind.wrap_i64]; omega
  clear hD hO
  go_enter Try.func52, Try.ntmps52
  go_wp2_with fail
  go_region_held (fun W => W.cell? ⟨d, 3, none⟩ = some (.int .i64 x.room) ∧ W.cell? ⟨d, 4, none⟩ = some (.int .i64 x.used)) (exact ⟨c3, c4⟩) (fail)
  go_wp2
  go_ret
  exact ⟨by simp, by first | exact Below.refl _ _ | exact Below.drew (Below.refl _ _)⟩
end Go.Proofs.Ytgkdecjlanbmhaa
