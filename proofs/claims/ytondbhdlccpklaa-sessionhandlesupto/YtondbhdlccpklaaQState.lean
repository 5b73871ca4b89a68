
/- Stage 13: State. -/
import Derived.Test.YtondbhdlccpklaaQLive
import Derived.Deep.RegionHeldLaw
namespace Go.Proofs.Ytondbhdlccpklaa
open Go.RowKit Go.Maps
set_option linter.unusedVariables false
set_option linter.unusedSimpArgs false

theorem bel2d (w : World) (o p : Obj) : Below w.heap.size w (((w.alloc o).alloc p).drew) := (bel1 (bel1 (Below.refl _ _) (Nat.le_refl _) o) (by simp) p).trans ((bel_drew _).mono (by simp; omega))
/-- a session's state, as it is told -/
def Sn.st (s : Sn) (nS nC : Nat) : Array Value := #[.bool s.peer, .int .i64 s.no, .int .i64 s.ow, .int .i64 s.ni, .int .i64 s.iw, .int .i64 s.ri, .int .i64 s.ro, .int .i64 s.nd, .int .i64 (nS : Int), .int .i64 (nC : Int), .int .i64 s.hm, .int .i64 s.rh]
theorem lenE {w : World} {b : Nat} {l : List (Int × Pd)} (h : TbP w b l) (ty : TypeId) : (Builtin.len_ #[90] ty #[.map (some b)]).run Try.prog w = .ok (.int .i64 (l.length : Int)) w := by
  obtain ⟨D, h1, h2⟩ := h
  have := h1.len Try.underlying90 ty
  rw [h2.size] at this
  exact this
def StS (g : Nat) (s : Sn) (S C : List (Int × Pd)) (W : World) : Prop := SB W g s ∧ TbP W s.bs S ∧ TbP W s.bc C ∧ W.cell? ⟨g, 15, none⟩ = some (.map (some s.bs)) ∧ W.cell? ⟨g, 16, none⟩ = some (.map (some s.bc)) ∧
  (∀ ty, (Builtin.len_ #[90] ty #[.map (some s.bs)]).run Try.prog W = .ok (.int .i64 (S.length : Int)) W) ∧ (∀ ty, (Builtin.len_ #[90] ty #[.map (some s.bc)]).run Try.prog W = .ok (.int .i64 (C.length : Int)) W)
theorem StS.mk {g : Nat} {s : Sn} {S C : List (Int × Pd)} {W : World} (h1 : SB W g s) (h2 : TbP W s.bs S) (h3 : TbP W s.bc C) : StS g s S C W := by
  obtain ⟨s0, s1, s2, s3, s4, s5, s6, s7, s8, s9, s10, s11, s12, s13, s14, s15, s16⟩ := h1.facts
  exact ⟨h1, h2, h3, s15, s16, lenE h2, lenE h3⟩
theorem StS.set {g : Nat} {s : Sn} {S C : List (Int × Pd)} {W : World} (h : StS g s S C W) {N o : Nat} {cs : Array Value} {t : TypeId} {fr : Nat × Nat} (hc : W.heap[N]? = some (.cells cs t fr)) (hN : N ≠ g) (v : Value) : StS g s S C (W.setCell ⟨N, o, none⟩ v) := by
  obtain ⟨h1, h2, h3, _⟩ := h
  exact StS.mk (h1.setOther hN v) (h2.at (blk_set_other _ _ _ _ (h2.ne hc))) (h3.at (blk_set_other _ _ _ _ (h3.ne hc)))
set_option maxRecDepth 100000 in
set_option maxHeartbeats 2000000 in
theorem state_any (g : Nat) (s : Sn) (S C : List (Int × Pd)) (w : World) (hS : SB w g s) (hs : TbP w s.bs S) (hc : TbP w s.bc C) :
    Calls Try.prog 25 #[.pointer (some ⟨g, 0, none⟩)] w fun e w' => e = .returned (.agg (s.st S.length C.length)) ∧ Below w.heap.size w w' := by
  obtain ⟨s0, s1, s2, s3, s4, s5, s6, s7, s8, s9, s10, s11, s12, s13, s14, s15, s16⟩ := hS.facts
  have hl := hS.lt
  have HS := hide hS
  have HT := hide hs
  have HC := hide hc
  clear hS hs hc
  go_enter Try.func25, Try.ntmps25
  go_wp2
  go_region_held (fun W => SB W g s ∧ TbP W s.bs S ∧ TbP W s.bc C ∧ W.cell? ⟨g, 15, none⟩ = some (.map (some s.bs)) ∧ W.cell? ⟨g, 16, none⟩ = some (.map (some s.bc)) ∧ (∀ ty, (Builtin.len_ #[90] ty #[.map (some s.bs)]).run Try.prog W = .ok (.int .i64 (S.length : Int)) W) ∧ (∀ ty, (Builtin.len_ #[90] ty #[.map (some s.bc)]).run Try.prog W = .ok (.int .i64 (C.length : Int)) W)) (exact StS.mk (((HS.out.alloc _).alloc _).at rfl) (((HT.out.alloc _).alloc _).at rfl) (((HC.out.alloc _).alloc _).at rfl)) (fail)
  all_goals
    go_wp2
    exact bodyPost_ret (v := .agg (s.st S.length C.length)) (results_cell_row Try.results25 _ _ w.heap.size 66 (s.st S.length C.length) (0, 0) _ rfl (heap_past (heap_alloc_last w _) _) Try.underlying66 rfl (by kernel_rfl)) rfl ⟨rfl, bel2d w _ _⟩
end Go.Proofs.Ytondbhdlccpklaa
