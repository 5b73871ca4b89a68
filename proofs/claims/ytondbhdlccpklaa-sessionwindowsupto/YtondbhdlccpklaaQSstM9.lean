import Derived.Test.YtondbhdlccpklaaQRefNM9

/- Stage 13: sameState. -/
namespace Go.Proofs.Ytondbhdlccpklaa
open Go.RowKit Go.Maps
set_option linter.unusedVariables false
set_option linter.unusedSimpArgs false

set_option maxRecDepth 100000 in
set_option maxHeartbeats 4000000 in
theorem sameState_any (g g' : Nat) (s : Sn) (S C : List (Int × Pd)) (vh vr : Value) (a b : Option Addr) (cS cA : Nat) (w : World) (hS : SB w g s) (hs : TbP w s.bs S) (hc : TbP w s.bc C) (hR : RB w g' s vh vr (.slice a S.length cS) (.slice b C.length cA)) :
    Calls Try.prog 13 #[.pointer (some ⟨g, 0, none⟩), .pointer (some ⟨g', 0, none⟩)] w fun e w' => e = .returned (.bool true) ∧ Below w.heap.size w w' := by
  have H1 := hide (state_any g s S C w hS hs hc)
  have HR := hide hR
  unfold Sn.st at H1
  clear hS hs hc hR
  go_enter Try.func13, Try.ntmps13
  go_wp2_with fail
  refine H1.out.mono ?_
  rintro e1 w1 ⟨rfl, b1⟩
  have HR1 : RB (w1.alloc (.cells #[.bool s.peer, .int .i64 s.no, .int .i64 s.ow, .int .i64 s.ni, .int .i64 s.iw, .int .i64 s.ri, .int .i64 s.ro, .int .i64 s.nd, .int .i64 (S.length : Int), .int .i64 (C.length : Int), .int .i64 s.hm, .int .i64 s.rh] 66)) g' s vh vr (.slice a S.length cS) (.slice b C.length cA) := (HR.out.at (b1.block _ HR.out.lt)).alloc _
  have H2 := hide (rstate_any g' s vh vr a b S.length C.length cS cA _ HR1)
  unfold Sn.st at H2
  have HB1 := hide b1
  clear b1 HR1
  go_wp2_with fail
  refine H2.out.mono ?_
  rintro e2 w2 ⟨rfl, b2⟩
  have hn : w2.heap[w1.heap.size]? = some (.cells #[.bool s.peer, .int .i64 s.no, .int .i64 s.ow, .int .i64 s.ni, .int .i64 s.iw, .int .i64 s.ri, .int .i64 s.ro, .int .i64 s.nd, .int .i64 (S.length : Int), .int .i64 (C.length : Int), .int .i64 s.hm, .int .i64 s.rh] 66 (0, 0)) := (b2.block _ (by simp)).trans (heap_alloc_last _ _)
  have hlt := (Array.getElem?_eq_some_iff.1 hn).1
  have c0 := cellOf hn 0 _ rfl
  have c1 := cellOf hn 1 _ rfl
  have c2 := cellOf hn 2 _ rfl
  have c3 := cellOf hn 3 _ rfl
  have c4 := cellOf hn 4 _ rfl
  have c5 := cellOf hn 5 _ rfl
  have c6 := cellOf hn 6 _ rfl
  have c7 := cellOf hn 7 _ rfl
  have c8 := cellOf hn 8 _ rfl
  have c9 := cellOf hn 9 _ rfl
  have c10 := cellOf hn 10 _ rfl
  have c11 := cellOf hn 11 _ rfl
  have HB2 : Hid (Below w.heap.size w w2) := belOn (bel1 HB1.out HB1.out.size _) (by have := HB1.out.size; simp; omega) b2
  clear hn b2
  go_wp2
  go_ret
  exact ⟨rfl, bel1 HB2.out HB2.out.size _⟩
end Go.Proofs.Ytondbhdlccpklaa
