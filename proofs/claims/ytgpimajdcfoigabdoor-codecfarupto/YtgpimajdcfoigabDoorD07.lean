import Derived.Test.YtgpimajdcfoigabDoorD01
import Derived.Test.YtgpimajdcfoigabDoorD03
import Derived.Test.YtgpimajdcfoigabDoorD06
import Derived.Lib.LaidU8
import Derived.PinnedBridge

/- The three listed tables, out of the rows' condition. -/
namespace Go.Proofs.YtgpimajdcfoigabDoor
open Go.RowKit Go.Shelf Go.Lib
theorem xU : U8Extra Tryd.prog Tryd.lays260_ren := ⟨by kernel_rfl, by kernel_rfl, by kernel_rfl, by kernel_rfl, by kernel_rfl, by kernel_rfl, by kernel_rfl⟩
theorem accept_eq : (Rows.laid_unicode_utf8_acceptRanges : DataW Unit) = acceptData := by kernel_rfl
theorem first_eq : (Rows.laid_unicode_utf8_first : DataW Unit) = firstData := Pinned.utf8First_eq
theorem tabs_of {W : World} (hL : laidMetH Tryd.prog laidL W) : Lib.Utf8Tabs 1 2 W := by
  rw [MakeChecks.laidMetH_plain _ _ _ (by kernel_rfl)] at hL
  have h3 : VarReads Tryd.prog W _ firstData := first_eq ▸ Lib.laidMet.reads hL (.tail _ (.tail _ (.head _)))
  have h4 : VarReads Tryd.prog W _ acceptData := accept_eq ▸ Lib.laidMet.reads hL (.head _)
  exact utf8Tabs_of_reads Tryd.lays260 xU h3 h4
def sizedData : DataW Unit := .agg ((List.range 25).map fun k => .agg ([((codeS.getD k 0 : Nat) : Int), ((codeL.getD k 0 : Nat) : Int)].map fun z => .lit (.int .u8 z)))
theorem sized_eq : (Rows.laid_longshore_codec_sized : DataW Unit) = sizedData := by kernel_rfl
set_option maxRecDepth 100000 in
theorem sized_of {W : World} (hL : laidMetH Tryd.prog laidL W) : SzTab W := by
  rw [MakeChecks.laidMetH_plain _ _ _ (by kernel_rfl)] at hL
  have h : VarReads Tryd.prog W "longshore/codec.sized" sizedData := sized_eq ▸ Lib.laidMet.reads hL (.tail _ (.head _))
  obtain ⟨g, t, cs, fuel, p, hg, hty, hvar, hd⟩ := h
  obtain rfl : (0 : Nat) = g := Option.some.inj ((show Tryd.prog.globalNamed "longshore/codec.sized" = some 0 by kernel_rfl).symm.trans hg)
  intro k hk
  have e2 : Tryd.prog.cellsOf 73 = 2 := by kernel_rfl
  have e1 : Tryd.prog.cellsOf 5 = 1 := by kernel_rfl
  obtain rfl : 74 = t := Option.some.inj ((show (Tryd.prog.globals[0]?).map (·.type) = some 74 by kernel_rfl).symm.trans hty)
  obtain ⟨fuel', d, q, hdi, he⟩ := array_elem Tryd.underlying74 hd k hk
  simp only [List.getElem?_map, List.getElem?_range hk, Option.map_some, Option.some.injEq] at hdi
  subst hdi
  rw [e2] at he
  obtain ⟨f0, d0, q0, hd0, he0⟩ := array_elem Tryd.underlying73 he 0 (by omega)
  obtain ⟨f1, d1, q1, hd1, he1⟩ := array_elem Tryd.underlying73 he 1 (by omega)
  simp at hd0 hd1
  subst hd0 hd1
  rw [e1] at he0 he1
  obtain ⟨z0, hz0, hx0, _⟩ := DataW.trod_int Tryd.underlying5 he0
  obtain ⟨z1, hz1, hx1, _⟩ := DataW.trod_int Tryd.underlying5 he1
  cases hx0
  cases hx1
  have c0 := congrArg (·[0]?) hz0
  have c1 := congrArg (·[0]?) hz1
  simp only [List.getElem?_take, List.getElem?_drop] at c0 c1
  constructor
  · rw [World.var?_cell hg hvar (k * 2), ← Array.getElem?_toList]
    simpa [Nat.mul_comm] using c0
  · rw [World.var?_cell hg hvar (k * 2 + 1), ← Array.getElem?_toList]
    simpa [Nat.mul_comm] using c1
end Go.Proofs.YtgpimajdcfoigabDoor
