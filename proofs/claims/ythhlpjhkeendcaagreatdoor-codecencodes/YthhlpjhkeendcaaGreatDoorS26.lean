/- CTabs -/
import Derived.Test.YthhlpjhkeendcaaGreatDoorS04
import Derived.Test.YthhlpjhkeendcaaGreatDoorS23
import Derived.Test.YthhlpjhkeendcaaGreatDoorS09
import Derived.Lib.LaidU8
import Derived.PinnedBridge
namespace Go.Proofs.YthhlpjhkeendcaaGreatDoor
open Go.RowKit Go.Shelf Go.Lib
theorem xU : U8Extra Tryz.prog Tryz.lays260_ren := ⟨by kernel_rfl, by kernel_rfl, by kernel_rfl, by kernel_rfl, by kernel_rfl, by kernel_rfl, by kernel_rfl⟩
theorem accept_eq : (Rows.laid_unicode_utf8_acceptRanges : DataW Unit) = acceptData := by kernel_rfl
theorem first_eq : (Rows.laid_unicode_utf8_first : DataW Unit) = firstData := Pinned.utf8First_eq
theorem tabs_of {W : World} (hL : laidMetH Tryz.prog laidL W) : Lib.Utf8Tabs 1 2 W := by
  rw [MakeChecks.laidMetH_plain _ _ _ (by kernel_rfl)] at hL
  have h3 : VarReads Tryz.prog W _ firstData := first_eq ▸ Lib.laidMet.reads hL (.tail _ (.tail _ (.head _)))
  have h4 : VarReads Tryz.prog W _ acceptData := accept_eq ▸ Lib.laidMet.reads hL (.head _)
  exact utf8Tabs_of_reads Tryz.lays260 xU h3 h4
def sizedData : DataW Unit := .agg ((List.range 25).map fun k => .agg ([((codeS.getD k 0 : Nat) : Int), ((codeL.getD k 0 : Nat) : Int)].map fun z => .lit (.int .u8 z)))
theorem sized_eq : (Rows.laid_longshore_codec_sized : DataW Unit) = sizedData := by kernel_rfl
set_option maxRecDepth 100000 in
theorem sized_of {W : World} (hL : laidMetH Tryz.prog laidL W) : SzTab W := by
  rw [MakeChecks.laidMetH_plain _ _ _ (by kernel_rfl)] at hL
  have h : VarReads Tryz.prog W "longshore/codec.sized" sizedData := sized_eq ▸ Lib.laidMet.reads hL (.tail _ (.head _))
  obtain ⟨g, t, cs, fuel, p, hg, hty, hvar, hd⟩ := h
  obtain rfl : (0 : Nat) = g := Option.some.inj ((show Tryz.prog.globalNamed "longshore/codec.sized" = some 0 by kernel_rfl).symm.trans hg)
  intro k hk
  have e2 : Tryz.prog.cellsOf 96 = 2 := by kernel_rfl
  have e1 : Tryz.prog.cellsOf 5 = 1 := by kernel_rfl
  obtain rfl : 97 = t := Option.some.inj ((show (Tryz.prog.globals[0]?).map (·.type) = some 97 by kernel_rfl).symm.trans hty)
  obtain ⟨fuel', d, q, hdi, he⟩ := array_elem Tryz.underlying97 hd k hk
  simp only [List.getElem?_map, List.getElem?_range hk, Option.map_some, Option.some.injEq] at hdi
  subst hdi
  rw [e2] at he
  obtain ⟨f0, d0, q0, hd0, he0⟩ := array_elem Tryz.underlying96 he 0 (by omega)
  obtain ⟨f1, d1, q1, hd1, he1⟩ := array_elem Tryz.underlying96 he 1 (by omega)
  simp at hd0 hd1
  subst hd0 hd1
  rw [e1] at he0 he1
  obtain ⟨z0, hz0, hx0, _⟩ := DataW.trod_int Tryz.underlying5 he0
  obtain ⟨z1, hz1, hx1, _⟩ := DataW.trod_int Tryz.underlying5 he1
  cases hx0
  cases hx1
  have c0 := congrArg (·[0]?) hz0
  have c1 := congrArg (·[0]?) hz1
  simp only [List.getElem?_take, List.getElem?_drop] at c0 c1
  constructor
  · rw [World.var?_cell hg hvar (k * 2), ← Array.getElem?_toList]
    simpa [Nat.mul_comm] using c0
  · rw [World.var?_cell hg hvar (k * 2 + 1), ← Array.getElem?_toList]
    simpa [Nat.mul_comm] using c1
end Go.Proofs.YthhlpjhkeendcaaGreatDoor
