
/- Stage 18: a text cut at its points, by the program. -/
import Derived.Test.YtmanfakdbmlfeaaDoorRWord
import Derived.Lib.IndexLaws
import Derived.Lib.Bytealg
import Derived.Lib.Split
import Derived.Lib.Walk
import Derived.Deep.LoopGhost
import Derived.Laws.Strings3
namespace Go.Proofs.YtmanfakdbmlfeaaDoor
open Go.RowKit
set_option linter.unusedVariables false
set_option linter.unusedSimpArgs false
def ix (s : ByteArray) : Int := Lib.indexByte s.data.toList 46
theorem ix_none {s : ByteArray} (h : ix s = -1) : pcs s = [s] := pcs_none s fun c hc e => by
  subst e
  obtain ⟨k, hk, hkc⟩ := List.mem_iff_getElem.1 hc
  exact Lib.indexByte_none h k (by rw [List.getElem?_eq_getElem hk, hkc])
theorem ix_hit {s : ByteArray} {o : Nat} (h : ix s = (o : Int)) : o < s.size ∧ pcs s = s.extract 0 o :: pcs (s.extract (o + 1) s.size) := by
  obtain ⟨h1, h2⟩ := Lib.indexByte_some h
  refine ⟨?_, pcs_hit s o h1 fun j c hj hc e => h2 j hj (by rw [hc, e])⟩
  have := (List.getElem?_eq_some_iff.1 h1).1
  rwa [Array.length_toList] at this
theorem ix_cases (s : ByteArray) : ix s = -1 ∨ ∃ o : Nat, ix s = (o : Int) := by
  have := Lib.indexByte_ge s.data.toList 46
  by_cases h : ix s = -1
  · exact .inl h
  · refine .inr ⟨(ix s).toNat, ?_⟩
    unfold ix at h ⊢
    omega
theorem pcs_one {s : ByteArray} (h : (pcs s).length ≤ 1) : pcs s = [s] := by
  rcases ix_cases s with hx | ⟨o, hx⟩
  · exact ix_none hx
  · rw [(ix_hit hx).2, List.length_cons] at h
    have := pcs_ne (s.extract (o + 1) s.size)
    exact absurd (List.eq_nil_of_length_eq_zero (by omega)) this
set_option maxHeartbeats 1000000 in
set_option maxRecDepth 100000 in
theorem indexByte_dot (s : ByteArray) (w : World) : Calls Tryd.prog 101 #[.string s, .int .u8 46] w fun e w' => e = .returned (.int .i64 (ix s)) ∧ w' = w := by
  go_enter Tryd.func101, Tryd.ntmps101
  go_wp2
  rw [run_callFunc_extern Tryd.func105 (by kernel_rfl) (by kernel_rfl) (by kernel_rfl) (e := Extern.BytealgIndexByte.indexByte) (by kernel_rfl), Lib.run_indexByteString]
  simp only [Result.andThen]
  rw [Oper.upon_value]
  go_wp2
  go_ret
  exact ⟨rfl, rfl⟩
set_option maxHeartbeats 1000000 in
set_option maxRecDepth 100000 in
theorem sIndex_dot (s : ByteArray) (w : World) : Calls Tryd.prog 99 #[.string s, .string ⟨#[46]⟩] w fun e w' => e = .returned (.int .i64 (ix s)) ∧ w' = w := by
  by_cases h : s = ⟨#[46]⟩
  · subst h
    go_enter Tryd.func99, Tryd.ntmps99
    go_wp2
    go_ret
    exact ⟨rfl, rfl⟩
  · have hb : (([46] : List UInt8) == s.toList) = false := by
      rw [beq_eq_false_iff_ne]
      intro e
      rw [Lib.toList_data] at e
      exact h (by rw [← bOf_data s, ← e]; rfl)
    go_enter Tryd.func99, Tryd.ntmps99
    go_wp2_with fail
    refine (indexByte_dot s w).mono ?_
    rintro e w' ⟨rfl, rfl⟩
    go_wp2
    go_ret
    exact ⟨rfl, rfl⟩
set_option maxHeartbeats 1000000 in
set_option maxRecDepth 100000 in
theorem index_dot (s : ByteArray) (w : World) : Calls Tryd.prog 93 #[.string s, .string ⟨#[46]⟩] w fun e w' => e = .returned (.int .i64 (ix s)) ∧ w' = w := by
  go_enter Tryd.func93, Tryd.ntmps93
  go_wp2_with fail
  refine (sIndex_dot s w).mono ?_
  rintro e w' ⟨rfl, rfl⟩
  go_wp2
  go_ret
  exact ⟨rfl, rfl⟩
end Go.Proofs.YtmanfakdbmlfeaaDoor
