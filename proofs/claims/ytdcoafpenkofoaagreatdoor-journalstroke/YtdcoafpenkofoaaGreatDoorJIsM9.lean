import Derived.Test.YtdcoafpenkofoaaGreatDoorJFstM9
import Derived.WalkKit
import Derived.LaidEql
import Derived.Stop.Asserts
import Derived.RowKitTokens

/- Stage 20: errors.Is, asked for a number. -/
namespace Go.Proofs.YtdcoafpenkofoaaGreatDoor
open Go.RowKit Go.Extern.Stop Go.Stop Go.Extern
set_option linter.unusedVariables false
theorem is_typeOf (v : Value) (w : World) : (Extern.ReflectliteType.typeOf #[.iface 82 v]).run Tryz.prog w = .ok (.iface 187 (.agg #[.pointer (some ⟨2, 82, none⟩)])) w := by kernel_rfl
def cmpFn : Array Value → Sem Value := Extern.ReflectliteType.method fun t => do Extern.Rtype.noPackHeld "Comparable" t; pure (.bool (← typeInfo t).comparable)
theorem is_comparable (w : World) : (cmpFn #[.agg #[.pointer (some ⟨2, 82, none⟩)]]).run Tryz.prog w = .ok (.bool true) w := by kernel_rfl
theorem is_methodComparable (v : Value) (w : World) : (Go.method 188 187 v "Comparable").run Tryz.prog w = .ok (217, v) w := by kernel_rfl
theorem is_compN : (Tryz.prog.info? 82).map (·.comparable) = some true := by kernel_rfl
theorem noIsN (v : Value) (xT : TypeId) (w : World) : (Instr.typeAssert (.iface 82 v) xT 189 true).run Tryz.prog w = .ok (.tuple #[.nilIface, .bool false]) w := run_typeAssert_lacksB Tryz.underlying189 (by kernel_rfl) (by kernel_rfl) v xT w
theorem noUnN (v : Value) (xT : TypeId) (w : World) : (Instr.typeAssert (.iface 82 v) xT 192 true).run Tryz.prog w = .ok (.tuple #[.nilIface, .bool false]) w := run_typeAssert_lacksB Tryz.underlying192 (by kernel_rfl) (by kernel_rfl) v xT w
theorem noUsN (v : Value) (xT : TypeId) (w : World) : (Instr.typeAssert (.iface 82 v) xT 193 true).run Tryz.prog w = .ok (.tuple #[.nilIface, .bool false]) w := run_typeAssert_lacksB Tryz.underlying193 (by kernel_rfl) (by kernel_rfl) v xT w
theorem noIsE (v : Value) (xT : TypeId) (w : World) : (Instr.typeAssert (.iface 255 v) xT 189 true).run Tryz.prog w = .ok (.tuple #[.nilIface, .bool false]) w := run_typeAssert_lacksB Tryz.underlying189 (by kernel_rfl) (by kernel_rfl) v xT w
theorem noUnE (v : Value) (xT : TypeId) (w : World) : (Instr.typeAssert (.iface 255 v) xT 192 true).run Tryz.prog w = .ok (.tuple #[.nilIface, .bool false]) w := run_typeAssert_lacksB Tryz.underlying192 (by kernel_rfl) (by kernel_rfl) v xT w
theorem noUsE (v : Value) (xT : TypeId) (w : World) : (Instr.typeAssert (.iface 255 v) xT 193 true).run Tryz.prog w = .ok (.tuple #[.nilIface, .bool false]) w := run_typeAssert_lacksB Tryz.underlying193 (by kernel_rfl) (by kernel_rfl) v xT w
theorem noIsF (v : Value) (xT : TypeId) (w : World) : (Instr.typeAssert (.iface 130 v) xT 189 true).run Tryz.prog w = .ok (.tuple #[.nilIface, .bool false]) w := run_typeAssert_lacksB Tryz.underlying189 (by kernel_rfl) (by kernel_rfl) v xT w
theorem hasUnF (v : Value) (xT : TypeId) (w : World) : (Instr.typeAssert (.iface 130 v) xT 192 true).run Tryz.prog w = .ok (.tuple #[.iface 130 v, .bool true]) w := run_typeAssert_hasB Tryz.underlying192 (by kernel_rfl) v xT w
theorem methodUnF (v : Value) (w : World) : (Go.method 188 130 v "Unwrap").run Tryz.prog w = .ok (211, v) w := by kernel_rfl
theorem eqlN (n m : Int) (w : World) : (binOp .eql 78 (.iface 82 (.int .i64 n)) (.iface 82 (.int .i64 m))).run Tryz.prog w = .ok (.bool (decide (n = m))) w := by
  obtain ⟨i, hi, hcmp⟩ := Option.map_eq_some_iff.1 is_compN
  have h : ∀ d : Nat, (Op.equalIn (d + 2) 78 (.iface 82 (.int .i64 n)) (.iface 82 (.int .i64 m))).run Tryz.prog w = .ok (decide (n = m)) w := fun d => by
    simp [Op.equalIn, run_underlying Tryz.underlying78, run_underlying Tryz.underlying82, typeInfo, hi, hcmp]
    rfl
  simp only [binOp]
  simp [Op.equal, Op.maxDepth, h 9998]
theorem isN_facts : True := trivial
theorem is_nil (m : Int) (w : World) : Calls Tryz.prog 38 #[.nilIface, nB m] w fun e w' => e = .returned (.bool false) ∧ w' = w := by
  have hn := run_eql_iface_nil_left (P := Tryz.prog) w 82 (.int .i64 m) Tryz.underlying78
  unfold nB
  go_enter Tryz.func38, Tryz.ntmps38
  go_wp2
  go_ret
  exact ⟨rfl, rfl⟩
theorem is_num (n m : Int) (w : World) : Calls Tryz.prog 38 #[nB n, nB m] w fun e w' => e = .returned (.bool (decide (n = m))) ∧ w' = w := by
  have h8 := @run_callFunc_extern Tryz.prog 79 _ Extern.ReflectliteType.typeOf Tryz.func79 (by kernel_rfl) (by kernel_rfl) (by kernel_rfl) (by kernel_rfl)
  have h32 := @run_callFunc_extern Tryz.prog 217 _ cmpFn Tryz.func217 (by kernel_rfl) (by kernel_rfl) (by kernel_rfl) (by kernel_rfl)
  have tT := is_typeOf
  have cT := is_comparable
  have mR := is_methodComparable
  have nE := noIsN
  have uE := noUnN
  have vE := noUsN
  have heq := eqlN n m
  unfold nB
  by_cases h : n = m
  · rw [decide_eq_true h] at heq ⊢
    clear h
    go_enter Tryz.func38, Tryz.ntmps38
    go_wp2
    refine wp_loop_rounds 1 ?_
    rw [rounds_succ]
    go_wp2
    go_ret
    exact ⟨rfl, rfl⟩
  · rw [decide_eq_false h] at heq ⊢
    clear h
    go_enter Tryz.func38, Tryz.ntmps38
    go_wp2
    refine wp_loop_rounds 1 ?_
    rw [rounds_succ]
    go_wp2
    go_ret
    exact ⟨rfl, rfl⟩
theorem is_fltN (p : Nat) (n m : Int) (w : World) (hw : w.cell? ⟨p, 1, none⟩ = some (nB n)) : Calls Tryz.prog 38 #[.iface 130 (.pointer (some ⟨p, 0, none⟩)), nB m] w fun e w' => e = .returned (.bool (decide (n = m))) ∧ w' = w := by
  have h8 := @run_callFunc_extern Tryz.prog 79 _ Extern.ReflectliteType.typeOf Tryz.func79 (by kernel_rfl) (by kernel_rfl) (by kernel_rfl) (by kernel_rfl)
  have h32 := @run_callFunc_extern Tryz.prog 217 _ cmpFn Tryz.func217 (by kernel_rfl) (by kernel_rfl) (by kernel_rfl) (by kernel_rfl)
  have tT := is_typeOf
  have cT := is_comparable
  have mR := is_methodComparable
  have nE := noIsN
  have uE := noUnN
  have vE := noUsN
  have nF := noIsF
  have uF := hasUnF
  have mU := methodUnF
  have heq := eqlN n m
  have hty := run_eql_iface_types (P := Tryz.prog) 130 82 (.pointer (some ⟨p, 0, none⟩)) (.int .i64 m) Tryz.underlying78 (by decide) w
  unfold nB at hw ⊢
  by_cases h : n = m
  · rw [decide_eq_true h] at heq ⊢
    clear h
    go_enter Tryz.func38, Tryz.ntmps38
    go_wp2
    refine wp_loop_rounds 2 ?_
    rw [rounds_succ]
    go_wp2
    rw [rounds_succ]
    go_wp2
    go_ret
    exact ⟨rfl, rfl⟩
  · rw [decide_eq_false h] at heq ⊢
    clear h
    go_enter Tryz.func38, Tryz.ntmps38
    go_wp2
    refine wp_loop_rounds 2 ?_
    rw [rounds_succ]
    go_wp2
    rw [rounds_succ]
    go_wp2
    go_ret
    exact ⟨rfl, rfl⟩
theorem is_fltE (p : Nat) (g : Addr) (m : Int) (w : World) (hw : w.cell? ⟨p, 1, none⟩ = some (eB g)) : Calls Tryz.prog 38 #[.iface 130 (.pointer (some ⟨p, 0, none⟩)), nB m] w fun e w' => e = .returned (.bool false) ∧ w' = w := by
  have h8 := @run_callFunc_extern Tryz.prog 79 _ Extern.ReflectliteType.typeOf Tryz.func79 (by kernel_rfl) (by kernel_rfl) (by kernel_rfl) (by kernel_rfl)
  have h32 := @run_callFunc_extern Tryz.prog 217 _ cmpFn Tryz.func217 (by kernel_rfl) (by kernel_rfl) (by kernel_rfl) (by kernel_rfl)
  have tT := is_typeOf
  have cT := is_comparable
  have mR := is_methodComparable
  have nE := noIsE
  have uE := noUnE
  have vE := noUsE
  have nF := noIsF
  have uF := hasUnF
  have mU := methodUnF
  have hty := run_eql_iface_types (P := Tryz.prog) 130 82 (.pointer (some ⟨p, 0, none⟩)) (.int .i64 m) Tryz.underlying78 (by decide) w
  have hty2 := run_eql_iface_types (P := Tryz.prog) 255 82 (.pointer (some g)) (.int .i64 m) Tryz.underlying78 (by decide) w
  unfold nB
  unfold eB at hw
  go_enter Tryz.func38, Tryz.ntmps38
  go_wp2
  refine wp_loop_rounds 2 ?_
  rw [rounds_succ]
  go_wp2
  rw [rounds_succ]
  go_wp2
  go_ret
  exact ⟨rfl, rfl⟩
end Go.Proofs.YtdcoafpenkofoaaGreatDoor
