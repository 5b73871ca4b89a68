
/- shape's small functions. -/
import Derived.Test.YtfoegajgnbdoiaaGreatDoorProg
import Derived.Test.YtfoegajgnbdoiaaGreatDoorVList
import Derived.WalkKit
namespace Go.Proofs.YtfoegajgnbdoiaaGreatDoor
open Go.RowKit
set_option linter.unusedVariables false
set_option linter.unusedSimpArgs false
/-- a field: its default is a value -/
structure Fd where
  name : ByteArray
  ty : Int
  ka : Option Addr
  kl : Nat
  kc : Nat
  must : Bool
  d : V
def Fd.cs (f : Fd) : Array Value := #[.string f.name, .int .i64 f.ty, .slice f.ka f.kl f.kc, .bool f.must, .int .i64 f.d.k, .int .u64 f.d.n, .string f.d.s, .slice f.d.a f.d.l.length f.d.c, .int .i64 f.d.e]
def Fd.val (f : Fd) : Value := .agg f.cs
theorem Fd.val_eq (f : Fd) : f.val = .agg #[.string f.name, .int .i64 f.ty, .slice f.ka f.kl f.kc, .bool f.must, .int .i64 f.d.k, .int .u64 f.d.n, .string f.d.s, .slice f.d.a f.d.l.length f.d.c, .int .i64 f.d.e] := rfl
/-- fields in a row: nine words each -/
def FRow (W : World) (b : Nat) (l : List Fd) : Prop :=
  ∀ i (h : i < l.length), ∀ j (hj : j < 9), W.cell? ⟨b, i * 9 + j, none⟩ = l[i].cs[j]?
def leaf (k n : Int) (s : ByteArray) : V := V.of k n s none 0 0 []
theorem leaf_val (k n : Int) (s : ByteArray) : (leaf k n s).val = .agg #[.int .i64 k, .int .u64 n, .string s, .slice none 0 0, .int .i64 0] := by
  unfold leaf; rw [V.val_of]; rfl
theorem leaf_lies (k n : Int) (s : ByteArray) (n₀ : Nat) (w : World) (hk : -9223372036854775808 ≤ k ∧ k ≤ 9223372036854775807) (hn : 0 ≤ n ∧ n ≤ 18446744073709551615) (hs : s.size ≤ 281474976710656) : Lies n₀ w (leaf k n s) :=
  .mk ⟨hk, hn, hs, by decide, by simp, by simp⟩ (by simp) (by simp)

set_option maxRecDepth 100000 in
set_option maxHeartbeats 2000000 in
theorem numbered_any (k : Int) (h : 0 ≤ k) (h2 : k ≤ 9223372036854775807) (w : World) : Calls Tryz.prog 40 #[.int .i64 k] w fun e w' => e = .returned (leaf 5 k ⟨#[]⟩).val ∧ Below w.heap.size w w' := by
  rw [leaf_val]
  go_enter Tryz.func40, Tryz.ntmps40
  go_wp2
  exact bodyPost_ret (v := .agg #[.int .i64 5, .int .u64 k, .string ⟨#[]⟩, .slice none 0 0, .int .i64 0]) (by simp [results, Tryz.results40, go_sem]) rfl ⟨rfl, bel1 (Below.refl _ _) (Nat.le_refl _) _⟩
set_option maxRecDepth 100000 in
set_option maxHeartbeats 2000000 in
theorem named_any (s : ByteArray) (w : World) : Calls Tryz.prog 41 #[.string s] w fun e w' => e = .returned (leaf 20 0 s).val ∧ Below w.heap.size w w' := by
  rw [leaf_val]
  go_enter Tryz.func41, Tryz.ntmps41
  go_wp2
  exact bodyPost_ret (v := .agg #[.int .i64 20, .int .u64 0, .string s, .slice none 0 0, .int .i64 0]) (by simp [results, Tryz.results41, go_sem]) rfl ⟨rfl, bel1 (Below.refl _ _) (Nat.le_refl _) _⟩
set_option maxRecDepth 100000 in
set_option maxHeartbeats 2000000 in
theorem lacks_any (f : Fd) (v : V) (w : World) : Calls Tryz.prog 119 #[f.val, v.val] w fun e w' => e = .returned (.bool (f.must && decide (v.k = 0))) ∧ Below w.heap.size w w' := by
  rw [Fd.val_eq, V.val_eq]
  go_enter Tryz.func119, Tryz.ntmps119
  generalize hm : f.must = m
  cases m
  · go_wp2
    go_ret
    exact ⟨rfl, bel2 (Below.refl _ _) (Nat.le_refl _) _ _⟩
  · go_wp2
    go_ret
    exact ⟨rfl, bel2 (Below.refl _ _) (Nat.le_refl _) _ _⟩
set_option maxRecDepth 100000 in
set_option maxHeartbeats 2000000 in
theorem reader_flat (f : Fd) (h0 : f.ty ≠ 100) (h1 : f.ty ≠ 101) (h2 : f.ty ≠ 102) (w : World) : Calls Tryz.prog 129 #[f.val] w fun e w' => e = .returned (.func (.func 141) #[] #[.pointer (some ⟨w.heap.size, 0, none⟩)]) ∧ Below w.heap.size w w' ∧
    w'.cell? ⟨w.heap.size, 1, none⟩ = some (.int .i64 f.ty) := by
  rw [Fd.val_eq]
  go_enter Tryz.func129, Tryz.ntmps129
  go_wp2
  go_ret
  exact ⟨rfl, bel1 (Below.refl _ _) (Nat.le_refl _) _, by
    have hh := World.alloc_heap_new w (Obj.cells f.cs 68)
    show World.cell? (w.alloc (Obj.cells f.cs 68)) _ = _
    unfold World.cell?
    simp only [hh]
    rfl⟩
/-- a value handed back with a number -/
def VN (v : V) (n : Int) : Ending := .returned (.tuple #[.agg #[.int .i64 v.k, .int .u64 v.n, .string v.s, .slice v.a v.l.length v.c, .int .i64 v.e], .int .i64 n])
set_option maxRecDepth 100000 in
set_option maxHeartbeats 2000000 in
theorem reader3_any (P : Nat) (ty : Int) (v : V) (w : World) (hP : P < w.heap.size) (hc : w.cell? ⟨P, 1, none⟩ = some (.int .i64 ty)) (hy : v.k = ty) : Calls Tryz.prog 141 #[v.val, .pointer (some ⟨P, 0, none⟩)] w fun e w' => e = VN v 0 ∧ Below w.heap.size w w' := by
  have hc1 : (((w.alloc (Obj.cells #[.int .i64 v.k, .int .u64 v.n, .string v.s, .slice v.a v.l.length v.c, .int .i64 v.e] 34)).alloc (Obj.cells #[.int .i64 0, .int .u64 0, .string ⟨#[]⟩, .slice none 0 0, .int .i64 0] 34))).cell? ⟨P, 1, none⟩ = some (.int .i64 ty) := by
    rw [← hc]
    exact (bel2 (Below.refl _ _) (Nat.le_refl _) _ _).cell (p := ⟨P, 1, none⟩) hP
  rw [V.val_eq]
  subst hy
  go_enter Tryz.func141, Tryz.ntmps141
  go_wp2
  exact bodyPost_ret (v := .tuple #[.agg #[.int .i64 v.k, .int .u64 v.n, .string v.s, .slice v.a v.l.length v.c, .int .i64 v.e], .int .i64 0]) (by simp [results, Tryz.results141, go_sem]) rfl ⟨rfl, bel2 (Below.refl _ _) (Nat.le_refl _) _ _⟩
set_option maxRecDepth 100000 in
set_option maxHeartbeats 2000000 in
theorem detachFields_any (w : World) : Calls Tryz.prog 60 #[] w fun e w' => e = .returned (.slice (some ⟨w.heap.size + 1, 0, none⟩) 3 3) ∧ Below w.heap.size w w' ∧ w.heap.size + 1 < w'.heap.size ∧
    FRow w' (w.heap.size + 1) [⟨⟨#[104, 97, 110, 100, 108, 101]⟩, 4, none, 0, 0, true, leaf 0 0 ⟨#[]⟩⟩, ⟨⟨#[99, 108, 111, 115, 101, 100]⟩, 1, none, 0, 0, false, leaf 1 0 ⟨#[]⟩⟩, ⟨⟨#[102, 97, 117, 108, 116]⟩, 102, some ⟨w.heap.size, 0, none⟩, 1, 1, false, leaf 0 0 ⟨#[]⟩⟩] := by
  go_enter Tryz.func60, Tryz.ntmps60
  go_wp2
  go_ret
  refine ⟨rfl, bel2 (Below.refl _ _) (Nat.le_refl _) _ _, by simp, ?_⟩
  intro i hi j hj
  have h3 : i < 3 := hi
  unfold World.cell?
  simp only [heap_at1]
  obtain rfl | rfl | rfl : i = 0 ∨ i = 1 ∨ i = 2 := by omega
  all_goals
    obtain rfl | rfl | rfl | rfl | rfl | rfl | rfl | rfl | rfl : j = 0 ∨ j = 1 ∨ j = 2 ∨ j = 3 ∨ j = 4 ∨ j = 5 ∨ j = 6 ∨ j = 7 ∨ j = 8 := by omega
    all_goals rfl
end Go.Proofs.YtfoegajgnbdoiaaGreatDoor
