/- VList, HSmall -/
import Derived.Test.YtgldcchleoklcaaGreatDoorF07
import Derived.Test.YtgldcchleoklcaaGreatDoorF10
import Derived.Test.YtgldcchleoklcaaGreatDoorProg
import Derived.WalkKit
namespace Go.Proofs.YtgldcchleoklcaaGreatDoor
open Go.RowKit
set_option linter.unusedVariables false
def MadeOf (k : Int) (l : List V) (w : World) (e : Ending) (w' : World) : Prop := ∃ y : V, e = .returned (.agg #[.int .i64 y.k, .int .u64 y.n, .string y.s, .slice y.a y.l.length y.c, .int .i64 y.e]) ∧
  Hid (y.t = T.of k 0 ⟨#[]⟩ 0 (V.ts l) ∧ LiesIn (fun b => w.heap.size ≤ b ∧ b < w'.heap.size) w' y) ∧ Below w.heap.size w w'
set_option maxRecDepth 100000 in
set_option maxHeartbeats 1000000 in
theorem listed_any (l : List V) (a : Option Addr) (c n₀ : Nat) (w : World) (hn : n₀ ≤ w.heap.size) (hc : l.length ≤ c) (hcc : l.length ≤ 2199023255552) (hr : 0 < l.length → ∃ b o, a = some ⟨b, o, none⟩ ∧ b < n₀ ∧ Row w b o l) (ls : ∀ x ∈ l, Lies n₀ w x) :
    Calls Tryz.prog 102 #[.slice a l.length c] w (MadeOf 21 l w) := by
  have HF : Hid (∀ w1, Below w.heap.size w w1 → Calls Tryz.prog 117 #[.slice a l.length c] w1 (CopyAll l w1)) := by
    intro w1 hb
    have hsz := hb.size
    exact copiedList_any l (fun x _ => copied_any x) a c n₀ w1 (by omega) hc hcc (fun h => by
      obtain ⟨b, o, h1, h2, h3⟩ := hr h
      exact ⟨b, o, h1, h2, h3.below hb (by omega)⟩) (fun x hx => (ls x hx).keep hb hn)
  clear hr ls
  go_enter Tryz.func102, Tryz.ntmps102
  go_wp2_with fail
  refine Calls.mono (HF.out _ (bel1 (Below.refl _ _) (Nat.le_refl _) _)) ?_
  rintro e' w1 ⟨a', c', l', rfl, HL, hb1⟩
  have hz : w.heap.size < w1.heap.size := by have := hb1.size; simp at this; omega
  have hbl : Blk w1 w.heap.size 42 5 := by
    refine ⟨_, (hb1.block w.heap.size (by simp)).trans (World.alloc_heap_new _ _), rfl⟩
  obtain ⟨z0, c0⟩ := hbl.some 0 (by omega)
  obtain ⟨z1, c1⟩ := hbl.some 1 (by omega)
  obtain ⟨z2, c2⟩ := hbl.some 2 (by omega)
  obtain ⟨z3, c3⟩ := hbl.some 3 (by omega)
  obtain ⟨z4, c4⟩ := hbl.some 4 (by omega)
  have f0 := hbl.free
  have HB1 := hide hb1
  clear hb1 hbl
  go_wp2
  obtain ⟨h1, h2, h3, h4, h5⟩ := HL.out
  have hsm : ∀ b', b' ≠ w.heap.size → Same w1 (put5 w1 w.heap.size 0 (.of 21 0 ⟨#[]⟩ a' c' 0 l')) b' := fun b' n1 o' => put5_same _ _ _ _ _ n1 o'
  rw [← put5_of] at hsm
  have hbz : Below w.heap.size w _ := put5_below (y := .of 21 0 ⟨#[]⟩ a' c' 0 l') (o := 0) (b := w.heap.size) (belOn (bel1 (Below.refl w.heap.size w) (Nat.le_refl _) _) (by simp) HB1.out) (Nat.le_refl _)
  rw [← put5_of] at hbz
  refine bodyPost_ret (v := .agg #[.int .i64 21, .int .u64 0, .string ⟨#[]⟩, .slice a' l'.length c', .int .i64 0]) (by simp [results, Tryz.results102, go_sem, c0, c1, c2, c3, c4]) rfl ⟨.of 21 0 ⟨#[]⟩ a' c' 0 l', by rw [V.l_of]; rfl, ⟨by rw [V.t_of, h1], .mk ⟨by decide, by decide, by decide, by decide, h2, h3⟩ (fun h0 => ?_) (fun x hx => ?_)⟩, ?_⟩
  · obtain ⟨b, o, ha, hq, hr⟩ := h4 h0
    simp only [World.size_alloc] at hq
    refine ⟨b, o, ha, ?_, hr.same (hsm b (by omega))⟩
    simp [World.setCell]; omega
  · refine (h5 x hx).keep (fun b hq => ?_) (fun b hq => ?_)
    · simp only [World.size_alloc] at hq
      exact hsm b (by omega)
    · simp only [World.size_alloc] at hq
      simp [World.setCell]; omega
  · exact hbz
set_option linter.unusedSimpArgs false
structure Fd where
  name : ByteArray
  ty : Int
  ka : Option Addr
  kl : Nat
  kc : Nat
  must : Bool
  d : V
def Fd.cs (f : Fd) : Array Value := #[.string f.name, .int .i64 f.ty, .slice f.ka f.kl f.kc, .bool f.must, .int .i64 f.d.k, .int .u64 f.d.n, .string f.d.s, .slice f.d.a f.d.l.length f.d.c, .int .i64 f.d.e]
def Fd.val (f : Fd) : Value := .agg f.cs
theorem Fd.val_eq (f : Fd) : f.val = .agg #[.string f.name, .int .i64 f.ty, .slice f.ka f.kl f.kc, .bool f.must, .int .i64 f.d.k, .int .u64 f.d.n, .string f.d.s, .slice f.d.a f.d.l.length f.d.c, .int .i64 f.d.e] := rfl
def FRow (W : World) (b : Nat) (l : List Fd) : Prop :=
  ∀ i (h : i < l.length), ∀ j (hj : j < 9), W.cell? ⟨b, i * 9 + j, none⟩ = l[i].cs[j]?
def leaf (k n : Int) (s : ByteArray) : V := V.of k n s none 0 0 []
theorem leaf_val (k n : Int) (s : ByteArray) : (leaf k n s).val = .agg #[.int .i64 k, .int .u64 n, .string s, .slice none 0 0, .int .i64 0] := by
  unfold leaf; rw [V.val_of]; rfl
theorem leaf_lies (k n : Int) (s : ByteArray) (n₀ : Nat) (w : World) (hk : -9223372036854775808 ≤ k ∧ k ≤ 9223372036854775807) (hn : 0 ≤ n ∧ n ≤ 18446744073709551615) (hs : s.size ≤ 281474976710656) : Lies n₀ w (leaf k n s) :=
  .mk ⟨hk, hn, hs, by decide, by simp, by simp⟩ (by simp) (by simp)
set_option maxRecDepth 100000 in
set_option maxHeartbeats 2000000 in
theorem numbered_any (k : Int) (h : 0 ≤ k) (h2 : k ≤ 9223372036854775807) (w : World) : Calls Tryz.prog 115 #[.int .i64 k] w fun e w' => e = .returned (leaf 5 k ⟨#[]⟩).val ∧ Below w.heap.size w w' := by
  rw [leaf_val]
  go_enter Tryz.func115, Tryz.ntmps115
  go_wp2
  exact bodyPost_ret (v := .agg #[.int .i64 5, .int .u64 k, .string ⟨#[]⟩, .slice none 0 0, .int .i64 0]) (by simp [results, Tryz.results115, go_sem]) rfl ⟨rfl, bel1 (Below.refl _ _) (Nat.le_refl _) _⟩
set_option maxRecDepth 100000 in
set_option maxHeartbeats 2000000 in
theorem named_any (s : ByteArray) (w : World) : Calls Tryz.prog 125 #[.string s] w fun e w' => e = .returned (leaf 20 0 s).val ∧ Below w.heap.size w w' := by
  rw [leaf_val]
  go_enter Tryz.func125, Tryz.ntmps125
  go_wp2
  exact bodyPost_ret (v := .agg #[.int .i64 20, .int .u64 0, .string s, .slice none 0 0, .int .i64 0]) (by simp [results, Tryz.results125, go_sem]) rfl ⟨rfl, bel1 (Below.refl _ _) (Nat.le_refl _) _⟩
set_option maxRecDepth 100000 in
set_option maxHeartbeats 2000000 in
theorem lacks_any (f : Fd) (v : V) (w : World) : Calls Tryz.prog 113 #[f.val, v.val] w fun e w' => e = .returned (.bool (f.must && decide (v.k = 0))) ∧ Below w.heap.size w w' := by
  rw [Fd.val_eq, V.val_eq]
  go_enter Tryz.func113, Tryz.ntmps113
  generalize hm : f.must = m
  cases m
  · go_wp2
    go_ret
    exact ⟨rfl, bel2 (Below.refl _ _) (Nat.le_refl _) _ _⟩
  · go_wp2
    go_ret
    exact ⟨rfl, bel2 (Below.refl _ _) (Nat.le_refl _) _ _⟩
set_option maxRecDepth 100000 in
set_option maxHeartbeats 2000000 in
theorem reader_flat (f : Fd) (h0 : f.ty ≠ 100) (h1 : f.ty ≠ 101) (h2 : f.ty ≠ 102) (w : World) : Calls Tryz.prog 126 #[f.val] w fun e w' => e = .returned (.func (.func 139) #[] #[.pointer (some ⟨w.heap.size, 0, none⟩)]) ∧ Below w.heap.size w w' ∧
    w'.cell? ⟨w.heap.size, 1, none⟩ = some (.int .i64 f.ty) := by
  rw [Fd.val_eq]
  go_enter Tryz.func126, Tryz.ntmps126
  go_wp2
  go_ret
  exact ⟨rfl, bel1 (Below.refl _ _) (Nat.le_refl _) _, by
    have hh := World.alloc_heap_new w (Obj.cells f.cs 66)
    show World.cell? (w.alloc (Obj.cells f.cs 66)) _ = _
    unfold World.cell?
    simp only [hh]
    rfl⟩
def VN (v : V) (n : Int) : Ending := .returned (.tuple #[.agg #[.int .i64 v.k, .int .u64 v.n, .string v.s, .slice v.a v.l.length v.c, .int .i64 v.e], .int .i64 n])
set_option maxRecDepth 100000 in
set_option maxHeartbeats 2000000 in
theorem reader3_any (P : Nat) (ty : Int) (v : V) (w : World) (hP : P < w.heap.size) (hc : w.cell? ⟨P, 1, none⟩ = some (.int .i64 ty)) (hy : v.k = ty) : Calls Tryz.prog 139 #[v.val, .pointer (some ⟨P, 0, none⟩)] w fun e w' => e = VN v 0 ∧ Below w.heap.size w w' := by
  have hc1 : (((w.alloc (Obj.cells #[.int .i64 v.k, .int .u64 v.n, .string v.s, .slice v.a v.l.length v.c, .int .i64 v.e] 42)).alloc (Obj.cells #[.int .i64 0, .int .u64 0, .string ⟨#[]⟩, .slice none 0 0, .int .i64 0] 42))).cell? ⟨P, 1, none⟩ = some (.int .i64 ty) := by
    rw [← hc]
    exact (bel2 (Below.refl _ _) (Nat.le_refl _) _ _).cell (p := ⟨P, 1, none⟩) hP
  rw [V.val_eq]
  subst hy
  go_enter Tryz.func139, Tryz.ntmps139
  go_wp2
  exact bodyPost_ret (v := .tuple #[.agg #[.int .i64 v.k, .int .u64 v.n, .string v.s, .slice v.a v.l.length v.c, .int .i64 v.e], .int .i64 0]) (by simp [results, Tryz.results139, go_sem]) rfl ⟨rfl, bel2 (Below.refl _ _) (Nat.le_refl _) _ _⟩
set_option maxRecDepth 100000 in
set_option maxHeartbeats 2000000 in
theorem detachFields_any (w : World) : Calls Tryz.prog 54 #[] w fun e w' => e = .returned (.slice (some ⟨w.heap.size + 1, 0, none⟩) 3 3) ∧ Below w.heap.size w w' ∧ w.heap.size + 1 < w'.heap.size ∧
    FRow w' (w.heap.size + 1) [⟨⟨#[104, 97, 110, 100, 108, 101]⟩, 4, none, 0, 0, true, leaf 0 0 ⟨#[]⟩⟩, ⟨⟨#[99, 108, 111, 115, 101, 100]⟩, 1, none, 0, 0, false, leaf 1 0 ⟨#[]⟩⟩, ⟨⟨#[102, 97, 117, 108, 116]⟩, 102, some ⟨w.heap.size, 0, none⟩, 1, 1, false, leaf 0 0 ⟨#[]⟩⟩] := by
  go_enter Tryz.func54, Tryz.ntmps54
  go_wp2
  go_ret
  refine ⟨rfl, bel2 (Below.refl _ _) (Nat.le_refl _) _ _, by simp, ?_⟩
  intro i hi j hj
  have h3 : i < 3 := hi
  unfold World.cell?
  simp only [heap_at1]
  obtain rfl | rfl | rfl : i = 0 ∨ i = 1 ∨ i = 2 := by omega
  all_goals
    obtain rfl | rfl | rfl | rfl | rfl | rfl | rfl | rfl | rfl : j = 0 ∨ j = 1 ∨ j = 2 ∨ j = 3 ∨ j = 4 ∨ j = 5 ∨ j = 6 ∨ j = 7 ∨ j = 8 := by omega
    all_goals rfl
end Go.Proofs.YtgldcchleoklcaaGreatDoor
