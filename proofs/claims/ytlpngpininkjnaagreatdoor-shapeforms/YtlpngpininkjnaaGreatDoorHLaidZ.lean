import Derived.Test.YtlpngpininkjnaaGreatDoorProg
import Derived.Test.YtlpngpininkjnaaGreatDoorVListZ
import Derived.WalkKit
import Derived.Test.YtlpngpininkjnaaGreatDoorVEqZ
import Derived.Deep.RegionHeld
import Derived.Laws.EntriesVeiled
import Derived.Test.YtlpngpininkjnaaGreatDoorVMadeZ

/- shape's small functions. -/
namespace Go.Proofs.YtlpngpininkjnaaGreatDoor
open Go.RowKit
set_option linter.unusedVariables false
set_option linter.unusedSimpArgs false
/-- a field: its default is a value -/
structure Fd where
  name : ByteArray
  ty : Int
  ka : Option Addr
  kl : Nat
  kc : Nat
  must : Bool
  d : V
def Fd.cs (f : Fd) : Array Value := #[.string f.name, .int .i64 f.ty, .slice f.ka f.kl f.kc, .bool f.must, .int .i64 f.d.k, .int .u64 f.d.n, .string f.d.s, .slice f.d.a f.d.l.length f.d.c, .int .i64 f.d.e]
def Fd.val (f : Fd) : Value := .agg f.cs
theorem Fd.val_eq (f : Fd) : f.val = .agg #[.string f.name, .int .i64 f.ty, .slice f.ka f.kl f.kc, .bool f.must, .int .i64 f.d.k, .int .u64 f.d.n, .string f.d.s, .slice f.d.a f.d.l.length f.d.c, .int .i64 f.d.e] := rfl
/-- fields in a row: nine words each -/
def FRow (W : World) (b : Nat) (l : List Fd) : Prop :=
  ∀ i (h : i < l.length), ∀ j (hj : j < 9), W.cell? ⟨b, i * 9 + j, none⟩ = l[i].cs[j]?
def leaf (k n : Int) (s : ByteArray) : V := V.of k n s none 0 0 []
theorem leaf_val (k n : Int) (s : ByteArray) : (leaf k n s).val = .agg #[.int .i64 k, .int .u64 n, .string s, .slice none 0 0, .int .i64 0] := by
  unfold leaf; rw [V.val_of]; rfl
theorem leaf_lies (k n : Int) (s : ByteArray) (n₀ : Nat) (w : World) (hk : -9223372036854775808 ≤ k ∧ k ≤ 9223372036854775807) (hn : 0 ≤ n ∧ n ≤ 18446744073709551615) (hs : s.size ≤ 281474976710656) : Lies n₀ w (leaf k n s) :=
  .mk ⟨hk, hn, hs, by decide, by simp, by simp⟩ (by simp) (by simp)

set_option maxRecDepth 100000 in
set_option maxHeartbeats 2000000 in
theorem numbered_any (k : Int) (h : 0 ≤ k) (h2 : k ≤ 9223372036854775807) (w : World) : Calls Tryz.prog 55 #[.int .i64 k] w fun e w' => e = .returned (leaf 5 k ⟨#[]⟩).val ∧ Below w.heap.size w w' := by
  rw [leaf_val]
  go_enter Tryz.func55, Tryz.ntmps55
  go_wp2
  exact bodyPost_ret (v := .agg #[.int .i64 5, .int .u64 k, .string ⟨#[]⟩, .slice none 0 0, .int .i64 0]) (by simp [results, Tryz.results55, go_sem]) rfl ⟨rfl, bel1 (Below.refl _ _) (Nat.le_refl _) _⟩
set_option maxRecDepth 100000 in
set_option maxHeartbeats 2000000 in
theorem named_any (s : ByteArray) (w : World) : Calls Tryz.prog 64 #[.string s] w fun e w' => e = .returned (leaf 20 0 s).val ∧ Below w.heap.size w w' := by
  rw [leaf_val]
  go_enter Tryz.func64, Tryz.ntmps64
  go_wp2
  exact bodyPost_ret (v := .agg #[.int .i64 20, .int .u64 0, .string s, .slice none 0 0, .int .i64 0]) (by simp [results, Tryz.results64, go_sem]) rfl ⟨rfl, bel1 (Below.refl _ _) (Nat.le_refl _) _⟩
set_option maxRecDepth 100000 in
set_option maxHeartbeats 2000000 in
theorem lacks_any (f : Fd) (v : V) (w : World) : Calls Tryz.prog 53 #[f.val, v.val] w fun e w' => e = .returned (.bool (f.must && decide (v.k = 0))) ∧ Below w.heap.size w w' := by
  rw [Fd.val_eq, V.val_eq]
  go_enter Tryz.func53, Tryz.ntmps53
  generalize hm : f.must = m
  cases m
  · go_wp2
    go_ret
    exact ⟨rfl, bel2 (Below.refl _ _) (Nat.le_refl _) _ _⟩
  · go_wp2
    go_ret
    exact ⟨rfl, bel2 (Below.refl _ _) (Nat.le_refl _) _ _⟩
set_option maxRecDepth 100000 in
set_option maxHeartbeats 2000000 in
theorem reader_flat (f : Fd) (h0 : f.ty ≠ 100) (h1 : f.ty ≠ 101) (h2 : f.ty ≠ 102) (w : World) : Calls Tryz.prog 65 #[f.val] w fun e w' => e = .returned (.func (.func 79) #[] #[.pointer (some ⟨w.heap.size, 0, none⟩)]) ∧ Below w.heap.size w w' ∧
    w'.cell? ⟨w.heap.size, 1, none⟩ = some (.int .i64 f.ty) := by
  rw [Fd.val_eq]
  go_enter Tryz.func65, Tryz.ntmps65
  go_wp2
  go_ret
  exact ⟨rfl, bel1 (Below.refl _ _) (Nat.le_refl _) _, by
    have hh := World.alloc_heap_new w (Obj.cells f.cs 47)
    show World.cell? (w.alloc (Obj.cells f.cs 47)) _ = _
    unfold World.cell?
    simp only [hh]
    rfl⟩
/-- a value handed back with a number -/
def VN (v : V) (n : Int) : Ending := .returned (.tuple #[.agg #[.int .i64 v.k, .int .u64 v.n, .string v.s, .slice v.a v.l.length v.c, .int .i64 v.e], .int .i64 n])
set_option maxRecDepth 100000 in
set_option maxHeartbeats 2000000 in
theorem reader3_any (P : Nat) (ty : Int) (v : V) (w : World) (hP : P < w.heap.size) (hc : w.cell? ⟨P, 1, none⟩ = some (.int .i64 ty)) (hy : v.k = ty) : Calls Tryz.prog 79 #[v.val, .pointer (some ⟨P, 0, none⟩)] w fun e w' => e = VN v 0 ∧ Below w.heap.size w w' := by
  have hc1 : (((w.alloc (Obj.cells #[.int .i64 v.k, .int .u64 v.n, .string v.s, .slice v.a v.l.length v.c, .int .i64 v.e] 30)).alloc (Obj.cells #[.int .i64 0, .int .u64 0, .string ⟨#[]⟩, .slice none 0 0, .int .i64 0] 30))).cell? ⟨P, 1, none⟩ = some (.int .i64 ty) := by
    rw [← hc]
    exact (bel2 (Below.refl _ _) (Nat.le_refl _) _ _).cell (p := ⟨P, 1, none⟩) hP
  rw [V.val_eq]
  subst hy
  go_enter Tryz.func79, Tryz.ntmps79
  go_wp2
  exact bodyPost_ret (v := .tuple #[.agg #[.int .i64 v.k, .int .u64 v.n, .string v.s, .slice v.a v.l.length v.c, .int .i64 v.e], .int .i64 0]) (by simp [results, Tryz.results79, go_sem]) rfl ⟨rfl, bel2 (Below.refl _ _) (Nat.le_refl _) _ _⟩
set_option maxRecDepth 100000 in
set_option maxHeartbeats 2000000 in
theorem detachFields_any (w : World) : Calls Tryz.prog 34 #[] w fun e w' => e = .returned (.slice (some ⟨w.heap.size + 1, 0, none⟩) 3 3) ∧ Below w.heap.size w w' ∧ w.heap.size + 1 < w'.heap.size ∧
    FRow w' (w.heap.size + 1) [⟨⟨#[104, 97, 110, 100, 108, 101]⟩, 4, none, 0, 0, true, leaf 0 0 ⟨#[]⟩⟩, ⟨⟨#[99, 108, 111, 115, 101, 100]⟩, 1, none, 0, 0, false, leaf 1 0 ⟨#[]⟩⟩, ⟨⟨#[102, 97, 117, 108, 116]⟩, 102, some ⟨w.heap.size, 0, none⟩, 1, 1, false, leaf 0 0 ⟨#[]⟩⟩] := by
  go_enter Tryz.func34, Tryz.ntmps34
  go_wp2
  go_ret
  refine ⟨rfl, bel2 (Below.refl _ _) (Nat.le_refl _) _ _, by simp, ?_⟩
  intro i hi j hj
  have h3 : i < 3 := hi
  unfold World.cell?
  simp only [heap_at1]
  obtain rfl | rfl | rfl : i = 0 ∨ i = 1 ∨ i = 2 := by omega
  all_goals
    obtain rfl | rfl | rfl | rfl | rfl | rfl | rfl | rfl | rfl : j = 0 ∨ j = 1 ∨ j = 2 ∨ j = 3 ∨ j = 4 ∨ j = 5 ∨ j = 6 ∨ j = 7 ∨ j = 8 := by omega
    all_goals rfl
end Go.Proofs.YtlpngpininkjnaaGreatDoor


/- shape.filled and shape.checked, for fields that are no composites. -/
namespace Go.Proofs.YtlpngpininkjnaaGreatDoor
open Go.RowKit
set_option linter.unusedVariables false
set_option linter.unusedSimpArgs false
/-- a field's value laid in a variable -/
def BoxF (W : World) (b : Nat) (f : Fd) : Prop := W.heap[b]? = some (.cells f.cs 47 (0, 0))
theorem BoxF.below {B : Nat} {W w : World} {b : Nat} {f : Fd} (h : BoxF W b f) (hb : Below B W w) (hlt : b < B) : BoxF w b f := (hb.block b hlt).trans h
theorem BoxF.cells {W : World} {b : Nat} {f : Fd} (h : BoxF W b f) : W.cell? ⟨b, 0, none⟩ = some (.string f.name) ∧ W.cell? ⟨b, 1, none⟩ = some (.int .i64 f.ty) ∧ W.cell? ⟨b, 2, none⟩ = some (.slice f.ka f.kl f.kc) ∧ W.cell? ⟨b, 3, none⟩ = some (.bool f.must) ∧
    W.cell? ⟨b, 4, none⟩ = some (.int .i64 f.d.k) ∧ W.cell? ⟨b, 5, none⟩ = some (.int .u64 f.d.n) ∧ W.cell? ⟨b, 6, none⟩ = some (.string f.d.s) ∧ W.cell? ⟨b, 7, none⟩ = some (.slice f.d.a f.d.l.length f.d.c) ∧ W.cell? ⟨b, 8, none⟩ = some (.int .i64 f.d.e) := by
  unfold BoxF Fd.cs at h
  refine ⟨?_, ?_, ?_, ?_, ?_, ?_, ?_, ?_, ?_⟩ <;> (unfold World.cell?; simp only [h]; rfl)
set_option maxRecDepth 100000 in
set_option maxHeartbeats 2000000 in
/-- a Null where it may be: the default -/
theorem filled_null (f : Fd) (v : V) (hk : v.k = 0) (hm : f.must = false) (w : World) : Calls Tryz.prog 26 #[f.val, v.val] w fun e w' => e = VN f.d 0 ∧ Below w.heap.size w w' := by
  obtain ⟨W0, hW0⟩ : ∃ W0, ((w.alloc (Obj.cells f.cs 47)).alloc (Obj.cells #[.int .i64 v.k, .int .u64 v.n, .string v.s, .slice v.a v.l.length v.c, .int .i64 v.e] 30)).alloc (Obj.cells #[.int .i64 0, .int .u64 0, .string ⟨#[]⟩, .slice none 0 0, .int .i64 0] 30) = W0 := ⟨_, rfl⟩
  have hs0 : W0.heap.size = w.heap.size + 3 := by rw [← hW0]; simp
  have hb0 : Below w.heap.size w W0 := by rw [← hW0]; exact bel1 (bel2 (Below.refl _ _) (Nat.le_refl _) _ _) (by simp; omega) _
  have xf : BoxF W0 w.heap.size f := by rw [← hW0]; exact heap_past (heap_past (World.alloc_heap_new _ _) _) _
  have xv : BoxV W0 (w.heap.size + 1) v := by rw [← hW0]; exact heap_past (heap_at1 _ _ _) _
  have xz : BoxV W0 (w.heap.size + 1 + 1) (.of 0 0 ⟨#[]⟩ none 0 0 []) := by
    rw [← hW0]
    unfold BoxV
    rw [V.k_of, V.n_of, V.s_of, V.a_of, V.l_of, V.c_of, V.e_of]
    exact heap_at2 _ _ _ _
  have HL := hide (fun W => lacks_any f v W)
  rw [Fd.val_eq, V.val_eq] at HL ⊢
  have HW0 := hide hW0
  unfold Fd.cs at HW0
  have HK := hide hk
  have HM := hide hm
  clear hW0 hk hm
  go_enter Tryz.func26, Tryz.ntmps26
  go_wp2_with fail
  rw [HW0.out]
  refine (HL.out _).mono ?_
  rintro e1 w1 ⟨rfl, hb1⟩
  rw [HM.out, HK.out]
  have hs1 := hb1.size
  obtain ⟨f0, f1, f2, f3, f4, f5, f6, f7, f8⟩ := (xf.below hb1 (by omega)).cells
  obtain ⟨v0, v1, v2, v3, v4⟩ := (xv.below hb1 (by omega)).cells
  have xz1 := xz.below hb1 (by omega)
  obtain ⟨z0, z1, z2, z3, z4⟩ := xz1.cells
  have fz := (show Blk w1 (w.heap.size + 1 + 1) 30 5 from ⟨_, xz1, rfl⟩).free
  have hz2 : w.heap.size + 1 + 1 < w1.heap.size := by omega
  rw [HK.out] at v0
  have hbw : Below w.heap.size w w1 := belOn hb0 (by omega) hb1
  clear xz1
  go_wp2
  have hbz : Below w.heap.size w _ := put5_below (y := f.d) (o := 0) (b := w.heap.size + 1 + 1) hbw (by omega)
  rw [← put5_eq] at hbz
  refine bodyPost_ret (v := .tuple #[.agg #[.int .i64 f.d.k, .int .u64 f.d.n, .string f.d.s, .slice f.d.a f.d.l.length f.d.c, .int .i64 f.d.e], .int .i64 0]) (by simp [results, Tryz.results26, go_sem, z0, z1, z2, z3, z4]) rfl ⟨rfl, hbz⟩
set_option maxRecDepth 100000 in
set_option maxHeartbeats 2000000 in
/-- a value of the field's own type: itself -/
theorem filled_flat (f : Fd) (v : V) (hk : v.k = f.ty) (h0 : v.k ≠ 0) (h1 : f.ty ≠ 100) (h2 : f.ty ≠ 101) (h3 : f.ty ≠ 102) (w : World) : Calls Tryz.prog 26 #[f.val, v.val] w fun e w' => e = VN v 0 ∧ Below w.heap.size w w' := by
  obtain ⟨W0, hW0⟩ : ∃ W0, ((w.alloc (Obj.cells f.cs 47)).alloc (Obj.cells #[.int .i64 v.k, .int .u64 v.n, .string v.s, .slice v.a v.l.length v.c, .int .i64 v.e] 30)).alloc (Obj.cells #[.int .i64 0, .int .u64 0, .string ⟨#[]⟩, .slice none 0 0, .int .i64 0] 30) = W0 := ⟨_, rfl⟩
  have hs0 : W0.heap.size = w.heap.size + 3 := by rw [← hW0]; simp
  have hb0 : Below w.heap.size w W0 := by rw [← hW0]; exact bel1 (bel2 (Below.refl _ _) (Nat.le_refl _) _ _) (by simp; omega) _
  have xf : BoxF W0 w.heap.size f := by rw [← hW0]; exact heap_past (heap_past (World.alloc_heap_new _ _) _) _
  have xv : BoxV W0 (w.heap.size + 1) v := by rw [← hW0]; exact heap_past (heap_at1 _ _ _) _
  have xz : BoxV W0 (w.heap.size + 1 + 1) (.of 0 0 ⟨#[]⟩ none 0 0 []) := by
    rw [← hW0]
    unfold BoxV
    rw [V.k_of, V.n_of, V.s_of, V.a_of, V.l_of, V.c_of, V.e_of]
    exact heap_at2 _ _ _ _
  have HL := hide (fun W => lacks_any f v W)
  rw [Fd.val_eq, V.val_eq] at HL ⊢
  have HW0 := hide hW0
  unfold Fd.cs at HW0
  have HK := hide hk
  have HR := hide (fun W => reader_flat f h1 h2 h3 W)
  have HX := hide (fun P W hP hc => reader3_any P f.ty v W hP hc hk)
  rw [Fd.val_eq] at HR
  rw [V.val_eq] at HX
  unfold VN at HX
  have hlk : (f.must && decide (v.k = 0)) = false := by rw [decide_eq_false h0, Bool.and_false]
  rw [hlk] at HL
  have hv0 : (v.k == 0) = false := by simpa using h0
  have h0' : ¬ v.k = 0 := h0
  clear hW0 hk hlk h0
  go_enter Tryz.func26, Tryz.ntmps26
  go_wp2_with fail
  rw [HW0.out]
  refine (HL.out _).mono ?_
  rintro e1 w1 ⟨rfl, hb1⟩
  have hs1 := hb1.size
  obtain ⟨f0, f1, f2, f3, f4, f5, f6, f7, f8⟩ := (xf.below hb1 (by omega)).cells
  obtain ⟨v0, v1, v2, v3, v4⟩ := (xv.below hb1 (by omega)).cells
  have hz2 : w.heap.size + 1 + 1 < w1.heap.size := by omega
  have hz3 : w.heap.size + 1 < w1.heap.size := by omega
  have hz4 : w.heap.size < w1.heap.size := by omega
  have hbw : Below w.heap.size w w1 := belOn hb0 (by omega) hb1
  have HB1 := hide hb1
  have hmx : Tryz.prog.follows .mixedOrders = true := by kernel_rfl
  clear hb1
  go_wp2_with fail
  go_region_with (first | (go_at_call 65; refine Calls.mono (HR.out _) ?_; rintro e2 w2 ⟨rfl, hb2, hcx⟩; have HB2 : Hid (Below W0.heap.size W0 w2) := HB1.out.drew.trans (hb2.mono HB1.out.drew.size); have hs2 := HB2.out.size; have hs3 := hb2.size; obtain ⟨g0, g1, g2, g3, g4⟩ := (xv.below HB2.out (by omega)).cells; have HC := hide hcx; clear hb2 hcx) | (go_at_call 79; have HB3 := HB2; refine Calls.mono (HX.out _ _ (World.block_lt_of_cell? _ _ HC.out) HC.out) ?_; rintro e3 w3 ⟨rfl, hb3⟩; have HB4 : Hid (Below W0.heap.size W0 w3) := belOn HB3.out HB3.out.size hb3; clear hb3; have hs5 := HB4.out.size; have xz1 := xz.below HB4.out (by omega); obtain ⟨z0, z1, z2, z3, z4⟩ := xz1.cells; have fz := (show Blk w3 (w.heap.size + 1 + 1) 30 5 from ⟨_, xz1, rfl⟩).free; have hz5 : w.heap.size + 1 + 1 < w3.heap.size := (by omega); clear xz1))
  all_goals
    have hbw3 : Below w.heap.size w w3 := belOn hb0 (by omega) HB4.out
    go_wp2
    have hbz : Below w.heap.size w _ := put5_below (y := v) (o := 0) (b := w.heap.size + 1 + 1) hbw3 (by omega)
    rw [← put5_eq] at hbz
    refine bodyPost_ret (v := .tuple #[.agg #[.int .i64 v.k, .int .u64 v.n, .string v.s, .slice v.a v.l.length v.c, .int .i64 v.e], .int .i64 0]) (by simp [results, Tryz.results26, go_sem, z0, z1, z2, z3, z4]) rfl ⟨rfl, hbz⟩
end Go.Proofs.YtlpngpininkjnaaGreatDoor


/- shape.laid, by what Fields gives. -/
namespace Go.Proofs.YtlpngpininkjnaaGreatDoor
open Go.RowKit
set_option linter.unusedVariables false
set_option linter.unusedSimpArgs false
/-- fields with these defaults -/
def FieldsPost (n : Nat) (ds : List V) (W : World) (e : Ending) (w' : World) : Prop := ∃ (a : Option Addr) (fs : List Fd), e = .returned (.tuple #[.slice a n n, .bool true]) ∧
  Hid ((fs.map Fd.d = ds ∧ fs.length = n) ∧ (0 < n → ∃ b, a = some ⟨b, 0, none⟩ ∧ W.heap.size ≤ b ∧ b < w'.heap.size ∧ FRow w' b fs)) ∧ Below W.heap.size W w'
/-- what is left out is a Null -/
def outs (l ds : List V) : List V := List.zipWith (fun v d => if eqT v.t d.t then leaf 0 0 ⟨#[]⟩ else v) l ds
theorem outs_len (l ds : List V) (h : ds.length = l.length) : (outs l ds).length = l.length := by simp [outs, h]
/-- how many are said, of the first i -/
def saidN (l ds : List V) : Nat → Nat
  | 0 => 0
  | i + 1 => if (l[i]?.bind fun v => ds[i]?.map fun d => eqT v.t d.t) = some true then saidN l ds i else i + 1
theorem saidN_le (l ds : List V) (i : Nat) : saidN l ds i ≤ i := by
  induction i with
  | zero => exact Nat.le_refl _
  | succ i ih => unfold saidN; split <;> omega
theorem saidN_step (l ds : List V) (i : Nat) (h1 : i < l.length) (h2 : i < ds.length) : saidN l ds (i + 1) = if eqT l[i].t ds[i].t = true then saidN l ds i else i + 1 := by
  rw [saidN]
  simp [List.getElem?_eq_getElem h1, List.getElem?_eq_getElem h2]
theorem outs_take (l ds : List V) (i : Nat) (h : ds.length = l.length) (hi : i < l.length) : (outs l ds).take (i + 1) = (outs l ds).take i ++ [if eqT l[i].t (ds[i]'(by omega)).t = true then leaf 0 0 ⟨#[]⟩ else l[i]] := by
  rw [List.take_add_one, List.getElem?_eq_getElem (by rw [outs_len _ _ h]; exact hi)]
  simp [outs]
/-- a record in a variable -/
def BoxR (W : World) (b : Nat) (k : Int) (a : Option Addr) (n c : Nat) : Prop := W.heap[b]? = some (.cells #[.int .i64 k, .slice a n c] 24 (0, 0))
theorem BoxR.below {B : Nat} {W w : World} {b : Nat} {k : Int} {a : Option Addr} {n c : Nat} (h : BoxR W b k a n c) (hb : Below B W w) (hlt : b < B) : BoxR w b k a n c := (hb.block b hlt).trans h
theorem BoxR.cells {W : World} {b : Nat} {k : Int} {a : Option Addr} {n c : Nat} (h : BoxR W b k a n c) : W.cell? ⟨b, 0, none⟩ = some (.int .i64 k) ∧ W.cell? ⟨b, 1, none⟩ = some (.slice a n c) := by
  unfold BoxR at h
  refine ⟨?_, ?_⟩ <;> (unfold World.cell?; simp only [h]; rfl)
/-- a row of n values, by their places -/
def RowF (w : World) (b n : Nat) (g : Nat → V) : Prop := ∀ j, j < n → ∀ q, q < 5 → w.cell? ⟨b, j * 5 + q, none⟩ = (words (g j))[q]?
theorem RowF.below {B : Nat} {W w : World} {b n : Nat} {g : Nat → V} (h : RowF W b n g) (hb : Below B W w) (hlt : b < B) : RowF w b n g := fun j hj q hq => (hb.cell (p := ⟨b, j * 5 + q, none⟩) hlt).trans (h j hj q hq)
theorem RowF.same {W w : World} {b n : Nat} {g : Nat → V} (h : RowF W b n g) (hb : Same W w b) : RowF w b n g := fun j hj q hq => (hb _).trans (h j hj q hq)
theorem RowF.eq {w : World} {b n : Nat} {g g' : Nat → V} (h : RowF w b n g) (he : ∀ j, j < n → g j = g' j) : RowF w b n g' := fun j hj q hq => by rw [← he j hj]; exact h j hj q hq
theorem RowF.put {w : World} {b n m i : Nat} {g : Nat → V} {t : TypeId} (y : V) (hk : Blk w b t m) (h : RowF w b n g) (hi : i < n) (hm : n * 5 ≤ m) : RowF (put5 w b (i * 5) y) b n (fun j => if j = i then y else g j) := by
  intro j hj q hq
  show _ = (words (if j = i then y else g j))[q]?
  by_cases e : j = i
  · subst e
    rw [if_pos rfl]
    exact put5_cell hk (by omega) q hq
  · rw [if_neg e, ← h j hj q hq]
    refine World.cell?_setCells_out b (words y) _ w _ (fun _ _ => ?_)
    simp only [words, List.length_cons, List.length_nil]
    omega
theorem RowF.made (w : World) (m : Nat) : RowF (w.alloc (.cells (madeCells zeroV (m * 5)) 30)) w.heap.size m (fun _ => leaf 0 0 ⟨#[]⟩) := by
  intro j hj q hq
  unfold World.cell?
  simp only [World.alloc_heap_new]
  have h5 : (madeCells zeroV (m * 5))[j * 5 + q]? = some (zeroV[(j * 5 + q) % 5]!) := by
    unfold madeCells
    rw [Array.getElem?_map, Array.getElem?_range]
    simp [show j * 5 + q < m * 5 by omega, zeroV]
  rw [h5, show (j * 5 + q) % 5 = q by omega]
  obtain rfl | rfl | rfl | rfl | rfl : q = 0 ∨ q = 1 ∨ q = 2 ∨ q = 3 ∨ q = 4 := by omega
  all_goals rfl
theorem RowF.row {w : World} {b n : Nat} {g : Nat → V} (h : RowF w b n g) (l : List V) (hl : l.length ≤ n) (he : ∀ j (hj : j < l.length), g j = l[j]) : Row w b 0 l := by
  intro i hi
  have hq := fun q hq => h i (by omega) q hq
  rw [he i hi] at hq
  simp only [Nat.zero_add]
  exact ⟨hq 0 (by omega), hq 1 (by omega), hq 2 (by omega), hq 3 (by omega), hq 4 (by omega)⟩
theorem RowF.of_row {w : World} {b : Nat} {l : List V} (h : Row w b 0 l) (g : Nat → V) (he : ∀ j (hj : j < l.length), g j = l[j]) : RowF w b l.length g := by
  intro j hj q hq
  rw [he j hj]
  obtain ⟨h0, h1, h2, h3, h4⟩ := h j hj
  simp only [Nat.zero_add] at h0 h1 h2 h3 h4
  obtain rfl | rfl | rfl | rfl | rfl : q = 0 ∨ q = 1 ∨ q = 2 ∨ q = 3 ∨ q = 4 := by omega
  · exact h0
  · exact h1
  · exact h2
  · exact h3
  · exact h4
theorem FRow.below {B : Nat} {W w : World} {b : Nat} {l : List Fd} (h : FRow W b l) (hb : Below B W w) (hlt : b < B) : FRow w b l := fun i hi j hj => (hb.cell (p := ⟨b, i * 9 + j, none⟩) hlt).trans (h i hi j hj)
theorem FRow.cells {W : World} {b : Nat} {l : List Fd} (h : FRow W b l) (i : Nat) (hi : i < l.length) : W.cell? ⟨b, i * 9, none⟩ = some (.string l[i].name) ∧ W.cell? ⟨b, i * 9 + 1, none⟩ = some (.int .i64 l[i].ty) ∧ W.cell? ⟨b, i * 9 + 2, none⟩ = some (.slice l[i].ka l[i].kl l[i].kc) ∧ W.cell? ⟨b, i * 9 + 3, none⟩ = some (.bool l[i].must) ∧
    W.cell? ⟨b, i * 9 + 4, none⟩ = some (.int .i64 l[i].d.k) ∧ W.cell? ⟨b, i * 9 + 5, none⟩ = some (.int .u64 l[i].d.n) ∧ W.cell? ⟨b, i * 9 + 6, none⟩ = some (.string l[i].d.s) ∧ W.cell? ⟨b, i * 9 + 7, none⟩ = some (.slice l[i].d.a l[i].d.l.length l[i].d.c) ∧ W.cell? ⟨b, i * 9 + 8, none⟩ = some (.int .i64 l[i].d.e) :=
  ⟨h i hi 0 (by omega), h i hi 1 (by omega), h i hi 2 (by omega), h i hi 3 (by omega), h i hi 4 (by omega), h i hi 5 (by omega), h i hi 6 (by omega), h i hi 7 (by omega), h i hi 8 (by omega)⟩
/-- what stands in the made row when i are done -/
def gOuts (l ds : List V) (i j : Nat) : V := if j < i then ((outs l ds)[j]?).getD (leaf 0 0 ⟨#[]⟩) else leaf 0 0 ⟨#[]⟩
theorem outs_get (l ds : List V) (i : Nat) (h : ds.length = l.length) (hi : i < l.length) : (outs l ds)[i]? = some (if eqT l[i].t (ds[i]'(by omega)).t = true then leaf 0 0 ⟨#[]⟩ else l[i]) := by
  rw [List.getElem?_eq_getElem (by rw [outs_len _ _ h]; exact hi)]
  simp [outs]
theorem gOuts_eq (l ds : List V) (i : Nat) (h : ds.length = l.length) (hi : i < l.length) (he : eqT l[i].t (ds[i]'(by omega)).t = true) (j : Nat) : gOuts l ds i j = gOuts l ds (i + 1) j := by
  unfold gOuts
  by_cases h1 : j < i
  · rw [if_pos h1, if_pos (by omega)]
  · rw [if_neg h1]
    by_cases h2 : j = i
    · subst h2
      rw [if_pos (by omega), outs_get l ds j h hi, if_pos he]
      rfl
    · rw [if_neg (by omega)]
theorem gOuts_ne (l ds : List V) (i : Nat) (h : ds.length = l.length) (hi : i < l.length) (he : eqT l[i].t (ds[i]'(by omega)).t = false) (j : Nat) : (if j = i then l[i] else gOuts l ds i j) = gOuts l ds (i + 1) j := by
  unfold gOuts
  by_cases h2 : j = i
  · subst h2
    rw [if_pos rfl, if_pos (by omega), outs_get l ds j h hi, he]
    rfl
  · rw [if_neg h2]
    by_cases h1 : j < i
    · rw [if_pos h1, if_pos (by omega)]
    · rw [if_neg h1, if_neg (by omega)]
theorem gOuts_end (l ds : List V) (h : ds.length = l.length) (m : Nat) (hm : m ≤ l.length) (j : Nat) (hj : j < ((outs l ds).take m).length) : gOuts l ds l.length j = ((outs l ds).take m)[j] := by
  have hl := outs_len l ds h
  have hj' : j < l.length := by rw [List.length_take, hl] at hj; omega
  unfold gOuts
  rw [if_pos hj', List.getElem_take, List.getElem?_eq_getElem (by omega)]
  rfl
theorem outs_mem (l ds : List V) : ∀ x ∈ outs l ds, x = leaf 0 0 ⟨#[]⟩ ∨ x ∈ l := by
  intro x hx
  unfold outs at hx
  obtain ⟨i, hi, rfl⟩ := List.mem_iff_getElem.1 hx
  rw [List.getElem_zipWith]
  split
  · exact .inl rfl
  · exact .inr (List.getElem_mem _)
theorem leaf_in (k n : Int) (s : ByteArray) (Q : Nat → Prop) (w : World) (hk : -9223372036854775808 ≤ k ∧ k ≤ 9223372036854775807) (hn : 0 ≤ n ∧ n ≤ 18446744073709551615) (hs : s.size ≤ 281474976710656) : LiesIn Q w (leaf k n s) :=
  .mk ⟨hk, hn, hs, by decide, by simp, by simp⟩ (by simp) (by simp)
theorem laid_lies (Q : Nat → Prop) (kind : Int) (hk0 : 0 ≤ kind) (hk1 : kind ≤ 9223372036854775807) (l ds : List V) (hd : ds.length = l.length) (hcc : l.length ≤ 1000) (m : Nat) (hm : m ≤ l.length) (w : World) (B L : Nat) (hB : Q B) (hL : Q L)
    (hc : w.heap[B]? = some (.cells #[.int .i64 5, .int .u64 kind, .string ⟨#[]⟩, .slice none 0 0, .int .i64 0, .int .i64 21, .int .u64 0, .string ⟨#[]⟩, .slice (some ⟨L, 0, none⟩) m l.length, .int .i64 0] 30 (0, 0)))
    (hr : RowF w L l.length (gOuts l ds l.length)) (hl : ∀ x ∈ l, LiesIn Q w x) :
    LiesIn Q w (.of 24 0 ⟨#[]⟩ (some ⟨B, 0, none⟩) 2 0 [leaf 5 kind ⟨#[]⟩, .of 21 0 ⟨#[]⟩ (some ⟨L, 0, none⟩) l.length 0 ((outs l ds).take m)]) := by
  have hol := outs_len l ds hd
  have htl : ((outs l ds).take m).length = m := by rw [List.length_take, hol]; omega
  refine .mk ⟨by decide, by decide, by decide, by decide, by simp, by simp⟩ (fun _ => ⟨B, 0, rfl, hB, ?_⟩) ?_
  · intro i hi
    have h2 : i < 2 := hi
    have hcell : ∀ o, w.cell? ⟨B, o, none⟩ = (#[.int .i64 5, .int .u64 kind, .string ⟨#[]⟩, .slice none 0 0, .int .i64 0, .int .i64 21, .int .u64 0, .string ⟨#[]⟩, .slice (some ⟨L, 0, none⟩) m l.length, .int .i64 0] : Array Value)[o]? := fun o => by
      show (match w.heap[B]? with | some (.cells c _ _) => c[o]? | _ => none) = _
      rw [hc]
    simp only [hcell]
    obtain rfl | rfl : i = 0 ∨ i = 1 := by omega
    · exact ⟨rfl, rfl, rfl, rfl, rfl⟩
    · show _ ∧ _ ∧ _ ∧ (some (Value.slice (some ⟨L, 0, none⟩) m l.length) = some (Value.slice (V.of 21 0 ⟨#[]⟩ (some ⟨L, 0, none⟩) l.length 0 ((outs l ds).take m)).a (V.of 21 0 ⟨#[]⟩ (some ⟨L, 0, none⟩) l.length 0 ((outs l ds).take m)).l.length (V.of 21 0 ⟨#[]⟩ (some ⟨L, 0, none⟩) l.length 0 ((outs l ds).take m)).c)) ∧ _
      refine ⟨rfl, rfl, rfl, ?_, rfl⟩
      rw [V.l_of, htl]
      rfl
  · intro x hx
    simp only [List.mem_cons, List.not_mem_nil, or_false] at hx
    rcases hx with rfl | rfl
    · exact leaf_in _ _ _ _ _ (by decide) ⟨hk0, by omega⟩ (by decide)
    · refine .mk ⟨by decide, by decide, by decide, by decide, by omega, by omega⟩ (fun _ => ⟨L, 0, rfl, hL, hr.row _ (by omega) (fun j hj => gOuts_end l ds hd m hm j hj)⟩) ?_
      intro x hx
      rcases outs_mem l ds x (List.mem_of_mem_take hx) with rfl | h
      · exact leaf_in _ _ _ _ _ (by decide) (by decide) (by decide)
      · exact hl x h
end Go.Proofs.YtlpngpininkjnaaGreatDoor
