/- VGo, VWalk, VCheck, VDepth -/
import Derived.Test.YthhlpjhkeendcaaGreatDoorS01
import Derived.Test.YthhlpjhkeendcaaGreatDoorS05
import Derived.RangeFuncNested
import Derived.RangeFuncBound
import Derived.RangeFuncCalls
import Derived.RangeFuncLeaves
import Derived.Shelf.Abstract
import Derived.Shelf.RegionOpen
import Derived.WalkKit
import Derived.OwnWalkIn
import Derived.TacticsInMore
import Derived.LoopNIn
import Derived.LoopIn
import Derived.Test.YthhlpjhkeendcaaGreatDoorProg
namespace Go.Proofs.YthhlpjhkeendcaaGreatDoor
open Go.RowKit Go.Shelf
set_option linter.unusedVariables false
attribute [local go_sem] Oper.semAt_some
def V.allF : V → Int → List (Int × V) := V.para (fun p bs d => (d, V.mk' p (bs.map Prod.fst)) :: (bs.map fun b => b.2 (wrap64 (d + 1))).flatten) (fun _ => [])
def V.all (d : Int) (v : V) : List (Int × V) := v.allF d
def V.alls (d : Int) : List V → List (Int × V)
  | [] => []
  | x :: l => x.all d ++ V.alls d l
theorem alls_flat (d : Int) (l : List V) : (l.map fun x => x.allF d).flatten = V.alls d l := by
  induction l with
  | nil => rfl
  | cons x l ih => rw [List.map_cons, List.flatten_cons, ih, V.alls, V.all]
theorem V.all_of (d : Int) (k n : Int) (s : ByteArray) (a : Option Addr) (c : Nat) (e : Int) (l : List V) : V.all d (V.of k n s a c e l) = (d, V.of k n s a c e l) :: V.alls (wrap64 (d + 1)) l := by
  rw [← alls_flat]
  unfold V.all V.allF
  rw [V.para_of]
  simp only [List.map_map]
  congr 2
  conv => rhs; unfold V.of
  congr 1
  conv => rhs; rw [← List.map_id l]
  rfl
theorem alls_append (d : Int) (l m : List V) : V.alls d (l ++ m) = V.alls d l ++ V.alls d m := by
  induction l with
  | nil => rfl
  | cons x l ih => rw [List.cons_append, V.alls, V.alls, ih, List.append_assoc]
theorem alls_snoc (d : Int) (l : List V) (k : Nat) (h : k < l.length) : V.alls d (l.take (k + 1)) = V.alls d (l.take k) ++ l[k].all d := by
  rw [List.take_succ_eq_append_getElem h, alls_append, V.alls, V.alls, List.append_nil]
theorem alls_pre (d : Int) (l : List V) (k : Nat) : V.alls d (l.take k) <+: V.alls d l :=
  ⟨V.alls d (l.drop k), by rw [← alls_append, List.take_append_drop]⟩
def encV (x : Int × V) : Array Value := #[.int .i64 x.1, x.2.val]
def GoOk (X Q : Nat → Prop) (P : Int × V → Prop) (x : V) : Prop := ∀ (l N : Nat) (J Jx : List (Int × V) → World → Prop), (∀ pre W o, J pre W → J pre (W.alloc o)) →
  (∀ m pre y W, P y → J pre W → pre.length < N → YieldAt Fence.wide m Tryz.prog l (encV y) W fun e W' => (e = .returned (.bool true) ∧ J (pre ++ [y]) W' ∧ KpX X W W') ∨ (e = .returned (.bool false) ∧ Jx (pre ++ [y]) W')) →
  ∀ (n : Nat) (d : Int) (pre : List (Int × V)) (W : World), (∀ y ∈ x.all d, P y) → LiesIn Q W x → (∀ b, X b → b < W.heap.size) → J pre W → pre.length + (x.all d).length ≤ N →
    CallsIn Fence.wide n Tryz.prog 60 #[x.val, .int .i64 d, .func (.yield l) #[] #[]] W fun e W' =>
      (e = .returned (.bool true) ∧ J (pre ++ x.all d) W' ∧ KpX X W W') ∨ (e = .returned (.bool false) ∧ ∃ q, q <+: x.all d ∧ Jx (pre ++ q) W')
set_option maxRecDepth 100000 in
set_option maxHeartbeats 2000000 in
theorem go_any (X Q : Nat → Prop) (P : Int × V → Prop) (hq : ∀ b, Q b → ¬ X b) : ∀ x, GoOk X Q P x := by
  refine V.ind ?_
  intro k n s a c e l ih yl N J Jx hJa hY m d pre W hP hx hX hJ hN
  have HX := hide hx
  have IH := hide ih
  have ok := hx.ok
  have o2 := ok.l
  have o3 := ok.c
  clear hx ih ok
  have HY := hide hY
  have HA := hide hJa
  have HQ := hide hq
  have HP := hide hP
  clear hY hJa hq hP
  have hJ0 := HA.out _ _ (Obj.cells #[.int .i64 k, .int .u64 n, .string s, .slice a l.length c, .int .i64 e] 25) hJ
  have hYv := HY.out (m - 1) pre (d, .of k n s a c e l) _ (HP.out _ (by rw [V.all_of]; simp)) hJ0 (by rw [V.all_of] at hN; simp at hN; omega)
  have hdd : ∀ k : Nat, (Fence.wide.depth.isSome = true → 1 ≤ k) := fun k h => by cases h
  have hYw := YieldAt.mono hYv (R' := fun e' W1 => (e' = .returned (.bool true) ∧ J (pre ++ [(d, .of k n s a c e l)]) W1 ∧ Hid (KpX X (W.alloc (Obj.cells #[.int .i64 k, .int .u64 n, .string s, .slice a l.length c, .int .i64 e] 25)) W1) ∧ W1.cell? ⟨W.heap.size, 3, none⟩ = some (.slice a l.length c)) ∨ (e' = .returned (.bool false) ∧ Jx (pre ++ [(d, .of k n s a c e l)]) W1))
    (fun e' W1 h => h.elim (fun ⟨h1, h2, h3⟩ => .inl ⟨h1, h2, h3, h3.cell (fun hX' => by have := hX _ hX'; omega) (by simp [World.cell?_alloc_at])⟩) .inr)
  clear hYv
  obtain ⟨fn, tmps, assign, body, hy, hR⟩ := hYw
  simp only [encV, V.val_of] at hy
  rw [V.val_of]
  refine callsIn_of_wp Tryz.func60 rfl trivial ?_ rfl
  simp only [Tryz.ntmps60, List.size_toArray, List.length_cons, List.length_nil, Nat.reduceAdd, Nat.reduceSub, Array.replicate_succ, Array.replicate_zero, List.push_toArray, List.append_toArray, List.nil_append, List.cons_append]
  gi_wp2_with ((try refine ⟨hdd _, ?_⟩); refine hR.mono ?_; clear hR; rintro e' W1 (⟨rfl, hJ1, HK1, c3⟩ | ⟨rfl, hx1⟩))
  · gi_loopw [17] (fun i wr => ∃ j : Nat, i = .int .i64 j ∧ j ≤ l.length ∧ W.heap.size ≤ wr.heap.size ∧ Hid (J (pre ++ (d, .of k n s a c e l) :: V.alls (wrap64 (d + 1)) (l.take j)) wr ∧ KpX X W wr)) (fun i _ => l.length - (intOf i).toNat)
    case atStart =>
      refine ⟨0, rfl, Nat.zero_le _, ?_, by simpa [V.alls] using hJ1, ((KpX.refl X W).alloc _).trans HK1.out⟩
      have := HK1.out.1
      simp at this
      omega
    case round =>
      obtain ⟨j, rfl, hj, hsz, HJ⟩ := hrel
      by_cases hjl : j < l.length
      · obtain ⟨b, o, rfl, hlt, hr⟩ := (HX.out.kp HJ.out.2 HQ.out).row (by omega)
        obtain ⟨x0, x1, x2, x3, x4⟩ := hr j hjl
        have hbw : b < wr.heap.size := by
          obtain ⟨cs, t, f, hh⟩ := cells_of_cell x0
          exact (Array.getElem?_eq_some_iff.1 hh).1
        have hst := alls_snoc (wrap64 (d + 1)) l j hjl
        have hlen : (pre ++ (d, .of k n s (some ⟨b, o, none⟩) c e l) :: V.alls (wrap64 (d + 1)) (l.take j)).length + (l[j].all (wrap64 (d + 1))).length ≤ N := by
          obtain ⟨r, hr⟩ := alls_pre (wrap64 (d + 1)) l (j + 1)
          rw [hst] at hr
          have h1 := congrArg List.length hr
          rw [V.all_of] at hN
          simp at hN h1 ⊢
          omega
        have hx := IH.out l[j] (List.getElem_mem hjl) yl N J Jx HA.out HY.out (m - 1) (wrap64 (d + 1)) _ _ (fun y hy => HP.out y (by rw [V.all_of]; exact List.mem_cons_of_mem _ ((alls_pre (wrap64 (d + 1)) l (j + 1)).subset (by rw [hst]; exact List.mem_append_right _ hy)))) (((HX.out.kp HJ.out.2 HQ.out).sub _ (List.getElem_mem hjl)).kp ((KpX.refl X wr).alloc (Obj.cells #[.int .i64 l[j].k, .int .u64 l[j].n, .string l[j].s, .slice l[j].a l[j].l.length l[j].c, .int .i64 l[j].e] 25)) HQ.out) (fun b' hb' => by have := hX _ hb'; simp; omega) (HA.out _ _ _ HJ.out.1) hlen
        rw [V.val_eq] at hx
        have HK := hide HJ.out.2
        have HST := hide hst
        clear HJ hst
        gi_wp2_with ((try refine ⟨trivial, hdd _, ?_⟩); gi_at_call 60; refine hx.mono ?_; clear hx; rintro e' W2 (⟨rfl, hJ2, hK2⟩ | ⟨rfl, q, hq, hx2⟩))
        · go_roundw
          case rel =>
            refine ⟨j + 1, by go_num, hjl, ?_, ?_, HK.out.trans (((KpX.refl X wr).alloc _).trans hK2)⟩
            · have := hK2.1
              simp at this
              omega
            · rw [HST.out]
              simpa using hJ2
          case measure => simp [intOf]; omega
        · go_ret
          refine .inr ⟨rfl, (d, .of k n s (some ⟨b, o, none⟩) c e l) :: (V.alls (wrap64 (d + 1)) (l.take j) ++ q), ?_, by simpa using hx2⟩
          rw [V.all_of]
          refine List.cons_prefix_cons.2 ⟨rfl, ?_⟩
          have h1 := alls_pre (wrap64 (d + 1)) l (j + 1)
          rw [HST.out] at h1
          exact ((List.prefix_append_right_inj _).2 hq).trans h1
      · obtain rfl : j = l.length := by omega
        gi_wp2
        go_ret
        refine .inl ⟨rfl, ?_, HJ.out.2⟩
        rw [V.all_of]
        have := HJ.out.1
        rwa [List.take_length] at this
  · go_ret
    exact .inr ⟨rfl, [(d, .of k n s a c e l)], by rw [V.all_of]; exact List.cons_prefix_cons.2 ⟨rfl, List.nil_prefix⟩, hx1⟩
attribute [local go_sem] Oper.semAt_some
def BoxV (W : World) (B : Nat) (v : V) : Prop := W.heap[B]? = some (.cells #[.int .i64 v.k, .int .u64 v.n, .string v.s, .slice v.a v.l.length v.c, .int .i64 v.e] 25 (0, 0))
theorem BoxV.cells {W : World} {B : Nat} {v : V} (h : BoxV W B v) : W.cell? ⟨B, 0, none⟩ = some (.int .i64 v.k) ∧ W.cell? ⟨B, 1, none⟩ = some (.int .u64 v.n) ∧ W.cell? ⟨B, 2, none⟩ = some (.string v.s) ∧ W.cell? ⟨B, 3, none⟩ = some (.slice v.a v.l.length v.c) ∧ W.cell? ⟨B, 4, none⟩ = some (.int .i64 v.e) := by
  unfold BoxV at h
  refine ⟨?_, ?_, ?_, ?_, ?_⟩ <;> simp [World.cell?, h]
theorem BoxV.lt {W : World} {B : Nat} {v : V} (h : BoxV W B v) : B < W.heap.size := (Array.getElem?_eq_some_iff.1 h).1
theorem BoxV.new (w : World) (v : V) : BoxV (w.alloc (.cells #[.int .i64 v.k, .int .u64 v.n, .string v.s, .slice v.a v.l.length v.c, .int .i64 v.e] 25)) w.heap.size v := World.alloc_heap_new w _
theorem BoxV.below {n₀ : Nat} {A W : World} {B : Nat} {v : V} (h : BoxV A B v) (hb : Below n₀ A W) (hlt : B < n₀) : BoxV W B v := (hb.block B hlt).trans h
set_option maxRecDepth 100000 in
set_option maxHeartbeats 2000000 in
theorem walk_seq (X Y Q : Nat → Prop) (P : Int × V → Prop) (hq : ∀ b, Q b → ¬ X b) (v : V) (hP : ∀ y ∈ v.all 1, P y) (B : Nat) (w : World) (hB : BoxV w B v) (hl : LiesIn Q w v) (hQ : ∀ b, Q b → b < w.heap.size) (hX : ∀ b, X b → b < w.heap.size) :
    SeqW Tryz.prog 59 #[.pointer (some ⟨B, 0, none⟩)] encV (fun y _ => P y) X Y (fun xs => xs = v.all 1) (fun pre => pre <+: v.all 1) (v.all 1).length w := by
  intro l n J Jx W _ hW hJ hJx hY h0
  have hsz := hW.size
  have hlt := hB.lt
  have hl1 : LiesIn Q W v := hl.keep (fun b hb o => hW.cell (p := ⟨b, o, none⟩) (hQ b hb)) (fun _ h => h)
  obtain ⟨c0, c1, c2, c3, c4⟩ := (hB.below hW hlt).cells
  have hg := go_any X Q P hq v l (v.all 1).length J Jx (fun pre W o h => hJ.alloc o h) (fun m pre y W1 hy hj hlen => YieldAt.mono (hY m pre y W1 hy hj hlen) (fun e W' h => h.elim .inl (fun h => .inr ⟨h.1, h.2.1⟩))) (n - 1) 1 [] W hP hl1 (fun b hb => by have := hX b hb; omega) h0 (by simp)
  rw [V.val_eq] at hg
  have hdd : ∀ k : Nat, (Fence.wide.depth.isSome = true → 1 ≤ k) := fun k h => by cases h
  have HG := hide hg
  clear hg hY
  refine callsIn_of_wp Tryz.func59 rfl trivial ?_ rfl
  simp only [Tryz.ntmps59, List.size_toArray, List.length_cons, List.length_nil, Nat.reduceAdd, Nat.reduceSub, Array.replicate_succ, Array.replicate_zero, List.push_toArray, List.append_toArray, List.nil_append, List.cons_append]
  gi_wp2_with ((try refine ⟨trivial, hdd _, ?_⟩); gi_at_call 60; refine HG.out.mono ?_; clear HG; rintro e W1 (⟨rfl, hJ1, hK1⟩ | ⟨rfl, q, hq1, hx1⟩))
  · go_end0
    exact ⟨⟨_, rfl⟩, .inl ⟨_, rfl, by simpa using hJ1⟩⟩
  · go_end0
    exact ⟨⟨_, rfl⟩, .inr ⟨q, hq1, by simpa using hx1⟩⟩
theorem walk_any (v : V) (w : World) :
    Calls Tryz.prog 37 #[.agg #[.int .i64 v.k, .int .u64 v.n, .string v.s, .slice v.a v.l.length v.c, .int .i64 v.e]] w fun e w' => e = .returned (.func (.func 59) #[] #[.pointer (some ⟨w.heap.size, 0, none⟩)]) ∧
      w' = w.alloc (.cells #[.int .i64 v.k, .int .u64 v.n, .string v.s, .slice v.a v.l.length v.c, .int .i64 v.e] 25) := by
  go_enter Tryz.func37, Tryz.ntmps37
  go_wp2
  go_ret
  exact ⟨rfl, rfl⟩
attribute [local go_sem] Oper.semAt_some
theorem alls_lies {Q : Nat → Prop} {W : World} (l : List V) (ih : ∀ x ∈ l, ∀ d, LiesIn Q W x → ∀ y ∈ x.all d, LiesIn Q W y.2) (d : Int) (h : ∀ x ∈ l, LiesIn Q W x) : ∀ y ∈ V.alls d l, LiesIn Q W y.2 := by
  induction l with
  | nil => intro y hy; simp [V.alls] at hy
  | cons x l ihl =>
    intro y hy
    rw [V.alls] at hy
    rcases List.mem_append.1 hy with hy | hy
    · exact ih x (by simp) d (h x (by simp)) y hy
    · exact ihl (fun z hz => ih z (by simp [hz])) (fun z hz => h z (by simp [hz])) y hy
theorem all_lies {Q : Nat → Prop} {W : World} (d : Int) (v : V) (h : LiesIn Q W v) : ∀ y ∈ v.all d, LiesIn Q W y.2 := by
  refine V.ind (Q := fun v => ∀ d, LiesIn Q W v → ∀ y ∈ v.all d, LiesIn Q W y.2) ?_ v d h
  intro k n s a c e l ih d h y hy
  rw [V.all_of] at hy
  rcases List.mem_cons.1 hy with rfl | hy
  · exact h
  · exact alls_lies l ih (wrap64 (d + 1)) h.sub y hy
def firstE (z : Int × V → Int) : List (Int × V) → Int
  | [] => 0
  | x :: l => if z x ≠ 0 then z x else firstE z l
theorem firstE_none (z : Int × V → Int) (l : List (Int × V)) (h : ∀ x ∈ l, z x = 0) : firstE z l = 0 := by
  induction l with
  | nil => rfl
  | cons x l ih => rw [firstE, if_neg (by simp [h x (by simp)])]; exact ih (fun y hy => h y (by simp [hy]))
theorem firstE_at (z : Int × V → Int) (p : List (Int × V)) (x : Int × V) (r : List (Int × V)) (h : ∀ y ∈ p, z y = 0) (hx : z x ≠ 0) : firstE z (p ++ x :: r) = z x := by
  induction p with
  | nil => rw [List.nil_append, firstE, if_pos hx]
  | cons y p ih => rw [List.cons_append, firstE, if_neg (by simp [h y (by simp)])]; exact ih (fun y hy => h y (by simp [hy]))
attribute [local go_sem] Oper.semAt_some
def mx : List (Int × V) → Int := List.foldl (fun m x => max m x.1) 0
end Go.Proofs.YthhlpjhkeendcaaGreatDoor
