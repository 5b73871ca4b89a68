import Derived.Test.YtlpngpininkjnaaGreatDoorVGoZ
import Derived.Test.YtlpngpininkjnaaGreatDoorVLawZ

/- value.walk. -/
namespace Go.Proofs.YtlpngpininkjnaaGreatDoor
open Go.RowKit Go.Shelf
set_option linter.unusedVariables false
attribute [local go_sem] Oper.semAt_some

/-- a box that holds v's words -/
def BoxV (W : World) (B : Nat) (v : V) : Prop := W.heap[B]? = some (.cells #[.int .i64 v.k, .int .u64 v.n, .string v.s, .slice v.a v.l.length v.c, .int .i64 v.e] 30 (0, 0))
theorem BoxV.cells {W : World} {B : Nat} {v : V} (h : BoxV W B v) : W.cell? ⟨B, 0, none⟩ = some (.int .i64 v.k) ∧ W.cell? ⟨B, 1, none⟩ = some (.int .u64 v.n) ∧ W.cell? ⟨B, 2, none⟩ = some (.string v.s) ∧ W.cell? ⟨B, 3, none⟩ = some (.slice v.a v.l.length v.c) ∧ W.cell? ⟨B, 4, none⟩ = some (.int .i64 v.e) := by
  unfold BoxV at h
  refine ⟨?_, ?_, ?_, ?_, ?_⟩ <;> simp [World.cell?, h]
theorem BoxV.lt {W : World} {B : Nat} {v : V} (h : BoxV W B v) : B < W.heap.size := (Array.getElem?_eq_some_iff.1 h).1
theorem BoxV.new (w : World) (v : V) : BoxV (w.alloc (.cells #[.int .i64 v.k, .int .u64 v.n, .string v.s, .slice v.a v.l.length v.c, .int .i64 v.e] 30)) w.heap.size v := World.alloc_heap_new w _
theorem BoxV.below {n₀ : Nat} {A W : World} {B : Nat} {v : V} (h : BoxV A B v) (hb : Below n₀ A W) (hlt : B < n₀) : BoxV W B v := (hb.block B hlt).trans h

set_option maxRecDepth 100000 in
set_option maxHeartbeats 2000000 in
theorem walk_seq (X Y Q : Nat → Prop) (P : Int × V → Prop) (hq : ∀ b, Q b → ¬ X b) (v : V) (hP : ∀ y ∈ v.all 1, P y) (B : Nat) (w : World) (hB : BoxV w B v) (hl : LiesIn Q w v) (hQ : ∀ b, Q b → b < w.heap.size) (hX : ∀ b, X b → b < w.heap.size) :
    SeqW Tryz.prog 57 #[.pointer (some ⟨B, 0, none⟩)] encV (fun y _ => P y) X Y (fun xs => xs = v.all 1) (fun pre => pre <+: v.all 1) (v.all 1).length w := by
  intro l n J Jx W _ hW hJ hJx hY h0
  have hsz := hW.size
  have hlt := hB.lt
  have hl1 : LiesIn Q W v := hl.keep (fun b hb o => hW.cell (p := ⟨b, o, none⟩) (hQ b hb)) (fun _ h => h)
  obtain ⟨c0, c1, c2, c3, c4⟩ := (hB.below hW hlt).cells
  have hg := go_any X Q P hq v l (v.all 1).length J Jx (fun pre W o h => hJ.alloc o h) (fun m pre y W1 hy hj hlen => YieldAt.mono (hY m pre y W1 hy hj hlen) (fun e W' h => h.elim .inl (fun h => .inr ⟨h.1, h.2.1⟩))) (n - 1) 1 [] W hP hl1 (fun b hb => by have := hX b hb; omega) h0 (by simp)
  rw [V.val_eq] at hg
  have hdd : ∀ k : Nat, (Fence.wide.depth.isSome = true → 1 ≤ k) := fun k h => by cases h
  have HG := hide hg
  clear hg hY
  refine callsIn_of_wp Tryz.func57 rfl trivial ?_ rfl
  simp only [Tryz.ntmps57, List.size_toArray, List.length_cons, List.length_nil, Nat.reduceAdd, Nat.reduceSub, Array.replicate_succ, Array.replicate_zero, List.push_toArray, List.append_toArray, List.nil_append, List.cons_append]
  gi_wp2_with ((try refine ⟨trivial, hdd _, ?_⟩); gi_at_call 58; refine HG.out.mono ?_; clear HG; rintro e W1 (⟨rfl, hJ1, hK1⟩ | ⟨rfl, q, hq1, hx1⟩))
  · go_end0
    exact ⟨⟨_, rfl⟩, .inl ⟨_, rfl, by simpa using hJ1⟩⟩
  · go_end0
    exact ⟨⟨_, rfl⟩, .inr ⟨q, hq1, by simpa using hx1⟩⟩

theorem walk_any (v : V) (w : World) :
    Calls Tryz.prog 23 #[.agg #[.int .i64 v.k, .int .u64 v.n, .string v.s, .slice v.a v.l.length v.c, .int .i64 v.e]] w fun e w' => e = .returned (.func (.func 57) #[] #[.pointer (some ⟨w.heap.size, 0, none⟩)]) ∧
      w' = w.alloc (.cells #[.int .i64 v.k, .int .u64 v.n, .string v.s, .slice v.a v.l.length v.c, .int .i64 v.e] 30) := by
  go_enter Tryz.func23, Tryz.ntmps23
  go_wp2
  go_ret
  exact ⟨rfl, rfl⟩
end Go.Proofs.YtlpngpininkjnaaGreatDoor
