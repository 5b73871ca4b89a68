
/- Stage 17: the line's Push and Pop. -/
import Derived.Test.YtnbhifakfehefaaKDown
import Derived.Test.YtnbhifakfehefaaKNew
import Derived.Test.YtnbhifakfehefaaApp
namespace Go.Proofs.Ytnbhifakfehefaa
open Go.RowKit
set_option linter.unusedVariables false
set_option linter.unusedSimpArgs false
theorem row_form {w : World} {B n : Nat} {e : TypeId} {F : Value} {xs : List Value} (h : w.ownsRow B e 1 F n xs) : ∃ a cap, F = .slice a n cap := by
  rcases h.2 with ⟨rfl, rfl⟩ | ⟨g, cap, cur, rfl, _⟩
  · exact ⟨none, 0, rfl⟩
  · exact ⟨_, _, rfl⟩
theorem row_blk {w : World} {B n k : Nat} {e : TypeId} {F : Value} {xs : List Value} (h : w.ownsRow B e 1 F n xs) (hk : F.ownBlock = some k) : ∃ cur, w.heap[k]? = some (.cells cur e (0, 0)) := by
  rcases h.2 with ⟨rfl, rfl⟩ | ⟨g, cap, cur, rfl, _, hg, _⟩
  · cases hk
  · simp only [Value.ownBlock, Option.some.injEq] at hk
    subst hk
    exact ⟨cur, hg⟩
theorem QB.cell {w : World} {qb : Nat} {c : Cf} {hi : Int} {A F : Value} (h : QB w qb c hi A F) : w.cell? ⟨qb, 0, none⟩ = some (.string c.s) ∧ w.cell? ⟨qb, 1, none⟩ = some (.int .i64 c.m) ∧ w.cell? ⟨qb, 2, none⟩ = some (.string c.d) ∧ w.cell? ⟨qb, 3, none⟩ = some (.int .i64 c.t) ∧ w.cell? ⟨qb, 4, none⟩ = some (.bool c.b) ∧ w.cell? ⟨qb, 5, none⟩ = some (.int .i64 hi) ∧ w.cell? ⟨qb, 6, none⟩ = some A ∧ w.cell? ⟨qb, 7, none⟩ = some F := by
  unfold QB at h
  refine ⟨?_, ?_, ?_, ?_, ?_, ?_, ?_, ?_⟩ <;> simp [World.cell?, h]
theorem QB.free {w : World} {qb : Nat} {c : Cf} {hi : Int} {A F : Value} (h : QB w qb c hi A F) (o : Nat) : w.frozen? ⟨qb, o, none⟩ = false := by
  unfold QB at h
  simp [World.frozen?, h]
theorem QB.lt {w : World} {qb : Nat} {c : Cf} {hi : Int} {A F : Value} (h : QB w qb c hi A F) : qb < w.heap.size := (Array.getElem?_eq_some_iff.1 h).1
theorem QB.set7 {w : World} {qb : Nat} {c : Cf} {hi : Int} {A F : Value} (h : QB w qb c hi A F) (v : Value) : QB (w.setCell ⟨qb, 7, none⟩ v) qb c hi A v := by
  unfold QB at *
  rw [blk_set w qb 7 v h]
  simp
theorem QB.ne_item {w : World} {qb b : Nat} {c : Cf} {hi : Int} {A F : Value} {x : It} (h : QB w qb c hi A F) (hb : IB w b x) : qb ≠ b := by
  rintro rfl
  unfold QB at h
  unfold IB at hb
  rw [h] at hb
  simp at hb
theorem QB.ne_row {w : World} {qb k B n : Nat} {c : Cf} {hi : Int} {A F G : Value} {xs : List Value} (h : QB w qb c hi A F) (hr : w.ownsRow B 67 1 G n xs) (hk : G.ownBlock = some k) : qb ≠ k := by
  rintro rfl
  obtain ⟨cur, hg⟩ := row_blk hr hk
  unfold QB at h
  rw [h] at hg
  simp at hg
theorem IB.ne_row {w : World} {b k B n : Nat} {x : It} {G : Value} {xs : List Value} (h : IB w b x) (hr : w.ownsRow B 67 1 G n xs) (hk : G.ownBlock = some k) : b ≠ k := by
  rintro rfl
  obtain ⟨cur, hg⟩ := row_blk hr hk
  unfold IB at h
  rw [h] at hg
  simp at hg
theorem Try.infoP : (Try.prog.info? 67).map (fun i => (i.zero, i.size, i.bytes)) = some (some (.pointer none), 1, 8) := by kernel_rfl
theorem cell_new1 (w : World) (v : Value) (t : TypeId) : (w.alloc (.cells #[v] t)).cell? ⟨w.heap.size, 0, none⟩ = some v := by
  have := heap_new w (.cells #[v] t)
  simp only [World.cell?, this]
  rfl
theorem rows_set {w : World} {B n b o : Nat} {G v : Value} {xs : List Value} (h : w.ownsRow B 67 1 G n xs) (hne : G.ownBlock ≠ some b) : (w.setCell ⟨b, o, none⟩ v).ownsRow B 67 1 G n xs := by
  refine ⟨h.1, ?_⟩
  rcases h.2 with hn | ⟨g, cap, cur, rfl, hbg, hg, hrest⟩
  · exact .inl hn
  · refine .inr ⟨g, cap, cur, rfl, hbg, ?_, hrest⟩
    rw [blk_set_other _ ⟨b, o, none⟩ _ g (fun e => hne (congrArg some e))]
    exact hg
/-- what Push leaves -/
def PushP (B qb b : Nat) (c : Cf) (hi : Int) (A F : Value) (H : List Nat) (E : Nat → It) (w w' : World) (F' : Value) : Prop :=
  QB w' qb c hi A F' ∧ Lx w' B F' (H ++ [b]) E ∧ (F'.ownBlock = F.ownBlock ∨ ∃ g, F'.ownBlock = some g ∧ w.heap.size ≤ g) ∧ Kp (fun k => k = qb ∨ k = b ∨ F.ownBlock = some k) w w'
theorem push_made {B qb b : Nat} {c : Cf} {hi : Int} {A F : Value} {H : List Nat} {E : Nat → It} {p : Int} {w w3 : World} {o : Obj} {F' : Value} (hq : QB w qb c hi A F) (hl : Lx w B F H E) (hb : IB w b ((E b).at p)) (hbH : b ∉ H) (h4 : H.length < 4096)
    (r1 : w3.ownsRow B 67 1 F' (H.length + 1) (H.map ptr ++ [ptr b])) (r2 : ((w.setCell ⟨b, 7, none⟩ (.int .i64 (H.length : Int))).alloc o).grownBy w3 F.ownBlock) (r3 : F'.ownBlock = F.ownBlock ∨ ∃ g, F'.ownBlock = some g ∧ ((w.setCell ⟨b, 7, none⟩ (.int .i64 (H.length : Int))).alloc o).heap.size ≤ g) :
    PushP B qb b c hi A F H E w (w3.setCell ⟨qb, 7, none⟩ F') F' := by
  have hqb := hq.ne_item hb
  have hsz : ((w.setCell ⟨b, 7, none⟩ (.int .i64 (H.length : Int))).alloc o).heap.size = w.heap.size + 1 := by simp
  have hold : ∀ k, k < w.heap.size → F.ownBlock ≠ some k → w3.heap[k]? = (w.setCell ⟨b, 7, none⟩ (.int .i64 (H.length : Int))).heap[k]? := fun k hk hne => by
    rw [r2.block k (by omega) (fun e => hne e.symm)]
    exact ((Below.refl (w.setCell ⟨b, 7, none⟩ (.int .i64 (H.length : Int))).heap.size _).alloc (Nat.le_refl _) _).block k (by simpa using hk)
  have hq3 : QB w3 qb c hi A F := ((hold qb hq.lt (fun e => (hq.ne_row hl.row e) rfl)).trans (blk_set_other _ ⟨b, 7, none⟩ _ qb hqb)).trans hq
  have hF' : F'.ownBlock ≠ some qb := fun e => (hq3.ne_row r1 e) rfl
  have hs3 : w.heap.size ≤ w3.heap.size := by have := r2.size; omega
  refine ⟨hq3.set7 F', ⟨?_, ?_, ?_, by simp; omega⟩, r3.imp id (fun ⟨g, e1, e2⟩ => ⟨g, e1, by omega⟩), ?_⟩
  · rw [List.length_append, List.map_append]
    exact rows_set r1 hF'
  · intro k x hk
    have hx : k < H.length ∧ H[k]? = some x ∨ k = H.length ∧ x = b := by
      by_cases hlt : k < H.length
      · rw [List.getElem?_append_left hlt] at hk
        exact .inl ⟨hlt, hk⟩
      · rw [List.getElem?_append_right (by omega)] at hk
        have : k - H.length = 0 := by
          by_cases e : k - H.length = 0
          · exact e
          · rw [List.getElem?_eq_none (by simp; omega)] at hk
            cases hk
        rw [this] at hk
        simp at hk
        exact .inr ⟨by omega, hk.symm⟩
    rcases hx with ⟨hlt, hx⟩ | ⟨rfl, rfl⟩
    · have hix := hl.it k x hx
      have hxb : x ≠ b := fun e => hbH (by rw [← e]; exact List.mem_of_getElem? hx)
      have hxq : x ≠ qb := fun e => (hq.ne_item hix) e.symm
      exact ((blk_set_other _ ⟨qb, 7, none⟩ _ x hxq).trans ((hold x hix.lt (fun e => (hix.ne_row hl.row e) rfl)).trans (blk_set_other _ ⟨b, 7, none⟩ _ x hxb))).trans hix
    · have hix := ib_pos hb (H.length : Int)
      rw [at_at] at hix
      exact ((blk_set_other _ ⟨qb, 7, none⟩ _ x (fun e => hqb e.symm)).trans (hold x hb.lt (fun e => (hb.ne_row hl.row e) rfl))).trans hix
  · rw [List.nodup_append]
    exact ⟨hl.nd, by simp, by simpa using fun a ha e => hbH (by rw [← e]; exact ha)⟩
  · refine ⟨r2.os, r2.tape, r2.output, by simpa using hs3, fun k hk hs => ?_⟩
    rw [blk_set_other _ ⟨qb, 7, none⟩ _ k (fun e => hs (.inl e)), hold k hk (fun e => hs (.inr (.inr e)))]
    exact blk_set_other _ ⟨b, 7, none⟩ _ k (fun e => hs (.inr (.inl e)))
set_option maxRecDepth 100000 in
set_option maxHeartbeats 4000000 in
theorem push_line (B qb b : Nat) (c : Cf) (hi : Int) (A F : Value) (H : List Nat) (E : Nat → It) (p : Int) (w : World) (hq : QB w qb c hi A F) (hl : Lx w B F H E) (hb : IB w b ((E b).at p)) (hbH : b ∉ H) (hB : B ≤ w.heap.size) (h4 : H.length < 4096) :
    Calls Try.prog 95 #[.pointer (some ⟨qb, 7, none⟩), .iface 67 (ptr b)] w fun e w' => e = .returned (.tuple #[]) ∧ ∃ F', Hid (PushP B qb b c hi A F H E w w' F') := by
  obtain ⟨i0, hi0, hz0, hz1, hz2⟩ := info_parts Try.infoP
  have HI := hide hi0
  have HZ0 := hide hz0
  have HZ1 := hide hz1
  have HZ2 := hide hz2
  clear hi0 hz0 hz1 hz2
  obtain ⟨a, cap, rfl⟩ := row_form hl.row
  have c7 := hq.cell.2.2.2.2.2.2.2
  have f7 := hq.free 7
  have b7 := hb.cells.2.2.2.2.2.2.2
  have g7 := hb.free 7
  have hne := hq.ne_item hb
  obtain ⟨n, hn⟩ : ∃ n, H.length = n := ⟨_, rfl⟩
  obtain ⟨W1, hW1⟩ : ∃ W1, w.setCell ⟨b, 7, none⟩ (.int .i64 (n : Int)) = W1 := ⟨_, rfl⟩
  have hq1 : QB W1 qb c hi A (.slice a H.length cap) := by rw [← hW1]; exact (blk_set_other _ ⟨b, 7, none⟩ _ qb hne).trans hq
  have d7 := hq1.cell.2.2.2.2.2.2.2
  have HR1 : Hid ((W1.alloc (Obj.cells #[ptr b] 67)).ownsRow B 67 1 (.slice a H.length cap) H.length (H.map ptr)) := by
    rw [← hW1]
    exact (rows_set hl.row (fun e => (hb.ne_row hl.row e) rfl)).alloc _
  have HMK := hide (fun (w3 : World) (o : Obj) (F' : Value) => push_made (w3 := w3) (o := o) (F' := F') hq hl hb hbH h4)
  have HQN : Hid (∀ (w3 : World) (F' : Value), w3.ownsRow B 67 1 F' (H.length + 1) (H.map ptr ++ [ptr b]) → (W1.alloc (Obj.cells #[ptr b] 67)).grownBy w3 (Value.slice a H.length cap).ownBlock → w3.cell? ⟨qb, 7, none⟩ = some (.slice a H.length cap) ∧ w3.frozen? ⟨qb, 7, none⟩ = false) := fun w3 F' r1 r2 => by
    have hq2 : QB (W1.alloc (Obj.cells #[ptr b] 67)) qb c hi A (.slice a H.length cap) := heap_past hq1 _
    have hq3 : QB w3 qb c hi A (.slice a H.length cap) := (r2.block qb hq2.lt (fun e => (hq2.ne_row HR1.out e.symm) rfl)).trans hq2
    exact ⟨hq3.cell.2.2.2.2.2.2.2, hq3.free 7⟩
  have hB1 : B ≤ W1.heap.size := by rw [← hW1]; simpa using hB
  have hn4 : n < 4096 := by omega
  have HW1 := hide hW1
  have HN := hide hn
  rw [hn] at c7 d7 HR1 HQN
  rw [hn]
  rw [← hW1] at HR1 HQN d7
  have HCN : Hid (((w.setCell ⟨b, 7, none⟩ (.int .i64 (n : Int))).alloc (Obj.cells #[.pointer (some ⟨b, 0, none⟩)] 67)).cell? ⟨w.heap.size, 0, none⟩ = some (.pointer (some ⟨b, 0, none⟩))) := by
    have := cell_new1 (w.setCell ⟨b, 7, none⟩ (.int .i64 (n : Int))) (.pointer (some ⟨b, 0, none⟩)) 67
    show _ = _
    simpa using this
  have HBB : Hid (B ≤ ((w.setCell ⟨b, 7, none⟩ (.int .i64 (n : Int))).alloc (Obj.cells #[.pointer (some ⟨b, 0, none⟩)] 67)).heap.size) := by show _ ≤ _; simp; omega
  clear hq hl hb hbH hq1 hW1 hB hB1 HW1 hn
  unfold ptr at HR1 HQN ⊢
  have hta : (Instr.typeAssert (.iface 67 (.pointer (some ⟨b, 0, none⟩))) 20 67 false).run Try.prog w = .ok (.pointer (some ⟨b, 0, none⟩)) w := by kernel_rfl
  go_enter Try.func95, Try.ntmps95
  go_wp2_with (at_builtin; refine wpList_append_new _ rfl (.tmp 17) (.tmp 19) 61 rfl B 67 i0 (.pointer none) 8 Try.underlying61 HI.out HZ0.out HZ1.out HZ2.out rfl _ n _ rfl HR1.out ⟨w.heap.size, 0, none⟩ 1 (.pointer (some ⟨b, 0, none⟩)) rfl HCN.out rfl (by unfold maxLen; omega) (by omega) HBB.out ?_; intro v' w3 r1 r2 r3; obtain ⟨a', cap', rfl⟩ := row_form r1; have HRR1 := hide r1; have HRR2 := hide r2; have HRR3 := hide r3; obtain ⟨k7, l7⟩ := HQN.out w3 _ r1 r2; clear r1 r2 r3)
  go_end0
  have hmk := HMK.out
  rw [HN.out] at hmk
  exact ⟨rfl, _, hmk w3 _ _ HRR1.out HRR2.out HRR3.out⟩
end Go.Proofs.Ytnbhifakfehefaa
