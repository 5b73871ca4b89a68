/- HRUnp, HRSym -/
import Derived.Test.YtgldcchleoklcaaGreatDoorK36
import Derived.Test.YtgldcchleoklcaaGreatDoorK37
import Derived.Deep.WholeRow
namespace Go.Proofs.YtgldcchleoklcaaGreatDoor

open Go.RowKit
set_option linter.unusedVariables false
set_option linter.unusedSimpArgs false
theorem Tryz.sizeV : (Tryz.prog.info? 42).map (·.size) = some 5 := by kernel_rfl
theorem setR_size (w : World) (g : Nat) (c : Array Value) : (w.setRow g c).heap.size = w.heap.size := by simp [World.setRow]
theorem setR_at {w : World} {g : Nat} {cs : Array Value} {t : TypeId} {p : Nat × Nat} (h : w.heap[g]? = some (.cells cs t p)) (c : Array Value) : (w.setRow g c).heap[g]? = some (.cells c t p) := by
  simp only [World.setRow]
  rw [Array.getElem?_modify, if_pos rfl, h]
  rfl
theorem setR_ne (w : World) {g b : Nat} (h : g ≠ b) (c : Array Value) : (w.setRow g c).heap[b]? = w.heap[b]? := by
  simp only [World.setRow]
  rw [Array.getElem?_modify, if_neg h]
theorem setR_below {B : Nat} {a w : World} (h : Below B a w) {g : Nat} (hg : B ≤ g) (c : Array Value) : Below B a (w.setRow g c) :=
  ⟨h.os, h.tape, h.output, by rw [setR_size]; exact h.size, fun q hq => (setR_ne w (by omega) c).trans (h.block q hq)⟩
/-- a value that comes out of unpacked -/
def RUPost (Q : Nat → Prop) (r : T × Int) (w : World) (e : Ending) (w' : World) : Prop := ∃ y : V, e = VN y r.2 ∧ Hid ((r.2 = 0 → y.t = r.1) ∧ LiesIn (fun q => Q q ∨ (w.heap.size ≤ q ∧ q < w'.heap.size)) w' y) ∧ Below w.heap.size w w'
theorem LiesIn.lies {Q : Nat → Prop} {w : World} {v : V} (h : LiesIn Q w v) (hQ : ∀ b, Q b → b < w.heap.size) : Lies w.heap.size w v := LiesIn.keep h (fun _ _ _ => rfl) hQ
/-- the end: the value is laid into the result's own block -/
theorem ru_fin {Q : Nat → Prop} {r : T × Int} {w X : World} {y : V} (h : r.2 = 0 → y.t = r.1) (hl : LiesIn Q w y) (hn : ∀ b, Q b → b < w.heap.size) (hb : Below w.heap.size w X) : RUPost Q r w (VN y r.2) X :=
  ⟨y, rfl, ⟨h, LiesIn.keep hl (fun b hq o => hb.cell (p := ⟨b, o, none⟩) (by show b < w.heap.size; exact hn b hq)) (fun b hq => .inl hq)⟩, hb⟩
theorem fit_fill {re : T → T × Int} {s : FS} {v : V} (hk : v.k ≠ 0) (h102 : s.ty ≠ 102) (hsy : ¬(s.ty = 101 ∧ v.k = 20)) : fillT re s v.t = if fitsT s v.k v.e (kindV v.k v.l) = true then (v.t, 0) else (nul, 73) := by
  unfold fillT fitsT
  rw [k_t, if_neg hk, e_t]
  by_cases h100 : s.ty = 100
  · rw [if_pos h100, if_pos h100, if_pos rfl]
  rw [if_neg h100, if_neg h100]
  by_cases h101 : s.ty = 101
  · rw [if_pos h101, if_pos h101, if_neg (fun h => hsy ⟨h101, h⟩)]
    by_cases h : v.k = 23 ∧ v.e = 20
    · rw [if_pos h, if_pos (by simp [h.1, h.2])]
    · rw [if_neg h, if_neg (by simpa using h)]
  rw [if_neg h101, if_neg h101, if_neg h102, if_neg h102]
  by_cases h : v.k = s.ty
  · rw [if_pos h, if_pos (by simpa using h)]
  · rw [if_neg h, if_neg (by simpa using h)]
set_option maxRecDepth 100000 in
set_option maxHeartbeats 8000000 in
theorem runpacked_plain (re : T → T × Int) (f : Fd) (s : FS) (v : V) (Q : Nat → Prop) (w : World) (hn : ∀ b, Q b → b < w.heap.size) (hf : FdIn 0 w f s) (hks : s.ks.length ≤ 100) (hok : okFS s = true) (hv : LiesIn Q w v) (h102 : s.ty ≠ 102 ∨ v.k = 0) (hsy : ¬(s.ty = 101 ∧ v.k = 20)) :
    Calls Tryz.prog 46 #[f.val, v.val] w (RUPost Q (fillT re s v.t) w) := by
  have HF := hide hf
  obtain ⟨q1, q2, q3, q4, q5, q6, q7⟩ := hf
  have hdl : LiesIn Q w s.d := LiesIn.keep (okFS_lies hok 0 w) (fun _ _ _ => rfl) (fun b h => absurd h (Nat.not_lt_zero _))
  rw [Fd.val_eq, V.val_eq, q2, q3, q4, q5, q6]
  have HB : Hid (∀ o p q, Below w.heap.size w (((w.alloc o).alloc p).alloc q)) := fun o p q => bel1 (bel2 (Below.refl _ _) (Nat.le_refl _) _ _) (by simp; omega) _
  by_cases hk : v.k = 0
  · cases hmu : s.must
    · have hr : fillT re s v.t = (s.d, 0) := by unfold fillT; rw [k_t, if_pos hk, hmu, if_neg (by simp)]
      have HE : Hid (∀ o p q, RUPost Q (s.d, 0) w (VN s.d 0) (((w.alloc o).alloc p).alloc q)) := fun o p q => ru_fin (fun _ => fs_d_t s) hdl hn (HB.out o p q)
      rw [hr, hk]
      clear hk hmu hr q1 q2 q3 q4 q5 q6 q7 hdl hv HF
      go_enter Tryz.func46, Tryz.ntmps46
      go_wp2
      exact bodyPost_ret (v := .tuple #[.agg #[.int .i64 s.d.k, .int .u64 s.d.n, .string s.d.s, .slice s.d.a s.d.l.length s.d.c, .int .i64 s.d.e], .int .i64 0]) (by simp [results, Tryz.results46, go_sem]) rfl (HE.out _ _ _)
    · have hr : fillT re s v.t = (nul, 72) := by unfold fillT; rw [k_t, if_pos hk, hmu, if_pos rfl]
      have HE : Hid (∀ o p q, RUPost Q (nul, 72) w (VN v 72) (((w.alloc o).alloc p).alloc q)) := fun o p q => ru_fin (fun h => absurd h (by decide)) hv hn (HB.out o p q)
      rw [hr]
      unfold VN at HE
      rw [hk] at HE ⊢
      clear hk hmu hr q1 q2 q3 q4 q5 q6 q7 hdl hv HF
      go_enter Tryz.func46, Tryz.ntmps46
      go_wp2
      exact bodyPost_ret (v := .tuple #[.agg #[.int .i64 0, .int .u64 v.n, .string v.s, .slice v.a v.l.length v.c, .int .i64 v.e], .int .i64 72]) (by simp [results, Tryz.results46, go_sem]) rfl (HE.out _ _ _)
  · have h102' : s.ty ≠ 102 := by
      rcases h102 with h | h
      · exact h
      · exact absurd h hk
    have hr := fit_fill (re := re) hk h102' hsy
    have hkb : (v.k == 0) = false := by simpa using hk
    have b102 : (s.ty != 102) = true := by simpa using h102'
    obtain ⟨W0, hW0⟩ : ∃ W0, ((w.alloc (Obj.cells #[.string f.name, .int .i64 s.ty, .slice f.ka s.ks.length s.ks.length, .bool s.must, .int .i64 s.d.k, .int .u64 s.d.n, .string s.d.s, .slice s.d.a s.d.l.length s.d.c, .int .i64 s.d.e] 66)).alloc (Obj.cells #[.int .i64 v.k, .int .u64 v.n, .string v.s, .slice v.a v.l.length v.c, .int .i64 v.e] 42)).alloc (Obj.cells #[.int .i64 0, .int .u64 0, .string ⟨#[]⟩, .slice none 0 0, .int .i64 0] 42) = W0 := ⟨_, rfl⟩
    have hs0 : W0.heap.size = w.heap.size + 3 := by rw [← hW0]; simp
    have hb0 : Below w.heap.size w W0 := by rw [← hW0]; exact HB.out _ _ _
    have hx2 : W0.heap[w.heap.size + 2]? = some (.cells #[.int .i64 0, .int .u64 0, .string ⟨#[]⟩, .slice none 0 0, .int .i64 0] 42 (0, 0)) := by rw [← hW0]; exact heap_at2 _ _ _ _
    have hx1 : W0.heap[w.heap.size + 1]? = some (.cells #[.int .i64 v.k, .int .u64 v.n, .string v.s, .slice v.a v.l.length v.c, .int .i64 v.e] 42 (0, 0)) := by rw [← hW0]; exact heap_past (heap_at1 _ _ _) _
    have hx0 : W0.heap[w.heap.size]? = some (.cells #[.string f.name, .int .i64 s.ty, .slice f.ka s.ks.length s.ks.length, .bool s.must, .int .i64 s.d.k, .int .u64 s.d.n, .string s.d.s, .slice s.d.a s.d.l.length s.d.c, .int .i64 s.d.e] 66 (0, 0)) := by rw [← hW0]; exact heap_past (heap_past (World.alloc_heap_new _ _) _) _
    have hfit := fits_any f s v w.heap.size W0 (by omega) ⟨q1, q2, q3, q4, q5, q6, fun h0 => by
      obtain ⟨b, e, _, r2, r3⟩ := q7 h0
      exact ⟨b, e, Nat.zero_le _, by omega, (hb0.block b r2).trans r3⟩⟩ hks ((hv.lies hn).keep hb0 (Nat.le_refl _))
    rw [Fd.val_eq, V.val_eq, q2, q3, q4, q5, q6] at hfit
    rw [hr]
    generalize fitsT s v.k v.e (kindV v.k v.l) = g at hfit ⊢
    have HFIT := hide hfit
    have HW0 := hide hW0
    have HC : Hid (∀ w1, Below W0.heap.size W0 w1 → (w1.cell? ⟨w.heap.size + 1, 0, none⟩ = some (.int .i64 v.k) ∧ w1.cell? ⟨w.heap.size + 1, 1, none⟩ = some (.int .u64 v.n) ∧ w1.cell? ⟨w.heap.size + 1, 2, none⟩ = some (.string v.s) ∧ w1.cell? ⟨w.heap.size + 1, 3, none⟩ = some (.slice v.a v.l.length v.c) ∧ w1.cell? ⟨w.heap.size + 1, 4, none⟩ = some (.int .i64 v.e)) ∧ w1.cell? ⟨w.heap.size, 1, none⟩ = some (.int .i64 s.ty) ∧ Hid (w1.heap[w.heap.size + 2]? = some (.cells #[.int .i64 0, .int .u64 0, .string ⟨#[]⟩, .slice none 0 0, .int .i64 0] 42 (0, 0))) ∧ Hid (Below w.heap.size w w1)) := fun w1 h => by
      have e1 := (h.block (w.heap.size + 1) (by omega)).trans hx1
      have e0 := (h.block w.heap.size (by omega)).trans hx0
      refine ⟨⟨?_, ?_, ?_, ?_, ?_⟩, ?_, (h.block (w.heap.size + 2) (by omega)).trans hx2, belOn hb0 (by omega) h⟩ <;> (unfold World.cell?; first | (simp only [e1]; rfl) | (simp only [e0]; rfl))
    have HS0 := hide hs0
    have HVL := hide hv
    clear hr hfit hW0 hx0 hx1 hx2 hb0 hs0 q1 q2 q3 q4 q5 q6 q7 hdl HF HB hv h102
    have hguard : (s.ty == 101) = false ∨ ((s.ty = 101) ∧ (v.k == 20) = false) := by
      by_cases h : s.ty = 101
      · refine .inr ⟨h, ?_⟩
        have : v.k ≠ 20 := fun h' => hsy ⟨h, h'⟩
        simpa using this
      · exact .inl (by simpa using h)
    clear hsy hk h102'
    rcases hguard with b101 | ⟨h101, hk20⟩
    · cases g
      · rw [if_neg (by simp)]
        have HEND : Hid (∀ w1, Below w.heap.size w w1 → RUPost Q (nul, 73) w (VN v 73) (w1.setRow (w.heap.size + 2) #[.int .i64 v.k, .int .u64 v.n, .string v.s, .slice v.a v.l.length v.c, .int .i64 v.e])) := fun w1 h => ru_fin (fun h => absurd h (by decide)) HVL.out hn (setR_below h (by omega) _)
        unfold VN at HEND
        go_enter Tryz.func46, Tryz.ntmps46
        go_wp2_with fail
        rw [HW0.out]
        refine HFIT.out.mono ?_
        rintro e1 w1 ⟨rfl, hb1⟩
        obtain ⟨⟨c0, c1, c2, c3, c4⟩, cty, HX1, HBW1⟩ := HC.out w1 hb1
        have hlt : w.heap.size + 2 < w1.heap.size := by have := hb1.size; have := HS0.out; omega
        have hy1 : w.heap.size + 1 < w1.heap.size := by omega
        have hy0 : w.heap.size < w1.heap.size := by omega
        have HZ : Hid ((w1.setRow (w.heap.size + 2) #[.int .i64 v.k, .int .u64 v.n, .string v.s, .slice v.a v.l.length v.c, .int .i64 v.e]).heap[w.heap.size + 2]? = some (.cells #[.int .i64 v.k, .int .u64 v.n, .string v.s, .slice v.a v.l.length v.c, .int .i64 v.e] 42 (0, 0))) := setR_at HX1.out _
        go_wp2_with (refine wpList_store_row rfl 42 (.tmp 4) (.tmp 36) rfl (w.heap.size + 2) #[.int .i64 v.k, .int .u64 v.n, .string v.s, .slice v.a v.l.length v.c, .int .i64 v.e] rfl rfl 42 _ HX1.out Tryz.sizeV rfl (by kernel_rfl) ?_)
        have hz := HZ.out
        have z0 : (w1.setRow (w.heap.size + 2) #[.int .i64 v.k, .int .u64 v.n, .string v.s, .slice v.a v.l.length v.c, .int .i64 v.e]).cell? ⟨w.heap.size + 2, 0, none⟩ = some (.int .i64 v.k) := by unfold World.cell?; simp only [hz]; rfl
        have z1 : (w1.setRow (w.heap.size + 2) #[.int .i64 v.k, .int .u64 v.n, .string v.s, .slice v.a v.l.length v.c, .int .i64 v.e]).cell? ⟨w.heap.size + 2, 1, none⟩ = some (.int .u64 v.n) := by unfold World.cell?; simp only [hz]; rfl
        have z2 : (w1.setRow (w.heap.size + 2) #[.int .i64 v.k, .int .u64 v.n, .string v.s, .slice v.a v.l.length v.c, .int .i64 v.e]).cell? ⟨w.heap.size + 2, 2, none⟩ = some (.string v.s) := by unfold World.cell?; simp only [hz]; rfl
        have z3 : (w1.setRow (w.heap.size + 2) #[.int .i64 v.k, .int .u64 v.n, .string v.s, .slice v.a v.l.length v.c, .int .i64 v.e]).cell? ⟨w.heap.size + 2, 3, none⟩ = some (.slice v.a v.l.length v.c) := by unfold World.cell?; simp only [hz]; rfl
        have z4 : (w1.setRow (w.heap.size + 2) #[.int .i64 v.k, .int .u64 v.n, .string v.s, .slice v.a v.l.length v.c, .int .i64 v.e]).cell? ⟨w.heap.size + 2, 4, none⟩ = some (.int .i64 v.e) := by unfold World.cell?; simp only [hz]; rfl
        exact bodyPost_ret (v := .tuple #[.agg #[.int .i64 v.k, .int .u64 v.n, .string v.s, .slice v.a v.l.length v.c, .int .i64 v.e], .int .i64 73]) (by simp [results, Tryz.results46, go_sem, z0, z1, z2, z3, z4]) rfl (HEND.out w1 HBW1.out)
      · rw [if_pos rfl]
        have HEND : Hid (∀ w1, Below w.heap.size w w1 → RUPost Q (v.t, 0) w (VN v 0) (w1.setRow (w.heap.size + 2) #[.int .i64 v.k, .int .u64 v.n, .string v.s, .slice v.a v.l.length v.c, .int .i64 v.e])) := fun w1 h => ru_fin (fun _ => rfl) HVL.out hn (setR_below h (by omega) _)
        unfold VN at HEND
        go_enter Tryz.func46, Tryz.ntmps46
        go_wp2_with fail
        rw [HW0.out]
        refine HFIT.out.mono ?_
        rintro e1 w1 ⟨rfl, hb1⟩
        obtain ⟨⟨c0, c1, c2, c3, c4⟩, cty, HX1, HBW1⟩ := HC.out w1 hb1
        have hlt : w.heap.size + 2 < w1.heap.size := by have := hb1.size; have := HS0.out; omega
        have hy1 : w.heap.size + 1 < w1.heap.size := by omega
        have hy0 : w.heap.size < w1.heap.size := by omega
        have HZ : Hid ((w1.setRow (w.heap.size + 2) #[.int .i64 v.k, .int .u64 v.n, .string v.s, .slice v.a v.l.length v.c, .int .i64 v.e]).heap[w.heap.size + 2]? = some (.cells #[.int .i64 v.k, .int .u64 v.n, .string v.s, .slice v.a v.l.length v.c, .int .i64 v.e] 42 (0, 0))) := setR_at HX1.out _
        go_wp2_with (refine wpList_store_row rfl 42 (.tmp 4) (.tmp 40) rfl (w.heap.size + 2) #[.int .i64 v.k, .int .u64 v.n, .string v.s, .slice v.a v.l.length v.c, .int .i64 v.e] rfl rfl 42 _ HX1.out Tryz.sizeV rfl (by kernel_rfl) ?_)
        have hz := HZ.out
        have z0 : (w1.setRow (w.heap.size + 2) #[.int .i64 v.k, .int .u64 v.n, .string v.s, .slice v.a v.l.length v.c, .int .i64 v.e]).cell? ⟨w.heap.size + 2, 0, none⟩ = some (.int .i64 v.k) := by unfold World.cell?; simp only [hz]; rfl
        have z1 : (w1.setRow (w.heap.size + 2) #[.int .i64 v.k, .int .u64 v.n, .string v.s, .slice v.a v.l.length v.c, .int .i64 v.e]).cell? ⟨w.heap.size + 2, 1, none⟩ = some (.int .u64 v.n) := by unfold World.cell?; simp only [hz]; rfl
        have z2 : (w1.setRow (w.heap.size + 2) #[.int .i64 v.k, .int .u64 v.n, .string v.s, .slice v.a v.l.length v.c, .int .i64 v.e]).cell? ⟨w.heap.size + 2, 2, none⟩ = some (.string v.s) := by unfold World.cell?; simp only [hz]; rfl
        have z3 : (w1.setRow (w.heap.size + 2) #[.int .i64 v.k, .int .u64 v.n, .string v.s, .slice v.a v.l.length v.c, .int .i64 v.e]).cell? ⟨w.heap.size + 2, 3, none⟩ = some (.slice v.a v.l.length v.c) := by unfold World.cell?; simp only [hz]; rfl
        have z4 : (w1.setRow (w.heap.size + 2) #[.int .i64 v.k, .int .u64 v.n, .string v.s, .slice v.a v.l.length v.c, .int .i64 v.e]).cell? ⟨w.heap.size + 2, 4, none⟩ = some (.int .i64 v.e) := by unfold World.cell?; simp only [hz]; rfl
        exact bodyPost_ret (v := .tuple #[.agg #[.int .i64 v.k, .int .u64 v.n, .string v.s, .slice v.a v.l.length v.c, .int .i64 v.e], .int .i64 0]) (by simp [results, Tryz.results46, go_sem, z0, z1, z2, z3, z4]) rfl (HEND.out w1 HBW1.out)
    · rw [h101] at HW0 HFIT HC ⊢
      clear h101 b102
      cases g
      · rw [if_neg (by simp)]
        have HEND : Hid (∀ w1, Below w.heap.size w w1 → RUPost Q (nul, 73) w (VN v 73) (w1.setRow (w.heap.size + 2) #[.int .i64 v.k, .int .u64 v.n, .string v.s, .slice v.a v.l.length v.c, .int .i64 v.e])) := fun w1 h => ru_fin (fun h => absurd h (by decide)) HVL.out hn (setR_below h (by omega) _)
        unfold VN at HEND
        go_enter Tryz.func46, Tryz.ntmps46
        go_wp2_with fail
        rw [HW0.out]
        refine HFIT.out.mono ?_
        rintro e1 w1 ⟨rfl, hb1⟩
        obtain ⟨⟨c0, c1, c2, c3, c4⟩, cty, HX1, HBW1⟩ := HC.out w1 hb1
        have hlt : w.heap.size + 2 < w1.heap.size := by have := hb1.size; have := HS0.out; omega
        have hy1 : w.heap.size + 1 < w1.heap.size := by omega
        have hy0 : w.heap.size < w1.heap.size := by omega
        have HZ : Hid ((w1.setRow (w.heap.size + 2) #[.int .i64 v.k, .int .u64 v.n, .string v.s, .slice v.a v.l.length v.c, .int .i64 v.e]).heap[w.heap.size + 2]? = some (.cells #[.int .i64 v.k, .int .u64 v.n, .string v.s, .slice v.a v.l.length v.c, .int .i64 v.e] 42 (0, 0))) := setR_at HX1.out _
        go_wp2_with (refine wpList_store_row rfl 42 (.tmp 4) (.tmp 36) rfl (w.heap.size + 2) #[.int .i64 v.k, .int .u64 v.n, .string v.s, .slice v.a v.l.length v.c, .int .i64 v.e] rfl rfl 42 _ HX1.out Tryz.sizeV rfl (by kernel_rfl) ?_)
        have hz := HZ.out
        have z0 : (w1.setRow (w.heap.size + 2) #[.int .i64 v.k, .int .u64 v.n, .string v.s, .slice v.a v.l.length v.c, .int .i64 v.e]).cell? ⟨w.heap.size + 2, 0, none⟩ = some (.int .i64 v.k) := by unfold World.cell?; simp only [hz]; rfl
        have z1 : (w1.setRow (w.heap.size + 2) #[.int .i64 v.k, .int .u64 v.n, .string v.s, .slice v.a v.l.length v.c, .int .i64 v.e]).cell? ⟨w.heap.size + 2, 1, none⟩ = some (.int .u64 v.n) := by unfold World.cell?; simp only [hz]; rfl
        have z2 : (w1.setRow (w.heap.size + 2) #[.int .i64 v.k, .int .u64 v.n, .string v.s, .slice v.a v.l.length v.c, .int .i64 v.e]).cell? ⟨w.heap.size + 2, 2, none⟩ = some (.string v.s) := by unfold World.cell?; simp only [hz]; rfl
        have z3 : (w1.setRow (w.heap.size + 2) #[.int .i64 v.k, .int .u64 v.n, .string v.s, .slice v.a v.l.length v.c, .int .i64 v.e]).cell? ⟨w.heap.size + 2, 3, none⟩ = some (.slice v.a v.l.length v.c) := by unfold World.cell?; simp only [hz]; rfl
        have z4 : (w1.setRow (w.heap.size + 2) #[.int .i64 v.k, .int .u64 v.n, .string v.s, .slice v.a v.l.length v.c, .int .i64 v.e]).cell? ⟨w.heap.size + 2, 4, none⟩ = some (.int .i64 v.e) := by unfold World.cell?; simp only [hz]; rfl
        exact bodyPost_ret (v := .tuple #[.agg #[.int .i64 v.k, .int .u64 v.n, .string v.s, .slice v.a v.l.length v.c, .int .i64 v.e], .int .i64 73]) (by simp [results, Tryz.results46, go_sem, z0, z1, z2, z3, z4]) rfl (HEND.out w1 HBW1.out)
      · rw [if_pos rfl]
        have HEND : Hid (∀ w1, Below w.heap.size w w1 → RUPost Q (v.t, 0) w (VN v 0) (w1.setRow (w.heap.size + 2) #[.int .i64 v.k, .int .u64 v.n, .string v.s, .slice v.a v.l.length v.c, .int .i64 v.e])) := fun w1 h => ru_fin (fun _ => rfl) HVL.out hn (setR_below h (by omega) _)
        unfold VN at HEND
        go_enter Tryz.func46, Tryz.ntmps46
        go_wp2_with fail
        rw [HW0.out]
        refine HFIT.out.mono ?_
        rintro e1 w1 ⟨rfl, hb1⟩
        obtain ⟨⟨c0, c1, c2, c3, c4⟩, cty, HX1, HBW1⟩ := HC.out w1 hb1
        have hlt : w.heap.size + 2 < w1.heap.size := by have := hb1.size; have := HS0.out; omega
        have hy1 : w.heap.size + 1 < w1.heap.size := by omega
        have hy0 : w.heap.size < w1.heap.size := by omega
        have HZ : Hid ((w1.setRow (w.heap.size + 2) #[.int .i64 v.k, .int .u64 v.n, .string v.s, .slice v.a v.l.length v.c, .int .i64 v.e]).heap[w.heap.size + 2]? = some (.cells #[.int .i64 v.k, .int .u64 v.n, .string v.s, .slice v.a v.l.length v.c, .int .i64 v.e] 42 (0, 0))) := setR_at HX1.out _
        go_wp2_with (refine wpList_store_row rfl 42 (.tmp 4) (.tmp 40) rfl (w.heap.size + 2) #[.int .i64 v.k, .int .u64 v.n, .string v.s, .slice v.a v.l.length v.c, .int .i64 v.e] rfl rfl 42 _ HX1.out Tryz.sizeV rfl (by kernel_rfl) ?_)
        have hz := HZ.out
        have z0 : (w1.setRow (w.heap.size + 2) #[.int .i64 v.k, .int .u64 v.n, .string v.s, .slice v.a v.l.length v.c, .int .i64 v.e]).cell? ⟨w.heap.size + 2, 0, none⟩ = some (.int .i64 v.k) := by unfold World.cell?; simp only [hz]; rfl
        have z1 : (w1.setRow (w.heap.size + 2) #[.int .i64 v.k, .int .u64 v.n, .string v.s, .slice v.a v.l.length v.c, .int .i64 v.e]).cell? ⟨w.heap.size + 2, 1, none⟩ = some (.int .u64 v.n) := by unfold World.cell?; simp only [hz]; rfl
        have z2 : (w1.setRow (w.heap.size + 2) #[.int .i64 v.k, .int .u64 v.n, .string v.s, .slice v.a v.l.length v.c, .int .i64 v.e]).cell? ⟨w.heap.size + 2, 2, none⟩ = some (.string v.s) := by unfold World.cell?; simp only [hz]; rfl
        have z3 : (w1.setRow (w.heap.size + 2) #[.int .i64 v.k, .int .u64 v.n, .string v.s, .slice v.a v.l.length v.c, .int .i64 v.e]).cell? ⟨w.heap.size + 2, 3, none⟩ = some (.slice v.a v.l.length v.c) := by unfold World.cell?; simp only [hz]; rfl
        have z4 : (w1.setRow (w.heap.size + 2) #[.int .i64 v.k, .int .u64 v.n, .string v.s, .slice v.a v.l.length v.c, .int .i64 v.e]).cell? ⟨w.heap.size + 2, 4, none⟩ = some (.int .i64 v.e) := by unfold World.cell?; simp only [hz]; rfl
        exact bodyPost_ret (v := .tuple #[.agg #[.int .i64 v.k, .int .u64 v.n, .string v.s, .slice v.a v.l.length v.c, .int .i64 v.e], .int .i64 0]) (by simp [results, Tryz.results46, go_sem, z0, z1, z2, z3, z4]) rfl (HEND.out w1 HBW1.out)
end Go.Proofs.YtgldcchleoklcaaGreatDoor
namespace Go.Proofs.YtgldcchleoklcaaGreatDoor

open Go.RowKit
set_option linter.unusedVariables false
set_option linter.unusedSimpArgs false
set_option maxRecDepth 100000 in
set_option maxHeartbeats 8000000 in
theorem runpacked_sym (re : T → T × Int) (f : Fd) (s : FS) (v : V) (Q : Nat → Prop) (w : World) (hn : ∀ b, Q b → b < w.heap.size) (hf : FdIn 0 w f s) (hv : LiesIn Q w v) (h101 : s.ty = 101) (hk : v.k = 20) :
    Calls Tryz.prog 46 #[f.val, v.val] w (RUPost Q (fillT re s v.t) w) := by
  obtain ⟨q1, q2, q3, q4, q5, q6, q7⟩ := hf
  rw [Fd.val_eq, V.val_eq, q2, q3, q4, q5, q6, h101, hk]
  have hr : fillT re s v.t = (T.of 23 0 ⟨#[]⟩ 20 [v.t], 0) := by
    unfold fillT
    rw [k_t, if_neg (by omega), if_neg (by omega), if_pos h101, if_pos hk]
  rw [hr]
  obtain ⟨W0, hW0⟩ : ∃ W0, ((w.alloc (Obj.cells #[.string f.name, .int .i64 101, .slice f.ka s.ks.length s.ks.length, .bool s.must, .int .i64 s.d.k, .int .u64 s.d.n, .string s.d.s, .slice s.d.a s.d.l.length s.d.c, .int .i64 s.d.e] 66)).alloc (Obj.cells #[.int .i64 20, .int .u64 v.n, .string v.s, .slice v.a v.l.length v.c, .int .i64 v.e] 42)).alloc (Obj.cells #[.int .i64 23, .int .u64 0, .string ⟨#[]⟩, .slice (some ⟨w.heap.size + 3, 0, none⟩) 1 1, .int .i64 20] 42) = W0 := ⟨_, rfl⟩
  have hs0 : W0.heap.size = w.heap.size + 3 := by rw [← hW0]; simp
  have hb0 : Below w.heap.size w W0 := by rw [← hW0]; exact bel1 (bel2 (Below.refl _ _) (Nat.le_refl _) _ _) (by simp; omega) _
  have HE : Hid (RUPost Q (T.of 23 0 ⟨#[]⟩ 20 [v.t], 0) w (.returned (.tuple #[.agg #[.int .i64 23, .int .u64 0, .string ⟨#[]⟩, .slice (some ⟨w.heap.size + 3, 0, none⟩) 1 1, .int .i64 20], .int .i64 0])) (W0.alloc (Obj.cells #[.int .i64 20, .int .u64 v.n, .string v.s, .slice v.a v.l.length v.c, .int .i64 v.e] 42))) := by
    have hbb : Below w.heap.size w (W0.alloc (Obj.cells #[.int .i64 20, .int .u64 v.n, .string v.s, .slice v.a v.l.length v.c, .int .i64 v.e] 42)) := bel1 hb0 (by omega) _
    have hrow : (W0.alloc (Obj.cells #[.int .i64 20, .int .u64 v.n, .string v.s, .slice v.a v.l.length v.c, .int .i64 v.e] 42)).heap[w.heap.size + 3]? = some (.cells #[.int .i64 20, .int .u64 v.n, .string v.s, .slice v.a v.l.length v.c, .int .i64 v.e] 42 (0, 0)) := by
      have := World.alloc_heap_new W0 (Obj.cells #[.int .i64 20, .int .u64 v.n, .string v.s, .slice v.a v.l.length v.c, .int .i64 v.e] 42)
      rwa [hs0] at this
    have hc : ∀ o u, (#[.int .i64 20, .int .u64 v.n, .string v.s, .slice v.a v.l.length v.c, .int .i64 v.e] : Array Value)[o]? = some u → (W0.alloc (Obj.cells #[.int .i64 20, .int .u64 v.n, .string v.s, .slice v.a v.l.length v.c, .int .i64 v.e] 42)).cell? ⟨w.heap.size + 3, o, none⟩ = some u := fun o u h => by
      unfold World.cell?
      simp only [hrow]
      exact h
    refine ⟨V.of 23 0 ⟨#[]⟩ (some ⟨w.heap.size + 3, 0, none⟩) 1 20 [v], by unfold VN; rw [V.l_of]; rfl, ⟨fun _ => by rw [V.t_of]; rfl, .mk ⟨by omega, by omega, by decide, by omega, by simp, by simp⟩ (fun _ => ⟨w.heap.size + 3, 0, rfl, .inr ⟨by omega, by simp [hs0]⟩, ?_⟩) (fun x hx => ?_)⟩, hbb⟩
    · intro i hi
      obtain rfl : i = 0 := by simp at hi; omega
      have hk' : ([v] : List V)[0].k = 20 := hk
      exact ⟨by rw [hk']; exact hc 0 _ rfl, hc 1 _ rfl, hc 2 _ rfl, hc 3 _ rfl, hc 4 _ rfl⟩
    · obtain rfl : x = v := by simpa using hx
      exact LiesIn.keep hv (fun b hq o => hbb.cell (p := ⟨b, o, none⟩) (by show b < w.heap.size; exact hn b hq)) (fun b hq => .inl hq)
  rw [← hW0] at HE
  clear hr hW0 hs0 hb0 q1 q2 q3 q4 q5 q6 q7 hv hk h101
  go_enter Tryz.func46, Tryz.ntmps46
  go_wp2
  exact bodyPost_ret (v := .tuple #[.agg #[.int .i64 23, .int .u64 0, .string ⟨#[]⟩, .slice (some ⟨w.heap.size + 3, 0, none⟩) 1 1, .int .i64 20], .int .i64 0]) (by simp [results, Tryz.results46, go_sem]) rfl HE.out
end Go.Proofs.YtgldcchleoklcaaGreatDoor
