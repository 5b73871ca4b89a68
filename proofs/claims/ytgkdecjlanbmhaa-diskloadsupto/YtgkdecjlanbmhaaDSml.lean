
/- Stage 19: Up, Start, Arm, Crash. -/
import Derived.Test.YtgkdecjlanbmhaaDApp
namespace Go.Proofs.Ytgkdecjlanbmhaa
open Go.RowKit Go.Maps Go.MuLone
set_option linter.unusedVariables false
set_option linter.unusedSimpArgs false
theorem lk_back {x : Dx} {F : List Fi} {S : Nat → Prop} {w w' : World} {d : Nat} (hl : x.lk = 0) (h : Beh S w d { ({ x with lk := 1 } : Dx) with lk := 0 } F w') : Beh S w d x F w' := by
  rw [show ({ ({ x with lk := 1 } : Dx) with lk := 0 } : Dx) = x from lk_self hl] at h
  exact h
theorem DD.held {S : Nat → Prop} {w : World} {d : Nat} {x : Dx} {F : List Fi} (h : DD S w d x F) : (w.setCell ⟨d, 0, none⟩ (.int .i32 1)).cell? ⟨d, 0, none⟩ = some (.int .i32 1) ∧ (w.setCell ⟨d, 0, none⟩ (.int .i32 1)).frozen? ⟨d, 0, none⟩ = false ∧ Beh S w d x F ((w.setCell ⟨d, 0, none⟩ (.int .i32 1)).setCell ⟨d, 0, none⟩ (.int .i32 0)) := by
  obtain ⟨c0, f0, hD1, hk1⟩ := h.lock
  have h9 := (Beh.of hk1 hD1).fin h.dsk.sd rfl
  exact ⟨h9.1, h9.2.1, lk_back h.lk h9.2.2⟩
theorem Dsk.cells {S : Nat → Prop} {w : World} {d : Nat} {x : Dx} {F : List Fi} (h : Dsk S w d x F) : w.cell? ⟨d, 3, none⟩ = some (.int .i64 x.room) ∧ w.cell? ⟨d, 4, none⟩ = some (.int .i64 x.used) ∧ w.cell? ⟨d, 5, none⟩ = some (.bool x.down) ∧ w.cell? ⟨d, 6, none⟩ = some (.int .i64 x.left) ∧ w.cell? ⟨d, 7, none⟩ = some (.int .i64 x.keep) ∧ ∀ o, w.frozen? ⟨d, o, none⟩ = false := by
  obtain ⟨m, E, h1, h⟩ := h
  exact ⟨h.cell 3 _ rfl, h.cell 4 _ rfl, h.cell 5 _ rfl, h.cell 6 _ rfl, h.cell 7 _ rfl, fun o => h.frozen o⟩
theorem Dsk.setx {S : Nat → Prop} {w : World} {d : Nat} {x : Dx} {F : List Fi} (h : Dsk S w d x F) (o : Nat) (v : Value) (x' : Dx) (he : ∀ m, (dkA m x).setIfInBounds o v = dkA m x') : Dsk S (w.setCell ⟨d, o, none⟩ v) d x' F := by
  obtain ⟨m, E, h1, h⟩ := h
  exact ⟨m, E, h1, h.setx o v x' (he m)⟩
set_option maxHeartbeats 1000000 in
theorem up_any (S : Nat → Prop) (w : World) (d : Nat) (x : Dx) (F : List Fi) (hD : DD S w d x F) :
    Calls Try.prog 10 #[.pointer (some ⟨d, 0, none⟩)] w fun e w' => e = .returned (.bool (!x.down)) ∧ Beh S w d x F w' := by
  obtain ⟨c0, f0, hD1, hk1⟩ := hD.lock
  have HSD : Hid (S d) := hD.dsk.sd
  have HLK : Hid (x.lk = 0) := hD.lk
  have HO := hide hD.ok
  have HF := hide hD.held
  obtain ⟨_, _, c5, _, _, _⟩ := hD1.cells
  clear hD hD1 hk1
  go_enter_defers Try.func10, Try.ntmps10
  go_wp2_with (go_at_call 41; refine (lock_free Try.muLib ⟨d, 0, none⟩ _ c0 f0).mono ?_; rintro e w' ⟨rfl, rfl⟩)
  refine leaves_cons (f := 42) (args := #[.pointer (some ⟨d, 0, none⟩)]) (by simp) (by simp [go_sem]) ?_
  refine (unlock_deferred Try.muLib ⟨d, 0, none⟩ .returning _ (HF.out).1 (HF.out).2.1).mono ?_
  rintro e u' w'' ⟨rfl, rfl, rfl⟩
  exact ⟨_, results_tmp rfl _ _ _, rfl, (HF.out).2.2⟩
set_option maxHeartbeats 1000000 in
theorem start_any (S : Nat → Prop) (w : World) (d : Nat) (x : Dx) (F : List Fi) (hD : DD S w d x F) :
    Calls Try.prog 25 #[.pointer (some ⟨d, 0, none⟩)] w fun e w' => e = .returned (.tuple #[]) ∧ Beh S w d { x with down := false } F w' := by
  obtain ⟨c0, f0, hD1, hk1⟩ := hD.lock
  have HSD : Hid (S d) := hD.dsk.sd
  have HLK : Hid (x.lk = 0) := hD.lk
  have HO := hide hD.ok
  obtain ⟨_, _, c5, _, _, ff⟩ := hD1.cells
  have f5 := ff 5
  have HF : Hid (((w.setCell ⟨d, 0, none⟩ (.int .i32 1)).setCell ⟨d, 5, none⟩ (.bool false)).cell? ⟨d, 0, none⟩ = some (.int .i32 1) ∧ ((w.setCell ⟨d, 0, none⟩ (.int .i32 1)).setCell ⟨d, 5, none⟩ (.bool false)).frozen? ⟨d, 0, none⟩ = false ∧ Beh S w d { x with down := false } F (((w.setCell ⟨d, 0, none⟩ (.int .i32 1)).setCell ⟨d, 5, none⟩ (.bool false)).setCell ⟨d, 0, none⟩ (.int .i32 0))) := by
    have h1 := (Beh.of (hk1.setCell HSD.out (.bool false)) (hD1.setx 5 (.bool false) { x with lk := 1, down := false } (fun _ => rfl))).fin HSD.out rfl
    exact ⟨h1.1, h1.2.1, lk_back (x := { x with down := false }) HLK.out h1.2.2⟩
  clear hD hD1 hk1 ff
  go_enter_defers Try.func25, Try.ntmps25
  go_wp2_with (go_at_call 41; refine (lock_free Try.muLib ⟨d, 0, none⟩ _ c0 f0).mono ?_; rintro e w' ⟨rfl, rfl⟩)
  refine leaves_cons (f := 42) (args := #[.pointer (some ⟨d, 0, none⟩)]) (by simp) (by simp [go_sem]) ?_
  refine (unlock_deferred Try.muLib ⟨d, 0, none⟩ .returning _ (HF.out).1 (HF.out).2.1).mono ?_
  rintro e u' w'' ⟨rfl, rfl, rfl⟩
  exact ⟨_, results_none rfl _ _ _, rfl, (HF.out).2.2⟩
/-- what Arm does -/
def dArm (x : Dx) (a k : Int) : Dx := if x.down then x else { x with left := max a (-1), keep := k }
set_option maxHeartbeats 1000000 in
theorem arm_any (S : Nat → Prop) (w : World) (d : Nat) (x : Dx) (F : List Fi) (hD : DD S w d x F) (a k : Int) :
    Calls Try.prog 21 #[.pointer (some ⟨d, 0, none⟩), .int .i64 a, .int .i64 k] w fun e w' => e = .returned (.tuple #[]) ∧ Beh S w d (dArm x a k) F w' := by
  obtain ⟨c0, f0, hD1, hk1⟩ := hD.lock
  have HSD : Hid (S d) := hD.dsk.sd
  have HLK : Hid (x.lk = 0) := hD.lk
  have HO := hide hD.ok
  obtain ⟨_, _, c5, c6, c7, ff⟩ := hD1.cells
  have f6 := ff 6
  have f7 := ff 7
  cases hdn : x.down with
  | true =>
    have hx : dArm x a k = x := by unfold dArm; rw [hdn]; rfl
    rw [hx]
    dsimp only at c5
    rw [hdn] at c5
    have HF := hide hD.held
    clear hD hD1 hk1 ff hx hdn
    go_enter_defers Try.func21, Try.ntmps21
    go_wp2_with (go_at_call 41; refine (lock_free Try.muLib ⟨d, 0, none⟩ _ c0 f0).mono ?_; rintro e w' ⟨rfl, rfl⟩)
    refine leaves_cons (f := 42) (args := #[.pointer (some ⟨d, 0, none⟩)]) (by simp) (by simp [go_sem]) ?_
    refine (unlock_deferred Try.muLib ⟨d, 0, none⟩ .returning _ (HF.out).1 (HF.out).2.1).mono ?_
    rintro e u' w'' ⟨rfl, rfl, rfl⟩
    exact ⟨_, results_none rfl _ _ _, rfl, (HF.out).2.2⟩
  | false =>
    obtain ⟨l, hl⟩ : ∃ l, l = max a (-1) := ⟨_, rfl⟩
    have hx : dArm x a k = { x with left := l, keep := k } := by unfold dArm; rw [hdn, hl]; rfl
    rw [hx]
    dsimp only at c5
    rw [hdn] at c5
    have HF : Hid ((((w.setCell ⟨d, 0, none⟩ (.int .i32 1)).setCell ⟨d, 6, none⟩ (.int .i64 l)).setCell ⟨d, 7, none⟩ (.int .i64 k)).cell? ⟨d, 0, none⟩ = some (.int .i32 1) ∧ (((w.setCell ⟨d, 0, none⟩ (.int .i32 1)).setCell ⟨d, 6, none⟩ (.int .i64 l)).setCell ⟨d, 7, none⟩ (.int .i64 k)).frozen? ⟨d, 0, none⟩ = false ∧ Beh S w d { x with left := l, keep := k } F ((((w.setCell ⟨d, 0, none⟩ (.int .i32 1)).setCell ⟨d, 6, none⟩ (.int .i64 l)).setCell ⟨d, 7, none⟩ (.int .i64 k)).setCell ⟨d, 0, none⟩ (.int .i32 0))) := by
      have h1 := (Beh.of ((hk1.setCell HSD.out (.int .i64 l)).setCell HSD.out (.int .i64 k)) ((hD1.setx 6 (.int .i64 l) { x with lk := 1, left := l } (fun _ => rfl)).setx 7 (.int .i64 k) { x with lk := 1, left := l, keep := k } (fun _ => rfl))).fin HSD.out rfl
      exact ⟨h1.1, h1.2.1, lk_back (x := { x with left := l, keep := k }) HLK.out h1.2.2⟩
    clear hD hD1 hk1 ff hx hdn
    go_enter_defers Try.func21, Try.ntmps21
    go_wp2_with (go_at_call 41; refine (lock_free Try.muLib ⟨d, 0, none⟩ _ c0 f0).mono ?_; rintro e w' ⟨rfl, rfl⟩)
    rw [← hl]
    refine leaves_cons (f := 42) (args := #[.pointer (some ⟨d, 0, none⟩)]) (by simp) (by simp [go_sem]) ?_
    refine (unlock_deferred Try.muLib ⟨d, 0, none⟩ .returning _ (HF.out).1 (HF.out).2.1).mono ?_
    rintro e u' w'' ⟨rfl, rfl, rfl⟩
    exact ⟨_, results_none rfl _ _ _, rfl, (HF.out).2.2⟩
/-- what Crash does -/
def dCr (x : Dx) (F : List Fi) (k : Int) : Dx × List Fi := if x.down then (x, F) else ({ x with down := true, left := -1, used := (usd (F.map (fl k)) : Int) }, F.map (fl k))
theorem fall_n (S : Nat → Prop) (w : World) (d : Nat) (x : Dx) (F : List Fi) (hD : Dsk S w d x F) (hO : DOk x F) (k : Int) (hk : -9223372036854775808 ≤ k ∧ k < 9223372036854775808) :
    Calls Try.prog 63 #[.pointer (some ⟨d, 0, none⟩), .int .i64 k] w fun e w' => e = .returned (.tuple #[]) ∧ Beh S w d { x with down := true, left := -1, used := (usd (F.map (fl k)) : Int) } (F.map (fl k)) w' := by
  obtain ⟨m, E, rfl, hD⟩ := hD
  refine (dfall_any _ w d m x E k hD.lts (fun k h => h.2) hk (fun e he => hO.safe _ (List.mem_map_of_mem he)) hO.usd_le).mono ?_
  rintro e w' ⟨rfl, h1, h2⟩
  exact ⟨rfl, h1.mono (fun k h => h.sn), kp_lts h2⟩
set_option maxHeartbeats 1000000 in
theorem crash_any (S : Nat → Prop) (w : World) (d : Nat) (x : Dx) (F : List Fi) (hD : DD S w d x F) (k : Int) (hk : -9223372036854775808 ≤ k ∧ k < 9223372036854775808) :
    Calls Try.prog 29 #[.pointer (some ⟨d, 0, none⟩), .int .i64 k] w fun e w' => e = .returned (.tuple #[]) ∧ Beh S w d (dCr x F k).1 (dCr x F k).2 w' := by
  obtain ⟨c0, f0, hD1, hk1⟩ := hD.lock
  have HSD : Hid (S d) := hD.dsk.sd
  have HLK : Hid (x.lk = 0) := hD.lk
  have HO := hide hD.ok
  obtain ⟨_, _, c5, _, _, ff⟩ := hD1.cells
  cases hdn : x.down with
  | true =>
    have hx : dCr x F k = (x, F) := by unfold dCr; rw [hdn]; rfl
    rw [hx]
    dsimp only at c5
    rw [hdn] at c5
    have HF := hide hD.held
    clear hD hD1 hk1 ff hx hdn
    go_enter_defers Try.func29, Try.ntmps29
    go_wp2_with (go_at_call 41; refine (lock_free Try.muLib ⟨d, 0, none⟩ _ c0 f0).mono ?_; rintro e w' ⟨rfl, rfl⟩)
    refine leaves_cons (f := 42) (args := #[.pointer (some ⟨d, 0, none⟩)]) (by simp) (by simp [go_sem]) ?_
    refine (unlock_deferred Try.muLib ⟨d, 0, none⟩ .returning _ (HF.out).1 (HF.out).2.1).mono ?_
    rintro e u' w'' ⟨rfl, rfl, rfl⟩
    exact ⟨_, results_none rfl _ _ _, rfl, (HF.out).2.2⟩
  | false =>
    have hx : dCr x F k = ({ x with down := true, left := -1, used := (usd (F.map (fl k)) : Int) }, F.map (fl k)) := by unfold dCr; rw [hdn]; rfl
    rw [hx]
    dsimp only at c5
    rw [hdn] at c5
    have HC : Hid (Calls Try.prog 63 #[.pointer (some ⟨d, 0, none⟩), .int .i64 k] (w.setCell ⟨d, 0, none⟩ (.int .i32 1)) fun e w' => e = .returned (.tuple #[]) ∧ w'.cell? ⟨d, 0, none⟩ = some (.int .i32 1) ∧ w'.frozen? ⟨d, 0, none⟩ = false ∧ Beh S w d { x with down := true, left := -1, used := (usd (F.map (fl k)) : Int) } (F.map (fl k)) (w'.setCell ⟨d, 0, none⟩ (.int .i32 0))) := by
      refine (fall_n S _ d _ F hD1 (HO.out.lk 1) k hk).mono ?_
      rintro e w' ⟨rfl, h⟩
      have h9 := (Beh.on hk1 h).fin HSD.out rfl
      exact ⟨rfl, h9.1, h9.2.1, lk_back (x := { x with down := true, left := -1, used := (usd (F.map (fl k)) : Int) }) HLK.out h9.2.2⟩
    clear hD hD1 hk1 ff hx hdn
    go_enter_defers Try.func29, Try.ntmps29
    go_wp2_with (go_at_call 41; refine (lock_free Try.muLib ⟨d, 0, none⟩ _ c0 f0).mono ?_; rintro e w' ⟨rfl, rfl⟩)
    refine HC.out.mono ?_
    rintro e w2 ⟨rfl, hf⟩
    have HF := hide hf
    clear hf
    go_wp2
    refine leaves_cons (f := 42) (args := #[.pointer (some ⟨d, 0, none⟩)]) (by simp) (by simp [go_sem]) ?_
    refine (unlock_deferred Try.muLib ⟨d, 0, none⟩ .returning _ (HF.out).1 (HF.out).2.1).mono ?_
    rintro e u' w'' ⟨rfl, rfl, rfl⟩
    exact ⟨_, results_none rfl _ _ _, rfl, (HF.out).2.2⟩
end Go.Proofs.Ytgkdecjlanbmhaa
