import Derived.Test.YtondbhdlccpklaaQFldM9

/- Stage 13: the document's session in its block; word, four, New, State. -/
namespace Go.Proofs.Ytondbhdlccpklaa
open Go.RowKit Go.Maps
set_option linter.unusedVariables false
set_option linter.unusedSimpArgs false

def RB (w : World) (g : Nat) (s : Sn) (vh vr vs va : Value) : Prop := w.heap[g]? = some (.cells #[.int .i64 s.fi, .bool s.peer, .int .i64 s.no, .int .i64 s.ow, .int .i64 s.ni, .int .i64 s.iw, .int .i64 s.ri, .int .i64 s.ro, .int .i64 s.nd, .int .i64 0, .int .i64 0, .int .i64 s.hm, .int .i64 s.rh, vh, vr, vs, va] 95 (0, 0))
section
variable {w w' : World} {g : Nat} {s : Sn} {vh vr vs va : Value}
theorem RB.lt (h : RB w g s vh vr vs va) : g < w.heap.size := (Array.getElem?_eq_some_iff.1 h).1
theorem RB.at (h : RB w g s vh vr vs va) (hb : w'.heap[g]? = w.heap[g]?) : RB w' g s vh vr vs va := hb.trans h
theorem RB.alloc (h : RB w g s vh vr vs va) (o : Obj) : RB (w.alloc o) g s vh vr vs va := heap_past h o
theorem RB.facts (h : RB w g s vh vr vs va) : w.cell? ⟨g, 0, none⟩ = some (.int .i64 s.fi) ∧ w.cell? ⟨g, 1, none⟩ = some (.bool s.peer) ∧ w.cell? ⟨g, 2, none⟩ = some (.int .i64 s.no) ∧ w.cell? ⟨g, 3, none⟩ = some (.int .i64 s.ow) ∧ w.cell? ⟨g, 4, none⟩ = some (.int .i64 s.ni) ∧ w.cell? ⟨g, 5, none⟩ = some (.int .i64 s.iw) ∧ w.cell? ⟨g, 6, none⟩ = some (.int .i64 s.ri) ∧ w.cell? ⟨g, 7, none⟩ = some (.int .i64 s.ro) ∧ w.cell? ⟨g, 8, none⟩ = some (.int .i64 s.nd) ∧ w.cell? ⟨g, 9, none⟩ = some (.int .i64 0) ∧ w.cell? ⟨g, 10, none⟩ = some (.int .i64 0) ∧ w.cell? ⟨g, 11, none⟩ = some (.int .i64 s.hm) ∧ w.cell? ⟨g, 12, none⟩ = some (.int .i64 s.rh) ∧ w.cell? ⟨g, 13, none⟩ = some (vh) ∧ w.cell? ⟨g, 14, none⟩ = some (vr) ∧ w.cell? ⟨g, 15, none⟩ = some (vs) ∧ w.cell? ⟨g, 16, none⟩ = some (va) := by
  unfold RB at h
  simp [World.cell?, h]
theorem RB.frozen (h : RB w g s vh vr vs va) (j : Nat) : w.frozen? ⟨g, j, none⟩ = false := by
  unfold RB at h
  simp [World.frozen?, h]
theorem RB.setOther (h : RB w g s vh vr vs va) {b o : Nat} (hne : b ≠ g) (x : Value) : RB (w.setCell ⟨b, o, none⟩ x) g s vh vr vs va := h.at (blk_set_other _ _ _ _ (fun e => hne e.symm))
theorem RB.cast {s' : Sn} (h : RB w g s vh vr vs va) (e : s = s') : RB w g s' vh vr vs va := e ▸ h
theorem RB.set_fi (h : RB w g s vh vr vs va) (x : Int) : RB (w.setCell ⟨g, 0, none⟩ (.int .i64 x)) g { s with fi := x } vh vr vs va := by
  unfold RB at *
  simp [World.setCell, Array.getElem?_modify, h]
theorem RB.set_peer (h : RB w g s vh vr vs va) (x : Bool) : RB (w.setCell ⟨g, 1, none⟩ (.bool x)) g { s with peer := x } vh vr vs va := by
  unfold RB at *
  simp [World.setCell, Array.getElem?_modify, h]
theorem RB.set_no (h : RB w g s vh vr vs va) (x : Int) : RB (w.setCell ⟨g, 2, none⟩ (.int .i64 x)) g { s with no := x } vh vr vs va := by
  unfold RB at *
  simp [World.setCell, Array.getElem?_modify, h]
theorem RB.set_ow (h : RB w g s vh vr vs va) (x : Int) : RB (w.setCell ⟨g, 3, none⟩ (.int .i64 x)) g { s with ow := x } vh vr vs va := by
  unfold RB at *
  simp [World.setCell, Array.getElem?_modify, h]
theorem RB.set_ni (h : RB w g s vh vr vs va) (x : Int) : RB (w.setCell ⟨g, 4, none⟩ (.int .i64 x)) g { s with ni := x } vh vr vs va := by
  unfold RB at *
  simp [World.setCell, Array.getElem?_modify, h]
theorem RB.set_iw (h : RB w g s vh vr vs va) (x : Int) : RB (w.setCell ⟨g, 5, none⟩ (.int .i64 x)) g { s with iw := x } vh vr vs va := by
  unfold RB at *
  simp [World.setCell, Array.getElem?_modify, h]
theorem RB.set_ri (h : RB w g s vh vr vs va) (x : Int) : RB (w.setCell ⟨g, 6, none⟩ (.int .i64 x)) g { s with ri := x } vh vr vs va := by
  unfold RB at *
  simp [World.setCell, Array.getElem?_modify, h]
theorem RB.set_ro (h : RB w g s vh vr vs va) (x : Int) : RB (w.setCell ⟨g, 7, none⟩ (.int .i64 x)) g { s with ro := x } vh vr vs va := by
  unfold RB at *
  simp [World.setCell, Array.getElem?_modify, h]
theorem RB.set_nd (h : RB w g s vh vr vs va) (x : Int) : RB (w.setCell ⟨g, 8, none⟩ (.int .i64 x)) g { s with nd := x } vh vr vs va := by
  unfold RB at *
  simp [World.setCell, Array.getElem?_modify, h]
theorem RB.set_hm (h : RB w g s vh vr vs va) (x : Int) : RB (w.setCell ⟨g, 11, none⟩ (.int .i64 x)) g { s with hm := x } vh vr vs va := by
  unfold RB at *
  simp [World.setCell, Array.getElem?_modify, h]
theorem RB.set_rh (h : RB w g s vh vr vs va) (x : Int) : RB (w.setCell ⟨g, 12, none⟩ (.int .i64 x)) g { s with rh := x } vh vr vs va := by
  unfold RB at *
  simp [World.setCell, Array.getElem?_modify, h]
theorem RB.set_vh (h : RB w g s vh vr vs va) (x : Value) : RB (w.setCell ⟨g, 13, none⟩ x) g s x vr vs va := by
  unfold RB at *
  simp [World.setCell, Array.getElem?_modify, h]
theorem RB.set_vr (h : RB w g s vh vr vs va) (x : Value) : RB (w.setCell ⟨g, 14, none⟩ x) g s vh x vs va := by
  unfold RB at *
  simp [World.setCell, Array.getElem?_modify, h]
theorem RB.set_vs (h : RB w g s vh vr vs va) (x : Value) : RB (w.setCell ⟨g, 15, none⟩ x) g s vh vr x va := by
  unfold RB at *
  simp [World.setCell, Array.getElem?_modify, h]
theorem RB.set_va (h : RB w g s vh vr vs va) (x : Value) : RB (w.setCell ⟨g, 16, none⟩ x) g s vh vr vs x := by
  unfold RB at *
  simp [World.setCell, Array.getElem?_modify, h]
end
theorem word_any (n : Int) (w : World) : Calls Try.prog 63 #[.int .i64 n] w fun e w' => e = .returned (.bool (isW n)) ∧ w' = w := by
  by_cases h0 : 0 ≤ n
  · by_cases h1 : n ≤ 4294967295
    · rw [isW_iff.2 ⟨h0, h1⟩]
      go_enter Try.func63, Try.ntmps63
      go_wp2
      go_ret
      exact ⟨rfl, rfl⟩
    · rw [show isW n = false by simp [isW]; omega]
      go_enter Try.func63, Try.ntmps63
      go_wp2
      go_ret
      exact ⟨rfl, rfl⟩
  · rw [show isW n = false by simp [isW]; omega]
    go_enter Try.func63, Try.ntmps63
    go_wp2
    go_ret
    exact ⟨rfl, rfl⟩
set_option maxRecDepth 100000 in
set_option maxHeartbeats 1000000 in
theorem rfour_any (A : Array Value) (ki ni iw no ow hm : Int) (hA : PfB A ki ni iw no ow hm) (w : World) :
    Calls Try.prog 37 #[.agg A] w fun e w' => e = .returned (.bool (four ki iw no ow hm)) ∧ w' = w.alloc (.cells A 39) := by
  obtain ⟨hs, h0, h12, h13, h14, h15, h16⟩ := hA
  clear hs
  have HF : Hid (four ki iw no ow hm = (decide (ki = 17) && (isW no && (isW iw && (isW ow && isW hm))))) := by simp [Hid, four]
  rw [HF.out]
  have a1 := hide (word_any no)
  have a2 := hide (word_any iw)
  have a3 := hide (word_any ow)
  have a4 := hide (word_any hm)
  obtain ⟨b1, e1⟩ : ∃ b, b = isW no := ⟨_, rfl⟩
  obtain ⟨b2, e2⟩ : ∃ b, b = isW iw := ⟨_, rfl⟩
  obtain ⟨b3, e3⟩ : ∃ b, b = isW ow := ⟨_, rfl⟩
  obtain ⟨b4, e4⟩ : ∃ b, b = isW hm := ⟨_, rfl⟩
  rw [← e1] at a1 ⊢
  rw [← e2] at a2 ⊢
  rw [← e3] at a3 ⊢
  rw [← e4] at a4 ⊢
  clear HF e1 e2 e3 e4
  by_cases hk : ki = 17
  · subst hk
    cases b1 <;> cases b2 <;> cases b3 <;> cases b4
    all_goals
      go_enter Try.func37, Try.ntmps37
      go_wp2_with fail
      refine (a1.out _).mono ?_
      rintro x1 y1 ⟨rfl, rfl⟩
      go_wp2_with fail
      refine (a2.out _).mono ?_
      rintro x2 y2 ⟨rfl, rfl⟩
      go_wp2_with fail
      refine (a3.out _).mono ?_
      rintro x3 y3 ⟨rfl, rfl⟩
      go_wp2_with fail
      refine (a4.out _).mono ?_
      rintro x4 y4 ⟨rfl, rfl⟩
      go_wp2
      go_ret
      exact ⟨rfl, rfl⟩
  · have hkb : (ki == 17) = false := by simp [hk]
    rw [decide_eq_false hk]
    clear hk
    go_enter Try.func37, Try.ntmps37
    go_wp2_with fail
    refine (a1.out _).mono ?_
    rintro x1 y1 ⟨rfl, rfl⟩
    go_wp2_with fail
    refine (a2.out _).mono ?_
    rintro x2 y2 ⟨rfl, rfl⟩
    go_wp2_with fail
    refine (a3.out _).mono ?_
    rintro x3 y3 ⟨rfl, rfl⟩
    go_wp2_with fail
    refine (a4.out _).mono ?_
    rintro x4 y4 ⟨rfl, rfl⟩
    go_wp2
    go_ret
    exact ⟨rfl, rfl⟩
end Go.Proofs.Ytondbhdlccpklaa
