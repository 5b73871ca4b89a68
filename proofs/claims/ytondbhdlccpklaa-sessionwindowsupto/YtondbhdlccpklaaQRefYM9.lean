import Derived.Test.YtondbhdlccpklaaQRefXM9

/- Stage 13: the document's Peer; Flow that is not taken. -/
namespace Go.Proofs.Ytondbhdlccpklaa
open Go.RowKit Go.Maps
set_option linter.unusedVariables false
set_option linter.unusedSimpArgs false

section
variable (g : Nat) (s : Sn) (vh vr vs va : Value) (A : Array Value) (ki ni iw no ow hm : Int) (w : World)
set_option maxRecDepth 100000 in
theorem rpeer_twice (hS : RB w g s vh vr vs va) (hp : s.peer = true) :
    Calls Try.prog 71 #[.pointer (some ⟨g, 0, none⟩), .agg A] w fun e w' => e = .returned (.int .i64 4) ∧ Below w.heap.size w w' := by
  obtain ⟨s0, s1, s2, s3, s4, s5, s6, s7, s8, s9, s10, s11, s12, s13, s14, s15, s16⟩ := hS.facts
  have hl := hS.lt
  rw [hp] at s1
  clear hS hp
  go_enter Try.func71, Try.ntmps71
  go_wp2
  go_ret
  exact ⟨rfl, bel1 (Below.refl _ _) (Nat.le_refl _) _⟩
set_option maxRecDepth 100000 in
theorem rpeer_no (hS : RB w g s vh vr vs va) (hp : s.peer = false) (hA : PfB A ki ni iw no ow hm) (hf : four ki iw no ow hm = false) :
    Calls Try.prog 71 #[.pointer (some ⟨g, 0, none⟩), .agg A] w fun e w' => e = .returned (.int .i64 1) ∧ Below w.heap.size w w' := by
  obtain ⟨s0, s1, s2, s3, s4, s5, s6, s7, s8, s9, s10, s11, s12, s13, s14, s15, s16⟩ := hS.facts
  have hl := hS.lt
  rw [hp] at s1
  have HM := hide (rfour_any A ki ni iw no ow hm hA (w.alloc (.cells A 39)))
  rw [hf] at HM
  have hs := hide hA.1
  clear hS hp hA hf
  go_enter Try.func71, Try.ntmps71
  go_wp2_with (first | (refine wpList_load_row rfl 39 (.tmp 3) rfl w.heap.size rfl 39 A (0, 0) _ (heap_alloc_last w _) Try.underlying39 rfl (pf_info hs.out) ?_) | (go_at_call 37; refine HM.out.mono ?_; rintro e1 w1 ⟨rfl, rfl⟩))
  go_ret
  exact ⟨rfl, bel1 (bel1 (Below.refl _ _) (Nat.le_refl _) _) (by simp) _⟩
set_option maxRecDepth 100000 in
set_option maxHeartbeats 1000000 in
theorem rpeer_yes (hS : RB w g s vh vr vs va) (hp : s.peer = false) (hA : PfB A ki ni iw no ow hm) (hf : four ki iw no ow hm = true) :
    Calls Try.prog 71 #[.pointer (some ⟨g, 0, none⟩), .agg A] w fun e w' => e = .returned (.int .i64 0) ∧ RB w' g (s.peered iw no ow hm) vh vr vs va ∧ Kp (fun k => k = g) w w' := by
  obtain ⟨s0, s1, s2, s3, s4, s5, s6, s7, s8, s9, s10, s11, s12, s13, s14, s15, s16⟩ := hS.facts
  have hl := hS.lt
  rw [hp] at s1
  have HS := hide hS
  obtain ⟨w1, hV⟩ : ∃ V, (w.alloc (.cells A 39)).alloc (.cells A 39) = V := ⟨_, rfl⟩
  have HM := hide (rfour_any A ki ni iw no ow hm hA (w.alloc (.cells A 39)))
  rw [hf, hV] at HM
  have HB : Hid (Below w.heap.size w w1) := hV ▸ bel1 (bel1 (Below.refl _ _) (Nat.le_refl _) _) (by simp) _
  have hh : w1.heap[w.heap.size]? = some (.cells A 39 (0, 0)) := hV ▸ heap_past (heap_alloc_last w _) _
  have hs := hide hA.1
  have HC := hide (And.intro (cellOf hh 13 _ hA.2.2.2.1) (And.intro (cellOf hh 14 _ hA.2.2.2.2.1) (And.intro (cellOf hh 15 _ hA.2.2.2.2.2.1) (cellOf hh 16 _ hA.2.2.2.2.2.2))))
  have hlt : w.heap.size < w1.heap.size := (Array.getElem?_eq_some_iff.1 hh).1
  clear hA hf hV hh hS hp
  go_enter Try.func71, Try.ntmps71
  go_wp2_with (refine wpList_load_row rfl 39 (.tmp 3) rfl w.heap.size rfl 39 A (0, 0) _ (heap_alloc_last w _) Try.underlying39 rfl (pf_info hs.out) ?_)
  refine HM.out.mono ?_
  rintro e1 w1' ⟨rfl, rfl⟩
  have c13 := HC.out.1
  have c14 := HC.out.2.1
  have c15 := HC.out.2.2.1
  have c16 := HC.out.2.2.2
  have H1 := hide (HS.out.at (HB.out.block g hl))
  have hne : g ≠ w.heap.size := by omega
  have hne2 : w.heap.size ≠ g := by omega
  have hl1 := H1.out.lt
  clear s0 s1 s2 s3 s4 s5 s6 s7 s8 s9 s10 s11 s12 s13 s14 s15 s16
  obtain ⟨s0, s1, s2, s3, s4, s5, s6, s7, s8, s9, s10, s11, s12, s13, s14, s15, s16⟩ := H1.out.facts
  have f1 := H1.out.frozen 1
  have f4 := H1.out.frozen 4
  have f6 := H1.out.frozen 6
  have f7 := H1.out.frozen 7
  have f12 := H1.out.frozen 12
  clear HM hs HC
  go_wp2_with (go_at_call 80; refine (rlesser_any _ _ _).mono ?_; rintro e2 w2 ⟨rfl, rfl⟩)
  go_ret
  exact ⟨rfl, ((((H1.out.set_peer _).set_ni _).set_ri _).set_ro _).set_rh _, kp_self (kp_self (kp_self (kp_self (kp_self (Kp.ofBelow HB.out) _ _) _ _) _ _) _ _) _ _⟩
set_option maxRecDepth 100000 in
theorem rflow_down (hS : RB w g s vh vr vs va) (hp : s.peer = false) :
    Calls Try.prog 76 #[.pointer (some ⟨g, 0, none⟩), .agg A] w fun e w' => e = .returned (.int .i64 4) ∧ Below w.heap.size w w' := by
  obtain ⟨s0, s1, s2, s3, s4, s5, s6, s7, s8, s9, s10, s11, s12, s13, s14, s15, s16⟩ := hS.facts
  have hl := hS.lt
  rw [hp] at s1
  clear hS hp
  go_enter Try.func76, Try.ntmps76
  go_wp2
  go_ret
  exact ⟨rfl, bel1 (Below.refl _ _) (Nat.le_refl _) _⟩
theorem mayF_no {ki ni iw no ow : Int} (h : mayF ki ni iw no ow = false) : ki ≠ 19 ∨ (ki = 19 ∧ isW iw = false) ∨ (ki = 19 ∧ isW iw = true ∧ isW no = false) ∨ (ki = 19 ∧ isW iw = true ∧ isW no = true ∧ isW ow = false) ∨ (ki = 19 ∧ isW iw = true ∧ isW no = true ∧ isW ow = true ∧ isW ni = false ∧ ni ≠ -1) := by
  unfold mayF at h
  by_cases hk : ki = 19
  · right
    cases h1 : isW iw
    · exact .inl ⟨hk, rfl⟩
    · cases h2 : isW no
      · exact .inr (.inl ⟨hk, rfl, rfl⟩)
      · cases h3 : isW ow
        · exact .inr (.inr (.inl ⟨hk, rfl, rfl, rfl⟩))
        · simp [hk, h1, h2, h3] at h
          exact .inr (.inr (.inr ⟨hk, rfl, rfl, rfl, h.2, h.1⟩))
  · exact .inl hk
set_option maxRecDepth 100000 in
set_option maxHeartbeats 2000000 in
theorem rflow_no (hS : RB w g s vh vr vs va) (hp : s.peer = true) (hA : PfB A ki ni iw no ow hm) (hf : mayF ki ni iw no ow = false) :
    Calls Try.prog 76 #[.pointer (some ⟨g, 0, none⟩), .agg A] w fun e w' => e = .returned (.int .i64 1) ∧ Below w.heap.size w w' := by
  obtain ⟨s0, s1, s2, s3, s4, s5, s6, s7, s8, s9, s10, s11, s12, s13, s14, s15, s16⟩ := hS.facts
  have hl := hS.lt
  rw [hp] at s1
  obtain ⟨hs', h0, h12, h13, h14, h15, h16⟩ := hA
  obtain ⟨i1, e1⟩ : ∃ b, isW iw = b := ⟨_, rfl⟩
  obtain ⟨i2, e2⟩ : ∃ b, isW no = b := ⟨_, rfl⟩
  obtain ⟨i3, e3⟩ : ∃ b, isW ow = b := ⟨_, rfl⟩
  obtain ⟨i4, e4⟩ : ∃ b, isW ni = b := ⟨_, rfl⟩
  have W1 : Hid (∀ W, Calls Try.prog 63 #[.int .i64 iw] W fun e w' => e = .returned (.bool i1) ∧ w' = W) := fun W => e1 ▸ word_any iw W
  have W2 : Hid (∀ W, Calls Try.prog 63 #[.int .i64 no] W fun e w' => e = .returned (.bool i2) ∧ w' = W) := fun W => e2 ▸ word_any no W
  have W3 : Hid (∀ W, Calls Try.prog 63 #[.int .i64 ow] W fun e w' => e = .returned (.bool i3) ∧ w' = W) := fun W => e3 ▸ word_any ow W
  have W4 : Hid (∀ W, Calls Try.prog 63 #[.int .i64 ni] W fun e w' => e = .returned (.bool i4) ∧ w' = W) := fun W => e4 ▸ word_any ni W
  have hcase := mayF_no hf
  rw [e1, e2, e3, e4] at hcase
  clear hf hs' h16 hS hp e1 e2 e3 e4
  rcases hcase with hk | ⟨rfl, rfl⟩ | ⟨rfl, rfl, rfl⟩ | ⟨rfl, rfl, rfl, rfl⟩ | ⟨rfl, rfl, rfl, rfl, rfl, hk⟩
  · have hkb : (ki == 19) = false := by simp [hk]
    go_enter Try.func76, Try.ntmps76
    go_wp2_with fail
    refine (W1.out _).mono ?_
    rintro _ _ ⟨rfl, rfl⟩
    go_wp2_with fail
    refine (W2.out _).mono ?_
    rintro _ _ ⟨rfl, rfl⟩
    go_wp2_with fail
    refine (W3.out _).mono ?_
    rintro _ _ ⟨rfl, rfl⟩
    go_wp2_with fail
    refine (W4.out _).mono ?_
    rintro _ _ ⟨rfl, rfl⟩
    go_wp2
    go_ret
    exact ⟨rfl, bel1 (Below.refl _ _) (Nat.le_refl _) _⟩
  iterate 3
    · go_enter Try.func76, Try.ntmps76
      go_wp2_with fail
      refine (W1.out _).mono ?_
      rintro _ _ ⟨rfl, rfl⟩
      go_wp2_with fail
      refine (W2.out _).mono ?_
      rintro _ _ ⟨rfl, rfl⟩
      go_wp2_with fail
      refine (W3.out _).mono ?_
      rintro _ _ ⟨rfl, rfl⟩
      go_wp2_with fail
      refine (W4.out _).mono ?_
      rintro _ _ ⟨rfl, rfl⟩
      go_wp2
      go_ret
      exact ⟨rfl, bel1 (Below.refl _ _) (Nat.le_refl _) _⟩
  · have hkb : (ni == -1) = false := by simp [hk]
    go_enter Try.func76, Try.ntmps76
    go_wp2_with fail
    refine (W1.out _).mono ?_
    rintro _ _ ⟨rfl, rfl⟩
    go_wp2_with fail
    refine (W2.out _).mono ?_
    rintro _ _ ⟨rfl, rfl⟩
    go_wp2_with fail
    refine (W3.out _).mono ?_
    rintro _ _ ⟨rfl, rfl⟩
    go_wp2_with fail
    refine (W4.out _).mono ?_
    rintro _ _ ⟨rfl, rfl⟩
    go_wp2
    go_ret
    exact ⟨rfl, bel1 (Below.refl _ _) (Nat.le_refl _) _⟩
end
end Go.Proofs.Ytondbhdlccpklaa
