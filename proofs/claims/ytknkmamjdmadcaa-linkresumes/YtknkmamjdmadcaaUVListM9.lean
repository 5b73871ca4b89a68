import Derived.Test.YtknkmamjdmadcaaUVMadeM9

/- value.copied. -/
namespace Go.Proofs.Ytknkmamjdmadcaa.U
open Go.RowKit
set_option linter.unusedVariables false

/-- what copied is asked, of a value x -/
def CopyOk (x : V) : Prop := ∀ (n₀ : Nat) (w : World), n₀ ≤ w.heap.size → Lies n₀ w x →
  Calls Try.prog 96 #[x.val] w fun e w' => ∃ y : V, e = .returned (.agg #[.int .i64 y.k, .int .u64 y.n, .string y.s, .slice y.a y.l.length y.c, .int .i64 y.e]) ∧
    Hid (y.t = x.t ∧ LiesIn (fun b => w.heap.size ≤ b ∧ b < w'.heap.size) w' y) ∧ Below w.heap.size w w'

set_option maxRecDepth 100000 in
set_option maxHeartbeats 1000000 in
theorem copiedList_some (l : List V) (ih : ∀ x ∈ l, CopyOk x) (b o c n₀ : Nat) (w : World) (hn : n₀ ≤ w.heap.size) (h0 : 0 < l.length) (hc : l.length ≤ c) (hcc : l.length ≤ 4398046511104) (hlt : b < n₀) (lr : Row w b o l) (ls : ∀ x ∈ l, Lies n₀ w x) :
    Calls Try.prog 86 #[.slice (some ⟨b, o, none⟩) l.length c] w fun e w' => ∃ l' : List V, e = .returned (.slice (some ⟨w.heap.size, 0, none⟩) l.length l.length) ∧
      Hid (V.ts l' = V.ts l ∧ w.heap.size < w'.heap.size ∧ Row w' w.heap.size 0 l' ∧ ∀ x ∈ l', LiesIn (fun b => w.heap.size ≤ b ∧ b < w'.heap.size) w' x) ∧ Below w.heap.size w w' := by
  have hmk := run_makeV l.length l.length (Nat.le_refl _) (by omega)
  have hne : ((l.length : Int) == 0) = false := by rw [beq_eq_false_iff_ne]; omega
  have LR := hide lr
  have LS := hide ls
  have IH := hide ih
  clear lr ls ih
  go_enter Try.func86, Try.ntmps86
  go_wp2
  obtain ⟨W0, hW0⟩ : ∃ W0, w.alloc (Obj.cells (madeCells zeroV (l.length * 5)) 48) = W0 := ⟨_, rfl⟩
  have hs0 : W0.heap.size = w.heap.size + 1 := by rw [← hW0]; simp
  have hb0 : Below w.heap.size w W0 := by rw [← hW0]; exact bel1 (Below.refl _ _) (Nat.le_refl _) _
  have hk0 : Blk W0 w.heap.size 48 (l.length * 5) := by rw [← hW0]; exact Blk.made _ _ _ _
  have HK0 := hide hk0
  rw [hW0]
  clear hW0 hmk hk0
  go_loopw [14] (fun i wr => ∃ (j : Nat), i = .int .i64 j ∧ j ≤ l.length ∧ Below w.heap.size w wr ∧ W0.heap.size ≤ wr.heap.size ∧ Hid (Blk wr w.heap.size 48 (l.length * 5)) ∧ Hid (∃ l' : List V, V.ts l' = V.ts (l.take j) ∧ Row wr w.heap.size 0 l' ∧ ∀ x ∈ l', LiesIn (fun b => w.heap.size < b ∧ b < wr.heap.size) wr x)) (fun i _ => l.length - (intOf i).toNat)
  case atStart => exact ⟨0, rfl, Nat.zero_le _, hb0, Nat.le_refl _, HK0, [], by simp, fun i hi => by simp at hi, by simp⟩
  case round =>
    obtain ⟨j, rfl, hj, hb, hsz, HK, HL⟩ := hrel
    by_cases hjl : j < l.length
    · obtain ⟨x0, x1, x2, x3, x4⟩ := (LR.out.below hb (by omega)) j hjl
      have hbw : b < wr.heap.size := by omega
      have hx := IH.out l[j] (List.getElem_mem hjl) n₀
      rw [V.val_eq] at hx
      have HH := hide hx
      clear hx
      go_wp2_with fail
      have hba := bel1 hb (by omega) (Obj.cells #[.int .i64 l[j].k, .int .u64 l[j].n, .string l[j].s, .slice l[j].a l[j].l.length l[j].c, .int .i64 l[j].e] 48)
      refine Calls.mono (HH.out _ (by simp; omega) ((LS.out _ (List.getElem_mem hjl)).keep hba hn)) ?_
      rintro e w1 ⟨y, rfl, HY, hb1⟩
      have hbw1 := belOn hba (by simp; omega) hb1
      have hk1 : Blk w1 w.heap.size 48 (l.length * 5) := (HK.out.below ((Below.refl _ wr).alloc (Nat.le_refl _) _) (by omega)).below hb1 (by simp; omega)
      obtain ⟨z0, c0⟩ := hk1.some (j * 5) (by omega)
      obtain ⟨z1, c1⟩ := hk1.some (j * 5 + 1) (by omega)
      obtain ⟨z2, c2⟩ := hk1.some (j * 5 + 2) (by omega)
      obtain ⟨z3, c3⟩ := hk1.some (j * 5 + 3) (by omega)
      obtain ⟨z4, c4⟩ := hk1.some (j * 5 + 4) (by omega)
      have f0 := hk1.free
      have HK1 := hide hk1
      have HB1 := hide hb1
      clear hk1 hb1 hba
      go_wp2
      go_roundw
      case rel =>
        rw [put5_eq]
        refine ⟨j + 1, by go_num, hjl, put5_below hbw1 (Nat.le_refl _), ?_, put5_blk HK1.out _ _, ?_⟩
        · rw [put5_size]; have := HB1.out.size; simp at this; omega
        · obtain ⟨l', hl1, hl2, hl3⟩ := HL.out
          have hlen : l'.length = j := by
            have := congrArg List.length hl1
            simp [V.ts_length] at this
            omega
          have hsm : ∀ b', b' < wr.heap.size → Same wr w1 b' := fun b' hb' o' => (HB1.out.cell (p := ⟨b', o', none⟩) (by simp; omega)).trans (World.cell?_alloc_past _ _ _ hb')
          have hsz1 := HB1.out.size
          simp at hsz1
          refine ⟨l' ++ [y], ?_, ?_, ?_⟩
          · rw [List.take_succ_eq_append_getElem hjl]
            simp only [V.ts_map, List.map_append, List.map_cons, List.map_nil] at hl1 ⊢
            rw [hl1, HY.out.1]
          · have := put5_row (y := y) HK1.out (hl2.same (hsm _ (by omega))) (by omega)
            rw [hlen] at this
            exact this
          · intro x hx
            rw [put5_size]
            rcases List.mem_append.1 hx with hx | hx
            · exact (hl3 x hx).keep (fun b' hb' o' => (put5_same _ _ _ _ _ (by omega) o').trans (hsm _ hb'.2 o')) (fun b' hb' => by omega)
            · obtain rfl : x = y := by simpa using hx
              exact HY.out.2.keep (fun b' hb' o' => put5_same _ _ _ _ _ (by have := hb'.1; simp at this; omega) o') (fun b' hb' => by have := hb'; simp at this; omega)
      case measure => simp [intOf]; omega
    · obtain rfl : j = l.length := by omega
      go_wp2
      go_ret
      obtain ⟨l', hl1, hl2, hl3⟩ := HL.out
      rw [List.take_length] at hl1
      exact ⟨l', rfl, ⟨hl1, by omega, hl2, fun x hx => (hl3 x hx).keep (fun _ _ _ => rfl) (fun b' hb' => by omega)⟩, hb⟩

theorem copiedList_none (a : Option Addr) (c : Nat) (w : World) :
    Calls Try.prog 86 #[.slice a 0 c] w fun e w' => e = .returned (.slice none 0 0) ∧ w = w' := by
  go_enter Try.func86, Try.ntmps86
  go_wp2
  go_ret
  exact ⟨rfl, rfl⟩

/-- a list copied -/
def CopyAll (l : List V) (w : World) (e : Ending) (w' : World) : Prop := ∃ (a : Option Addr) (c : Nat) (l' : List V), e = .returned (.slice a l'.length c) ∧
  Hid (V.ts l' = V.ts l ∧ l'.length ≤ c ∧ l'.length ≤ 2199023255552 ∧ (0 < l'.length → ∃ b o, a = some ⟨b, o, none⟩ ∧ (w.heap.size ≤ b ∧ b < w'.heap.size) ∧ Row w' b o l') ∧ ∀ x ∈ l', LiesIn (fun b => w.heap.size ≤ b ∧ b < w'.heap.size) w' x) ∧ Below w.heap.size w w'
theorem copiedList_any (l : List V) (ih : ∀ x ∈ l, CopyOk x) (a : Option Addr) (c n₀ : Nat) (w : World) (hn : n₀ ≤ w.heap.size) (hc : l.length ≤ c) (hcc : l.length ≤ 2199023255552) (hr : 0 < l.length → ∃ b o, a = some ⟨b, o, none⟩ ∧ b < n₀ ∧ Row w b o l) (ls : ∀ x ∈ l, Lies n₀ w x) :
    Calls Try.prog 86 #[.slice a l.length c] w (CopyAll l w) := by
  by_cases h : 0 < l.length
  · obtain ⟨b, o, rfl, hlt, hr⟩ := hr h
    refine (copiedList_some l ih b o c n₀ w hn h hc (by omega) hlt hr ls).mono ?_
    rintro e w' ⟨l', rfl, HL, hb⟩
    obtain ⟨h1, h2, h3, h4⟩ := HL.out
    have hlen : l'.length = l.length := by simpa [V.ts_length] using congrArg List.length h1
    exact ⟨_, l.length, l', by rw [hlen], ⟨h1, by omega, by omega, fun _ => ⟨_, 0, rfl, ⟨Nat.le_refl _, h2⟩, h3⟩, h4⟩, hb⟩
  · obtain rfl : l = [] := List.eq_nil_of_length_eq_zero (by omega)
    refine (copiedList_none a c w).mono ?_
    rintro e w' ⟨rfl, rfl⟩
    exact ⟨none, 0, [], rfl, ⟨rfl, by simp, by simp, by simp, by simp⟩, Below.refl _ _⟩

set_option maxRecDepth 100000 in
set_option maxHeartbeats 1000000 in
theorem copied_any : ∀ x, CopyOk x := by
  refine V.ind ?_
  intro k n s a c e l ih n₀ w hn hx
  have hf : ∀ w1, Below w.heap.size w w1 → Calls Try.prog 86 #[.slice a l.length c] w1 (CopyAll l w1) := by
    intro w1 hb
    have hx1 := hx.keep hb hn
    have hsz := hb.size
    exact copiedList_any l ih a c n₀ w1 (by omega) hx1.ok.l hx1.ok.c hx1.row hx1.sub
  have HF := hide hf
  have OK := hide hx.ok
  clear hf ih hx
  rw [V.val_of]
  go_enter Try.func96, Try.ntmps96
  go_wp2_with fail
  refine Calls.mono (HF.out _ (bel2 (Below.refl _ _) (Nat.le_refl _) _ _)) ?_
  rintro e' w1 ⟨a', c', l', rfl, HL, hb1⟩
  have hz : w.heap.size + 1 < w1.heap.size := by have := hb1.size; simp at this; omega
  obtain ⟨g1, g2, g3, g4⟩ := box_cells hb1
  have k0 := g1 0
  have k1 := g1 1
  have k2 := g1 2
  have k3 := g1 3
  have k4 := g1 4
  have j0 := g2 0
  have j1 := g2 1
  have j2 := g2 2
  have j3 := g2 3
  have j4 := g2 4
  simp only [List.getElem?_toArray, List.getElem?_cons_zero, List.getElem?_cons_succ] at k0 k1 k2 k3 k4 j0 j1 j2 j3 j4
  have HB1 := hide hb1
  clear hb1 g1 g2
  go_wp2
  obtain ⟨h1, h2, h3, h4, h5⟩ := HL.out
  have ok := OK.out
  have hlen : l'.length = l.length := by simpa [V.ts_length] using congrArg List.length h1
  have hsm : ∀ b', b' ≠ w.heap.size → b' ≠ w.heap.size + 1 → Same w1 (put5 (w1.setCell ⟨w.heap.size, 3, none⟩ (.slice a' l'.length c')) (w.heap.size + 1) 0 (.of k n s a' c' e l')) b' := fun b' n1 n2 o' =>
    (put5_same _ _ _ _ _ n2 o').trans (World.cell?_setCell_other _ _ _ _ (fun e => n1 (by cases e; rfl)))
  rw [← put5_of] at hsm
  have hbz : Below w.heap.size w _ := put5_below (y := .of k n s a' c' e l') (o := 0) (b := w.heap.size + 1) ((belOn (bel2 (Below.refl w.heap.size w) (Nat.le_refl _) _ _) (by simp; omega) HB1.out).setCell (p := ⟨w.heap.size, 3, none⟩) (Nat.le_refl _) (.slice a' l'.length c')) (by omega)
  rw [← put5_of] at hbz
  refine bodyPost_ret (v := .agg #[.int .i64 k, .int .u64 n, .string s, .slice a' l'.length c', .int .i64 e]) (by simp [results, Try.results96, go_sem, j0, j1, j2, j3, j4]) rfl ⟨.of k n s a' c' e l', by rw [V.l_of]; rfl, ⟨by rw [V.t_of, V.t_of, h1], .mk ⟨ok.k, ok.n, ok.s, ok.e, h2, h3⟩ (fun h0 => ?_) (fun x hx => ?_)⟩, ?_⟩
  · obtain ⟨b, o, ha, hq, hr⟩ := h4 h0
    simp only [World.size_alloc] at hq
    refine ⟨b, o, ha, ?_, hr.same (hsm b (by omega) (by omega))⟩
    simp [World.setCell]; omega
  · refine (h5 x hx).keep (fun b hq => ?_) (fun b hq => ?_)
    · simp only [World.size_alloc] at hq
      exact hsm b (by omega) (by omega)
    · simp only [World.size_alloc] at hq
      simp [World.setCell]; omega
  · exact hbz
end Go.Proofs.Ytknkmamjdmadcaa.U


/- value.Listed, Mapped, All. -/
namespace Go.Proofs.Ytknkmamjdmadcaa.U
open Go.RowKit
set_option linter.unusedVariables false

/-- a list or a map made of values -/
def MadeOf (k : Int) (l : List V) (w : World) (e : Ending) (w' : World) : Prop := ∃ y : V, e = .returned (.agg #[.int .i64 y.k, .int .u64 y.n, .string y.s, .slice y.a y.l.length y.c, .int .i64 y.e]) ∧
  Hid (y.t = T.of k 0 ⟨#[]⟩ 0 (V.ts l) ∧ LiesIn (fun b => w.heap.size ≤ b ∧ b < w'.heap.size) w' y) ∧ Below w.heap.size w w'

set_option maxRecDepth 100000 in
set_option maxHeartbeats 1000000 in
theorem listed_any (l : List V) (a : Option Addr) (c n₀ : Nat) (w : World) (hn : n₀ ≤ w.heap.size) (hc : l.length ≤ c) (hcc : l.length ≤ 2199023255552) (hr : 0 < l.length → ∃ b o, a = some ⟨b, o, none⟩ ∧ b < n₀ ∧ Row w b o l) (ls : ∀ x ∈ l, Lies n₀ w x) :
    Calls Try.prog 63 #[.slice a l.length c] w (MadeOf 21 l w) := by
  have HF : Hid (∀ w1, Below w.heap.size w w1 → Calls Try.prog 86 #[.slice a l.length c] w1 (CopyAll l w1)) := by
    intro w1 hb
    have hsz := hb.size
    exact copiedList_any l (fun x _ => copied_any x) a c n₀ w1 (by omega) hc hcc (fun h => by
      obtain ⟨b, o, h1, h2, h3⟩ := hr h
      exact ⟨b, o, h1, h2, h3.below hb (by omega)⟩) (fun x hx => (ls x hx).keep hb hn)
  clear hr ls
  go_enter Try.func63, Try.ntmps63
  go_wp2_with fail
  refine Calls.mono (HF.out _ (bel1 (Below.refl _ _) (Nat.le_refl _) _)) ?_
  rintro e' w1 ⟨a', c', l', rfl, HL, hb1⟩
  have hz : w.heap.size < w1.heap.size := by have := hb1.size; simp at this; omega
  have hbl : Blk w1 w.heap.size 48 5 := by
    refine ⟨_, (hb1.block w.heap.size (by simp)).trans (World.alloc_heap_new _ _), rfl⟩
  obtain ⟨z0, c0⟩ := hbl.some 0 (by omega)
  obtain ⟨z1, c1⟩ := hbl.some 1 (by omega)
  obtain ⟨z2, c2⟩ := hbl.some 2 (by omega)
  obtain ⟨z3, c3⟩ := hbl.some 3 (by omega)
  obtain ⟨z4, c4⟩ := hbl.some 4 (by omega)
  have f0 := hbl.free
  have HB1 := hide hb1
  clear hb1 hbl
  go_wp2
  obtain ⟨h1, h2, h3, h4, h5⟩ := HL.out
  have hsm : ∀ b', b' ≠ w.heap.size → Same w1 (put5 w1 w.heap.size 0 (.of 21 0 ⟨#[]⟩ a' c' 0 l')) b' := fun b' n1 o' => put5_same _ _ _ _ _ n1 o'
  rw [← put5_of] at hsm
  have hbz : Below w.heap.size w _ := put5_below (y := .of 21 0 ⟨#[]⟩ a' c' 0 l') (o := 0) (b := w.heap.size) (belOn (bel1 (Below.refl w.heap.size w) (Nat.le_refl _) _) (by simp) HB1.out) (Nat.le_refl _)
  rw [← put5_of] at hbz
  refine bodyPost_ret (v := .agg #[.int .i64 21, .int .u64 0, .string ⟨#[]⟩, .slice a' l'.length c', .int .i64 0]) (by simp [results, Try.results63, go_sem, c0, c1, c2, c3, c4]) rfl ⟨.of 21 0 ⟨#[]⟩ a' c' 0 l', by rw [V.l_of]; rfl, ⟨by rw [V.t_of, h1], .mk ⟨by decide, by decide, by decide, by decide, h2, h3⟩ (fun h0 => ?_) (fun x hx => ?_)⟩, ?_⟩
  · obtain ⟨b, o, ha, hq, hr⟩ := h4 h0
    simp only [World.size_alloc] at hq
    refine ⟨b, o, ha, ?_, hr.same (hsm b (by omega))⟩
    simp [World.setCell]; omega
  · refine (h5 x hx).keep (fun b hq => ?_) (fun b hq => ?_)
    · simp only [World.size_alloc] at hq
      exact hsm b (by omega)
    · simp only [World.size_alloc] at hq
      simp [World.setCell]; omega
  · exact hbz

end Go.Proofs.Ytknkmamjdmadcaa.U
