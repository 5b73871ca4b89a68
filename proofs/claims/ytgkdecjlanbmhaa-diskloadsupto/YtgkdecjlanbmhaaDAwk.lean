
/- Stage 19: awake. -/
import Derived.Test.YtgkdecjlanbmhaaDLawS
namespace Go.Proofs.Ytgkdecjlanbmhaa
open Go.RowKit Go.MuLone
set_option linter.unusedVariables false
set_option linter.unusedSimpArgs false
theorem Rb.lit {w : World} {g : Nat} {l : List Nat} (h : w.heap[g]? = some (.cells ⟨l.map bV⟩ 5 (0, 0))) (hl : ∀ c ∈ l, c < 256) : Rb w (.slice (some ⟨g, 0, none⟩) l.length l.length) l := by
  refine ⟨_, _, rfl, (fun e => by cases e), Nat.le_refl _, rfl, hl, fun _ => ⟨g, 0, rfl, (Array.getElem?_eq_some_iff.1 h).1, fun j hj => ?_⟩⟩
  refine cellOf h _ _ ?_
  rw [Nat.zero_add, List.getElem?_toArray, List.getElem?_map, List.getElem?_eq_getElem hj]
  simp [bV, List.getD_eq_getElem?_getD, List.getElem?_eq_getElem hj]
abbrev kL : ByteArray := ⟨#[108, 111, 103]⟩
abbrev kB : ByteArray := ⟨#[98]⟩
def xA : Dx := ⟨0, 10, 3, false, -1, 0⟩
def xB : Dx := ⟨0, 10, 5, false, -1, 0⟩
def xC : Dx := ⟨0, 10, 4, true, -1, 0⟩
def xD : Dx := ⟨0, 10, 4, false, -1, 0⟩
theorem aw1 : dApp (dx0 10) [] kL [1, 2, 3] = (0, xA, [(kL, [1, 2, 3], 0)]) := by kernel_rfl
theorem aw2 : dSync xA [(kL, [1, 2, 3], 0)] kL = (0, xA, [(kL, [1, 2, 3], 3)]) := by kernel_rfl
theorem aw3 : dApp xA [(kL, [1, 2, 3], 3)] kL [4, 5] = (0, xB, [(kL, [1, 2, 3, 4, 5], 3)]) := by kernel_rfl
theorem aw4 : dApp xB [(kL, [1, 2, 3, 4, 5], 3)] kL [0, 0, 0, 0, 0, 0] = (190, xB, [(kL, [1, 2, 3, 4, 5], 3)]) := by kernel_rfl
theorem aw5 : dRen xB [(kL, [1, 2, 3, 4, 5], 3)] kL kB = (192, xB, [(kL, [1, 2, 3, 4, 5], 3)]) := by kernel_rfl
theorem aw6 : dCr xB [(kL, [1, 2, 3, 4, 5], 3)] 1 = (xC, [(kL, [1, 2, 3, 4], 4)]) := by kernel_rfl
theorem aw7 : findE xC.down [kL] kL [] = 3 := by kernel_rfl
theorem aw8 : findE xD.down [kL] kL [] = 0 := by kernel_rfl
theorem aw9 : dat kL [(kL, [1, 2, 3, 4], 4)] = ([1, 2, 3, 4], 4) := by kernel_rfl
theorem Nx.bel {S : Nat → Prop} {w wi w' : World} {d : Nat} {x : Dx} {F : List Fi} (h : Nx S w wi d x F w') : ∃ S', AW S' w w' d x F := by
  obtain ⟨S', _, h2, _⟩ := h
  exact ⟨S', h2⟩
theorem app_lit {S : Nat → Prop} {w wi : World} {d : Nat} {x : Dx} {F : List Fi} (h : AW S w wi d x F) (k : ByteArray) (l : List Nat) (hl : ∀ c ∈ l, c < 256) (hn : F.length + 1 ≤ maxLen) (r : Int × Dx × List Fi) (hr : dApp x F k l = r) :
    Calls Try.prog 26 #[.pointer (some ⟨d, 0, none⟩), .string k, .slice (some ⟨wi.heap.size, 0, none⟩) l.length l.length] (wi.alloc (.cells ⟨l.map bV⟩ 5)) fun e w' => e = .returned (.int .i64 r.1) ∧ ∃ S', AW S' w w' d r.2.1 r.2.2 := by
  subst hr
  refine (aw_append (h.below (bel1 (Below.refl _ _) (Nat.le_refl _) _)) k _ l (Rb.lit (heap_new _ _) hl) hn).mono ?_
  rintro e w' ⟨rfl, hN⟩
  exact ⟨rfl, hN.bel⟩
section
variable {S : Nat → Prop} {w wi : World} {d : Nat}
theorem awA (h : AW S w wi d (dx0 10) []) : Calls Try.prog 26 #[.pointer (some ⟨d, 0, none⟩), .string kL, .slice (some ⟨wi.heap.size, 0, none⟩) 3 3] (wi.alloc (.cells #[.int .u8 1, .int .u8 2, .int .u8 3] 5)) fun e w' => e = .returned (.int .i64 0) ∧ ∃ S', AW S' w w' d xA [(kL, [1, 2, 3], 0)] :=
  app_lit h kL [1, 2, 3] (by decide) (by decide) _ aw1
theorem awB (h : AW S w wi d xA [(kL, [1, 2, 3], 0)]) : Calls Try.prog 27 #[.pointer (some ⟨d, 0, none⟩), .string kL] wi fun e w' => e = .returned (.int .i64 0) ∧ ∃ S', AW S' w w' d xA [(kL, [1, 2, 3], 3)] := by
  have := aw_sync h kL
  rw [aw2] at this
  exact this.mono fun e w' ⟨h1, h2⟩ => ⟨h1, h2.bel⟩
theorem awC (h : AW S w wi d xA [(kL, [1, 2, 3], 3)]) : Calls Try.prog 26 #[.pointer (some ⟨d, 0, none⟩), .string kL, .slice (some ⟨wi.heap.size, 0, none⟩) 2 2] (wi.alloc (.cells #[.int .u8 4, .int .u8 5] 5)) fun e w' => e = .returned (.int .i64 0) ∧ ∃ S', AW S' w w' d xB [(kL, [1, 2, 3, 4, 5], 3)] :=
  app_lit h kL [4, 5] (by decide) (by decide) _ aw3
theorem awD (h : AW S w wi d xB [(kL, [1, 2, 3, 4, 5], 3)]) : Calls Try.prog 26 #[.pointer (some ⟨d, 0, none⟩), .string kL, .slice (some ⟨wi.heap.size, 0, none⟩) 6 6] (wi.alloc (.cells #[.int .u8 0, .int .u8 0, .int .u8 0, .int .u8 0, .int .u8 0, .int .u8 0] 5)) fun e w' => e = .returned (.int .i64 190) ∧ ∃ S', AW S' w w' d xB [(kL, [1, 2, 3, 4, 5], 3)] :=
  app_lit h kL [0, 0, 0, 0, 0, 0] (by decide) (by decide) _ aw4
theorem awE (h : AW S w wi d xB [(kL, [1, 2, 3, 4, 5], 3)]) : Calls Try.prog 28 #[.pointer (some ⟨d, 0, none⟩), .string kL, .string kB] wi fun e w' => e = .returned (.int .i64 192) ∧ ∃ S', AW S' w w' d xB [(kL, [1, 2, 3, 4, 5], 3)] := by
  have := aw_rename h kL kB (by decide)
  rw [aw5] at this
  exact this.mono fun e w' ⟨h1, h2⟩ => ⟨h1, h2.bel⟩
theorem awF (h : AW S w wi d xB [(kL, [1, 2, 3, 4, 5], 3)]) : Calls Try.prog 29 #[.pointer (some ⟨d, 0, none⟩), .int .i64 1] wi fun e w' => e = .returned (.tuple #[]) ∧ ∃ S', AW S' w w' d xC [(kL, [1, 2, 3, 4], 4)] := by
  have := aw_crash h 1 (by omega)
  rw [aw6] at this
  exact this.mono fun e w' ⟨h1, h2⟩ => ⟨h1, h2.bel⟩
theorem awG (h : AW S w wi d xC [(kL, [1, 2, 3, 4], 4)]) : Calls Try.prog 30 #[.pointer (some ⟨d, 0, none⟩), .string kL] wi fun e w' => ∃ a n c, e = .returned (.tuple #[.slice a n c, .int .i64 3]) ∧ AW S w w' d xC [(kL, [1, 2, 3, 4], 4)] := by
  refine (aw_read h kL).mono ?_
  rintro e w' ⟨v, rfl, h1, h2, _⟩
  obtain ⟨a, c, rfl, _⟩ := h1.slice
  exact ⟨a, _, c, rfl, h2⟩
theorem awH (h : AW S w wi d xC [(kL, [1, 2, 3, 4], 4)]) : Calls Try.prog 25 #[.pointer (some ⟨d, 0, none⟩)] wi fun e w' => e = .returned (.tuple #[]) ∧ ∃ S', AW S' w w' d xD [(kL, [1, 2, 3, 4], 4)] :=
  (aw_start h).mono fun e w' ⟨h1, h2⟩ => ⟨h1, h2.bel⟩
theorem awI (h : AW S w wi d xD [(kL, [1, 2, 3, 4], 4)]) : Calls Try.prog 30 #[.pointer (some ⟨d, 0, none⟩), .string kL] wi fun e w' => ∃ a n c, e = .returned (.tuple #[.slice a n c, .int .i64 0]) ∧ AW S w w' d xD [(kL, [1, 2, 3, 4], 4)] ∧ Rd w' a n [1, 2, 3, 4] ∧ ∀ g, (Value.slice a n c).ownBlock = some g → ¬ S g := by
  refine (aw_read h kL).mono ?_
  rintro e w' ⟨v, rfl, h1, h2, _⟩
  have h1' : Ob wi.heap.size w' v [1, 2, 3, 4] := h1
  obtain ⟨a, c, rfl, _, _, hr⟩ := h1'.rb
  exact ⟨a, _, c, rfl, h2, hr, fun g hg hs => by have := (h1'.lt g hg).1; have := (h.at_ g hs).2; omega⟩
theorem awJ (h : AW S w wi d xD [(kL, [1, 2, 3, 4], 4)]) : Calls Try.prog 10 #[.pointer (some ⟨d, 0, none⟩)] wi fun e w' => e = .returned (.bool true) ∧ Below w.heap.size w w' ∧ (∀ k, k < wi.heap.size → ¬ S k → w'.heap[k]? = wi.heap[k]?) ∧ wi.heap.size ≤ w'.heap.size := by
  refine (aw_up h).mono ?_
  rintro e w' ⟨rfl, S', _, h2, h3⟩
  exact ⟨rfl, h2.bel, fun k hk hs => h3.block hk hs, h3.size⟩
end
theorem make6 (w : World) : (Instr.makeSlice 34 (.int .i64 6) (.int .i64 6)).run Try.prog w = .ok (.slice (some ⟨w.heap.size, 0, none⟩) 6 6) (w.alloc (.cells #[.int .u8 0, .int .u8 0, .int .u8 0, .int .u8 0, .int .u8 0, .int .u8 0] 5)) := by kernel_rfl
set_option maxHeartbeats 8000000 in
set_option maxRecDepth 100000 in
theorem awake_any (w : World) : Calls Try.prog 6 #[] w fun e w' => e = .returned (.bool true) ∧ Below w.heap.size w w' := by
  have hmk := make6
  go_enter Try.func6, Try.ntmps6
  go_wp2_with fail
  refine (aw_new w w (Below.refl _ _) 10 (by omega) (by omega)).mono ?_
  rintro e w1 ⟨d, S1, rfl, hA1, _, _⟩
  have HA1 := hide hA1
  clear hA1
  go_wp2_with fail
  refine (new_no w1 (-1) (.inl (by omega))).mono ?_
  rintro e w2 ⟨rfl, hb2⟩
  have HA2 : Hid (AW S1 w w2 d (dx0 10) []) := HA1.out.below hb2
  clear hb2
  go_wp2_with fail
  refine (awA HA2.out).mono ?_
  rintro e w3 ⟨rfl, S3, h3⟩
  have H3 := hide h3
  clear h3
  go_wp2_with fail
  refine (awB H3.out).mono ?_
  rintro e w4 ⟨rfl, S4, h4⟩
  have H4 := hide h4
  clear h4
  go_wp2_with fail
  refine (awC H4.out).mono ?_
  rintro e w5 ⟨rfl, S5, h5⟩
  have H5 := hide h5
  clear h5
  go_wp2_with fail
  refine (awD H5.out).mono ?_
  rintro e w6 ⟨rfl, S6, h6⟩
  have H6 := hide h6
  clear h6
  go_wp2_with fail
  refine (awE H6.out).mono ?_
  rintro e w7 ⟨rfl, S7, h7⟩
  have H7 := hide h7
  clear h7
  go_wp2_with fail
  refine (awF H7.out).mono ?_
  rintro e w8 ⟨rfl, S8, h8⟩
  have H8 := hide h8
  clear h8
  go_wp2_with fail
  refine (awG H8.out).mono ?_
  rintro e w9 ⟨a9, n9, c9, rfl, h9⟩
  have H9 := hide h9
  clear h9
  go_wp2_with fail
  refine (awH H9.out).mono ?_
  rintro e w10 ⟨rfl, S10, h10⟩
  have H10 := hide h10
  clear h10
  go_wp2_with fail
  refine (awI H10.out).mono ?_
  rintro e w11 ⟨a11, n11, c11, rfl, h11, hr11, hns⟩
  have H11 := hide h11
  have HR := hide hr11
  have HNS := hide hns
  clear h11 hr11 hns
  go_wp2_with fail
  refine (awJ H11.out).mono ?_
  rintro e w12 ⟨rfl, hb12, hk12, hz12⟩
  have HB := hide hb12
  have hcv : (convert 34 9 (.slice a11 n11 c11)).run Try.prog w12 = .ok (.string (mkS [1, 2, 3, 4])) w12 := by
    refine conv_any (n := n11) ⟨HR.out.1, HR.out.2.1, fun h0 => ?_⟩ _
    obtain ⟨b, off, e1, e2, e3⟩ := HR.out.2.2 h0
    have hnb : ¬ S10 b := HNS.out b (by rw [e1]; rfl)
    exact ⟨b, off, e1, by omega, fun j hj => (World.cell?_of_block (a := ⟨b, off + j, none⟩) (hk12 b e2 hnb)).trans (e3 j hj)⟩
  have hms : mkS [1, 2, 3, 4] = ⟨#[1, 2, 3, 4]⟩ := rfl
  rw [hms] at hcv
  clear hb12 hk12 hz12
  go_wp2
  go_ret
  exact ⟨rfl, HB.out⟩
end Go.Proofs.Ytgkdecjlanbmhaa
