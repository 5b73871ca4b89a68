/- awake. -/
import Derived.Test.YtboacpneoblklaaFOpen
import Derived.Lib.SlBytesConst
namespace Go.Proofs.Ytboacpneoblklaa
open Go.RowKit Go.Deep
set_option linter.unusedVariables false
set_option linter.unusedSimpArgs false

theorem BlF.rd0 {w : World} {g : Nat} {l : List Nat} (h : BlF w g l) (hb : ∀ c ∈ l, c < 256) : Rd w (some ⟨g, 0, none⟩) l.length l := by
  have := h.rd hb 0 l.length (by omega)
  simpa using this
def awB : List Nat := [0, 0, 0, 10, 2, 0, 0, 5, 65, 66]
theorem awB_lt : ∀ c ∈ awB, c < 256 := by decide
theorem aw_seal (W : World) (g : Nat) (h : BlF W g [65, 66]) : Calls Try.prog 10 #[.agg #[.int .i64 0, .int .i64 5, .slice none 0 0, .slice (some ⟨g, 0, none⟩) 2 2]] W fun e w' => ∃ g', e = .returned (.tuple #[.slice (some ⟨g', 0, none⟩) 10 10, .int .i64 0]) ∧ W.heap.size ≤ g' ∧ Hid (Bl w' g' awB) ∧ Hid (Below W.heap.size W w') :=
  (seal_yes 0 5 none 0 0 (some ⟨g, 0, none⟩) 2 2 [] [65, 66] W ⟨rfl, fun c hc => by simp at hc, fun h => by omega⟩ (h.rd0 (by decide)) (by decide)).mono fun e w' ⟨g', h1, h2, h3, h4⟩ => ⟨g', h1, h2, h3, h4⟩
theorem aw_open (W : World) (g : Nat) (h : BlF W g awB) : Calls Try.prog 14 #[.slice (some ⟨g, 0, none⟩) 10 10, .int .i64 0, .int .i64 512] W fun e w' => ∃ g1 g2, e = .returned (.tuple #[.agg #[.int .i64 0, .int .i64 5, .slice (some ⟨g1, 0, none⟩) 0 0, .slice (some ⟨g2, 0, none⟩) 2 2], .int .i64 10, .int .i64 0]) ∧ W.heap.size ≤ g2 ∧ Hid (Bl w' g2 [65, 66]) ∧ Hid (Below W.heap.size W w') :=
  (open_good (some ⟨g, 0, none⟩) 10 10 0 512 awB W (h.rd0 awB_lt) (by omega) (by omega) (by omega) (by omega) (by omega) (by decide)).mono fun e w' ⟨g1, g2, h1, h2, h3, h4, h5, h6⟩ => ⟨g1, g2, h1, by omega, h5, h6⟩
theorem aw_head (W : World) : Calls Try.prog 17 #[.int .i64 3] W fun e w' => e = .returned (.tuple #[.slice (some ⟨W.heap.size, 0, none⟩) 8 8, .int .i64 0]) ∧ Hid (Bl w' W.heap.size (hdr 3)) ∧ Hid (Below W.heap.size W w') :=
  (header_yes 3 W (.inr rfl)).mono fun e w' ⟨h1, h2, h3, h4⟩ => ⟨h1, h2, h4⟩
theorem aw_read (W : World) (g : Nat) (h : BlF W g (hdr 3)) : Calls Try.prog 19 #[.slice (some ⟨g, 0, none⟩) 8 8, .int .i64 0] W fun e w' => e = .returned (.tuple #[.int .i64 3, .int .i64 8, .int .i64 0]) ∧ Hid (Below W.heap.size W w') :=
  (readHeader_any (some ⟨g, 0, none⟩) 8 8 0 (hdr 3) W (h.rd0 (by decide)) (by omega) (by omega) (fun h => by cases h)).mono fun e w' ⟨h1, h2⟩ => ⟨by rw [h1]; rfl, h2⟩
theorem blf_alloc (w : World) (l : List Nat) : BlF (w.alloc (.cells (l.map byteV).toArray 5 (l.length, l.length + 1))) w.heap.size l := ⟨_, heap_alloc_new _ _, .inr (Nat.le_refl _)⟩

set_option maxRecDepth 100000 in
set_option maxHeartbeats 2000000 in
theorem awake_any (w : World) : Calls Try.prog 7 #[] w fun e w' => e = .returned (.bool true) ∧ Below w.heap.size w w' := by
  have kc := fun (w : World) (C : Array Value) (n c : Nat) => Lib.run_convert_bytes_const (P := Try.prog) w 22 5 C n c Try.underlying22 Try.underlying5
  go_enter Try.func7, Try.ntmps7
  go_wp2_with fail
  refine (aw_seal _ w.heap.size (blf_alloc w [65, 66])).mono ?_
  rintro e w1 ⟨g, rfl, hg, HG1, HB1⟩
  go_wp2_with fail
  refine (aw_open _ w1.heap.size (blf_alloc w1 awB)).mono ?_
  rintro e w2 ⟨g1, g2, rfl, hg2, HG2, HB2⟩
  go_wp2_with fail
  refine (aw_head _).mono ?_
  rintro e w3 ⟨rfl, HG3, HB3⟩
  go_wp2_with fail
  refine (aw_read _ w3.heap.size (blf_alloc w3 (hdr 3))).mono ?_
  rintro e w4 ⟨rfl, HB4⟩
  have hx4 : Below w3.heap.size w3 w4 := (below_box w3 _).trans (HB4.out.mono (by simp))
  have hx3 : Below w2.heap.size w2 w3 := (below_box w2 _).trans (HB3.out.mono (by simp))
  have hx2 : Below w1.heap.size w1 w2 := (below_box w1 _).trans (HB2.out.mono (by simp))
  have hx1 : Below w.heap.size w w1 := (below_box w _).trans (HB1.out.mono (by simp))
  have s1 := hx1.size
  have s2 := hx2.size
  have s3 := hx3.size
  have b24 : Below w2.heap.size w2 w4 := hx3.trans (hx4.mono s3)
  have b14 : Below w1.heap.size w1 w4 := hx2.trans (b24.mono s2)
  have HFIN : Hid (Below w.heap.size w w4) := hx1.trans (b14.mono s1)
  have f3 : w2.heap.size < w3.heap.size := by have := HB3.out.size; simp at this; omega
  have h3lt := HG3.out.lt
  have e1 : mkS awB = { data := #[0, 0, 0, 10, 2, 0, 0, 5, 65, 66] } := by decide +kernel
  have e2 : mkS [65, 66] = { data := #[65, 66] } := by decide +kernel
  have e3 : mkS (hdr 3) = { data := #[76, 83, 72, 82, 3, 1, 0, 0] } := by decide +kernel
  have hc1 := conv_any ((HG1.out.below b14 HG1.out.lt).rd0 awB_lt) 10
  have hc2 := conv_any ((HG2.out.below b24 HG2.out.lt).rd0 (by decide)) 2
  have hc3 := conv_any ((HG3.out.below hx4 HG3.out.lt).rd0 (by decide)) 8
  rw [e1] at hc1
  rw [e2] at hc2
  rw [e3] at hc3
  have hff : FB4 w4 w2.heap.size (.int .i64 0) (.int .i64 5) (.slice (some ⟨g1, 0, none⟩) 0 0) (.slice (some ⟨g2, 0, none⟩) 2 2) := by
    have h := FB4.new w2 (.int .i64 0) (.int .i64 5) (.slice (some ⟨g1, 0, none⟩) 0 0) (.slice (some ⟨g2, 0, none⟩) 2 2)
    unfold FB4 at *
    rw [hx4.block _ f3, HB3.out.block _ (by simp)]
    exact h
  obtain ⟨k0, k1, k2, k3⟩ := hff.cells
  simp only [World.size_alloc, awB, hdr, List.length_cons, List.length_nil] at hc1 hc2 hc3
  clear hff hx1 hx2 hx3 hx4 b24 b14 HG1 HG2 HG3 HB1 HB2 HB3 HB4 kc e1 e2 e3
  go_wp2
  go_ret
  exact ⟨rfl, HFIN.out⟩
end Go.Proofs.Ytboacpneoblklaa
