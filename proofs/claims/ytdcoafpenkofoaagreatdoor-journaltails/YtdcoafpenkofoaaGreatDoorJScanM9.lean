import Derived.Test.YtdcoafpenkofoaaGreatDoorJWhlM9
import Derived.Test.YtdcoafpenkofoaaGreatDoorJIsM9

/- Stage 20: Scan. -/
namespace Go.Proofs.YtdcoafpenkofoaaGreatDoor
open Go.RowKit
set_option linter.unusedVariables false
set_option linter.unusedSimpArgs false
/-- what Scan answers: its batches, the place, the number -/
def scn (l : List Nat) (s : Int) : List (List (List Nat)) × Nat × Nat :=
  if s < 0 ∨ (l.length : Int) < s then ([], 0, 1) else if ((wl l).2.1 : Int) < s ∧ 2 ≤ (wl l).2.2 then ([], (wl l).2.1, 201) else ((wl l).1, (wl l).2.1, 0)
def ScP (base : Nat) (l : List Nat) (s : Int) (e : Ending) (w' : World) : Prop := ∃ v Z, e = .returned (.tuple #[v, .int .i64 ((scn l s).2.1 : Int), .int .i64 ((scn l s).2.2 : Int)]) ∧ Wy AK w' base v Z ∧ ToldL base w' Z ∧ batches Z = (scn l s).1
theorem ScP.nil {base : Nat} {l : List Nat} {s : Int} {n c : Nat} (h : scn l s = ([], n, c)) (w' : World) : ScP base l s (.returned (.tuple #[.slice none 0 0, .int .i64 (n : Int), .int .i64 (c : Int)])) w' :=
  ⟨_, [], by rw [h], .inl ⟨rfl, rfl⟩, ToldL.nil _ _, by rw [h]; rfl⟩
set_option maxHeartbeats 2000000 in
theorem scan_any (g : Addr) (a : Option Addr) (cap : Nat) (l : List Nat) (s : Int) (w : World) (hE : Eb w g) (hT : Er w) (hrd : Rd w a l.length l) (hc : l.length ≤ cap) (hn : l.length ≤ 70368744177664) :
    Calls Tryz.prog 10 #[.slice a l.length cap, .int .i64 s] w fun e w' => ScP w.heap.size l s e w' ∧ Below w.heap.size w w' := by
  have HW := hide (whole_any g a cap l w hE hT hrd hc hn)
  clear hrd
  by_cases h0 : s < 0
  · have HQ := hide (fun w' => ScP.nil (base := w.heap.size) (l := l) (s := s) (n := 0) (c := 1) (by unfold scn; rw [if_pos (.inl h0)]) w')
    go_enter Tryz.func10, Tryz.ntmps10
    go_wp2
    refine bodyPost_ret (results_tmp3 rfl _ _ _) rfl ?_
    exact ⟨HQ.out _, Below.refl _ _⟩
  · by_cases h1 : (l.length : Int) < s
    · have HQ := hide (fun w' => ScP.nil (base := w.heap.size) (l := l) (s := s) (n := 0) (c := 1) (by unfold scn; rw [if_pos (.inr h1)]) w')
      go_enter Tryz.func10, Tryz.ntmps10
      go_wp2
      refine bodyPost_ret (results_tmp3 rfl _ _ _) rfl ?_
      exact ⟨HQ.out _, Below.refl _ _⟩
    · have HNB : Hid (¬ (s < 0 ∨ (l.length : Int) < s)) := fun h => h.elim h0 h1
      go_enter Tryz.func10, Tryz.ntmps10
      go_wp2_with fail
      refine HW.out.mono ?_
      rintro e w1 ⟨⟨v, Z, er, rfl, hwy, htz, hbz, her⟩, hb1⟩
      obtain ⟨va, vc, rfl⟩ := hwy.shape
      have HB1 := hide hb1
      have HZ := hide (And.intro hwy (And.intro htz hbz))
      obtain ⟨en, hen⟩ : ∃ en, (wl l).2.1 = en := ⟨_, rfl⟩
      have HEN := hide hen
      rw [hen] at her ⊢
      clear hen hwy htz hbz hb1 HW
      by_cases h2 : (en : Int) < s
      · rcases her with ⟨hc0, rfl⟩ | ⟨hc0, p, rfl, hp1, hp2⟩
        · have HQ : Hid (scn l s = ((wl l).1, en, 0)) := by
            show _ = _
            unfold scn
            rw [if_neg HNB.out, if_neg (by rw [hc0]; omega), HEN.out]
          clear hc0
          go_wp2_with (go_at_call 38; refine (is_nil 201 _).mono ?_; rintro e w2 ⟨rfl, rfl⟩)
          refine bodyPost_ret (results_tmp3 rfl _ _ _) rfl ?_
          exact ⟨⟨_, Z, by rw [HQ.out]; rfl, HZ.out.1, HZ.out.2.1, by rw [HQ.out]; exact HZ.out.2.2⟩, HB1.out⟩
        · have c1 : w1.cell? ⟨p, 1, none⟩ = some (errV g (wl l).2.2) := cellOf hp2 1 _ rfl
          obtain ⟨c, hcc⟩ : ∃ c, (wl l).2.2 = c := ⟨_, rfl⟩
          have HCC := hide hcc
          rw [hcc] at c1 hc0
          clear hp1 hp2 hcc
          unfold ftV
          match c, hc0 with
          | 0, h => exact absurd rfl h
          | 1, _ =>
            have HQ : Hid (scn l s = ((wl l).1, en, 0)) := by
              show _ = _
              unfold scn
              rw [if_neg HNB.out, if_neg (by rw [HCC.out]; omega), HEN.out]
            have HI := hide (is_fltE p g 201 w1 c1)
            clear c1
            go_wp2_with (go_at_call 38; refine HI.out.mono ?_; rintro e w2 ⟨rfl, rfl⟩)
            refine bodyPost_ret (results_tmp3 rfl _ _ _) rfl ?_
            exact ⟨⟨_, Z, by rw [HQ.out]; rfl, HZ.out.1, HZ.out.2.1, by rw [HQ.out]; exact HZ.out.2.2⟩, HB1.out⟩
          | c + 2, _ =>
            have HQ : Hid (scn l s = ([], en, 201)) := by
              show _ = _
              unfold scn
              rw [if_neg HNB.out, if_pos ⟨by rw [HEN.out]; exact h2, by rw [HCC.out]; omega⟩, HEN.out]
            have HI := hide (is_fltN p 201 201 w1 c1)
            clear c1
            go_wp2_with (go_at_call 38; refine HI.out.mono ?_; rintro e w2 ⟨rfl, rfl⟩)
            refine bodyPost_ret (results_tmp3 rfl _ _ _) rfl ?_
            exact ⟨ScP.nil HQ.out _, HB1.out⟩
      · have HQ : Hid (scn l s = ((wl l).1, en, 0)) := by
          show _ = _
          unfold scn
          rw [if_neg HNB.out, if_neg (by rw [HEN.out]; exact fun h => h2 h.1), HEN.out]
        clear her
        go_wp2
        refine bodyPost_ret (results_tmp3 rfl _ _ _) rfl ?_
        exact ⟨⟨_, Z, by rw [HQ.out]; rfl, HZ.out.1, HZ.out.2.1, by rw [HQ.out]; exact HZ.out.2.2⟩, HB1.out⟩
end Go.Proofs.YtdcoafpenkofoaaGreatDoor
