
/- Stage 20: the whole batch that bytes begin with. -/
import Derived.Test.YthpkajjgbjjbbaaGreatDoorJSpl
import Derived.OwnWalk
namespace Go.Proofs.YthpkajjgbjjbbaaGreatDoor
open Go.RowKit
set_option linter.unusedVariables false
set_option linter.unusedSimpArgs false
theorem Wy.mono {A : Type} {K : WK A} {w : World} {base b2 : Nat} {v : Value} {W : List A} (h : Wy K w base v W) (hb : b2 ≤ base) : Wy K w b2 v W := by
  rcases h with h | ⟨g, off, cap, cur, e, h1, h2⟩
  · exact .inl h
  · exact .inr ⟨g, off, cap, cur, e, by omega, h2⟩
def FsP (base : Nat) (g : Addr) (l : List Nat) (e : Ending) (w' : World) : Prop := ((fst1 l).1 ≠ 0 ∧ ∃ z : Int, e = .returned (.tuple #[.slice none 0 0, .int .i64 z, errV g (fst1 l).1])) ∨ ((fst1 l).1 = 0 ∧ ∃ v, e = .returned (.tuple #[v, .int .i64 ((fst1 l).2.2 : Int), .nilIface]) ∧ Bat base w' v (fst1 l).2.1)
theorem fst_short {l : List Nat} (h : l.length < 8) : fst1 l = (1, [], 0) := by unfold fst1; rw [if_pos h]
theorem fst_head {l : List Nat} (h : 8 ≤ l.length) (h2 : getN (l.take 4) < 5 ∨ sst l 4 = false) : fst1 l = (2, [], 0) := by unfold fst1; rw [if_neg (by omega), if_pos h2]
theorem fst_cut {l : List Nat} (h : 8 ≤ l.length) (h2 : ¬ (getN (l.take 4) < 5 ∨ sst l 4 = false)) (h3 : l.length < 8 + getN (l.take 4) + 4) : fst1 l = (1, [], 0) := by unfold fst1; rw [if_neg (by omega), if_neg h2, if_pos h3]
theorem fst_sum {l : List Nat} (h : 8 ≤ l.length) (h2 : ¬ (getN (l.take 4) < 5 ∨ sst l 4 = false)) (h3 : ¬ l.length < 8 + getN (l.take 4) + 4) (h4 : sst l (8 + getN (l.take 4)) = false) : fst1 l = (2, [], 0) := by unfold fst1; rw [if_neg (by omega), if_neg h2, if_neg h3, if_pos h4]
theorem fst_none {l : List Nat} (h : 8 ≤ l.length) (h2 : ¬ (getN (l.take 4) < 5 ∨ sst l 4 = false)) (h3 : ¬ l.length < 8 + getN (l.take 4) + 4) (h4 : ¬ sst l (8 + getN (l.take 4)) = false) (h5 : spl ((l.drop 8).take (getN (l.take 4))) = none) : fst1 l = (2, [], 0) := by unfold fst1; rw [if_neg (by omega), if_neg h2, if_neg h3, if_neg h4, h5]
theorem fst_some {l : List Nat} {r : List (List Nat)} (h : 8 ≤ l.length) (h2 : ¬ (getN (l.take 4) < 5 ∨ sst l 4 = false)) (h3 : ¬ l.length < 8 + getN (l.take 4) + 4) (h4 : ¬ sst l (8 + getN (l.take 4)) = false) (h5 : spl ((l.drop 8).take (getN (l.take 4))) = some r) : fst1 l = (0, r, 12 + getN (l.take 4)) := by unfold fst1; rw [if_neg (by omega), if_neg h2, if_neg h3, if_neg h4, h5]
theorem FsP.bad {base : Nat} {g : Addr} {l : List Nat} {c : Nat} {w' : World} (h : fst1 l = (c, [], 0)) (hc : c ≠ 0) (z : Int) : FsP base g l (.returned (.tuple #[.slice none 0 0, .int .i64 z, errV g c])) w' := by
  refine .inl ⟨by rw [h]; exact hc, z, by rw [h]⟩
set_option maxHeartbeats 4000000 in
theorem first_any (g : Addr) (b off n cap : Nat) (l : List Nat) (w : World) (hE : Eb w g) (hrd : Rd w (some ⟨b, off, none⟩) n l) (hc : n ≤ cap) (hn : n ≤ 140737488355328) :
    Calls Tryz.prog 117 #[.slice (some ⟨b, off, none⟩) n cap] w fun e w' => FsP w.heap.size g l e w' ∧ Below w.heap.size w w' := by
  have HBS := hide (bodySize_any g (some ⟨b, off, none⟩) n cap l w hE hrd hc hn)
  have hg4 := getN_lt4 (l := l.take 4) (fun c hc => hrd.2.1 c (List.mem_of_mem_take hc)) (by rw [List.length_take]; omega)
  have hl := hrd.1
  have HR := hide hrd
  have HE := hide hE
  clear hrd hE
  subst hl
  obtain ⟨G, hG⟩ : ∃ G, getN (l.take 4) = G := ⟨_, rfl⟩
  have HGG := hide hG
  rw [hG] at HBS hg4
  clear hG
  go_enter Tryz.func117, Tryz.ntmps117
  go_wp2_with fail
  refine HBS.out.mono ?_
  rintro e w1 ⟨hbs, hb1⟩
  have HB1 := hide hb1
  have HE1 := hide (HE.out.below hb1)
  clear hb1
  rcases hbs with ⟨h8, rfl⟩ | ⟨h8, h5, rfl⟩ | ⟨h8, h5, rfl⟩
  · have HQ : Hid (∀ (z : Int) W, FsP w.heap.size g l (.returned (.tuple #[.slice none 0 0, .int .i64 z, errV g 1])) W) := fun z W => FsP.bad (fst_short h8) (by decide) z
    unfold eB
    go_wp2
    refine bodyPost_ret (results_tmp3 rfl _ _ _) rfl ?_
    exact ⟨HQ.out 0 _, HB1.out⟩
  · have HQ : Hid (∀ (z : Int) W, FsP w.heap.size g l (.returned (.tuple #[.slice none 0 0, .int .i64 z, errV g 2])) W) := fun z W => FsP.bad (fst_head h8 (by rw [HGG.out]; exact h5)) (by decide) z
    unfold nB
    clear h5
    go_wp2
    refine bodyPost_ret (results_tmp3 rfl _ _ _) rfl ?_
    exact ⟨HQ.out 0 _, HB1.out⟩
  · have h5' : 5 ≤ G := by
      rcases Nat.lt_or_ge G 5 with h | h
      · exact absurd (.inl h) h5
      · exact h
    have H5 : Hid (¬ (getN (l.take 4) < 5 ∨ sst l 4 = false)) := by rw [HGG.out]; exact h5
    have H8 := hide h8
    clear h5
    by_cases hc3 : l.length < 8 + G + 4
    · have HQ : Hid (∀ (z : Int) W, FsP w.heap.size g l (.returned (.tuple #[.slice none 0 0, .int .i64 z, errV g 1])) W) := fun z W => FsP.bad (fst_cut H8.out H5.out (by rw [HGG.out]; exact hc3)) (by decide) z
      have hE1 := HE1.out
      unfold Eb eB at hE1
      go_wp2_with (go_quiet (fail))
      refine bodyPost_ret (results_tmp3 rfl _ _ _) rfl ?_
      exact ⟨HQ.out 0 _, below_drewN HB1.out _⟩
    · have HS := hide (sumStands_any b off l.length cap (8 + G) l w1 (HR.out.below HB1.out) hc hn (by omega))
      rw [show ((8 + G : Nat) : Int) = 8 + (G : Int) by omega] at HS
      cases hs : sst l (8 + G)
      · rw [hs] at HS
        have HQ : Hid (∀ (z : Int) W, FsP w.heap.size g l (.returned (.tuple #[.slice none 0 0, .int .i64 z, errV g 2])) W) := fun z W => FsP.bad (fst_sum H8.out H5.out (by rw [HGG.out]; exact hc3) (by rw [HGG.out]; exact hs)) (by decide) z
        clear hs
        go_wp2_with (go_at_call 154; refine HS.out.mono ?_; rintro e w2 ⟨rfl, hb2⟩; have HB2 : Hid (Below w.heap.size w w2) := belOn HB1.out HB1.out.size hb2; clear hb2)
        refine bodyPost_ret (results_tmp3 rfl _ _ _) rfl ?_
        exact ⟨HQ.out 0 _, HB2.out⟩
      · rw [hs] at HS
        have HSS : Hid (¬ sst l (8 + getN (l.take 4)) = false) := by rw [HGG.out, hs]; exact fun h => by cases h
        have H3 : Hid (¬ l.length < 8 + getN (l.take 4) + 4) := by rw [HGG.out]; exact hc3
        clear hs
        have HLG : Hid (((l.drop 8).take G).length = G) := by show _ = _; rw [List.length_take, List.length_drop]; omega
        have HR8 : Hid (Rd w (some ⟨b, off + 8, none⟩) G ((l.drop 8).take G)) := (HR.out.drop (k := 8) (by omega)).take (k := G) (by omega)
        go_wp2_with (first | (go_at_call 154; refine HS.out.mono ?_; rintro e w2 ⟨rfl, hb2⟩; have HB2 : Hid (Below w.heap.size w w2) := belOn HB1.out HB1.out.size hb2; clear hb2) | fail)
        refine (split_any b (off + 8) G (cap - 8) ((l.drop 8).take G) w2 (HR8.out.below HB2.out) (by omega) (by omega)).mono ?_
        rintro e w3 ⟨hsp, hb3⟩
        have HB3 : Hid (Below w.heap.size w w3) := belOn HB2.out HB2.out.size hb3
        clear hb3
        rcases hsp with ⟨hn0, rfl⟩ | ⟨L, v, hs1, rfl, hbt⟩
        · have HQ : Hid (∀ (z : Int) W, FsP w.heap.size g l (.returned (.tuple #[.slice none 0 0, .int .i64 z, errV g 2])) W) := fun z W => FsP.bad (fst_none H8.out H5.out H3.out HSS.out (by rw [HGG.out]; exact hn0)) (by decide) z
          unfold nB
          clear hn0
          go_wp2
          refine bodyPost_ret (results_tmp3 rfl _ _ _) rfl ?_
          exact ⟨HQ.out _ _, HB3.out⟩
        · have HQ : Hid (fst1 l = (0, L, 12 + G)) := by
            show _ = _
            have := fst_some H8.out H5.out H3.out HSS.out (r := L) (by rw [HGG.out]; exact hs1)
            rw [this, HGG.out]
          have HBT : Hid (Bat w.heap.size w3 v L) := by
            obtain ⟨W, q1, q2, q3⟩ := hbt
            refine ⟨W, q1, q2.mono HB2.out.size, q3.mono HB2.out.size⟩
          clear hbt hs1
          go_wp2
          refine bodyPost_ret (results_tmp3 rfl _ _ _) rfl ?_
          refine ⟨.inr ⟨by rw [HQ.out], v, ?_, by rw [HQ.out]; exact HBT.out⟩, HB3.out⟩
          rw [HQ.out]
          show Ending.returned (.tuple #[v, .int .i64 (8 + (G : Int) + 4), .nilIface]) = .returned (.tuple #[v, .int .i64 ((12 + G : Nat) : Int), .nilIface])
          rw [show (8 : Int) + (G : Int) + 4 = ((12 + G : Nat) : Int) by omega]
end Go.Proofs.YthpkajjgbjjbbaaGreatDoor
