import Derived.Test.YtcadlhpgapdgdaaGreatDoorJQaM9

/- Stage 20: the document's records. -/
namespace Go.Proofs.YtcadlhpgapdgdaaGreatDoor
open Go.RowKit
set_option linter.unusedVariables false
set_option linter.unusedSimpArgs false
def RqP (base : Nat) (l : List Nat) (e : Ending) (w' : World) : Prop := ((spl l).getD [] = [] ∧ ∃ a c, e = .returned (.tuple #[.slice a 0 c, .bool false])) ∨ ∃ v t, t ≠ [] ∧ spl l = some t ∧ e = .returned (.tuple #[v, .bool true]) ∧ ∃ W, W.map (·.1) = t ∧ Wy BK w' base v W ∧ ToldR base w' W
set_option maxHeartbeats 4000000 in
theorem records20_any (b off n cap : Nat) (l : List Nat) (w : World) (hrd : Rd w (some ⟨b, off, none⟩) n l) (hbw : b < w.heap.size) (hc : n ≤ cap) (hn : n ≤ 4294967296) :
    Calls Tryz.prog 84 #[.slice (some ⟨b, off, none⟩) n cap] w fun e w' => RqP w.heap.size l e w' ∧ Below w.heap.size w w' := by
  have HR := hide hrd
  have HLN : Hid (l.length = n) := hrd.1
  clear hrd
  go_enter Tryz.func84, Tryz.ntmps84
  go_wp2
  go_loopw [4, 5] (fun vr i wr => ∃ (k : Nat) (W : List Rc), k ≤ n ∧ i = .int .i64 (k : Int) ∧ Wy BK wr w.heap.size vr W ∧ Hid (ToldR w.heap.size wr W) ∧ Hid (spl l = (spl (l.drop k)).map fun t => W.map (·.1) ++ t) ∧ Below w.heap.size w wr ∧ W.length * 4 ≤ k) (fun _ i _ => n - (intOf i).toNat)
  case atStart => exact ⟨0, [], Nat.zero_le _, rfl, .inl ⟨rfl, rfl⟩, ToldR.nil _ _, by simp [Hid], Below.refl _ _, by simp⟩
  case round =>
    obtain ⟨k, W, hk, rfl, hwy, HT, HS, hb, hlen⟩ := hrel
    have HRW := hide (HR.out.below hb)
    obtain ⟨va, vc, rfl⟩ := hwy.shape
    have HWY := hide hwy
    have HB := hide hb
    have HWL : Hid (W.length ≤ 4294967296) := by show _ ≤ _; omega
    have HLen := hide hlen
    have hdl : (l.drop k).length = n - k := by rw [List.length_drop, HLN.out]
    have HDL := hide hdl
    clear hwy hb hlen
    by_cases hkn : k < n
    · by_cases h4 : n < k + 4
      · have HQ : Hid ((spl l).getD [] = []) := by
          show _ = _
          rw [HS.out, spl_none4 (by omega) (by omega)]
          rfl
        have HG := hide (refget_short (some ⟨b, off, none⟩) n cap (k : Int) 4 wr (by omega) (by omega) (by omega) (by omega) (by omega) (by omega))
        clear hdl
        go_wp2_with (go_at_call 82; refine HG.out.mono ?_; rintro e w' ⟨rfl, rfl⟩)
        go_ret2
        exact ⟨.inl ⟨HQ.out, _, _, rfl⟩, HB.out⟩
      · have HG := hide (refget4 (some ⟨b, off, none⟩) n cap k (k : Int) l wr rfl (by omega) (by omega) HRW.out)
        have hg4 := getN_lt4 (l := (l.drop k).take 4) (fun c hc => HR.out.2.1 c (List.mem_of_mem_drop (List.mem_of_mem_take hc))) (by rw [List.length_take]; omega)
        obtain ⟨G, hG⟩ : ∃ G, getN ((l.drop k).take 4) = G := ⟨_, rfl⟩
        have HGG := hide hG
        rw [hG] at HG hg4
        clear hG
        by_cases hbad : G < 1 ∨ 1049600 < G ∨ (l.drop k).length - 4 < G
        · have HQ : Hid ((spl l).getD [] = []) := by
            show _ = _
            rw [HS.out, spl_noneS (by omega) (by rw [HGG.out]; exact hbad)]
            rfl
          rw [hdl] at hbad
          clear hdl
          by_cases h1 : G < 1
          · go_wp2_with (go_at_call 82; refine HG.out.mono ?_; rintro e w' ⟨rfl, rfl⟩)
            go_ret2
            exact ⟨.inl ⟨HQ.out, _, _, rfl⟩, HB.out⟩
          · by_cases h2 : 1049600 < G
            · go_wp2_with (go_at_call 82; refine HG.out.mono ?_; rintro e w' ⟨rfl, rfl⟩)
              go_ret2
              exact ⟨.inl ⟨HQ.out, _, _, rfl⟩, HB.out⟩
            · have h3 : (n : Int) - (k : Int) - 4 < (G : Int) := by omega
              go_wp2_with (go_at_call 82; refine HG.out.mono ?_; rintro e w' ⟨rfl, rfl⟩)
              go_ret2
              exact ⟨.inl ⟨HQ.out, _, _, rfl⟩, HB.out⟩
        · have HQ : Hid (spl (l.drop k) = (spl ((l.drop k).drop (4 + G))).map fun t => ((l.drop k).drop 4).take G :: t) := by
            show _ = _
            have := spl_some (l := l.drop k) (by omega) (by rw [HGG.out]; exact hbad)
            rw [HGG.out] at this
            exact this
          rw [hdl] at hbad
          have h1 : ¬ G < 1 := by omega
          have h2 : ¬ 1049600 < G := by omega
          have h3 : ¬ (n : Int) - (k : Int) - 4 < (G : Int) := by omega
          have h5 : k + 4 + G ≤ n := by omega
          clear hdl hbad
          have hrd2 : Rd wr (some ⟨b, off + (k + 4), none⟩) G ((l.drop (k + 4)).take G) := (HRW.out.drop (k := k + 4) (by omega)).take (by omega)
          have HLG : Hid (((l.drop (k + 4)).take G).length = G) := hrd2.1
          have HADD := hide (add20_any wr.heap.size (.slice none 0 0) [] (some ⟨b, off + (k + 4), none⟩) G (cap - (k + 4)) ((l.drop (k + 4)).take G) wr (Ob.nil _ _) (Nat.le_refl _) hrd2 (fun g o e => by cases e; exact Nat.lt_of_lt_of_le hbw HB.out.size) (by simp; omega))
          have HZ0 : Hid (w.heap.size ≤ wr.heap.size) := HB.out.size
          clear hrd2
          go_wp2_with (go_at_call 82; refine HG.out.mono ?_; rintro e w' ⟨rfl, hww⟩; rw [hww]; clear hww)
          refine HADD.out.mono ?_
          rintro e w3 ⟨v3, rfl, hO3, hb3⟩
          rw [List.nil_append] at hO3
          obtain ⟨a3, c3, rfl, _⟩ := hO3.slice
          rw [HLG.out] at hO3 ⊢
          have HO := hide hO3
          have HB3 := hide hb3
          clear hO3 hb3
          go_wp2_with (at_builtin; go_loud (refine wpList_append_way bkOk _ rfl (.tmp 51) (.tmp 53) rfl w.heap.size (.slice va W.length vc) W ((l.drop (k + 4)).take G, .slice a3 G c3) rfl (HWY.out.at fun k hk => (bel1 HB3.out HB3.out.size _).block k (HWY.out.lt hk).2) w3.heap.size 1 rfl (heap_new _ _) (by have := HZ0.out; have := HB3.out.size; simp; omega) (by have := HWL.out; simp only [BK]; omega) ?_; intro v5 w5 hwy5 hgr5 hat5))
          have HPU := rec_push (w := w) HZ0.out HWY.out HT.out HB3.out HO.out hgr5
          refine ⟨⟨k + 4 + G, _, h5, ?_, hwy5, HPU.1, ?_, HPU.2 HB.out, ?_⟩, ?_⟩
          · go_num
          · show _ = _
            rw [HS.out, HQ.out, List.map_append, List.drop_drop, List.drop_drop, show k + (4 + G) = k + 4 + G by omega]
            cases spl (l.drop (k + 4 + G)) <;> simp
          · rw [List.length_append]
            simp
            have := HLen.out
            omega
          · simp [intOf]
            omega
    · have hkn' : k = n := by omega
      subst hkn'
      have HQ : Hid (spl l = some (W.map (·.1))) := by
        show _ = _
        rw [HS.out, spl_eq (l.drop k), if_pos (by omega)]
        simp
      clear hdl
      by_cases hW : W = []
      · subst hW
        go_wp2
        go_ret2
        exact ⟨.inl ⟨by rw [HQ.out]; rfl, _, _, rfl⟩, HB.out⟩
      · have hpos : (0 : Int) < (W.length : Int) := by have := List.length_pos_iff.2 hW; omega
        have hd : decide (0 < W.length) = true := decide_eq_true (List.length_pos_iff.2 hW)
        have HNE : Hid (W.map (·.1) ≠ []) := by show _ ≠ _; simpa using hW
        go_wp2
        go_ret2
        exact ⟨.inr ⟨_, _, HNE.out, HQ.out, by rw [← hd]; rfl, W, rfl, HWY.out, HT.out⟩, HB.out⟩
end Go.Proofs.YtcadlhpgapdgdaaGreatDoor


/- Stage 20: the document's Whole. -/
namespace Go.Proofs.YtcadlhpgapdgdaaGreatDoor
open Go.RowKit
set_option linter.unusedVariables false
set_option linter.unusedSimpArgs false
theorem spl_ne {l : List Nat} {T : List (List Nat)} (h0 : l.length ≠ 0) (h : spl l = some T) : T ≠ [] := by
  rw [spl_eq, if_neg h0] at h
  split at h
  · cases h
  · split at h
    · cases h
    · cases hs : spl (l.drop (4 + getN (l.take 4))) with
      | none => rw [hs] at h; cases h
      | some q => rw [hs] at h; simp only [Option.map_some, Option.some.injEq] at h; rw [← h]; simp
def WqP (base : Nat) (l : List Nat) (k : Nat) (e : Ending) (w' : World) : Prop := ((fst1 (l.drop k)).1 ≠ 0 ∧ e = .returned (.tuple #[.slice none 0 0, .int .i64 0])) ∨ ((fst1 (l.drop k)).1 = 0 ∧ ∃ v, e = .returned (.tuple #[v, .int .i64 ((k + (fst1 (l.drop k)).2.2 : Nat) : Int)]) ∧ ∃ W, W.map (·.1) = (fst1 (l.drop k)).2.1 ∧ Wy BK w' base v W ∧ ToldR base w' W)
set_option maxHeartbeats 4000000 in
theorem whole20_any (b off n cap k : Nat) (l : List Nat) (w : World) (hrd : Rd w (some ⟨b, off, none⟩) n l) (hbw : b < w.heap.size) (hc : n ≤ cap) (hn : n ≤ 140737488355328) (hk : k ≤ n) :
    Calls Tryz.prog 40 #[.slice (some ⟨b, off, none⟩) n cap, .int .i64 (k : Int)] w fun e w' => WqP w.heap.size l k e w' ∧ Below w.heap.size w w' := by
  have HH := hide (head_any b off n cap k l w hn hc hk hrd)
  have hdl : (l.drop k).length = n - k := by rw [List.length_drop, hrd.1]
  by_cases hbad : (l.drop k).length < 8 ∨ getN ((l.drop k).take 4) < 5 ∨ sst (l.drop k) 4 = false
  · have hq : hdQ (l.drop k) = -1 := if_pos hbad
    have HF : Hid ((fst1 (l.drop k)).1 ≠ 0) := by
      show _ ≠ _
      unfold fst1
      by_cases h8 : (l.drop k).length < 8
      · rw [if_pos h8]; decide
      · rw [if_neg h8, if_pos (hbad.resolve_left h8)]; decide
    rw [hq] at HH
    clear hrd hdl hbad hq
    go_enter Tryz.func40, Tryz.ntmps40
    go_wp2_with (go_at_call 41; refine HH.out.mono ?_; rintro e w' ⟨rfl, rfl⟩)
    go_ret2
    exact ⟨.inl ⟨HF.out, rfl⟩, Below.refl _ _⟩
  · have hq : hdQ (l.drop k) = (getN ((l.drop k).take 4) : Int) := if_neg hbad
    have hg4 := getN_lt4 (l := (l.drop k).take 4) (fun c hc => hrd.2.1 c (List.mem_of_mem_drop (List.mem_of_mem_take hc))) (by rw [List.length_take]; omega)
    have hb8 : ¬ (l.drop k).length < 8 := fun h => hbad (.inl h)
    have hb5 : ¬ (getN ((l.drop k).take 4) < 5 ∨ sst (l.drop k) 4 = false) := fun h => hbad (.inr h)
    have hG5 : ¬ getN ((l.drop k).take 4) < 5 := fun h => hb5 (.inl h)
    rw [hq] at HH
    by_cases hlong : n < k + 12 + getN ((l.drop k).take 4)
    · have HF : Hid ((fst1 (l.drop k)).1 ≠ 0) := by
        show _ ≠ _
        unfold fst1
        rw [if_neg hb8, if_neg hb5, if_pos (by omega)]
        decide
      obtain ⟨G, hG⟩ : ∃ G, getN ((l.drop k).take 4) = G := ⟨_, rfl⟩
      rw [hG] at HH hg4 hG5 hlong
      clear hrd hbad hq hb8 hb5 hG
      have h1 : ¬ (G : Int) < 0 := by omega
      have h2 : (n : Int) - (k : Int) - 12 < (G : Int) := by omega
      go_enter Tryz.func40, Tryz.ntmps40
      go_wp2_with (go_at_call 41; refine HH.out.mono ?_; rintro e w' ⟨rfl, rfl⟩)
      go_ret2
      exact ⟨.inl ⟨HF.out, rfl⟩, Below.refl _ _⟩
    · obtain ⟨G, hG⟩ : ∃ G, getN ((l.drop k).take 4) = G := ⟨_, rfl⟩
      rw [hG] at HH hg4 hG5 hlong
      have HGG := hide hG
      have h1 : ¬ (G : Int) < 0 := by omega
      have h2 : ¬ (n : Int) - (k : Int) - 12 < (G : Int) := by omega
      have HGT := hide (refget4 (some ⟨b, off, none⟩) n cap (k + 8 + G) ((k : Int) + 8 + (G : Int)) l w (by omega) (by omega) (by omega) hrd)
      have hrs : Rd w (some ⟨b, off + k, none⟩) (k + 8 + G - k) ((l.drop k).take (8 + G)) := by
        rw [show k + 8 + G - k = 8 + G by omega]
        exact (hrd.drop hk).take (by omega)
      have HSU := hide (refsumOf_any (some ⟨b, off + k, none⟩) (k + 8 + G - k) (cap - k) ((l.drop k).take (8 + G)) w (by omega) hrs)
      have hrb : Rd w (some ⟨b, off + (k + 8), none⟩) G ((l.drop (k + 8)).take G) := (hrd.drop (k := k + 8) (by omega)).take (by omega)
      have HRC := hide (records20_any b (off + (k + 8)) G (cap - (k + 8)) ((l.drop (k + 8)).take G) w hrb hbw (by omega) (by omega))
      have hbl : ((l.drop (k + 8)).take G).length ≠ 0 := by rw [hrb.1]; omega
      have hs32 := sumN_lt (l := (l.drop k).take (8 + G)) hrs.2.1
      have HF : Hid (fst1 (l.drop k) = if getN ((l.drop (k + 8 + G)).take 4) ≠ sumN ((l.drop k).take (8 + G)) then (2, [], 0) else match spl ((l.drop (k + 8)).take G) with | none => (2, [], 0) | some t => (0, t, 12 + G)) := by
        show _ = _
        unfold fst1
        rw [if_neg hb8, if_neg hb5, hG, if_neg (by omega)]
        have he : sst (l.drop k) (8 + G) = decide (getN ((l.drop (k + 8 + G)).take 4) = sumN ((l.drop k).take (8 + G))) := by
          unfold sst
          rw [decide_eq_true (by omega : 8 + G + 4 ≤ (l.drop k).length), Bool.true_and, List.drop_drop, show k + (8 + G) = k + 8 + G by omega]
        rw [he, List.drop_drop]
        by_cases hz : getN ((l.drop (k + 8 + G)).take 4) = sumN ((l.drop k).take (8 + G))
        · rw [if_neg (by simpa using hz), if_neg (by simpa using hz)]
          rfl
        · rw [if_pos (by simpa using hz), if_pos hz]
      obtain ⟨body, hbody⟩ : ∃ body, (l.drop (k + 8)).take G = body := ⟨_, rfl⟩
      rw [hbody] at HRC HF hbl
      generalize getN ((l.drop (k + 8 + G)).take 4) = M at *
      generalize sumN ((l.drop k).take (8 + G)) = Sm at *
      have HBL := hide hbl
      have HK : Hid (k + (12 + G) = k + 12 + G) := by show _ = _; omega
      clear hbad hq hb8 hb5 hG hrd hrs hrb hbl hbody hdl
      have hsm : ((Sm : Int) != (M : Int)) = !decide (M = Sm) := by
        by_cases h : M = Sm
        · subst h; simp
        · rw [decide_eq_false h]; simp; omega
      go_enter Tryz.func40, Tryz.ntmps40
      go_wp2_with fail
      refine HH.out.mono ?_
      rintro e w1 ⟨rfl, rfl⟩
      go_wp2_with fail
      refine HGT.out.mono ?_
      rintro e w2 ⟨rfl, rfl⟩
      go_wp2_with fail
      refine HSU.out.mono ?_
      rintro e w3 ⟨rfl, rfl⟩
      go_wp2_with fail
      refine HRC.out.mono ?_
      rintro e w4 ⟨hcase, hb4⟩
      have HB4 := hide hb4
      clear hb4
      rcases hcase with ⟨hno, a5, c5, rfl⟩ | ⟨v5, t5, hne, hsp, rfl, W5, hw5, hwy5, htl5⟩
      · have HN : Hid ((fst1 (l.drop k)).1 ≠ 0) := by
          show _ ≠ _
          rw [HF.out]
          split
          · decide
          · have : spl body = none := by
              cases hs : spl body with
              | none => rfl
              | some t => rw [hs] at hno; exact absurd hno (spl_ne HBL.out hs)
            rw [this]
            show (2 : Nat) ≠ 0
            decide
        clear hno
        go_wp2
        go_ret2
        exact ⟨.inl ⟨HN.out, rfl⟩, HB4.out⟩
      · have HT := hide (And.intro hw5 (And.intro hwy5 htl5))
        by_cases hM : M = Sm
        · have HN : Hid (fst1 (l.drop k) = (0, t5, 12 + G)) := by
            show _ = _
            rw [HF.out, if_neg (by simpa using hM), hsp]
          rw [decide_eq_true hM] at hsm
          clear hne hsp hw5 hwy5 htl5 hM
          have HI : Hid (((k + (fst1 (l.drop k)).2.2 : Nat) : Int) = (k : Int) + 12 + (G : Int)) := by
            show _ = _
            rw [HN.out]
            show ((k + (12 + G) : Nat) : Int) = _
            omega
          go_wp2
          go_ret2
          exact ⟨.inr ⟨by rw [HN.out], v5, by rw [HI.out]; rfl, W5, by rw [HN.out]; exact HT.out.1, HT.out.2.1, HT.out.2.2⟩, HB4.out⟩
        · have HN : Hid ((fst1 (l.drop k)).1 ≠ 0) := by
            show _ ≠ _
            rw [HF.out, if_pos hM]
            decide
          rw [decide_eq_false hM] at hsm
          clear hne hsp hw5 hwy5 htl5 hM
          go_wp2
          go_ret2
          exact ⟨.inl ⟨HN.out, rfl⟩, HB4.out⟩
end Go.Proofs.YtcadlhpgapdgdaaGreatDoor
