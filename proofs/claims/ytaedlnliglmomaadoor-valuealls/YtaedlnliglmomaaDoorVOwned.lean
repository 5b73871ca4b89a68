/- longshoreref02's Owned: its walk. -/
import Derived.Test.YtaedlnliglmomaaDoorVGrow
import Derived.Test.YtaedlnliglmomaaDoorVApp
namespace Go.Proofs.YtaedlnliglmomaaDoor
open Go.RowKit
set_option linter.unusedVariables false
set_option linter.unusedSimpArgs false

/-- the book lies where it lay -/
structure BookAt (p g C : Nat) (S : List Value) (w : World) : Prop where
  box : w.heap[p]? = some (.cells #[.slice (some ⟨g, 0, none⟩) S.length C] 37 (0, 0))
  row : ∃ cur, w.heap[g]? = some (.cells cur 23 (0, 0)) ∧ cur.toList.take S.length = S
theorem BookAt.cell {p g C : Nat} {S : List Value} {w : World} (h : BookAt p g C S w) : w.cell? ⟨p, 0, none⟩ = some (.slice (some ⟨g, 0, none⟩) S.length C) := by simp [World.cell?, h.box]
theorem BookAt.item {p g C : Nat} {S : List Value} {w : World} (h : BookAt p g C S w) (i : Nat) (hi : i < S.length) : w.cell? ⟨g, i, none⟩ = some S[i] := by
  obtain ⟨cur, h1, h2⟩ := h.row
  have : cur[i]? = some S[i] := by
    have e : (cur.toList.take S.length)[i]? = S[i]? := by rw [h2]
    rw [List.getElem?_take_of_lt hi] at e
    rw [← Array.getElem?_toList, e]
    exact List.getElem?_eq_getElem hi
  simp [World.cell?, h1, this]
theorem BookAt.turn {p g C : Nat} {S : List Value} {w wr : World} (h : BookAt p g C S w) (ho : OwnsX w S) (ht : TurnS S w wr) : BookAt p g C S wr := by
  obtain ⟨cur, h1, h2⟩ := h.row
  exact ⟨(ht.block p (Array.getElem?_eq_some_iff.1 h.box).1 (ho.other h.box (by decide))).trans h.box, cur, (ht.block g (Array.getElem?_eq_some_iff.1 h1).1 (ho.other h1 (by decide))).trans h1, h2⟩

theorem put5_markV (w : World) (b o i : Nat) :
    (((((w.setCell ⟨b, o, none⟩ (.int .i64 (-1000 - (i : Int)))).setCell ⟨b, o + 1, none⟩ (.int .u64 i)).setCell ⟨b, o + 2, none⟩ (.string ⟨#[]⟩)).setCell ⟨b, o + 3, none⟩ (.slice none 0 0)).setCell ⟨b, o + 4, none⟩ (.int .i64 0)) = put5 w b o (markV i) :=
  put5_of w b o (-1000 - (i : Int)) i ⟨#[]⟩ none 0 0 []

theorem one_cell (a : Option Addr) (n c : Nat) : ∀ u ∈ ([.slice a n c] : List Value), u.oneCell' = true := fun u hu => by
  simp only [List.mem_cons, List.not_mem_nil, or_false] at hu
  subst hu
  rfl

set_option maxRecDepth 100000 in
set_option maxHeartbeats 2000000 in
theorem owned_any (p g C : Nat) (S : List Value) (w : World) (hbk : BookAt p g C S w) (ho : OwnsX w S) (hS : S.length ≤ 100000000000) (hC : S.length ≤ C) (hn : ∀ s ∈ S, ∀ a m c, s = .slice a m c → m ≤ 1000000000000) :
    Calls Tryd.prog 21 #[.pointer (some ⟨p, 0, none⟩)] w fun e w' => e = .returned (.bool true) ∧ Hid (TurnS S w w') := by
  have HB := hide hbk
  have HO := hide ho
  have HN := hide hn
  have hcp := hbk.cell
  have hpl : p < w.heap.size := (Array.getElem?_eq_some_iff.1 hbk.box).1
  clear hbk ho hn
  obtain ⟨i0, hi0, hzz⟩ := Option.map_eq_some_iff.1 Tryd.infoV
  simp only [Prod.mk.injEq] at hzz
  obtain ⟨hz0, hz1, hz2⟩ := hzz
  obtain ⟨i1, hi1, hyy⟩ := Option.map_eq_some_iff.1 Tryd.infoL
  simp only [Prod.mk.injEq] at hyy
  obtain ⟨hy0, hy1, hy2⟩ := hyy
  go_enter Tryd.func21, Tryd.ntmps21
  go_wp2_with fail
  go_loopw [3] (fun u wr => ∃ (i : Nat), u = .int .i64 i ∧ i ≤ S.length ∧ Hid (Marks S i w wr)) (fun u _ => S.length - (intOf u).toNat)
  case atStart => exact ⟨0, rfl, Nat.zero_le _, Marks.start HO.out⟩
  case round =>
    obtain ⟨i, rfl, hi, HM⟩ := hrel
    have hcp1 := (HB.out.turn HO.out HM.out.turns).cell
    by_cases hil : i < S.length
    · have hit := (HB.out.turn HO.out HM.out.turns).item i hil
      rcases HM.out.owns.get hil with e | ⟨gi, n, e, hblk⟩
      · rw [e] at hit
        have HMN := hide (HM.out.skip hil e)
        have hsz : g < wr.heap.size := by
          obtain ⟨cur, h1, _⟩ := (HB.out.turn HO.out HM.out.turns).row
          exact (Array.getElem?_eq_some_iff.1 h1).1
        go_wp2_with fail
        go_loopw [5] (fun u w1 => u = .int .i64 0 ∧ w1 = wr) (fun u _ => 0)
        case atStart => exact ⟨rfl, rfl⟩
        case round =>
          obtain ⟨rfl, rfl⟩ := hrel
          go_wp2
          go_roundw
          case rel => exact ⟨i + 1, by go_num, hil, HMN⟩
          case measure => simp [intOf]; omega
      · rw [e] at hit
        have hnn : n ≤ 1000000000000 := HN.out S[i] (List.getElem_mem hil) _ _ _ e
        go_wp2_with fail
        go_loopw [5] (fun u w1 => ∃ k : Nat, u = .int .i64 k ∧ k ≤ n ∧ Hid (Marks S i w w1) ∧ Hid (Row w1 gi 0 (List.replicate k (markV i)))) (fun u _ => n - (intOf u).toNat)
        case atStart => exact ⟨0, rfl, Nat.zero_le _, HM, fun q hq => by simp at hq⟩
        case round =>
          obtain ⟨k, rfl, hk, HM1, HR1⟩ := hrel
          by_cases hkn : k < n
          · have hkb : Blk wr gi 25 (n * 5) := by
              rcases HM1.out.owns.get hil with e' | ⟨g', n', e', q⟩
              · rw [e] at e'; cases e'
              · rw [e] at e'; cases e'; exact q
            have HKB := hide hkb
            have hgl := hkb.lt
            clear hkb hit hcp1
            go_wp2_with fail
            refine (mark_any i (by omega) _).mono ?_
            rintro e1 w2 ⟨rfl, hb2⟩
            have hk2 : Blk w2 gi 25 (n * 5) := HKB.out.below hb2 hgl
            obtain ⟨z0, c0⟩ := hk2.some (k * 5) (by omega)
            obtain ⟨z1, c1⟩ := hk2.some (k * 5 + 1) (by omega)
            obtain ⟨z2, c2⟩ := hk2.some (k * 5 + 2) (by omega)
            obtain ⟨z3, c3⟩ := hk2.some (k * 5 + 3) (by omega)
            obtain ⟨z4, c4⟩ := hk2.some (k * 5 + 4) (by omega)
            have f0 := hk2.free
            have HM2 := hide (HM1.out.below hb2)
            have HR2 := hide (HR1.out.below hb2 hgl)
            clear hk2 hb2
            go_wp2
            go_roundw
            case rel =>
              rw [put5_markV]
              have hh := HM2.out.put hil e hkn HR2.out
              exact ⟨k + 1, by go_num, hkn, hh.1, hh.2⟩
            case measure => simp [intOf]; omega
          · obtain rfl : k = n := by omega
            go_wp2
            go_roundw
            case rel => exact ⟨i + 1, by go_num, hil, HM1.out.next hil e HR1.out⟩
            case measure => simp [intOf]; omega
    · obtain rfl : i = S.length := by omega
      obtain ⟨w2, rfl⟩ : ∃ w2, w2 = wr := ⟨_, rfl⟩
      go_wp2_with fail
      go_loopw [6, 7] (fun gv u w3 => ∃ (G : List Value) (gv' : Value) (i : Nat), gv' = gv ∧ u = .int .i64 i ∧ i ≤ S.length ∧ G.length = 12 * i ∧ Hid (∃ j m v, Grows w2.heap.size j m v gv' G w3) ∧ Below w2.heap.size w2 w3) (fun _ u _ => S.length - (intOf u).toNat)
      case atStart => exact ⟨[], _, 0, rfl, rfl, Nat.zero_le _, rfl, ⟨_, _, _, Grows.start⟩, Below.refl _ _⟩
      case round =>
        obtain ⟨G, gv, i, rfl, rfl, hi, hG, HG, hb3⟩ := hrel
        have HM3 := hide (HM.out.below hb3)
        have hcp3 := (HB.out.turn HO.out HM3.out.turns).cell
        by_cases hil : i < S.length
        · have hit := (HB.out.turn HO.out HM3.out.turns).item i hil
          obtain ⟨A, n, hSi, hnn, HU⟩ : ∃ A n, S[i] = .slice A n n ∧ n ≤ 1000000000000 ∧ Hid (Grows w2.heap.size i n (.slice A n n) gv G wr) := by
            obtain ⟨j, m, v, hg⟩ := HG.out
            have hfull := HM3.out.full i hil hil
            rcases HM3.out.owns.get hil with e | ⟨gi, n, e, hblk⟩
            · exact ⟨none, 0, e, by omega, hg.other (World.ownsRow_nil _ _ _ _) (fun a n c e => by cases e; rfl) (fun g hg => by cases hg)⟩
            · have hnn : n ≤ 1000000000000 := HN.out S[i] (List.getElem_mem hil) _ _ _ e
              have hlt : gi < w2.heap.size := HM.out.owns.lt (mem_blocks (List.getElem_mem hil) (by rw [e]; rfl))
              have hrow : Row wr gi 0 (List.replicate n (markV i)) := by
                by_cases h0 : 0 < n
                · obtain ⟨b, o, e', hr⟩ := hfull _ _ _ e h0
                  cases e'
                  exact hr
                · obtain rfl : n = 0 := by omega
                  exact fun q hq => by simp at hq
              have hown := own_of_row (base := 0) (l := List.replicate n (markV i)) (by rw [List.length_replicate]; exact hblk) hrow (by rw [List.length_replicate]; unfold maxLen; omega) (Nat.zero_le _)
              rw [List.length_replicate] at hown
              exact ⟨_, n, e, hnn, hg.other hown (fun a n c e => by cases e; rfl) (fun g hg => by cases hg; exact hlt)⟩
          rw [hSi] at hit
          go_wp2_with fail
          go_loopw [6, 8, 9] (fun gv lv u w4 => ∃ (G' : List Value) (gv' lv' : Value) (k : Nat), gv' = gv ∧ lv' = lv ∧ u = .int .i64 k ∧ k ≤ 12 ∧ G'.length = 12 * i + k ∧ Hid (Grows w2.heap.size i (n + k) lv' gv' G' w4) ∧ Below w2.heap.size w2 w4) (fun _ _ u _ => 12 - (intOf u).toNat)
          case atStart => exact ⟨G, _, _, 0, rfl, rfl, rfl, by omega, by omega, HU, hb3⟩
          case round =>
            obtain ⟨G', gv', lv', k, rfl, rfl, rfl, hk, hG', HG', hb4⟩ := hrel
            clear hit hcp3 hcp hcp1
            by_cases hk12 : k < 12
            · go_wp2_with fail
              refine (mark_any i (by omega) _).mono ?_
              rintro e1 w5 ⟨rfl, hb5⟩
              have hs5 := hb5.size
              have hbA := bel1 (Below.refl w5.heap.size w5) (Nat.le_refl _) (Obj.cells #[.int .i64 (-1000 - (i : Int)), .int .u64 i, .string ⟨#[]⟩, .slice none 0 0, .int .i64 0] 25)
              have HG5 := hide ((HG'.out.below hb5).below hbA)
              have HB5 := hide (belOn (belOn hb4 HG'.out.size hb5) (Nat.le_trans HG'.out.size hs5) hbA)
              have HNEWS := hide (news5 w5 (markV i))
              have HM1 : Hid (n + k + 1 ≤ maxLen) := (by show n + k + 1 ≤ maxLen; unfold maxLen; omega)
              have HM2 : Hid ((n + k + 1) * 64 ≤ 140737488355328) := (by show (n + k + 1) * 64 ≤ 140737488355328; omega)
              have HM3' : Hid (G'.length + 1 ≤ maxLen) := (by show G'.length + 1 ≤ maxLen; unfold maxLen; omega)
              have HM4 : Hid ((G'.length + 1) * 24 ≤ 140737488355328) := (by show (G'.length + 1) * 24 ≤ 140737488355328; omega)
              have HM5 : Hid (n + k + 1 ≤ 2000000000000) := (by show n + k + 1 ≤ 2000000000000; omega)
              have HG12 : Hid (G'.length / 12 = i) := (by show G'.length / 12 = i; omega)
              clear hb5 hbA hb4 HG' HU HG HM3 hb3
              go_wp2_with (first
                | (at_builtin; go_loud (refine wpList_append_either _ rfl (.tmp 61) (.tmp 64) 23 rfl 0 25 i0 _ 5 64 Tryd.underlying23 hi0 hz0 hz1 hz2 rfl (by decide) _ (n + k) _ rfl HG5.out.row ⟨w5.heap.size, 0, none⟩ 1 (words (markV i)) rfl rfl HNEWS.out (V.words_one _) HM1.out HM2.out (Nat.zero_le _) ?_; intro v6 w6 hown6 hor6; obtain ⟨g6, cap6, rfl⟩ := ownsRow_succ hown6; rw [flat_more] at hown6; have HP6 := hide (HG5.out.push hown6 hor6); have HB6 := hide (bel1 (HP6.out.2.2 _ HB5.out) HP6.out.1.size (Obj.cells #[.slice (some ⟨g6, 0, none⟩) (n + k + 1) cap6] 23)); have HG6 := hide (HP6.out.1.below (bel1 (Below.refl w6.heap.size w6) (Nat.le_refl _) (Obj.cells #[.slice (some ⟨g6, 0, none⟩) (n + k + 1) cap6] 23))); clear hown6 hor6))
                | (at_builtin; go_loud (refine wpList_append_either _ rfl (.tmp 66) (.tmp 68) 35 rfl w2.heap.size 23 i1 _ 1 24 Tryd.underL hi1 hy0 hy1 hy2 rfl (by decide) _ G'.length G' rfl HG6.out.grow ⟨w6.heap.size, 0, none⟩ 1 [.slice (some ⟨g6, 0, none⟩) (n + k + 1) cap6] rfl rfl (cell_one_new w6 _ 23) (one_cell _ _ _) HM3'.out HM4.out HG6.out.size ?_; intro v7 w7 hown7 hor7; have HG7 := hide (HG6.out.take HP6.out.2.1 HG12.out HM5.out hown7 hor7); clear hown7 hor7)))
              go_roundw
              case rel => exact ⟨G' ++ [Value.slice (some ⟨g6, 0, none⟩) (n + k + 1) cap6], v7, _, k + 1, rfl, rfl, by go_num, hk12, by simp; omega, (show Grows w2.heap.size i (n + (k + 1)) (.slice (some ⟨g6, 0, none⟩) (n + k + 1) cap6) v7 (G' ++ [.slice (some ⟨g6, 0, none⟩) (n + k + 1) cap6]) w7 from HG7.out.1), HG7.out.2 _ HB6.out⟩
              case measure => simp [intOf]; omega
            · obtain rfl : k = 12 := by omega
              go_wp2
              go_roundw
              case rel => exact ⟨G', gv', i + 1, rfl, by go_num, hil, by omega, ⟨_, _, _, HG'.out⟩, hb4⟩
              case measure => simp [intOf]; omega
        · obtain rfl : i = S.length := by omega
          obtain ⟨w3, rfl⟩ : ∃ w3, w3 = wr := ⟨_, rfl⟩
          obtain ⟨A, C2, rfl, hGC, hrows⟩ : ∃ A C, gv = .slice A G.length C ∧ G.length ≤ C ∧ Hid (∀ q (hq : q < G.length), ∃ g, A = some ⟨g, 0, none⟩ ∧ g < w3.heap.size ∧ w3.cell? ⟨g, q, none⟩ = some G[q]) := by
            obtain ⟨j, m, v, hg⟩ := HG.out
            exact hg.rows
          have HIT : Hid (∀ q (hq : q < G.length), ∃ g n c, G[q] = .slice (some ⟨g, 0, none⟩) n c ∧ n ≤ c ∧ n ≤ 2000000000000 ∧ Full w3 (some ⟨g, 0, none⟩) n (q / 12) ∧ g < w3.heap.size) := fun q hq => by
            obtain ⟨j, m, v, hg⟩ := HG.out
            exact hg.at hq
          have HT3 := hide HM3.out.turns
          have hG1 : G.length ≤ 1200000000000 := by omega
          clear hcp hcp1 hG
          go_wp2_with fail
          clear hcp3
          go_loopw [10] (fun u w4 => ∃ (q : Nat), u = .int .i64 q ∧ q ≤ S.length ∧ Below w3.heap.size w3 w4) (fun u _ => S.length - (intOf u).toNat)
          case atStart => exact ⟨0, rfl, Nat.zero_le _, Below.refl _ _⟩
          case round =>
            obtain ⟨q, rfl, hq, hb4⟩ := hrel
            have HM4 := hide (HM3.out.below hb4)
            have hcp4 := (HB.out.turn HO.out HM4.out.turns).cell
            by_cases hql : q < S.length
            · have hit := (HB.out.turn HO.out HM4.out.turns).item q hql
              obtain ⟨a4, n4, e4, hn4, hf4, hl4⟩ := HM4.out.at hql HN.out
              rw [e4] at hit
              have HF4 := hide hf4
              have HL4 := hide hl4
              clear hf4 hl4
              go_wp2_with fail
              refine (marked_any a4 n4 n4 q (by omega) (Nat.le_refl _) (by omega) _ HF4.out HL4.out).mono ?_
              rintro e5 w5 ⟨rfl, hb5⟩
              have hs5 := hb5.size
              have hs4 := hb4.size
              have HB5 := hide (belOn hb4 hs4 hb5)
              clear hb5 hit hcp4
              go_wp2
              go_roundw
              case rel => exact ⟨q + 1, by go_num, hql, HB5.out⟩
              case measure => simp [intOf]; omega
            · obtain rfl : q = S.length := by omega
              obtain ⟨w4, rfl⟩ : ∃ w4, w4 = wr := ⟨_, rfl⟩
              go_wp2_with fail
              clear hcp4
              go_loopw [12] (fun u w5 => ∃ (q : Nat), u = .int .i64 q ∧ q ≤ G.length ∧ Below w3.heap.size w3 w5) (fun u _ => G.length - (intOf u).toNat)
              case atStart => exact ⟨0, rfl, Nat.zero_le _, hb4⟩
              case round =>
                obtain ⟨q, rfl, hq', hb5⟩ := hrel
                by_cases hql : q < G.length
                · obtain ⟨gg, rfl, hgg, hcell⟩ := hrows.out q hql
                  obtain ⟨g6, n6, c6, e6, h61, h62, hf6, hl6⟩ := HIT.out q hql
                  rw [e6] at hcell
                  have hcell5 := (hb5.cell (p := ⟨gg, q, none⟩) hgg).trans hcell
                  have hs5 := hb5.size
                  have HF6 : Hid (Full wr (some ⟨g6, 0, none⟩) n6 (q / 12)) := fun h0 => by
                    obtain ⟨b, o, e, hr⟩ := hf6 h0
                    cases e
                    exact ⟨_, _, rfl, hr.below hb5 hl6⟩
                  clear hf6 hcell
                  go_wp2_with fail
                  have hd2 : (q : Int) / 12 = ((q / 12 : Nat) : Int) := by omega
                  rw [hd2]
                  refine (marked_any (some ⟨g6, 0, none⟩) n6 c6 (q / 12) (by omega) h61 (by omega) _ HF6.out (fun x hx => by cases hx; exact Nat.lt_of_lt_of_le hl6 hs5)).mono ?_
                  rintro e7 w7 ⟨rfl, hb7⟩
                  have HB7 := hide (belOn hb5 hs5 hb7)
                  clear hb7 hcell5 hd2
                  go_wp2
                  go_roundw
                  case rel => exact ⟨q + 1, by go_num, hql, HB7.out⟩
                  case measure => simp [intOf]; omega
                · obtain rfl : q = G.length := by omega
                  go_wp2
                  go_ret
                  exact ⟨rfl, HT3.out.below hb5⟩
end Go.Proofs.YtaedlnliglmomaaDoor
