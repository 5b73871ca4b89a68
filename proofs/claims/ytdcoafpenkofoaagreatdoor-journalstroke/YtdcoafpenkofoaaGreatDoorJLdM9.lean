import Derived.Test.YtdcoafpenkofoaaGreatDoorJAdcM9
import Derived.Deep.DeepCutAuto

/- Stage 20: a disk loaded with its log alone. -/
namespace Go.Proofs.YtdcoafpenkofoaaGreatDoor
open Go.RowKit Go.Maps Go.MuLone
set_option linter.unusedVariables false
set_option linter.unusedSimpArgs false
theorem tb_empty {w : World} {m : Nat} (h : Tb w m []) : (Instr.lookup 100 (.map (some m)) (.string kG) false).run Tryz.prog w = .ok (.pointer none) w := by
  have := look_run h (k := kG) (by decide)
  rw [luV_none (by simp)] at this
  exact this
/-- what stands behind the first loop -/
def LdOk (S : Nat → Prop) (w1 : World) (d s : Nat) (wr : World) : Prop := ∃ m p v S2, DkS S2 wr d m (dx0 16777216) [⟨(kG, [], s), p, v⟩] ∧ (∀ q, S2 q → (S q ∨ w1.heap.size ≤ q) ∧ q < wr.heap.size) ∧ Kp S w1 wr
/-- what stands behind the second -/
def LdOk2 (S : Nat → Prop) (w1 : World) (d s : Nat) (l : List Nat) (wr : World) : Prop := ∃ m p v S3, DkS S3 wr d m { dx0 16777216 with used := (l.length : Int) } [⟨(kG, l, s), p, v⟩] ∧ (∀ q, S3 q → (S q ∨ w1.heap.size ≤ q) ∧ q < wr.heap.size) ∧ Kp S w1 wr
theorem lay_one (S2 : Nat → Prop) (V : World) (d m p : Nat) (v u : Value) (s : Nat) (l : List Nat) (hD : DkS S2 V d m (dx0 16777216) [⟨(kG, [], s), p, v⟩]) (hS : ∀ k, S2 k → k < V.heap.size) (hr : Rb V u l) (hn : l.length ≤ 16777216) :
    Calls Tryz.prog 46 #[.pointer (some ⟨d, 0, none⟩), .string kG, u] V fun e w' => ∃ q v', e = .returned (.pointer (some ⟨q, 0, none⟩)) ∧ DkS (Sx S2 V w') w' d m { dx0 16777216 with used := (l.length : Int) } [⟨(kG, l, s), q, v'⟩] ∧ Kp S2 V w' := by
  refine (lay_any S2 V d m (dx0 16777216) _ hD hS kG kG_nm u l hr rfl (by simp [usd]; exact hn) (by show (2 : Nat) ≤ _; decide)).mono ?_
  rintro e w' ⟨q, rfl, v', h1, h2⟩
  have e1 : dat kG ([(⟨(kG, [], s), p, v⟩ : En)].map En.f) = ([], s) := by simp [dat]
  have e2 : wo kG [(⟨(kG, [], s), p, v⟩ : En)] = [] := by simp [wo]
  have e3 : (dx0 16777216).used + (l.length : Int) = (l.length : Int) := by show (0 : Int) + _ = _; omega
  rw [e1, e2, e3] at h1
  exact ⟨q, v', rfl, h1, h2⟩
set_option maxHeartbeats 2000000 in
theorem hasRoom_one (S : Nat → Prop) (w : World) (d m : Nat) (x : Dx) (E : List En) (hD : DkS S w d m x E) (hx : x.room = 16777216) (hu : x.used = 0) (a : Option Addr) (n c : Nat) (hn : n ≤ 16777216) :
    Calls Tryz.prog 47 #[.pointer (some ⟨d, 0, none⟩), .slice a n c] w fun e w' => e = .returned (.bool true) ∧ Below w.heap.size w w' := by
  have c3 : w.cell? ⟨d, 3, none⟩ = some (.int .i64 x.room) := hD.cell 3 _ rfl
  have c4 : w.cell? ⟨d, 4, none⟩ = some (.int .i64 x.used) := hD.cell 4 _ rfl
  rw [hx] at c3
  rw [hu] at c4
  have hni : (n : Int) ≤ 16777216 := by omega
  clear hD hx hu
  go_enter Tryz.func47, Tryz.ntmps47
  go_wp2_with fail
  go_region_held (fun W => W.cell? ⟨d, 3, none⟩ = some (.int .i64 16777216) ∧ W.cell? ⟨d, 4, none⟩ = some (.int .i64 0)) (exact ⟨c3, c4⟩) (fail)
  go_wp2
  go_ret
  have hw : IntKind.i64.wrap 16777216 = 16777216 := by rw [IntKind.wrap_i64]; omega
  exact ⟨by simp [hw, hni], by first | exact Below.refl _ _ | exact Below.drew (Below.refl _ _)⟩
set_option maxRecDepth 100000 in
set_option maxHeartbeats 8000000 in
theorem load_one (w wi : World) (hb : Below w.heap.size w wi) (fb c : Nat) (a : Option Addr) (n c2 s : Nat) (l : List Nat) (hf : wi.heap[fb]? = some (.cells #[.string kG, .slice a l.length c2, .int .i64 (s : Int)] 73 (0, 0))) (hr : Rb wi (.slice a l.length c2) l) (hs : s ≤ l.length) (hn : l.length ≤ 16777216) (hfb : w.heap.size ≤ fb) :
    Calls Tryz.prog 17 #[.slice (some ⟨fb, 0, none⟩) 1 c, .int .i64 16777216] wi fun e w' => ∃ d S, e = .returned (.tuple #[.pointer (some ⟨d, 0, none⟩), .int .i64 0]) ∧ AW S w w' d { dx0 16777216 with used := (l.length : Int) } [(kG, l, s)] ∧ (∀ k, S k → wi.heap.size ≤ k) ∧ Below wi.heap.size wi w' := by
  have HN := hide (aw_new w wi hb 16777216 (by decide) (by decide))
  have HF := hide hf
  have HR := hide hr
  clear hf hr
  go_enter Tryz.func17, Tryz.ntmps17
  go_wp2_with fail
  refine HN.out.mono ?_
  rintro e w1 ⟨d, S, rfl, hA, hS, hb1⟩
  have HA := hide hA
  have HS := hide hS
  have HB1 := hide hb1
  clear hA hS hb1 HN
  have hfl : fb < wi.heap.size := (Array.getElem?_eq_some_iff.1 HF.out).1
  have hf1 := (HB1.out.block fb hfl).trans HF.out
  have c0 := cellOf hf1 0 (.string kG) rfl
  have c1 := cellOf hf1 1 (.slice a l.length c2) rfl
  have cc2 := cellOf hf1 2 (.int .i64 (s : Int)) rfl
  go_wp2_with fail
  go_loopw [17] (fun i wr => (∃ k : Nat, k ≤ 1 ∧ i = .int .i64 (k : Int) ∧ (k = 0 → wr = w1) ∧ Hid (k = 1 → LdOk S w1 d s wr))) (fun i _ => 1 - (intOf i).toNat)
  case atStart => exact ⟨0, by omega, rfl, fun _ => rfl, fun h => by omega⟩
  case round =>
    obtain ⟨k, hk, rfl, hwr, HLD⟩ := hrel
    rcases Nat.eq_zero_or_pos k with hk0 | hk0
    · subst hk0
      obtain rfl := (hwr rfl).symm
      obtain ⟨m, E, hE, hD⟩ := HA.out.dd.dsk
      obtain rfl : E = [] := by simpa using hE
      obtain ⟨Wc, hWc⟩ : ∃ Wc, w1.alloc (.cells #[.string kG, .slice a l.length c2, .int .i64 (s : Int)] 73) = Wc := ⟨_, rfl⟩
      have hbc : Below w1.heap.size w1 Wc := by rw [← hWc]; exact bel1 (Below.refl _ _) (Nat.le_refl _) _
      have hgc : Wc.heap[w1.heap.size]? = some (.cells #[.string kG, .slice a l.length c2, .int .i64 (s : Int)] 73 (0, 0)) := by rw [← hWc]; exact heap_new _ _
      have hlc : w1.heap.size < Wc.heap.size := (Array.getElem?_eq_some_iff.1 hgc).1
      have HSV : Hid (∀ V : World, Below Wc.heap.size Wc V → V.cell? ⟨w1.heap.size, 0, none⟩ = some (.string kG) ∧ V.cell? ⟨w1.heap.size, 1, none⟩ = some (.slice a l.length c2) ∧ V.cell? ⟨w1.heap.size, 2, none⟩ = some (.int .i64 (s : Int)) ∧ V.cell? ⟨d, 2, none⟩ = some (.map (some m)) ∧ (Instr.lookup 100 (.map (some m)) (.string kG) false).run Tryz.prog V = .ok (.pointer none) V) := fun V hV => by
        have h1 := (hV.block _ hlc).trans hgc
        have h2 : DkS S V d m (dx0 16777216) [] := hD.keep (fun q hq => by
          have := (HA.out.at_ q hq).2
          exact (hV.block q (by omega)).trans (hbc.block q this))
        exact ⟨cellOf h1 0 _ rfl, cellOf h1 1 _ rfl, cellOf h1 2 _ rfl, h2.cell 2 _ rfl, tb_empty h2.tab⟩
      have HNM : Hid (∀ V, Calls Tryz.prog 45 #[.string kG] V fun e w' => e = .returned (.bool true) ∧ w' = V) := fun V => by
        have := isName_any kG V
        rw [kG_nm] at this
        exact this
      have HLY : Hid (∀ V : World, Below Wc.heap.size Wc V → Calls Tryz.prog 46 #[.pointer (some ⟨d, 0, none⟩), .string kG, .slice none 0 0] V fun e w' => ∃ p v, e = .returned (.pointer (some ⟨p, 0, none⟩)) ∧ DkS (Sx S V w') w' d m (dx0 16777216) [⟨(kG, [], 0), p, v⟩] ∧ Kp S V w' ∧ w'.cell? ⟨w1.heap.size, 0, none⟩ = some (.string kG) ∧ w'.cell? ⟨w1.heap.size, 2, none⟩ = some (.int .i64 (s : Int)) ∧ w'.cell? ⟨p, 1, none⟩ = some (.int .i64 0) ∧ w'.frozen? ⟨p, 1, none⟩ = false ∧ ¬ p = w1.heap.size) := fun V hV => by
        have h2 : DkS S V d m (dx0 16777216) [] := hD.keep (fun q hq => by
          have := (HA.out.at_ q hq).2
          exact (hV.block q (by omega)).trans (hbc.block q this))
        refine (lay_any S V d m (dx0 16777216) [] h2 (fun q hq => by have := (HA.out.at_ q hq).2; have := hV.size; omega) kG kG_nm (.slice none 0 0) [] (Rb.nil V) rfl (by decide) (by decide)).mono ?_
        rintro e w' ⟨p, rfl, v, h3, h4⟩
        have h3' : DkS (Sx S V w') w' d m (dx0 16777216) [⟨(kG, [], 0), p, v⟩] := h3
        have hns : ¬ S w1.heap.size := fun hs => by have := (HA.out.at_ _ hs).2; omega
        have hlv : w1.heap.size < V.heap.size := Nat.lt_of_lt_of_le hlc hV.size
        have hcb := (h4.block hlv hns).trans ((hV.block _ hlc).trans hgc)
        have hen := (h3'.ens _ List.mem_cons_self).2.1
        exact ⟨p, v, rfl, h3', h4, cellOf hcb 0 _ rfl, cellOf hcb 2 _ rfl, cellOf hen 1 _ rfl, frozen_of hen 1, fun e => by
          have hsx := (h3'.ens _ List.mem_cons_self).1
          rw [show (⟨(kG, [], 0), p, v⟩ : En).p = p from rfl, e] at hsx
          rcases hsx with h | h
          · exact hns h
          · omega⟩
      have HBC := hide hbc
      have hs0 : ¬ (s : Int) < 0 := by omega
      have hs1 : ¬ (l.length : Int) < (s : Int) := by omega
      have HWC := hide hWc
      obtain ⟨b0, b1, b2, b3, b4⟩ := HSV.out Wc (Below.refl _ _)
      clear hE hD hbc hgc hlc hWc
      go_wp2_with fail
      rw [HWC.out]
      go_region_held (fun V => V.cell? ⟨w1.heap.size, 0, none⟩ = some (.string kG) ∧ V.cell? ⟨w1.heap.size, 1, none⟩ = some (.slice a l.length c2) ∧ V.cell? ⟨w1.heap.size, 2, none⟩ = some (.int .i64 (s : Int)) ∧ V.cell? ⟨d, 2, none⟩ = some (.map (some m)) ∧ (Instr.lookup 100 (.map (some m)) (.string kG) false).run Tryz.prog V = .ok (.pointer none) V) (first | exact HSV.out _ (Below.refl _ _) | exact HSV.out _ (Below.refl _ _).drew | exact HSV.out _ (Below.refl _ _).drew.drew) ((go_at_call 45; refine Calls.mono (HNM.out _) ?_; rintro e2 w2 ⟨rfl, rfl⟩))
      rename World => V7
      go_wp2_with fail
      go_region_held (fun V => V.cell? ⟨w1.heap.size, 0, none⟩ = some (.string kG) ∧ V.cell? ⟨w1.heap.size, 2, none⟩ = some (.int .i64 (s : Int))) (first | go_keep | exact ⟨(HSV.out _ (Below.refl _ _).drew).1, (HSV.out _ (Below.refl _ _).drew).2.2.1⟩ | exact ⟨(HSV.out _ (Below.refl _ _).drew.drew).1, (HSV.out _ (Below.refl _ _).drew.drew).2.2.1⟩) ((go_at_call 46; refine Calls.mono (HLY.out _ (by first | exact (Below.refl _ _).drew | exact (Below.refl _ _).drew.drew | exact (Below.refl _ _).drew.drew.drew | exact Below.refl _ _)) ?_; rintro e2 w2 ⟨p, v, rfl, hd2, hk2, g0, g2, g1, gf, gn⟩; have gn2 : ¬ w1.heap.size = p := fun e => gn e.symm; have HD2 := hide hd2; have HK2 := hide hk2; clear hd2 hk2))
      rename World => w2
      go_wp2_with fail
      obtain ⟨Vd, hVd⟩ : ∃ Vd, V7.drew.drew = Vd := ⟨_, rfl⟩
      have hsv : Vd.heap.size = V7.heap.size := by rw [← hVd]; rfl
      rw [hVd] at HD2 HK2
      have hB := HBC.out.size
      have hps := (HD2.out.ens _ List.mem_cons_self).1
      rw [show (⟨(kG, [], 0), p, v⟩ : En).p = p from rfl] at hps
      refine ⟨⟨1, by omega, by go_num, fun h => by omega, fun _ => ⟨m, p, v, _, HD2.out.safe s, fun q hq => ?_, ?_⟩⟩, by simp [intOf]⟩
      · have hz : (w2.setCell ⟨p, 1, none⟩ (.int .i64 (s : Int))).heap.size = w2.heap.size := by simp
        rw [hz]
        rcases hq with hq | hq
        · exact ⟨.inl hq, by have := (HA.out.at_ q hq).2; have := HK2.out.size; omega⟩
        · exact ⟨.inr (by omega), hq.2⟩
      · have hk0 : Kp S w1 w2 := (Kp.ofBelow HBC.out).trans (by
          have : Kp S V7 w2 := by
            have h := HK2.out
            rw [← hVd] at h
            exact h
          exact this)
        rcases hps with hq | hq
        · exact hk0.setCell hq _
        · exact hk0.fresh (by omega) _
    · obtain rfl : k = 1 := by omega
      obtain ⟨m, p, v, S2, HD2, HS2, HK2⟩ := HLD.out rfl
      have HD2 := hide HD2
      have HS2 := hide HS2
      have HK2 := hide HK2
      clear HLD hwr
      go_wp2_with fail
      go_loopw [59] (fun i w2 => (∃ k : Nat, k ≤ 1 ∧ i = .int .i64 (k : Int) ∧ (k = 0 → w2 = wr) ∧ Hid (k = 1 → LdOk2 S w1 d s l w2))) (fun i _ => 1 - (intOf i).toNat)
      case atStart => exact ⟨0, by omega, rfl, fun _ => rfl, fun h => by omega⟩
      case round =>
        obtain ⟨k, hk, rfl, hw2, HLD⟩ := hrel
        rcases Nat.eq_zero_or_pos k with hk0 | hk0
        · subst hk0
          obtain rfl := (hw2 rfl).symm
          have hfr : fb < w1.heap.size := Nat.lt_of_lt_of_le hfl HB1.out.size
          have hns : ¬ S fb := fun h => by have := HS.out _ h; omega
          have hf2 := (HK2.out.block hfr hns).trans hf1
          have d0 := cellOf hf2 0 (.string kG) rfl
          have d1 := cellOf hf2 1 (.slice a l.length c2) rfl
          have d2 := cellOf hf2 2 (.int .i64 (s : Int)) rfl
          go_wp2_with fail
          obtain ⟨Wc, hWc⟩ : ∃ Wc, wr.alloc (.cells #[.string kG, .slice a l.length c2, .int .i64 (s : Int)] 73) = Wc := ⟨_, rfl⟩
          have hbc : Below wr.heap.size wr Wc := by rw [← hWc]; exact bel1 (Below.refl _ _) (Nat.le_refl _) _
          have hgc : Wc.heap[wr.heap.size]? = some (.cells #[.string kG, .slice a l.length c2, .int .i64 (s : Int)] 73 (0, 0)) := by rw [← hWc]; exact heap_new _ _
          have hlc : wr.heap.size < Wc.heap.size := (Array.getElem?_eq_some_iff.1 hgc).1
          rw [hWc]
          have hDc : DkS S2 Wc d m (dx0 16777216) [⟨(kG, [], s), p, v⟩] := HD2.out.keep (fun q hq => hbc.block q (HS2.out q hq).2)
          refine (hasRoom_one S2 Wc d m _ _ hDc rfl rfl a l.length c2 hn).mono ?_
          rintro e Wh ⟨rfl, hbh⟩
          have hbwh : Below wr.heap.size wr Wh := belOn hbc (Nat.le_of_lt hlc) hbh
          have hDh : DkS S2 Wh d m (dx0 16777216) [⟨(kG, [], s), p, v⟩] := HD2.out.keep (fun q hq => hbwh.block q (HS2.out q hq).2)
          have hgh := (hbh.block _ hlc).trans hgc
          have t0 := cellOf hgh 0 (.string kG) rfl
          have t1 := cellOf hgh 1 (.slice a l.length c2) rfl
          have hrh : Rb Wh (.slice a l.length c2) l := by
            have hk : Kp S wi Wh := ((Kp.ofBelow HB1.out |>.mono (fun _ h => h)).trans (by
              have : Kp S w1 Wh := HK2.out.below hbwh
              exact ⟨this.1, this.2.1, this.2.2.1, this.2.2.2.1, this.2.2.2.2⟩))
            exact HR.out.kp hk (fun b off c hs he => by
              have h1 := HS.out b hs
              have h2 : ¬ b < wi.heap.size := by omega
              rw [World.cell?, Array.getElem?_eq_none (by show wi.heap.size ≤ b; omega)] at he
              cases he)
          have HLY := hide (lay_one S2 Wh d m p v (.slice a l.length c2) s l hDh (fun k hk => Nat.lt_of_lt_of_le (HS2.out k hk).2 hbwh.size) hrh hn)
          have HBW := hide hbwh
          clear hbwh hDh hgh hrh hDc hbc hgc hlc hWc hbh d0 d1 d2 hf2 hns
          go_wp2_with fail
          refine HLY.out.mono ?_
          rintro e w3 ⟨q, v', rfl, hd3, hk3⟩
          have HD3 := hide hd3
          have HK3 := hide hk3
          clear hd3 hk3
          go_wp2_with fail
          have hsz := HBW.out.size
          have hsz3 := HK3.out.size
          have hwr := HK2.out.size
          refine ⟨⟨_, _, _, _, _, _, _, _, _, _, _, _, _, _, _, _, _, _, _, ?_, rfl⟩, by simp [intOf]⟩
          refine ⟨1, by omega, by go_num, fun h => by omega, fun _ => ⟨m, q, v', _, HD3.out, fun r hr => ?_, ?_⟩⟩
          · rcases hr with h | h
            · exact ⟨(HS2.out r h).1, by have := (HS2.out r h).2; omega⟩
            · exact ⟨.inr (by omega), h.2⟩
          · exact (HK2.out.below HBW.out).transN HK3.out (fun r hr => (HS2.out r hr).1)
        · obtain rfl : k = 1 := by omega
          obtain ⟨m3, p3, v3, S3, HD3, HS3, HK3⟩ := HLD.out rfl
          have HD3 := hide HD3
          have HS3 := hide HS3
          have HK3 := hide HK3
          clear HLD hw2
          go_wp2_with fail
          go_ret2
          have hb3 : Below wi.heap.size w1 _ := HK3.out.toBelow HB1.out.size (fun k hk hs => by have := HS.out _ hs; omega)
          have hb4 : Below wi.heap.size wi _ := HB1.out.trans hb3
          refine ⟨d, rfl, S3, ⟨fun k hk => ⟨?_, (HS3.out k hk).2⟩, ⟨⟨m3, _, rfl, HD3.out⟩, rfl, ?_⟩, belOn hb hb.size hb4⟩, fun k hk => ?_, hb4⟩
          · rcases (HS3.out k hk).1 with h | h
            · exact (HA.out.at_ k h).1
            · exact Nat.le_trans HA.out.bel.size h
          · exact ⟨by simp [usd], by simp [usd, dx0]; omega, by show (16777216 : Int) ≤ _; omega, by simpa using hs, by show (-1 : Int) ≤ -1; omega, by show (-1 : Int) < _; omega, by show _ ≤ (0 : Int); omega, by show (0 : Int) < _; omega⟩
          · rcases (HS3.out k hk).1 with h | h
            · exact HS.out k h
            · exact Nat.le_trans HB1.out.size h
end Go.Proofs.YtdcoafpenkofoaaGreatDoor
