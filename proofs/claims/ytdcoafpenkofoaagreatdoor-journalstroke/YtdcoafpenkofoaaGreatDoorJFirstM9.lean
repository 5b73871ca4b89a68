import Derived.Test.YtdcoafpenkofoaaGreatDoorJFstM9
import Derived.Test.YtdcoafpenkofoaaGreatDoorDSmM9
import Derived.OwnWalk

/- Stage 20: the records of a body. -/
namespace Go.Proofs.YtdcoafpenkofoaaGreatDoor
open Go.RowKit
set_option linter.unusedVariables false
set_option linter.unusedSimpArgs false
/-- records that are told: bytes, and the slice that has them -/
abbrev Rc := List Nat × Value
def BK : WK Rc := { enc := fun r => [if r.2.oneCell' then r.2 else .slice none 0 0], n := 1, bs := 24, t := 23, ts := 29 }
theorem Tryz.infoBs : ∃ i z, Tryz.prog.info? 23 = some i ∧ i.zero = some z ∧ z.cells.size = 1 ∧ i.size = 1 ∧ i.bytes = 24 := by
  have h : (Tryz.prog.info? 23).map (fun i => (i.zero, i.size, i.bytes)) = some (some (.slice none 0 0), 1, 24) := by kernel_rfl
  obtain ⟨i, h1, h2, h3, h4⟩ := info_parts h
  exact ⟨i, _, h1, h2, rfl, h3, h4⟩
theorem bkOk : BK.Ok := ⟨fun x => rfl, fun x u hu => by
  simp only [BK, List.mem_cons, List.not_mem_nil, or_false] at hu
  subst hu
  split
  · assumption
  · rfl, Tryz.underlying29, Tryz.infoBs, by decide, by decide, by decide, by decide⟩
theorem bk_enc (l : List Nat) (a : Option Addr) (n c : Nat) : BK.enc (l, .slice a n c) = [.slice a n c] := rfl
/-- bytes in memory of their own, apart from one another -/
structure ToldR (base : Nat) (w : World) (W : List Rc) : Prop where
  own : ∀ o ∈ W, Ob base w o.2 o.1
  apt : W.Pairwise fun a b => ∀ g, a.2.ownBlock = some g → b.2.ownBlock ≠ some g
theorem ToldR.nil (base : Nat) (w : World) : ToldR base w [] := ⟨by simp, by simp⟩
theorem ToldR.keep {base : Nat} {w w' : World} {W : List Rc} (h : ToldR base w W) (hk : ∀ o ∈ W, ∀ g, o.2.ownBlock = some g → w'.heap[g]? = w.heap[g]?) : ToldR base w' W :=
  ⟨fun o ho => (h.own o ho).at_same (hk o ho), h.apt⟩
theorem ToldR.below {base : Nat} {w w' : World} {W : List Rc} (h : ToldR base w W) (hb : Below w.heap.size w w') : ToldR base w' W := h.keep (fun o ho g hg => hb.block g ((h.own o ho).lt g hg).2)
theorem ToldR.mono {base b2 : Nat} {w : World} {W : List Rc} (h : ToldR base w W) (hb : b2 ≤ base) : ToldR b2 w W := ⟨fun o ho => (h.own o ho).mono hb, h.apt⟩
theorem ToldR.push {base : Nat} {w : World} {W : List Rc} (h : ToldR base w W) {o : Rc} {B : Nat} (ho : Ob base w o.2 o.1) (hB : ∀ g, o.2.ownBlock = some g → B ≤ g) (hW : ∀ q ∈ W, ∀ g, q.2.ownBlock = some g → g < B) : ToldR base w (W ++ [o]) := by
  refine ⟨fun q hq => ?_, List.pairwise_append.2 ⟨h.apt, by simp, fun a ha b hb g hg hbg => ?_⟩⟩
  · rcases List.mem_append.1 hq with hq | hq
    · exact h.own q hq
    · rw [List.mem_singleton.1 hq]; exact ho
  · rw [List.mem_singleton.1 hb] at hbg
    have := hB g hbg
    have := hW a ha g hg
    omega
theorem ToldR.apart {base b2 : Nat} {w : World} {W : List Rc} {A : Type} {K : WK A} {U : List A} {v : Value} (h : ToldR base w W) (hw : Wy K w b2 v U) (ht : K.t ≠ 5) {o : Rc} (ho : o ∈ W) {g : Nat} (hg : o.2.ownBlock = some g) : v.ownBlock ≠ some g := by
  intro hv
  obtain ⟨cur, h1⟩ := hw.typ hv
  obtain ⟨cs, fr, h2⟩ := (h.own o ho).blk hg
  rw [h1] at h2
  simp at h2
  exact ht h2.2.1
/-- a batch that is told -/
def Bat (base : Nat) (w : World) (v : Value) (L : List (List Nat)) : Prop := ∃ W : List Rc, W.map (·.1) = L ∧ Wy BK w base v W ∧ ToldR base w W
theorem Bat.below {base : Nat} {w w' : World} {v : Value} {L : List (List Nat)} (h : Bat base w v L) (hb : Below w.heap.size w w') : Bat base w' v L := by
  obtain ⟨W, h1, h2, h3⟩ := h
  exact ⟨W, h1, h2.at (fun k hk => hb.block k (h2.lt hk).2), h3.below hb⟩
def SpP (base : Nat) (l : List Nat) (e : Ending) (w' : World) : Prop := (spl l = none ∧ e = .returned (.tuple #[.slice none 0 0, nB 201])) ∨ ∃ L v, spl l = some L ∧ e = .returned (.tuple #[v, .nilIface]) ∧ Bat base w' v L
/-- what is left of a body -/
def Lft (w : World) (b : Nat) (v : Value) (m : List Nat) : Prop := ∃ off cap, v = .slice (some ⟨b, off, none⟩) m.length cap ∧ m.length ≤ cap ∧ Rd w (some ⟨b, off, none⟩) m.length m
theorem spl_none4 {l : List Nat} (h0 : l.length ≠ 0) (h : l.length < 4) : spl l = none := by rw [spl_eq, if_neg h0, if_pos h]
theorem spl_noneS {l : List Nat} (h4 : 4 ≤ l.length) (h : getN (l.take 4) < 1 ∨ 1049600 < getN (l.take 4) ∨ l.length - 4 < getN (l.take 4)) : spl l = none := by rw [spl_eq, if_neg (by omega), if_neg (by omega), if_pos h]
theorem spl_some {l : List Nat} (h4 : 4 ≤ l.length) (h : ¬ (getN (l.take 4) < 1 ∨ 1049600 < getN (l.take 4) ∨ l.length - 4 < getN (l.take 4))) : spl l = (spl (l.drop (4 + getN (l.take 4)))).map fun t => (l.drop 4).take (getN (l.take 4)) :: t := by
  conv => lhs; rw [spl_eq, if_neg (by omega), if_neg (by omega), if_neg h]
theorem rec_push {w wr w3 w5 : World} {N : Nat} {va v3 : Value} {W : List Rc} {l : List Nat} {o : Obj} (hN : N ≤ wr.heap.size) (hwy : Wy BK wr N va W) (HT : ToldR N wr W) (HB3 : Below wr.heap.size wr w3) (HO : Ob wr.heap.size w3 v3 l) (hgr : (w3.alloc o).grownBy w5 va.ownBlock) :
    ToldR N w5 (W ++ [(l, v3)]) ∧ (Below N w wr → Below N w w5) := by
  have hb4 : Below wr.heap.size wr (w3.alloc o) := bel1 HB3 HB3.size _
  have hw4 : Wy BK (w3.alloc o) N va W := hwy.at fun k hk => hb4.block k (hwy.lt hk).2
  have t4 := HT.below hb4
  refine ⟨?_, fun h => ((h.trans (hb4.mono hN))).grown hgr (Nat.le_trans hN hb4.size) (fun k hk => (hwy.lt hk).1)⟩
  have t5 : ToldR N w5 W := t4.keep (fun r hr g hg => hgr.block g ((t4.own r hr).lt g hg).2 (fun h => t4.apart hw4 (by decide) hr hg h.symm))
  have o5 : Ob wr.heap.size w5 v3 l := by
    refine HO.at_same (fun g hg => ?_)
    have hgl := HO.lt g hg
    have e1 : (w3.alloc o).heap[g]? = w3.heap[g]? := Below.heap_alloc _ _ _ hgl.2
    rw [← e1]
    refine hgr.block g (by simp; omega) (fun h => ?_)
    have := (hwy.lt h.symm).2
    omega
  exact t5.push (B := wr.heap.size) (o5.mono hN) (fun g hg => (o5.lt g hg).1) (fun q hq g hg => ((HT.own q hq).lt g hg).2)
def lenV : Value → Nat
  | .slice _ n _ => n
  | _ => 0
set_option maxHeartbeats 4000000 in
theorem split_any (b off n cap : Nat) (l : List Nat) (w : World) (hrd : Rd w (some ⟨b, off, none⟩) n l) (hc : n ≤ cap) (hn : n ≤ 4294967296) :
    Calls Tryz.prog 155 #[.slice (some ⟨b, off, none⟩) n cap] w fun e w' => SpP w.heap.size l e w' ∧ Below w.heap.size w w' := by
  have hl := hrd.1
  subst hl
  have HL0 : Hid (Lft w b (.slice (some ⟨b, off, none⟩) l.length cap) l) := ⟨off, cap, rfl, hc, hrd⟩
  clear hrd hc
  go_enter Tryz.func155, Tryz.ntmps155
  go_wp2
  go_loopw [0, 4] (fun vb vr wr => ∃ m W, Lft w b vb m ∧ Wy BK wr w.heap.size vr W ∧ Hid (ToldR w.heap.size wr W) ∧ Hid (spl l = (spl m).map fun t => W.map (·.1) ++ t) ∧ Below w.heap.size w wr ∧ W.length * 4 + m.length ≤ l.length) (fun vb _ _ => lenV vb)
  case atStart => exact ⟨l, [], HL0.out, .inl ⟨rfl, rfl⟩, ToldR.nil _ _, by simp [Hid], Below.refl _ _, by simp⟩
  case round =>
    obtain ⟨m, W, ⟨off', cap', rfl, hcm, hrm0⟩, hwy, HT, HS, hb, hlen⟩ := hrel
    have hrm := hrm0.below hb
    have HR0 := hide hrm0
    clear hrm0
    obtain ⟨va, vc, rfl⟩ := hwy.shape
    have HWY := hide hwy
    have HB := hide hb
    have hm : m.length ≤ 4294967296 := by omega
    have HWL : Hid (W.length ≤ 4294967296) := by show _ ≤ _; omega
    have HLen := hide hlen
    clear hwy hb hlen
    by_cases h0 : m.length = 0
    · have HQ : Hid (spl l = some (W.map (·.1))) := by
        show _ = _
        rw [HS.out, spl_eq m, if_pos h0]
        simp
      go_wp2
      go_ret2
      exact ⟨.inr ⟨_, _, HQ.out, rfl, W, rfl, HWY.out, HT.out⟩, HB.out⟩
    · by_cases h4 : m.length < 4
      · have HQ : Hid (spl l = none) := by
          show _ = _
          rw [HS.out, spl_none4 h0 h4]
          rfl
        have HG := hide (get_short (some ⟨b, off', none⟩) m.length cap' 0 4 wr (by omega) (by omega) (by omega) (by omega) (by omega) (by omega))
        clear hrm
        go_wp2_with (go_at_call 183; refine HG.out.mono ?_; rintro e w' ⟨rfl, rfl⟩)
        go_ret2
        exact ⟨.inl ⟨HQ.out, rfl⟩, HB.out⟩
      · have HG := hide (get4_zero (some ⟨b, off', none⟩) m.length cap' m wr (by omega) hcm (by omega) hrm)
        have hg4 := getN_lt4 (l := m.take 4) (fun c hc => hrm.2.1 c (List.mem_of_mem_take hc)) (by rw [List.length_take]; omega)
        have HRM := hide hrm
        obtain ⟨G, hG⟩ : ∃ G, getN (m.take 4) = G := ⟨_, rfl⟩
        have HGG := hide hG
        rw [hG] at HG hg4
        clear hrm hG
        by_cases hbad : G < 1 ∨ 1049600 < G ∨ m.length - 4 < G
        · have HQ : Hid (spl l = none) := by
            show _ = _
            rw [HS.out, spl_noneS (by omega) (by rw [HGG.out]; exact hbad)]
            rfl
          rcases hbad with h | h | h
          · go_wp2_with (go_at_call 183; refine HG.out.mono ?_; rintro e w' ⟨rfl, rfl⟩)
            go_ret2
            exact ⟨.inl ⟨HQ.out, rfl⟩, HB.out⟩
          · have h1 : ¬ G < 1 := by omega
            go_wp2_with (go_at_call 183; refine HG.out.mono ?_; rintro e w' ⟨rfl, rfl⟩)
            go_ret2
            exact ⟨.inl ⟨HQ.out, rfl⟩, HB.out⟩
          · by_cases h1 : G < 1
            · omega
            · by_cases h2 : 1049600 < G
              · go_wp2_with (go_at_call 183; refine HG.out.mono ?_; rintro e w' ⟨rfl, rfl⟩)
                go_ret2
                exact ⟨.inl ⟨HQ.out, rfl⟩, HB.out⟩
              · go_wp2_with (go_at_call 183; refine HG.out.mono ?_; rintro e w' ⟨rfl, rfl⟩)
                go_ret2
                exact ⟨.inl ⟨HQ.out, rfl⟩, HB.out⟩
        · have h1 : ¬ G < 1 := by omega
          have h2 : ¬ 1049600 < G := by omega
          have h3 : G ≤ m.length - 4 := by omega
          have HQ : Hid (spl m = (spl (m.drop (4 + G))).map fun t => (m.drop 4).take G :: t) := by
            show _ = _
            have := spl_some (l := m) (by omega) (by rw [HGG.out]; exact hbad)
            rw [HGG.out] at this
            exact this
          have HR4 : Hid (Rb wr (.slice (some ⟨b, off' + 4, none⟩) (4 + G - 4) (cap' - 4)) ((m.drop 4).take G)) := by
            have h := (HRM.out.drop (k := 4) (by omega)).take (k := G) (by omega)
            have hl : ((m.drop 4).take G).length = G := by rw [List.length_take, List.length_drop]; omega
            exact ⟨_, _, by rw [hl, Nat.add_sub_cancel_left], (fun h => by cases h), by rw [hl]; omega, by rw [hl]; exact h⟩
          have HLG : Hid (((m.drop 4).take G).length = G) := by show _ = _; rw [List.length_take, List.length_drop]; omega
          clear hbad
          have HP : Hid (∀ (v' : Value) (w3 : World), Ob wr.heap.size w3 v' ([] ++ (m.drop 4).take G) → wr.grownBy w3 (Value.slice none 0 0).ownBlock → ∃ a3 c3, v' = .slice a3 G c3 ∧ Hid (Ob wr.heap.size w3 (.slice a3 G c3) ((m.drop 4).take G)) ∧ Hid (Below wr.heap.size wr w3)) := fun v' w3 r1 r2 => by
            rw [List.nil_append] at r1
            obtain ⟨a3, c3, hv, _⟩ := r1.slice
            rw [HLG.out] at hv
            subst hv
            exact ⟨a3, c3, rfl, r1, ⟨r2.os, r2.tape, r2.output, r2.size, fun k hk => r2.block k hk (fun h => by cases h)⟩⟩
          have HZ0 : Hid (w.heap.size ≤ wr.heap.size) := HB.out.size
          have HLF : Hid (∀ w4, Below wr.heap.size wr w4 ∨ (∃ row, wr.grownBy w4 row ∧ row ≠ some b) → True) := fun _ _ => trivial
          go_wp2_with (first | (go_at_call 183; refine HG.out.mono ?_; rintro e w' ⟨rfl, rfl⟩) | (at_builtin; go_loud (refine wpList_app wr rfl (.const (.slice none 0 0)) (.tmp 41) rfl wr.heap.size (.slice none 0 0) [] rfl (Ob.nil _ _) (.slice (some ⟨b, off' + 4, none⟩) (4 + G - 4) (cap' - 4)) ((m.drop 4).take G) rfl HR4.out (by rw [List.length_nil, HLG.out]; omega) (Nat.le_refl _) ?_; intro v' w3 r1 r2 r3; obtain ⟨a3, c3, rfl, HO, HB3⟩ := HP.out v' w3 r1 r2; clear r1 r2 r3)) | (at_builtin; go_loud (refine wpList_append_way bkOk _ rfl (.tmp 38) (.tmp 43) rfl w.heap.size (.slice va W.length vc) W ((m.drop 4).take G, .slice a3 G c3) rfl (HWY.out.at fun k hk => (bel1 HB3.out HB3.out.size _).block k (HWY.out.lt hk).2) w3.heap.size 1 rfl (heap_new _ _) (by have := HZ0.out; have := HB3.out.size; simp; omega) (by have := HWL.out; simp only [BK]; omega) ?_; intro v5 w5 hwy5 hgr5 hat5)))
          have HPU := rec_push (w := w) HZ0.out HWY.out HT.out HB3.out HO.out hgr5
          refine ⟨⟨m.drop (4 + G), _, ?_, hwy5, HPU.1, ?_, HPU.2 HB.out, ?_⟩, ?_⟩
          · have hd := HR0.out.drop (k := 4 + G) (by omega)
            have hl : (m.drop (4 + G)).length = m.length - (4 + G) := List.length_drop ..
            by_cases hq : cap' = 4 + G
            · rw [if_pos hq]
              have h0' : m.drop (4 + G) = [] := List.length_eq_zero_iff.1 (by omega)
              rw [h0']
              exact ⟨off', 0, by rw [show m.length - (4 + G) = 0 by omega, show cap' - (4 + G) = 0 by omega]; rfl, Nat.le_refl _, Rd.nil _ _⟩
            · rw [if_neg hq]
              exact ⟨off' + (4 + G), cap' - (4 + G), by rw [hl], by omega, by rw [hl]; exact hd⟩
          · show _ = _
            rw [HS.out, HQ.out, List.map_append]
            cases spl (m.drop (4 + G)) <;> simp
          · rw [List.length_append, List.length_drop]
            simp
            have := HLen.out
            omega
          · simp only [lenV]
            omega
end Go.Proofs.YtdcoafpenkofoaaGreatDoor


/- Stage 20: the whole batch that bytes begin with. -/
namespace Go.Proofs.YtdcoafpenkofoaaGreatDoor
open Go.RowKit
set_option linter.unusedVariables false
set_option linter.unusedSimpArgs false
theorem Wy.mono {A : Type} {K : WK A} {w : World} {base b2 : Nat} {v : Value} {W : List A} (h : Wy K w base v W) (hb : b2 ≤ base) : Wy K w b2 v W := by
  rcases h with h | ⟨g, off, cap, cur, e, h1, h2⟩
  · exact .inl h
  · exact .inr ⟨g, off, cap, cur, e, by omega, h2⟩
def FsP (base : Nat) (g : Addr) (l : List Nat) (e : Ending) (w' : World) : Prop := ((fst1 l).1 ≠ 0 ∧ ∃ z : Int, e = .returned (.tuple #[.slice none 0 0, .int .i64 z, errV g (fst1 l).1])) ∨ ((fst1 l).1 = 0 ∧ ∃ v, e = .returned (.tuple #[v, .int .i64 ((fst1 l).2.2 : Int), .nilIface]) ∧ Bat base w' v (fst1 l).2.1)
theorem fst_short {l : List Nat} (h : l.length < 8) : fst1 l = (1, [], 0) := by unfold fst1; rw [if_pos h]
theorem fst_head {l : List Nat} (h : 8 ≤ l.length) (h2 : getN (l.take 4) < 5 ∨ sst l 4 = false) : fst1 l = (2, [], 0) := by unfold fst1; rw [if_neg (by omega), if_pos h2]
theorem fst_cut {l : List Nat} (h : 8 ≤ l.length) (h2 : ¬ (getN (l.take 4) < 5 ∨ sst l 4 = false)) (h3 : l.length < 8 + getN (l.take 4) + 4) : fst1 l = (1, [], 0) := by unfold fst1; rw [if_neg (by omega), if_neg h2, if_pos h3]
theorem fst_sum {l : List Nat} (h : 8 ≤ l.length) (h2 : ¬ (getN (l.take 4) < 5 ∨ sst l 4 = false)) (h3 : ¬ l.length < 8 + getN (l.take 4) + 4) (h4 : sst l (8 + getN (l.take 4)) = false) : fst1 l = (2, [], 0) := by unfold fst1; rw [if_neg (by omega), if_neg h2, if_neg h3, if_pos h4]
theorem fst_none {l : List Nat} (h : 8 ≤ l.length) (h2 : ¬ (getN (l.take 4) < 5 ∨ sst l 4 = false)) (h3 : ¬ l.length < 8 + getN (l.take 4) + 4) (h4 : ¬ sst l (8 + getN (l.take 4)) = false) (h5 : spl ((l.drop 8).take (getN (l.take 4))) = none) : fst1 l = (2, [], 0) := by unfold fst1; rw [if_neg (by omega), if_neg h2, if_neg h3, if_neg h4, h5]
theorem fst_some {l : List Nat} {r : List (List Nat)} (h : 8 ≤ l.length) (h2 : ¬ (getN (l.take 4) < 5 ∨ sst l 4 = false)) (h3 : ¬ l.length < 8 + getN (l.take 4) + 4) (h4 : ¬ sst l (8 + getN (l.take 4)) = false) (h5 : spl ((l.drop 8).take (getN (l.take 4))) = some r) : fst1 l = (0, r, 12 + getN (l.take 4)) := by unfold fst1; rw [if_neg (by omega), if_neg h2, if_neg h3, if_neg h4, h5]
theorem FsP.bad {base : Nat} {g : Addr} {l : List Nat} {c : Nat} {w' : World} (h : fst1 l = (c, [], 0)) (hc : c ≠ 0) (z : Int) : FsP base g l (.returned (.tuple #[.slice none 0 0, .int .i64 z, errV g c])) w' := by
  refine .inl ⟨by rw [h]; exact hc, z, by rw [h]⟩
set_option maxHeartbeats 4000000 in
theorem first_any (g : Addr) (b off n cap : Nat) (l : List Nat) (w : World) (hE : Eb w g) (hrd : Rd w (some ⟨b, off, none⟩) n l) (hc : n ≤ cap) (hn : n ≤ 140737488355328) :
    Calls Tryz.prog 117 #[.slice (some ⟨b, off, none⟩) n cap] w fun e w' => FsP w.heap.size g l e w' ∧ Below w.heap.size w w' := by
  have HBS := hide (bodySize_any g (some ⟨b, off, none⟩) n cap l w hE hrd hc hn)
  have hg4 := getN_lt4 (l := l.take 4) (fun c hc => hrd.2.1 c (List.mem_of_mem_take hc)) (by rw [List.length_take]; omega)
  have hl := hrd.1
  have HR := hide hrd
  have HE := hide hE
  clear hrd hE
  subst hl
  obtain ⟨G, hG⟩ : ∃ G, getN (l.take 4) = G := ⟨_, rfl⟩
  have HGG := hide hG
  rw [hG] at HBS hg4
  clear hG
  go_enter Tryz.func117, Tryz.ntmps117
  go_wp2_with fail
  refine HBS.out.mono ?_
  rintro e w1 ⟨hbs, hb1⟩
  have HB1 := hide hb1
  have HE1 := hide (HE.out.below hb1)
  clear hb1
  rcases hbs with ⟨h8, rfl⟩ | ⟨h8, h5, rfl⟩ | ⟨h8, h5, rfl⟩
  · have HQ : Hid (∀ (z : Int) W, FsP w.heap.size g l (.returned (.tuple #[.slice none 0 0, .int .i64 z, errV g 1])) W) := fun z W => FsP.bad (fst_short h8) (by decide) z
    unfold eB
    go_wp2
    refine bodyPost_ret (results_tmp3 rfl _ _ _) rfl ?_
    exact ⟨HQ.out 0 _, HB1.out⟩
  · have HQ : Hid (∀ (z : Int) W, FsP w.heap.size g l (.returned (.tuple #[.slice none 0 0, .int .i64 z, errV g 2])) W) := fun z W => FsP.bad (fst_head h8 (by rw [HGG.out]; exact h5)) (by decide) z
    unfold nB
    clear h5
    go_wp2
    refine bodyPost_ret (results_tmp3 rfl _ _ _) rfl ?_
    exact ⟨HQ.out 0 _, HB1.out⟩
  · have h5' : 5 ≤ G := by
      rcases Nat.lt_or_ge G 5 with h | h
      · exact absurd (.inl h) h5
      · exact h
    have H5 : Hid (¬ (getN (l.take 4) < 5 ∨ sst l 4 = false)) := by rw [HGG.out]; exact h5
    have H8 := hide h8
    clear h5
    by_cases hc3 : l.length < 8 + G + 4
    · have HQ : Hid (∀ (z : Int) W, FsP w.heap.size g l (.returned (.tuple #[.slice none 0 0, .int .i64 z, errV g 1])) W) := fun z W => FsP.bad (fst_cut H8.out H5.out (by rw [HGG.out]; exact hc3)) (by decide) z
      have hE1 := HE1.out
      unfold Eb eB at hE1
      go_wp2_with (go_quiet (fail))
      refine bodyPost_ret (results_tmp3 rfl _ _ _) rfl ?_
      exact ⟨HQ.out 0 _, below_drewN HB1.out _⟩
    · have HS := hide (sumStands_any b off l.length cap (8 + G) l w1 (HR.out.below HB1.out) hc hn (by omega))
      rw [show ((8 + G : Nat) : Int) = 8 + (G : Int) by omega] at HS
      cases hs : sst l (8 + G)
      · rw [hs] at HS
        have HQ : Hid (∀ (z : Int) W, FsP w.heap.size g l (.returned (.tuple #[.slice none 0 0, .int .i64 z, errV g 2])) W) := fun z W => FsP.bad (fst_sum H8.out H5.out (by rw [HGG.out]; exact hc3) (by rw [HGG.out]; exact hs)) (by decide) z
        clear hs
        go_wp2_with (go_at_call 154; refine HS.out.mono ?_; rintro e w2 ⟨rfl, hb2⟩; have HB2 : Hid (Below w.heap.size w w2) := belOn HB1.out HB1.out.size hb2; clear hb2)
        refine bodyPost_ret (results_tmp3 rfl _ _ _) rfl ?_
        exact ⟨HQ.out 0 _, HB2.out⟩
      · rw [hs] at HS
        have HSS : Hid (¬ sst l (8 + getN (l.take 4)) = false) := by rw [HGG.out, hs]; exact fun h => by cases h
        have H3 : Hid (¬ l.length < 8 + getN (l.take 4) + 4) := by rw [HGG.out]; exact hc3
        clear hs
        have HLG : Hid (((l.drop 8).take G).length = G) := by show _ = _; rw [List.length_take, List.length_drop]; omega
        have HR8 : Hid (Rd w (some ⟨b, off + 8, none⟩) G ((l.drop 8).take G)) := (HR.out.drop (k := 8) (by omega)).take (k := G) (by omega)
        go_wp2_with (first | (go_at_call 154; refine HS.out.mono ?_; rintro e w2 ⟨rfl, hb2⟩; have HB2 : Hid (Below w.heap.size w w2) := belOn HB1.out HB1.out.size hb2; clear hb2) | fail)
        refine (split_any b (off + 8) G (cap - 8) ((l.drop 8).take G) w2 (HR8.out.below HB2.out) (by omega) (by omega)).mono ?_
        rintro e w3 ⟨hsp, hb3⟩
        have HB3 : Hid (Below w.heap.size w w3) := belOn HB2.out HB2.out.size hb3
        clear hb3
        rcases hsp with ⟨hn0, rfl⟩ | ⟨L, v, hs1, rfl, hbt⟩
        · have HQ : Hid (∀ (z : Int) W, FsP w.heap.size g l (.returned (.tuple #[.slice none 0 0, .int .i64 z, errV g 2])) W) := fun z W => FsP.bad (fst_none H8.out H5.out H3.out HSS.out (by rw [HGG.out]; exact hn0)) (by decide) z
          unfold nB
          clear hn0
          go_wp2
          refine bodyPost_ret (results_tmp3 rfl _ _ _) rfl ?_
          exact ⟨HQ.out _ _, HB3.out⟩
        · have HQ : Hid (fst1 l = (0, L, 12 + G)) := by
            show _ = _
            have := fst_some H8.out H5.out H3.out HSS.out (r := L) (by rw [HGG.out]; exact hs1)
            rw [this, HGG.out]
          have HBT : Hid (Bat w.heap.size w3 v L) := by
            obtain ⟨W, q1, q2, q3⟩ := hbt
            refine ⟨W, q1, q2.mono HB2.out.size, q3.mono HB2.out.size⟩
          clear hbt hs1
          go_wp2
          refine bodyPost_ret (results_tmp3 rfl _ _ _) rfl ?_
          refine ⟨.inr ⟨by rw [HQ.out], v, ?_, by rw [HQ.out]; exact HBT.out⟩, HB3.out⟩
          rw [HQ.out]
          show Ending.returned (.tuple #[v, .int .i64 (8 + (G : Int) + 4), .nilIface]) = .returned (.tuple #[v, .int .i64 ((12 + G : Nat) : Int), .nilIface])
          rw [show (8 : Int) + (G : Int) + 4 = ((12 + G : Nat) : Int) by omega]
end Go.Proofs.YtdcoafpenkofoaaGreatDoor
