import Derived.Test.YtgpimajdcfoigaaDoorB50
import Derived.Laws.AppendOwnNone
import Derived.Maps.AppendAt

/- CodecBack: the walk. -/
namespace Go.Proofs.YtgpimajdcfoigaaDoor
open Go.RowKit
set_option linter.unusedVariables false
set_option linter.unusedSimpArgs false
/-- an append of bytes that came in, or were made -/
theorem wpList_app {w : World} {ops : Array Oper} {rest : List Oper} {o : Oper} {a : Act} {Q : Exit → Act → World → Prop} (hgd : o.guard = none) (s x : Operand)
    (ho : o.op = .call { callee := .builtin .append, args := #[s, x], argTypes := #[26, 26] })
    (base : Nat) (v : Value) (xs ys : List Nat) (hs : a.eval s = v) (hown : w.ownsRow base 5 1 v xs.length (xs.map bV)) (sa : Option Addr) (m c : Nat) (hx : a.eval x = .slice sa m c) (hrd : Rd w sa m ys) (hn : sa = none → m = 0 ∧ c = 0)
    (hsz : xs.length + m ≤ 100000000) (hbase : base ≤ w.heap.size)
    (hK : ∀ v' w', w'.ownsRow base 5 1 v' (xs ++ ys).length ((xs ++ ys).map bV) → w.grownBy w' v.ownBlock → wpList Tryd.prog ops Q rest (a.put o.dst v') w') : wpList Tryd.prog ops Q (o :: rest) a w := by
  obtain ⟨i0, hi0, hzz⟩ := Option.map_eq_some_iff.1 Tryd.info5
  simp only [Prod.mk.injEq] at hzz
  obtain ⟨hz0, hz1, hz2⟩ := hzz
  cases sa with
  | none =>
    obtain ⟨rfl, rfl⟩ := hn rfl
    have hy : ys = [] := List.eq_nil_of_length_eq_zero hrd.1
    subst hy
    refine wpList_append_own_none hgd s x 26 ho base 5 i0 1 Tryd.underlying26 hi0 v xs.length (xs.map bV) hs hown hx (hK v w (by rw [List.append_nil]; exact hown) (World.grownBy.refl _ _))
  | some ad =>
    have hly := hrd.1
    have hnews : ∀ j u, (ys.map bV)[j]? = some u → w.cell? (ad.add j) = some u := fun j u hu => by
      have hj : j < ys.length := by
        have := (List.getElem?_eq_some_iff.1 hu).1
        simpa using this
      obtain ⟨b, off, e, _, hc⟩ := hrd.2.2 (by omega)
      cases e
      have e1 : (⟨b, off, none⟩ : Addr).add j = ⟨b, off + j, none⟩ := by by_cases h : j = 0 <;> simp [Addr.add, h]
      rw [e1, hc j (by omega)]
      rw [List.getElem?_map, List.getElem?_eq_getElem hj] at hu
      simp only [Option.map_some, Option.some.injEq] at hu
      rw [← hu]
      simp [bV, List.getD_eq_getElem?_getD, List.getElem?_eq_getElem hj]
    refine wpList_append_own_at _ hgd s x 26 ho base 5 i0 _ 1 1 Tryd.underlying26 hi0 hz0 hz1 hz2 rfl (by decide) v xs.length (xs.map bV) hs hown ad m c (ys.map bV) hx (by simp; omega) hnews (fun u hu => by
      obtain ⟨y, _, rfl⟩ := List.mem_map.1 hu
      rfl) (by unfold maxLen; omega) (by omega) hbase ?_
    intro v' w' h1 h2 _ _
    refine hK v' w' ?_ h2
    rw [List.length_append, List.map_append, hly]
    exact h1
theorem own_rd {w : World} {base : Nat} {v : Value} {l : List Nat} (h : w.ownsRow base 5 1 v l.length (l.map bV)) (hl : ∀ c ∈ l, c < 256) (h0 : 0 < l.length) : ∃ g cap, v = .slice (some ⟨g, 0, none⟩) l.length cap ∧ l.length ≤ cap ∧ g < w.heap.size ∧ Rd w (some ⟨g, 0, none⟩) l.length l := by
  rcases h.2 with ⟨_, h1⟩ | ⟨g, cap, cur, e, hb, hh, hle, _⟩
  · omega
  · subst e
    refine ⟨g, cap, rfl, hle, (Array.getElem?_eq_some_iff.1 hh).1, rfl, hl, fun _ => ⟨g, 0, rfl, (Array.getElem?_eq_some_iff.1 hh).1, fun j hj => ?_⟩⟩
    rw [Nat.zero_add, World.ownsRow.cellAt h j (by omega), List.getElem?_map, List.getElem?_eq_getElem hj]
    simp [bV, List.getD_eq_getElem?_getD, List.getElem?_eq_getElem hj]
theorem back_dec (v : V) (hg : Gd badB twiceW v.t 32) (hl : T.len v.t ≤ 1048576) (ahead behind : List Nat) : rdec badB twiceW ((ahead ++ T.enc v.t) ++ behind) ahead.length = .ok (v.t, ahead.length + (T.enc v.t).length) := by
  have h := rdec_mv badB twiceW ahead (T.enc v.t) behind 0 (Nat.zero_le _)
  obtain ⟨⟨t', q'⟩, h1, h2, h3⟩ := h.1 _ (enc_dec v hg hl)
  simp only at h2 h3
  rw [Nat.zero_add] at h1
  rw [List.append_assoc, h1, ← h2, h3]
  congr 2
  omega
set_option maxRecDepth 100000 in
set_option maxHeartbeats 8000000 in
theorem back_walk (v : V) (aa : Option Addr) (na ca : Nat) (la : List Nat) (ab : Option Addr) (nb cb : Nat) (lb : List Nat) (w : World) (hv : Lies w.heap.size w v) (hra : Rd w aa na la) (hrb : Rd w ab nb lb) (hna : aa = none → na = 0 ∧ ca = 0) (hnb : ab = none → nb = 0 ∧ cb = 0) (za : na ≤ 1048576) (zb : nb ≤ 1048576) (hT : SzTab w) (hU : Lib.Utf8Tabs 1 2 w) :
    Calls Tryd.prog 3 #[v.val, .slice aa na ca, .slice ab nb cb] w fun e w' => e = .returned (.bool true) ∧ Below w.heap.size w w' := by
  have HTB : Hid (∀ W1, Below w.heap.size w W1 → SzTab W1 ∧ Lib.Utf8Tabs 1 2 W1) := fun W1 hW => ⟨hT.below hW, tabs_below hU hW⟩
  have HLV : Hid (∀ W1, Below w.heap.size w W1 → Lies w.heap.size W1 v) := fun W1 hW => hv.keep hW (Nat.le_refl _)
  have HRD : Hid (∀ W1, Below w.heap.size w W1 → Rd W1 aa na la ∧ Rd W1 ab nb lb) := fun W1 hW => ⟨hra.below hW, hrb.below hW⟩
  have HAW : Hid (∀ W1, Below w.heap.size w W1 → Calls Tryd.prog 6 #[] W1 fun e w' => e = .returned (.bool true) ∧ Below W1.heap.size W1 w') := fun W1 hW => awake_any W1 (hT.below hW) (tabs_below hU hW)
  have HA := hide (And.intro hra.1 (And.intro hra.2.1 hna))
  have HBB := hide (And.intro hrb.1 (And.intro hrb.2.1 hnb))
  obtain ⟨W0, hW0⟩ : ∃ W0, w.alloc (Obj.cells #[.int .i64 v.k, .int .u64 v.n, .string v.s, .slice v.a v.l.length v.c, .int .i64 v.e] 25) = W0 := ⟨_, rfl⟩
  have hb0 : Below w.heap.size w W0 := by rw [← hW0]; exact bel1 (Below.refl _ _) (Nat.le_refl _) _
  have hx0 : W0.heap[w.heap.size]? = some (.cells #[.int .i64 v.k, .int .u64 v.n, .string v.s, .slice v.a v.l.length v.c, .int .i64 v.e] 25) := by rw [← hW0]; exact World.alloc_heap_new _ _
  have hz0 : W0.heap.size = w.heap.size + 1 := by rw [← hW0]; simp
  have HBX : Hid (∀ W1, Below W0.heap.size W0 W1 → BoxC W1 w.heap.size v ∧ w.heap.size < W1.heap.size ∧ Below w.heap.size w W1) := fun W1 hW => by
    have e0 := (hW.block _ (by omega)).trans hx0
    exact ⟨by simp [BoxC, World.cell?, e0], by have := hW.size; omega, belOn hb0 (by omega) hW⟩
  have HW0 := hide hW0
  have HB0 := hide hb0
  clear hW0 hx0 hz0 hv hT hU hb0 hra hrb hna hnb
  rw [V.val_eq]
  go_enter Tryd.func3, Tryd.ntmps3
  go_wp2_with fail
  rw [HW0.out]
  refine Calls.mono (HAW.out _ HB0.out) ?_
  rintro e1 w1 ⟨rfl, hb1⟩
  have HB1 := hide hb1
  obtain ⟨⟨c0, c1, c2, c3, c4⟩, hz1, hbw1⟩ := HBX.out w1 hb1
  have hga := great_any v w.heap.size w1 hbw1.size (HLV.out _ hbw1)
  rw [V.val_eq] at hga
  have HGA := hide hga
  clear hb1 hga
  go_wp2_with fail
  refine Calls.mono HGA.out ?_
  rintro e2 w2 (⟨rfl, hb2⟩ | ⟨rfl, hwt, hb2⟩)
  · go_wp2
    go_ret
    exact ⟨rfl, belOn hbw1 hbw1.size hb2⟩
  have HB2 : Hid (Below W0.heap.size W0 w2) := belOn HB1.out HB1.out.size hb2
  clear c0 c1 c2 c3 c4 hb2
  obtain ⟨⟨c0, c1, c2, c3, c4⟩, hz2, hbw2⟩ := HBX.out w2 HB2.out
  have hck := check_any v w.heap.size w2 hbw2.size (HLV.out _ hbw2) (HTB.out _ hbw2).2
  rw [V.val_eq] at hck
  have HCK := hide hck
  clear hck
  go_wp2_with fail
  refine Calls.mono HCK.out ?_
  clear c0 c1 c2 c3 c4
  rintro e3 w3 ⟨rfl, hb3⟩
  have HB3 : Hid (Below W0.heap.size W0 w3) := belOn HB2.out HB2.out.size hb3
  clear hb3
  obtain ⟨⟨c0, c1, c2, c3, c4⟩, hz3, hbw3⟩ := HBX.out w3 HB3.out
  have hev := encode_any v w.heap.size w3 (by omega) (HLV.out _ hbw3) (HTB.out _ hbw3).1 (HTB.out _ hbw3).2 (by omega)
  rw [V.val_eq] at hev
  have HEV := hide hev
  have hce : firstE checkZ (v.all 1) = chkE v := rfl
  rw [hce]
  clear hev hce
  go_wp2_with fail
  refine Calls.mono HEV.out ?_
  clear c0 c1 c2 c3 c4
  rintro e4 w4 (⟨hz4, rfl, hb4⟩ | ⟨hz4, g, rfl, HG, hb4⟩)
  · have hzb : (encE v == 0) = false := by rw [beq_eq_false_iff_ne]; exact hz4
    have hzn : (encE v != 0) = true := by simpa using hz4
    have hbf := belOn hbw3 hbw3.size hb4
    clear hb4
    by_cases hc0 : chkE v = 0
    · have he2 : encE v = 2 := by
        unfold encE at hz4 ⊢
        rw [if_neg (by simpa using hc0)] at hz4 ⊢
        split at hz4
        · rename_i h; rw [if_pos h]
        · exact absurd rfl hz4
      rw [hc0, he2]
      clear hzb hzn hz4
      go_wp2
      go_ret
      exact ⟨rfl, hbf⟩
    · have hcb : (chkE v == 0) = false := by rw [beq_eq_false_iff_ne]; exact hc0
      have hcn : (chkE v != 0) = true := by simpa using hc0
      have he : encE v = chkE v := by unfold encE; rw [if_pos hc0]
      rw [he]
      clear hzb hzn hz4 he hc0
      generalize chkE v = z at hcb hcn ⊢
      go_wp2
      go_ret
      exact ⟨rfl, hbf⟩
  · have hc0 : chkE v = 0 := by
      by_cases h : chkE v = 0
      · exact h
      · unfold encE at hz4
        rw [if_pos h] at hz4
        exact absurd hz4 h
    rw [hc0]
    clear hz4 hc0
    have HB4 : Hid (Below W0.heap.size W0 w4) := belOn HB3.out HB3.out.size hb4
    obtain ⟨a1, a2, a3, a4, a5⟩ := HG.out
    have HR4 : Hid (Rd w4 (some ⟨g, 0, none⟩) (T.len v.t) (T.enc v.t)) := by
      have := a2.rd (enc_lt v.t)
      rw [a3] at this
      exact this
    have hg4 : g < w4.heap.size := a2.lt
    have hp1 : 0 < T.len v.t := by unfold T.len; omega
    have HGD := hide (And.intro a4 (And.intro a5 a3))
    clear hb4 a1 a2 a3 a4 HG
    have HLT : Hid (T.len v.t ≤ 1048576) := a5
    obtain ⟨L, hL⟩ : ∃ L, T.len v.t = L := ⟨_, rfl⟩
    rw [hL] at a5 hp1 HR4 HGD ⊢
    clear hL
    have hbw4 := (HBX.out w4 HB4.out).2.2
    have hown0 : w4.ownsRow w4.heap.size 5 1 (.slice none 0 0) ([] : List Nat).length (([] : List Nat).map bV) := ⟨rfl, .inl ⟨rfl, rfl⟩⟩
    have HO0 := hide hown0
    have HRA := hide (HRD.out w4 hbw4).1
    clear hown0
    have HSZ := hide (And.intro za (And.intro zb (And.intro a5 hp1)))
    have HEL : Hid ((T.enc v.t).length = L) := HGD.out.2.2
    have HBASE := hide (Nat.le_refl w4.heap.size)
    have HB44 : Hid (Below w4.heap.size w4 w4) := Below.refl _ _
    clear za zb
    go_wp2_with (at_builtin; first
      | (refine wpList_app rfl (.const (.slice none 0 0)) (.tmp 54) rfl w4.heap.size (.slice none 0 0) [] la rfl HO0.out aa na ca rfl HRA.out HA.out.2.2 (by have := HSZ.out; simp; omega) HBASE.out ?_; intro v5 w5 hown5 hgr5; have HO5 := hide hown5; have HB5 : Hid (Below w4.heap.size w4 w5) := HB44.out.grown hgr5 (Nat.le_refl _) (fun k hk => by cases hk); clear hown5 hgr5)
      | (refine wpList_app rfl (.tmp 56) (.tmp 57) rfl w4.heap.size v5 ([] ++ la) (T.enc v.t) rfl HO5.out (some ⟨g, 0, none⟩) L L rfl (HR4.out.below HB5.out) (fun h => by cases h) (by have := HSZ.out; have := HA.out.1; simp; omega) HB5.out.size ?_; intro v6 w6 hown6 hgr6; have HO6 := hide hown6; have HB6 : Hid (Below w4.heap.size w4 w6) := HB5.out.grown hgr6 HB5.out.size (fun k hk => (ownsRow_lt HO5.out hk).1); clear hown6 hgr6)
      | (refine wpList_app rfl (.tmp 59) (.tmp 60) rfl w4.heap.size v6 (([] ++ la) ++ T.enc v.t) lb rfl HO6.out ab nb cb rfl ((HRD.out w6 (belOn hbw4 hbw4.size HB6.out)).2) HBB.out.2.2 (by have := HSZ.out; have := HA.out.1; have := HEL.out; simp; omega) HB6.out.size ?_; intro v7 w7 hown7 hgr7; have HO7 := hide hown7; have HB7 : Hid (Below w4.heap.size w4 w7) := HB6.out.grown hgr7 HB6.out.size (fun k hk => (ownsRow_lt HO6.out hk).1); clear hown7 hgr7; obtain ⟨g7, c7, rfl, hc7, hg7, hrd7⟩ := own_rd HO7.out (fun c hc => by
          rcases List.mem_append.1 hc with h | h
          · rcases List.mem_append.1 h with h | h
            · exact HA.out.2.1 c (by simpa using h)
            · exact enc_lt v.t c h
          · exact HBB.out.2.1 c h) (by have := HSZ.out; have := HEL.out; simp; omega); have HRD7 := hide hrd7; clear hrd7))
    have HD7 : Hid (Calls Tryd.prog 10 #[.slice (some ⟨g7, 0, none⟩) (la.length + ((T.enc v.t).length + lb.length)) c7, .int .i64 (na : Int)] w7 (fun e w' => (∃ y : V, e = .returned (.tuple #[.agg #[.int .i64 y.k, .int .u64 y.n, .string y.s, .slice y.a y.l.length y.c, .int .i64 y.e], .int .i64 ((na : Int) + (L : Int)), .int .i64 0]) ∧ Hid (y.t = v.t ∧ LiesIn (fun b => w7.heap.size ≤ b ∧ b < w'.heap.size) w' y)) ∧ Below w7.heap.size w7 w')) := by
      have hbw := belOn hbw4 hbw4.size HB7.out
      have hu := (HTB.out w7 hbw).2
      have hs := HSZ.out
      have h1 := HA.out.1
      have h2 := HBB.out.1
      have h3 := HEL.out
      have hB : Bts w7 (some ⟨g7, 0, none⟩) ((([] ++ la) ++ T.enc v.t) ++ lb).length c7 ((([] ++ la) ++ T.enc v.t) ++ lb) := ⟨HRD7.out, hc7, by simp; omega, fun _ x hx => by cases hx; exact hg7, (HTB.out w7 hbw).1, hu, tabs_three hu⟩
      have h := decode_any _ _ _ na _ w7 hB (by simp; omega)
      have hbd := back_dec v HGD.out.1 HLT.out la lb
      have hlen7 : ((la ++ T.enc v.t) ++ lb).length = la.length + ((T.enc v.t).length + lb.length) := by simp [Nat.add_assoc]
      rw [h1] at hbd
      rw [List.nil_append, hbd, hlen7] at h
      refine h.mono fun e w' ⟨⟨y, e1, e2⟩, e3⟩ => ⟨⟨y, ?_, ⟨e2.out.1, e2.out.2.1⟩⟩, e3⟩
      rw [e1]
      congr 5
      simp
      omega
    refine Calls.mono HD7.out ?_
    rintro e8 w8 ⟨⟨y, rfl, HY⟩, hb8⟩
    obtain ⟨W9, hW9⟩ : ∃ W9, w8.alloc (Obj.cells #[.int .i64 y.k, .int .u64 y.n, .string y.s, .slice y.a y.l.length y.c, .int .i64 y.e] 25) = W9 := ⟨_, rfl⟩
    have hx9 : W9.heap[w8.heap.size]? = some (.cells #[.int .i64 y.k, .int .u64 y.n, .string y.s, .slice y.a y.l.length y.c, .int .i64 y.e] 25) := by rw [← hW9]; exact World.alloc_heap_new _ _
    have hs9 : W9.heap.size = w8.heap.size + 1 := by rw [← hW9]; simp
    have hb89 : Below w8.heap.size w8 W9 := by rw [← hW9]; exact bel1 (Below.refl _ _) (Nat.le_refl _) _
    have HB49 : Hid (Below w4.heap.size w4 W9) := belOn HB7.out HB7.out.size (belOn hb8 hb8.size hb89)
    have HLY : Hid (∀ W1, Below W9.heap.size W9 W1 → BoxC W1 w8.heap.size y ∧ w8.heap.size < W1.heap.size ∧ Lies W9.heap.size W1 y ∧ Below w4.heap.size w4 W1) := fun W1 hW => by
      have e0 := (hW.block _ (by omega)).trans hx9
      exact ⟨by simp [BoxC, World.cell?, e0], by have := hW.size; omega, HY.out.2.keep (fun b hb o => (hW.cell (p := ⟨b, o, none⟩) (by show b < _; omega)).trans (hb89.cell (p := ⟨b, o, none⟩) hb.2)) (fun b hb => by show b < _; omega), belOn HB49.out HB49.out.size hW⟩
    have HW9 := hide hW9
    have HWH : Hid (Calls Tryd.prog 11 #[.slice (some ⟨g, 0, none⟩) L L] W9 (fun e w' => (∃ x : V, e = .returned (.tuple #[.agg #[.int .i64 x.k, .int .u64 x.n, .string x.s, .slice x.a x.l.length x.c, .int .i64 x.e], .int .i64 0, .int .i64 0]) ∧ Hid (x.t = v.t ∧ LiesIn (fun b => W9.heap.size ≤ b ∧ b < w'.heap.size) w' x)) ∧ Below W9.heap.size W9 w')) := by
      have hbw := belOn hbw4 hbw4.size HB49.out
      have hu := (HTB.out W9 hbw).2
      have hs := HSZ.out
      have hB : Bts W9 (some ⟨g, 0, none⟩) L L (T.enc v.t) := ⟨HR4.out.below HB49.out, Nat.le_refl _, by omega, fun _ x hx => by cases hx; have := HB49.out.size; show g < _; omega, (HTB.out W9 hbw).1, hu, tabs_three hu⟩
      have h := whole_any _ _ _ _ W9 hB
      have hw : rwhole (T.enc v.t) = .ok v.t := by
        unfold rwhole
        rw [enc_dec v HGD.out.1 HLT.out]
        simp
      rw [hw] at h
      exact h
    clear hW9 hx9 hb8 hb89 HD7
    go_wp2_with fail
    rw [HW9.out]
    refine Calls.mono HWH.out ?_
    rintro e10 w10 ⟨⟨x, rfl, HX⟩, hb10⟩
    obtain ⟨W11, hW11⟩ : ∃ W11, w10.alloc (Obj.cells #[.int .i64 x.k, .int .u64 x.n, .string x.s, .slice x.a x.l.length x.c, .int .i64 x.e] 25) = W11 := ⟨_, rfl⟩
    have hx11 : W11.heap[w10.heap.size]? = some (.cells #[.int .i64 x.k, .int .u64 x.n, .string x.s, .slice x.a x.l.length x.c, .int .i64 x.e] 25) := by rw [← hW11]; exact World.alloc_heap_new _ _
    have hs11 : W11.heap.size = w10.heap.size + 1 := by rw [← hW11]; simp
    have hb1011 : Below w10.heap.size w10 W11 := by rw [← hW11]; exact bel1 (Below.refl _ _) (Nat.le_refl _) _
    have HB10 : Hid (Below W9.heap.size W9 w10) := hb10
    have HB911 : Hid (Below W9.heap.size W9 W11) := belOn hb10 hb10.size hb1011
    have HLX : Hid (∀ W1, Below W11.heap.size W11 W1 → BoxC W1 w10.heap.size x ∧ w10.heap.size < W1.heap.size ∧ Lies W11.heap.size W1 x ∧ Below W9.heap.size W9 W1) := fun W1 hW => by
      have e0 := (hW.block _ (by omega)).trans hx11
      exact ⟨by simp [BoxC, World.cell?, e0], by have := hW.size; omega, HX.out.2.keep (fun b hb o => (hW.cell (p := ⟨b, o, none⟩) (by show b < _; omega)).trans (hb1011.cell (p := ⟨b, o, none⟩) hb.2)) (fun b hb => by show b < _; omega), belOn HB911.out HB911.out.size hW⟩
    have HW11 := hide hW11
    have HEQ1 : Hid (Calls Tryd.prog 12 #[.agg #[.int .i64 v.k, .int .u64 v.n, .string v.s, .slice v.a v.l.length v.c, .int .i64 v.e], .agg #[.int .i64 y.k, .int .u64 y.n, .string y.s, .slice y.a y.l.length y.c, .int .i64 y.e]] W11 fun e w' => e = .returned (.bool true) ∧ Below W11.heap.size W11 w') := by
      obtain ⟨_, _, hly, hb4⟩ := HLY.out W11 HB911.out
      have hbw := belOn hbw4 hbw4.size hb4
      have := equal_any v y W11.heap.size W11 (Nat.le_refl _) ((HLV.out _ hbw).keep2 hbw.size) (hly.keep2 HB911.out.size)
      rw [V.val_eq, V.val_eq, HY.out.1, eqT_same] at this
      exact this
    have HEQ2 : Hid (∀ W1, Below W11.heap.size W11 W1 → Calls Tryd.prog 12 #[.agg #[.int .i64 v.k, .int .u64 v.n, .string v.s, .slice v.a v.l.length v.c, .int .i64 v.e], .agg #[.int .i64 x.k, .int .u64 x.n, .string x.s, .slice x.a x.l.length x.c, .int .i64 x.e]] W1 fun e w' => e = .returned (.bool true) ∧ Below W1.heap.size W1 w') := fun W1 hW => by
      obtain ⟨_, _, hlx, hb9⟩ := HLX.out W1 hW
      have hbw := belOn hbw4 hbw4.size (HLY.out W1 hb9).2.2.2
      have := equal_any v x W1.heap.size W1 (Nat.le_refl _) ((HLV.out _ hbw).keep2 hbw.size) (hlx.keep2 hW.size)
      rw [V.val_eq, V.val_eq, HX.out.1, eqT_same] at this
      exact this
    have HBV : Hid (∀ W1, Below w4.heap.size w4 W1 → BoxC W1 w.heap.size v ∧ w.heap.size < W1.heap.size) := fun W1 hW => by
      obtain ⟨q1, q2, _⟩ := HBX.out W1 (belOn HB4.out HB4.out.size hW)
      exact ⟨q1, q2⟩
    clear hW11 hx11 hb10 hb1011 HWH
    obtain ⟨⟨c0, c1, c2, c3, c4⟩, hz10⟩ := HBV.out w10 (HLY.out w10 HB10.out).2.2.2
    obtain ⟨⟨d0, d1, d2, d3, d4⟩, hzy, _, _⟩ := HLY.out w10 HB10.out
    go_wp2_with fail
    rw [HW11.out]
    refine Calls.mono HEQ1.out ?_
    rintro e12 w12 ⟨rfl, hb12⟩
    have HB12 := hide hb12
    clear hb12 c0 c1 c2 c3 c4 d0 d1 d2 d3 d4
    obtain ⟨⟨d0, d1, d2, d3, d4⟩, hzx, _, hb912⟩ := HLX.out w12 HB12.out
    obtain ⟨⟨c0, c1, c2, c3, c4⟩, hz12⟩ := HBV.out w12 (HLY.out w12 hb912).2.2.2
    have HB912 := hide hb912
    clear hb912
    go_wp2_with fail
    refine Calls.mono (HEQ2.out _ HB12.out) ?_
    rintro e13 w13 ⟨rfl, hb13⟩
    have HB13 : Hid (Below w4.heap.size w4 w13) := (HLY.out w13 (belOn HB912.out HB912.out.size hb13)).2.2.2
    clear hb13 c0 c1 c2 c3 c4 d0 d1 d2 d3 d4
    have HSH : Hid (Calls Tryd.prog 13 #[.slice (some ⟨g, 0, none⟩) L L] w13 fun e w' => e = .returned (.bool true) ∧ Below w13.heap.size w13 w') := by
      have hbw := belOn hbw4 hbw4.size HB13.out
      have hu := (HTB.out w13 hbw).2
      have hs := HSZ.out
      have hB : Bts w13 (some ⟨g, 0, none⟩) L L (T.enc v.t) := ⟨HR4.out.below HB13.out, Nat.le_refl _, by omega, fun _ x hx => by cases hx; have := HB13.out.size; show g < _; omega, (HTB.out w13 hbw).1, hu, tabs_three hu⟩
      refine (shortest_any _ _ _ _ w13 hB (by omega)).mono fun e w' ⟨b, e1, e2, e3⟩ => ?_
      have : b = true := e2.out.2 ⟨v.t, by
        unfold rwhole
        rw [enc_dec v HGD.out.1 HLT.out]
        simp, HGD.out.1, HLT.out, rfl⟩
      subst this
      exact ⟨e1, e3⟩
    go_wp2_with fail
    refine Calls.mono HSH.out ?_
    rintro e14 w14 ⟨rfl, hb14⟩
    have hbf := belOn hbw4 hbw4.size (belOn HB13.out HB13.out.size hb14)
    have hLm : (L : Int) ≤ 1048576 := by have := HSZ.out; omega
    have hnL : IntKind.i64.wrap ((na : Int) + (L : Int)) = (na : Int) + (L : Int) := by have := HSZ.out; rw [IntKind.wrap_i64]; omega
    clear hb14 HSH HEQ1 HEQ2 HLX HLY HBV
    go_wp2
    go_ret
    exact ⟨rfl, hbf⟩
end Go.Proofs.YtgpimajdcfoigaaDoor
