import Derived.Test.YtgpimajdcfoigabDoorD49
import Derived.Test.YtgpimajdcfoigabDoorD50
import Derived.Test.YtgpimajdcfoigabDoorRows
import Derived.WalkKit
import Derived.ProofKit
import Derived.OpenShut

/- CodecFar: the walk. -/
namespace Go.Proofs.YtgpimajdcfoigabDoor
open Go.RowKit
set_option linter.unusedVariables false
set_option linter.unusedSimpArgs false
def valR (r : Res (T × Nat)) : T := match r with | .ok tq => tq.1 | .error _ => T.of 0 0 e0 0 []
def plR (r : Res (T × Nat)) : Int := match r with | .ok tq => (tq.2 : Int) | .error x => x.1
def erR (r : Res (T × Nat)) : Int := match r with | .ok _ => 0 | .error x => x.2
/-- Decode, whatever comes of it -/
theorem decode_u (a : Option Addr) (n cap p : Nat) (l : List Nat) (w : World) (hB : Bts w a n cap l) (hp : p ≤ n) : Calls Tryd.prog 9 #[.slice a n cap, .int .i64 (p : Int)] w (fun e w' => (∃ y : V, e = .returned (.tuple #[.agg #[.int .i64 y.k, .int .u64 y.n, .string y.s, .slice y.a y.l.length y.c, .int .i64 y.e], .int .i64 (plR (rdec badB twiceW l p)), .int .i64 (erR (rdec badB twiceW l p))]) ∧ Hid (y.t = valR (rdec badB twiceW l p) ∧ LiesIn (fun b => w.heap.size ≤ b ∧ b < w'.heap.size) w' y)) ∧ Below w.heap.size w w') := by
  refine (decode_any a n cap p l w hB hp).mono fun e w' h => ?_
  cases hr : rdec badB twiceW l p with
  | error x =>
    rw [hr] at h
    obtain ⟨h1, h2⟩ := h
    exact ⟨⟨V.of 0 0 e0 none 0 0 [], by rw [h1, V.l_of]; rfl, ⟨by rw [V.t_of]; rfl, lies_leaf _ _ _ _ _ (by omega) (by omega) (by decide)⟩⟩, h2⟩
  | ok tq =>
    rw [hr] at h
    obtain ⟨⟨y, h1, h2⟩, h3⟩ := h
    exact ⟨⟨y, h1, ⟨h2.out.1, h2.out.2.1⟩⟩, h3⟩
theorem far_ahead (la lb : List Nat) : valR (rdec badB twiceW (la ++ lb) la.length) = valR (rdec badB twiceW lb 0) ∧ plR (rdec badB twiceW (la ++ lb) la.length) = plR (rdec badB twiceW lb 0) + (la.length : Int) ∧ erR (rdec badB twiceW (la ++ lb) la.length) = erR (rdec badB twiceW lb 0) := by
  obtain ⟨h1, h2⟩ := rdec_ahead badB twiceW la lb
  cases hr : rdec badB twiceW lb 0 with
  | error x => rw [h2 x hr]; exact ⟨rfl, rfl, rfl⟩
  | ok tq =>
    obtain ⟨t, q⟩ := tq
    rw [h1 t q hr]
    exact ⟨rfl, by simp [plR], rfl⟩
theorem far_behind (lb lc : List Nat) (he : erR (rdec badB twiceW lb 0) ≠ 10) : rdec badB twiceW (lb ++ lc) 0 = rdec badB twiceW lb 0 := by
  obtain ⟨h1, h2⟩ := rdec_behind badB twiceW lb lc
  cases hr : rdec badB twiceW lb 0 with
  | error x =>
    rw [hr] at he
    exact h2 x hr he
  | ok tq =>
    obtain ⟨t, q⟩ := tq
    exact h1 t q hr
theorem plR_bound (l : List Nat) : 0 ≤ plR (rdec badB twiceW l 0) ∧ plR (rdec badB twiceW l 0) ≤ (l.length : Int) := by
  cases hr : rdec badB twiceW l 0 with
  | error x => exact pl_dec badB twiceW l (fun k s => (badB_bound k s).2) 0 (Nat.zero_le _) x hr
  | ok tq =>
    obtain ⟨t, q⟩ := tq
    have := (rdec_far badB twiceW l hr).2.1
    exact ⟨by simp [plR], by simp [plR]; omega⟩
theorem own_rd0 {w : World} {base : Nat} {v : Value} {l : List Nat} (h : w.ownsRow base 5 1 v l.length (l.map bV)) (hl : ∀ c ∈ l, c < 256) : ∃ a cap, v = .slice a l.length cap ∧ l.length ≤ cap ∧ (0 < l.length → ∀ x, a = some x → x.block < w.heap.size) ∧ Rd w a l.length l := by
  by_cases h0 : 0 < l.length
  · obtain ⟨g, cap, e, h1, h2, h3⟩ := own_rd h hl h0
    exact ⟨some ⟨g, 0, none⟩, cap, e, h1, fun _ x hx => by cases hx; exact h2, h3⟩
  · have hz : l = [] := List.eq_nil_of_length_eq_zero (by omega)
    subst hz
    rcases h.2 with ⟨e, _⟩ | ⟨g, cap, cur, e, _, _, hle, _⟩
    · exact ⟨none, 0, e, Nat.le_refl _, fun h => absurd h (by simp), rfl, hl, fun h => absurd h (by simp)⟩
    · exact ⟨some ⟨g, 0, none⟩, cap, e, hle, fun h => absurd h (by simp), rfl, hl, fun h => absurd h (by simp)⟩
/-- a value in a box behind a world -/
theorem box_of {W0 W1 : World} {y : V} (h : LiesIn (fun b => W0.heap.size ≤ b ∧ b < W1.heap.size) W1 y) {W2 : World} (hW : Below (W1.alloc (Obj.cells #[.int .i64 y.k, .int .u64 y.n, .string y.s, .slice y.a y.l.length y.c, .int .i64 y.e] 25)).heap.size (W1.alloc (Obj.cells #[.int .i64 y.k, .int .u64 y.n, .string y.s, .slice y.a y.l.length y.c, .int .i64 y.e] 25)) W2) : BoxC W2 W1.heap.size y ∧ W1.heap.size < W2.heap.size ∧ Lies W2.heap.size W2 y := by
  have hs : (W1.alloc (Obj.cells #[.int .i64 y.k, .int .u64 y.n, .string y.s, .slice y.a y.l.length y.c, .int .i64 y.e] 25)).heap.size = W1.heap.size + 1 := by simp
  have e0 := (hW.block W1.heap.size (by omega)).trans (World.alloc_heap_new _ _)
  have hz := hW.size
  refine ⟨by simp [BoxC, World.cell?, e0], by omega, h.keep (fun b hb o => ?_) (fun b hb => by show b < _; omega)⟩
  exact (hW.cell (p := ⟨b, o, none⟩) (by show b < _; omega)).trans (World.cell?_of_block (Below.heap_alloc _ _ _ hb.2))
set_option maxRecDepth 100000 in
set_option maxHeartbeats 8000000 in
theorem far_walk (aa : Option Addr) (na ca : Nat) (la : List Nat) (ab : Option Addr) (nb cb : Nat) (lb : List Nat) (ac : Option Addr) (nc cc : Nat) (lc : List Nat) (w : World) (hra : Rd w aa na la) (hrb : Rd w ab nb lb) (hrc : Rd w ac nc lc) (hcb : nb ≤ cb) (hna : aa = none → na = 0 ∧ ca = 0) (hnb : ab = none → nb = 0 ∧ cb = 0) (hnc : ac = none → nc = 0 ∧ cc = 0) (za : na ≤ 1048576) (zb : nb ≤ 1048576) (zc : nc ≤ 1048576) (hT : SzTab w) (hU : Lib.Utf8Tabs 1 2 w) :
    Calls Tryd.prog 4 #[.slice aa na ca, .slice ab nb cb, .slice ac nc cc] w fun e w' => e = .returned (.bool true) ∧ Below w.heap.size w w' := by
  have HTB : Hid (∀ W1, Below w.heap.size w W1 → SzTab W1 ∧ Lib.Utf8Tabs 1 2 W1) := fun W1 hW => ⟨hT.below hW, tabs_below hU hW⟩
  have HRD : Hid (∀ W1, Below w.heap.size w W1 → Rd W1 aa na la ∧ Rd W1 ab nb lb ∧ Rd W1 ac nc lc) := fun W1 hW => ⟨hra.below hW, hrb.below hW, hrc.below hW⟩
  have HAW := hide (awake_any w hT hU)
  have HA := hide (And.intro hra.1 (And.intro hra.2.1 (And.intro hna za)))
  have HB := hide (And.intro hrb.1 (And.intro hrb.2.1 (And.intro hnb zb)))
  have HC := hide (And.intro hrc.1 (And.intro hrc.2.1 (And.intro hnc zc)))
  have HBT : Hid (∀ W1, Below w.heap.size w W1 → Bts W1 ab nb cb lb) := fun W1 hW => ⟨hrb.below hW, hcb, by omega, fun h0 x hx => by
    obtain ⟨b, off, e, hlt, _⟩ := hrb.2.2 h0
    rw [hx] at e; cases e
    exact Nat.lt_of_lt_of_le hlt hW.size, hT.below hW, tabs_below hU hW, tabs_three (tabs_below hU hW)⟩
  have HD1 : Hid (∀ W1, Below w.heap.size w W1 → Calls Tryd.prog 9 #[.slice ab nb cb, .int .i64 0] W1 (fun e w' => (∃ y : V, e = .returned (.tuple #[.agg #[.int .i64 y.k, .int .u64 y.n, .string y.s, .slice y.a y.l.length y.c, .int .i64 y.e], .int .i64 (plR (rdec badB twiceW lb 0)), .int .i64 (erR (rdec badB twiceW lb 0))]) ∧ Hid (y.t = valR (rdec badB twiceW lb 0) ∧ LiesIn (fun b => W1.heap.size ≤ b ∧ b < w'.heap.size) w' y)) ∧ Below W1.heap.size W1 w')) := fun W1 hW => decode_u ab nb cb 0 lb W1 (HBT.out W1 hW) (Nat.zero_le _)
  obtain ⟨f1, f2, f3⟩ := far_ahead la lb
  have hbd := plR_bound lb
  rw [hrb.1] at hbd
  have HF := hide (And.intro f1 (And.intro f2 f3))
  have HFB := hide (far_behind lb lc)
  clear hra hrb hrc hna hnb hnc za zb zc hT hU HBT f1 f2 f3
  go_enter Tryd.func4, Tryd.ntmps4
  go_wp2_with fail
  refine Calls.mono HAW.out ?_
  rintro e1 w1 ⟨rfl, hb1⟩
  have HB1 := hide hb1
  clear hb1
  go_wp2_with fail
  refine Calls.mono (HD1.out _ HB1.out) ?_
  rintro e2 w2 ⟨⟨y, rfl, HY⟩, hb2⟩
  have HB2 : Hid (Below w.heap.size w w2) := belOn HB1.out HB1.out.size hb2
  obtain ⟨P, hP⟩ : ∃ P, plR (rdec badB twiceW lb 0) = P := ⟨_, rfl⟩
  obtain ⟨E, hE⟩ : ∃ E, erR (rdec badB twiceW lb 0) = E := ⟨_, rfl⟩
  rw [hP] at hbd HF ⊢
  rw [hE] at HF HFB ⊢
  have HPE := hide (And.intro hP hE)
  have HBD := hide hbd
  clear hb2 HD1 hP hE hbd
  obtain ⟨W3, hW3⟩ : ∃ W3, w2.alloc (Obj.cells #[.int .i64 y.k, .int .u64 y.n, .string y.s, .slice y.a y.l.length y.c, .int .i64 y.e] 25) = W3 := ⟨_, rfl⟩
  have HB3 : Hid (Below w.heap.size w W3) := by show Below w.heap.size w W3; rw [← hW3]; exact bel1 HB2.out HB2.out.size _
  have HYB : Hid (∀ W1, Below W3.heap.size W3 W1 → BoxC W1 w2.heap.size y ∧ w2.heap.size < W1.heap.size ∧ Lies W1.heap.size W1 y ∧ Below w.heap.size w W1) := fun W1 hW => by
    have hb := belOn HB3.out HB3.out.size hW
    rw [← hW3] at hW
    obtain ⟨q1, q2, q3⟩ := box_of HY.out.2 hW
    exact ⟨q1, q2, q3, hb⟩
  have HO3 : Hid (W3.ownsRow W3.heap.size 5 1 (.slice none 0 0) ([] : List Nat).length (([] : List Nat).map bV)) := ⟨rfl, .inl ⟨rfl, rfl⟩⟩
  have HB33 : Hid (Below W3.heap.size W3 W3) := Below.refl _ _
  have HR3 := hide (HRD.out W3 HB3.out)
  have hyt := HY.out.1
  have HYT := hide hyt
  clear hyt
  have HW3 := hide hW3
  clear hW3
  have HS := hide (And.intro HA.out.2.2.2 (And.intro HB.out.2.2.2 HC.out.2.2.2))
  have HLN := hide (And.intro HA.out.1 (And.intro HB.out.1 HC.out.1))
  go_wp2_with (at_builtin; first
    | (rw [HW3.out]; refine wpList_app rfl (.const (.slice none 0 0)) (.tmp 29) rfl W3.heap.size (.slice none 0 0) [] la rfl HO3.out aa na ca rfl HR3.out.1 HA.out.2.2.1 (by have := HS.out; simp; omega) (Nat.le_refl _) ?_; intro v4 w4 hown4 hgr4; have HO4 := hide hown4; have HB4 : Hid (Below W3.heap.size W3 w4) := HB33.out.grown hgr4 (Nat.le_refl _) (fun k hk => by cases hk); clear hown4 hgr4)
    | (refine wpList_app rfl (.tmp 31) (.tmp 32) rfl W3.heap.size v4 ([] ++ la) lb rfl HO4.out ab nb cb rfl (HRD.out w4 (belOn HB3.out HB3.out.size HB4.out)).2.1 HB.out.2.2.1 (by have := HS.out; have := HLN.out; simp; omega) HB4.out.size ?_; intro v5 w5 hown5 hgr5; have HO5 := hide hown5; have HB5 : Hid (Below W3.heap.size W3 w5) := HB4.out.grown hgr5 HB4.out.size (fun k hk => (ownsRow_lt HO4.out hk).1); clear hown5 hgr5; obtain ⟨a5, c5, rfl, hc5, hg5, hrd5⟩ := own_rd0 HO5.out (fun c hc => by
        rcases List.mem_append.1 hc with h | h
        · exact HA.out.2.1 c (by simpa using h)
        · exact HB.out.2.1 c h); have HRD5 := hide hrd5; have HG5 := hide hg5; have HC5 := hide hc5; clear hrd5 hg5 hc5))
  have HD5 : Hid (Calls Tryd.prog 9 #[.slice a5 (la.length + lb.length) c5, .int .i64 (na : Int)] w5 (fun e w' => (∃ y2 : V, e = .returned (.tuple #[.agg #[.int .i64 y2.k, .int .u64 y2.n, .string y2.s, .slice y2.a y2.l.length y2.c, .int .i64 y2.e], .int .i64 (P + (na : Int)), .int .i64 E]) ∧ Hid (y2.t = y.t ∧ LiesIn (fun b => w5.heap.size ≤ b ∧ b < w'.heap.size) w' y2)) ∧ Below w5.heap.size w5 w')) := by
    have hbw := (HYB.out w5 HB5.out).2.2.2
    have hu := (HTB.out w5 hbw).2
    have hl := HLN.out
    have hs := HS.out
    have hB : Bts w5 a5 (([] ++ la) ++ lb).length c5 (([] ++ la) ++ lb) := ⟨HRD5.out, HC5.out, by simp; omega, HG5.out, (HTB.out w5 hbw).1, hu, tabs_three hu⟩
    have h := decode_u _ _ _ na _ w5 hB (by simp; omega)
    have hf := HF.out
    rw [hl.1] at hf
    have hlen : (la ++ lb).length = la.length + lb.length := by simp
    rw [List.nil_append, hf.2.1, hf.2.2, hf.1, hlen] at h
    exact h.mono fun e w' ⟨⟨y2, e1, e2⟩, e3⟩ => ⟨⟨y2, e1, ⟨e2.out.1.trans HYT.out.symm, e2.out.2⟩⟩, e3⟩
  refine Calls.mono HD5.out ?_
  rintro e6 w6 ⟨⟨y2, rfl, HY2⟩, hb6⟩
  have HB6 : Hid (Below W3.heap.size W3 w6) := belOn HB5.out HB5.out.size hb6
  obtain ⟨W7, hW7⟩ : ∃ W7, w6.alloc (Obj.cells #[.int .i64 y2.k, .int .u64 y2.n, .string y2.s, .slice y2.a y2.l.length y2.c, .int .i64 y2.e] 25) = W7 := ⟨_, rfl⟩
  have HB7 : Hid (Below W3.heap.size W3 W7) := by show Below W3.heap.size W3 W7; rw [← hW7]; exact bel1 HB6.out HB6.out.size _
  have HEQ1 : Hid (Calls Tryd.prog 8 #[.agg #[.int .i64 y.k, .int .u64 y.n, .string y.s, .slice y.a y.l.length y.c, .int .i64 y.e], .agg #[.int .i64 y2.k, .int .u64 y2.n, .string y2.s, .slice y2.a y2.l.length y2.c, .int .i64 y2.e]] W7 fun e w' => e = .returned (.bool true) ∧ Below W7.heap.size W7 w') := by
    have hl1 := (HYB.out W7 HB7.out).2.2.1
    have hl2 : Lies W7.heap.size W7 y2 := by
      rw [← hW7]
      exact (box_of HY2.out.2 (Below.refl _ _)).2.2
    have := equal_any y y2 W7.heap.size W7 (Nat.le_refl _) hl1 hl2
    rw [V.val_eq, V.val_eq, HY2.out.1, eqT_same] at this
    exact this
  obtain ⟨⟨c0, c1, c2, c3, c4⟩, hz6, _, _⟩ := HYB.out w6 HB6.out
  have HW7 := hide hW7
  clear hW7 hb6 HD5
  go_wp2_with fail
  rw [HW7.out]
  refine Calls.mono HEQ1.out ?_
  rintro e8 w8 ⟨rfl, hb8⟩
  have HB8 : Hid (Below W3.heap.size W3 w8) := belOn HB7.out HB7.out.size hb8
  clear hb8 c0 c1 c2 c3 c4 hz6 HEQ1
  have hwr : IntKind.i64.wrap (P + (na : Int)) = P + (na : Int) := by
    have := HBD.out
    have := HS.out
    rw [IntKind.wrap_i64]
    omega
  have HO8 : Hid (w8.ownsRow w8.heap.size 5 1 (.slice none 0 0) ([] : List Nat).length (([] : List Nat).map bV)) := ⟨rfl, .inl ⟨rfl, rfl⟩⟩
  have HB88 : Hid (Below w8.heap.size w8 w8) := Below.refl _ _
  have hbw8 := (HYB.out w8 HB8.out).2.2.2
  have HR8 := hide (HRD.out w8 hbw8)
  have HBW8 := hide hbw8
  clear hbw8
  go_wp2_with (at_builtin; first
    | (refine wpList_app rfl (.const (.slice none 0 0)) (.tmp 60) rfl w8.heap.size (.slice none 0 0) [] lb rfl HO8.out ab nb cb rfl HR8.out.2.1 HB.out.2.2.1 (by have := HS.out; simp; omega) (Nat.le_refl _) ?_; intro v9 w9 hown9 hgr9; have HO9 := hide hown9; have HB9 : Hid (Below w8.heap.size w8 w9) := HB88.out.grown hgr9 (Nat.le_refl _) (fun k hk => by cases hk); clear hown9 hgr9)
    | (refine wpList_app rfl (.tmp 62) (.tmp 63) rfl w8.heap.size v9 ([] ++ lb) lc rfl HO9.out ac nc cc rfl (HRD.out w9 (belOn HBW8.out HBW8.out.size HB9.out)).2.2 HC.out.2.2.1 (by have := HS.out; have := HLN.out; simp; omega) HB9.out.size ?_; intro v10 w10 hown10 hgr10; have HO10 := hide hown10; have HB10 : Hid (Below w8.heap.size w8 w10) := HB9.out.grown hgr10 HB9.out.size (fun k hk => (ownsRow_lt HO9.out hk).1); clear hown10 hgr10; obtain ⟨a10, c10, rfl, hc10, hg10, hrd10⟩ := own_rd0 HO10.out (fun c hc => by
        rcases List.mem_append.1 hc with h | h
        · exact HB.out.2.1 c (by simpa using h)
        · exact HC.out.2.1 c h); have HRD10 := hide hrd10; have HG10 := hide hg10; have HC10 := hide hc10; clear hrd10 hg10 hc10))
  obtain ⟨P3, hP3⟩ : ∃ P3, plR (rdec badB twiceW (lb ++ lc) 0) = P3 := ⟨_, rfl⟩
  obtain ⟨E3, hE3⟩ : ∃ E3, erR (rdec badB twiceW (lb ++ lc) 0) = E3 := ⟨_, rfl⟩
  have HREL : Hid (E ≠ 10 → valR (rdec badB twiceW (lb ++ lc) 0) = y.t ∧ P3 = P ∧ E3 = E) := fun hne => by
    have h := HFB.out hne
    rw [← hP3, ← hE3, h]
    exact ⟨HYT.out.symm, HPE.out.1, HPE.out.2⟩
  have HD10 : Hid (Calls Tryd.prog 9 #[.slice a10 (lb.length + lc.length) c10, .int .i64 0] w10 (fun e w' => (∃ y3 : V, e = .returned (.tuple #[.agg #[.int .i64 y3.k, .int .u64 y3.n, .string y3.s, .slice y3.a y3.l.length y3.c, .int .i64 y3.e], .int .i64 P3, .int .i64 E3]) ∧ Hid (y3.t = valR (rdec badB twiceW (lb ++ lc) 0) ∧ LiesIn (fun b => w10.heap.size ≤ b ∧ b < w'.heap.size) w' y3)) ∧ Below w10.heap.size w10 w')) := by
    have hbw := belOn HBW8.out HBW8.out.size HB10.out
    have hu := (HTB.out w10 hbw).2
    have hl := HLN.out
    have hs := HS.out
    have hB : Bts w10 a10 (([] ++ lb) ++ lc).length c10 (([] ++ lb) ++ lc) := ⟨HRD10.out, HC10.out, by simp; omega, HG10.out, (HTB.out w10 hbw).1, hu, tabs_three hu⟩
    have h := decode_u _ _ _ 0 _ w10 hB (Nat.zero_le _)
    have hlen : (lb ++ lc).length = lb.length + lc.length := by simp
    rw [List.nil_append, hP3, hE3, hlen] at h
    exact h
  clear hP3 hE3
  refine Calls.mono HD10.out ?_
  rintro e11 w11 ⟨⟨y3, rfl, HY3⟩, hb11⟩
  have HB11 : Hid (Below W3.heap.size W3 w11) := belOn HB8.out HB8.out.size (belOn HB10.out HB10.out.size hb11)
  obtain ⟨W12, hW12⟩ : ∃ W12, w11.alloc (Obj.cells #[.int .i64 y3.k, .int .u64 y3.n, .string y3.s, .slice y3.a y3.l.length y3.c, .int .i64 y3.e] 25) = W12 := ⟨_, rfl⟩
  have HB12 : Hid (Below W3.heap.size W3 W12) := by show Below W3.heap.size W3 W12; rw [← hW12]; exact bel1 HB11.out HB11.out.size _
  obtain ⟨two, htwo⟩ : ∃ two, eqT y.t y3.t = two := ⟨_, rfl⟩
  have HTWO : Hid (E ≠ 10 → two = true) := fun hne => by
    rw [← htwo, HY3.out.1, (HREL.out hne).1, eqT_same]
  have HEQ2 : Hid (Calls Tryd.prog 8 #[.agg #[.int .i64 y.k, .int .u64 y.n, .string y.s, .slice y.a y.l.length y.c, .int .i64 y.e], .agg #[.int .i64 y3.k, .int .u64 y3.n, .string y3.s, .slice y3.a y3.l.length y3.c, .int .i64 y3.e]] W12 fun e w' => e = .returned (.bool two) ∧ Below W12.heap.size W12 w') := by
    have hl1 := (HYB.out W12 HB12.out).2.2.1
    have hl2 : Lies W12.heap.size W12 y3 := by
      rw [← hW12]
      exact (box_of HY3.out.2 (Below.refl _ _)).2.2
    have := equal_any y y3 W12.heap.size W12 (Nat.le_refl _) hl1 hl2
    rw [V.val_eq, V.val_eq, htwo] at this
    exact this
  obtain ⟨⟨c0, c1, c2, c3, c4⟩, hz11, _, _⟩ := HYB.out w11 HB11.out
  have HW12 := hide hW12
  clear hW12 hb11 HD10 htwo
  go_wp2_with fail
  rw [HW12.out]
  refine Calls.mono HEQ2.out ?_
  rintro e13 w13 ⟨rfl, hb13⟩
  have hbf := (HYB.out w13 (belOn HB12.out HB12.out.size hb13)).2.2.2
  clear hb13 c0 c1 c2 c3 c4 hz11 HEQ2
  by_cases h10 : E = 10
  · have h10b : (E == 10) = true := by rw [beq_iff_eq]; exact h10
    clear h10
    go_wp2
    go_ret
    exact ⟨rfl, hbf⟩
  · have h10b : (E == 10) = false := by rw [beq_eq_false_iff_ne]; exact h10
    obtain ⟨_, rfl, rfl⟩ := HREL.out h10
    obtain rfl := HTWO.out h10
    clear h10
    go_wp2
    go_ret
    exact ⟨rfl, hbf⟩
end Go.Proofs.YtgpimajdcfoigabDoor


/- What the second form's bound gives: how many values came in. -/
namespace Go.Proofs.YtgpimajdcfoigabDoor
theorem bulk_pos {H : Type} (d : DataW H) : 1 ≤ Rows.uptoBulk d := by
  cases d with
  | lit l => cases l <;> simp [Rows.uptoBulk]
  | nil | ptr _ | slice _ _ | agg _ | iface _ _ | map _ | held _ => simp [Rows.uptoBulk]
theorem bulk_len {H : Type} (l : List (DataW H)) : l.length ≤ Rows.uptoBulkAll l := by
  induction l with
  | nil => simp [Rows.uptoBulkAll]
  | cons x r ih => have := bulk_pos x; simp only [Rows.uptoBulkAll, List.length_cons]; omega
theorem bulk_mem {H : Type} {d : DataW H} {l : List (DataW H)} (h : d ∈ l) : Rows.uptoBulk d ≤ Rows.uptoBulkAll l := by
  induction l with
  | nil => cases h
  | cons x r ih =>
    simp only [Rows.uptoBulkAll]
    rcases List.mem_cons.1 h with rfl | e
    · omega
    · have := ih e; omega
theorem bulk_slice {H : Type} {elems spare : List (DataW H)} {l : List (DataW H)} (hk : Rows.uptoSmall H l = true) (h : DataW.slice elems spare ∈ l) : elems.length + spare.length ≤ 1048576 := by
  have h0 : Rows.uptoBulkAll l ≤ 1048576 := of_decide_eq_true hk
  have h1 := bulk_mem h
  have h2 := bulk_len elems
  have h3 := bulk_len spare
  simp only [Rows.uptoBulk] at h1
  omega
end Go.Proofs.YtgpimajdcfoigabDoor
