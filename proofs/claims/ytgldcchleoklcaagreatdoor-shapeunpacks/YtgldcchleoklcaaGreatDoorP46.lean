/- HRUp -/
import Derived.Test.YtgldcchleoklcaaGreatDoorP45
import Derived.Test.YtgldcchleoklcaaGreatDoorP37
import Derived.Deep.DeepCutAuto
namespace Go.Proofs.YtgldcchleoklcaaGreatDoor
open Go.RowKit
set_option linter.unusedVariables false
set_option linter.unusedSimpArgs false
theorem Tryz.sizeR : (Tryz.prog.info? 33).map (·.size) = some 2 := by kernel_rfl
theorem rpk_of {v : V} {q : Int} (hc : chkE v = 0) (hk : kindV v.k v.l = some q) (h0 : (unpR v).2.2 = 0) (hP : PK q) : (∃ l, ftab (unpR v).1.1 = some l) ∧ RPK (unpR v).1.1 (unpR v).1.2 := by
  have hu : unpR v = unpT rep v.t := by unfold unpR; rw [if_neg (by simp [hc])]
  have hr : rep v.t = (laidT (unpT rep v.t).1.1 (unpT rep v.t).1.2, 0) := by
    rw [rep_eq, if_neg (by rw [← hu]; simp [h0])]
  obtain ⟨fs, ts, e, hf, _, _, hy⟩ := unp_comp hc hk hr
  rw [e]
  refine ⟨⟨fs, hf⟩, fun l Q W y a c fd hl hlies hQ ht hF hlc => ?_⟩
  obtain rfl : fs = l := by
    have h : ftab q = some l := hl
    rw [hf] at h
    exact Option.some.inj h
  obtain ⟨y1, y2, y3⟩ := hy y.l ht
  have h := hP fs Q W y a c fd hf hlies hQ y1 y2 hF hlc
  rw [y3] at h
  exact h
theorem runpacked_all {k : Int} (f : Fd) (s : FS) (v : V) (Q : Nat → Prop) (w : World) (hQ : ∀ b, Q b → b < w.heap.size) (hf : FdIn 0 w f s) (hok : okFS s = true) (hr : okR k s = true) (hv : LiesIn Q w v) (hc : chkE v = 0) (hIH : ∀ q, rk q < rk k → UK q ∧ PK q) :
    Calls Tryz.prog 46 #[f.val, v.val] w (RUPost Q (fillT rep s v.t) w) := by
  have hks : s.ks.length ≤ 100 := by
    unfold okFS at hok
    simp only [Bool.and_eq_true, decide_eq_true_eq] at hok
    omega
  by_cases hsy : s.ty = 101 ∧ v.k = 20
  · exact runpacked_sym rep f s v Q w hQ hf hv hsy.1 hsy.2
  by_cases h102 : s.ty ≠ 102 ∨ v.k = 0
  · exact runpacked_plain rep f s v Q w hQ hf hks hok hv h102 hsy
  have h1 : s.ty = 102 := by
    by_cases h : s.ty = 102
    · exact h
    · exact absurd (.inl h) h102
  have h2 : v.k ≠ 0 := fun h => h102 (.inr h)
  have hu : unpR v = unpT rep v.t := by unfold unpR; rw [if_neg (by simp [hc])]
  refine runpacked_comp rep (unpR v) f s v Q w hQ hf hks hv h1 h2 (by rw [hu]; exact rep_eq v.t) (fun q hq hm => ?_)
  obtain ⟨hUK, hPK⟩ := hIH q ((okR_out hr).2.2.2.1 h1 q hm)
  refine ⟨fun W' hb => hUK v hq Q W' (LiesIn.keep hv (fun b' hb' o' => hb.cell (p := ⟨b', o', none⟩) (hQ b' hb')) (fun _ h => h)) (fun b' hb' => by have := hQ b' hb'; have := hb.size; omega), fun h0 => (rpk_of hc hq h0 hPK).1, fun h0 => (rpk_of hc hq h0 hPK).2⟩
theorem rur_bad {Q : Nat → Prop} {w X : World} {at' n : Int} (hb : Below w.heap.size w X) : RUR Q ((0, []), at', n) w (.returned (.tuple #[.agg #[.int .i64 0, .slice none 0 0], .int .i64 at', .int .i64 n])) X :=
  ⟨V.of 0 0 ⟨#[]⟩ none 0 0 [], by rw [V.l_of]; rfl, ⟨by rw [V.l_of]; rfl, by rw [V.l_of]; exact none_lies _ _⟩, hb⟩
theorem LiesIn.rowV {Q : Nat → Prop} {W : World} {v : V} (h : LiesIn Q W v) : 0 < v.l.length → ∃ b o, v.a = some ⟨b, o, none⟩ ∧ Q b ∧ Row W b o v.l := by
  obtain ⟨k, n, s, a, c, e, l, rfl⟩ := V.ex v
  rw [V.l_of, V.a_of]
  exact LiesIn.row h
theorem LiesIn.subV {Q : Nat → Prop} {W : World} {v : V} (h : LiesIn Q W v) : ∀ x ∈ v.l, LiesIn Q W x := by
  obtain ⟨k, n, s, a, c, e, l, rfl⟩ := V.ex v
  rw [V.l_of]
  exact LiesIn.sub h
theorem LiesIn.lenV {Q : Nat → Prop} {W : World} {v : V} (h : LiesIn Q W v) : v.l.length ≤ 2199023255552 := by
  obtain ⟨k, n, s, a, c, e, l, rfl⟩ := V.ex v
  rw [V.l_of]
  exact (LiesIn.ok h).c
theorem kindV_form {k q : Int} {l : List V} (h : kindV k l = some q) : k = 24 ∧ ∃ d y, l = [d, y] := by
  have h24 : k = 24 := by
    by_cases e : k = 24
    · exact e
    · rw [kindV_k e] at h; cases h
  subst h24
  refine ⟨rfl, ?_⟩
  match l, h with
  | [d, y], _ => exact ⟨d, y, rfl⟩
  | [], hk => cases hk
  | [d], hk => cases hk
  | d :: y :: z :: l, hk => cases hk
theorem chk_nul : chkE nul = 0 := by
  rw [chk_iff]
  exact ⟨nd_nul, by unfold nul; rw [dp_leaf]; omega⟩
def C5 (w : World) (b : Nat) (y : V) : Prop := w.cell? ⟨b, 0, none⟩ = some (.int .i64 y.k) ∧ w.cell? ⟨b, 1, none⟩ = some (.int .u64 y.n) ∧ w.cell? ⟨b, 2, none⟩ = some (.string y.s) ∧ w.cell? ⟨b, 3, none⟩ = some (.slice y.a y.l.length y.c) ∧ w.cell? ⟨b, 4, none⟩ = some (.int .i64 y.e)
theorem put5_c5 {w : World} {b : Nat} {y : V} {t : TypeId} (h : Blk w b t 5) : C5 (put5 w b 0 y) b y := by
  have hq : ∀ q, q < 5 → (put5 w b 0 y).cell? ⟨b, q, none⟩ = (words y)[q]? := fun q hq => by
    have := put5_cell (y := y) (o := 0) h (by omega) q hq
    rw [Nat.zero_add] at this
    exact this
  exact ⟨hq 0 (by omega), hq 1 (by omega), hq 2 (by omega), hq 3 (by omega), hq 4 (by omega)⟩
def RegP (Q : Nat → Prop) (r : T × Int) (X0 : World) (yb : Nat) (Y : V) (wx : World) : Prop := Below X0.heap.size X0 wx ∧ X0.heap.size ≤ yb ∧ yb < wx.heap.size ∧ C5 wx yb Y ∧ (r.2 = 0 → Y.t = r.1) ∧ LiesIn (fun q => Q q ∨ (X0.heap.size ≤ q ∧ q < wx.heap.size)) wx Y
theorem reg_fin {Q : Nat → Prop} {r : T × Int} {X0 W : World} {yb : Nat} {Y : V} (hb : Below X0.heap.size X0 W) (h1 : X0.heap.size ≤ yb) (h2 : yb < W.heap.size) (hk : Blk W yb 42 5) (hr : r.2 = 0 → Y.t = r.1) (hQ : ∀ b, Q b → b < X0.heap.size) (hl : LiesIn (fun q => Q q ∨ (X0.heap.size ≤ q ∧ q < W.heap.size ∧ q ≠ yb)) W Y) : RegP Q r X0 yb Y (put5 W yb 0 Y) := by
  refine ⟨put5_below hb h1, h1, by rw [put5_size]; exact h2, put5_c5 hk, hr, LiesIn.keep hl (fun b hq => put5_same _ _ _ _ _ ?_) (fun b hq => ?_)⟩
  · rcases hq with h | h
    · have := hQ b h; omega
    · exact h.2.2
  · rw [put5_size]
    rcases hq with h | h
    · exact .inl h
    · exact .inr ⟨h.1, h.2.1⟩
theorem blk_new (w : World) : Blk (w.alloc (Obj.cells #[.int .i64 0, .int .u64 0, .string ⟨#[]⟩, .slice none 0 0, .int .i64 0] 42)) w.heap.size 42 5 := ⟨_, World.alloc_heap_new _ _, rfl⟩
def UpTo (Q : Nat → Prop) (rb : Nat) (k : Int) (rs : List (T × Int)) (w3 : World) (j : Nat) (wr : World) : Prop := ∃ (A : Option Addr) (C : Nat) (L : List V), wr.heap[rb]? = some (.cells #[.int .i64 k, .slice A j C] 33 (0, 0)) ∧ OutTo (rs.map Prod.fst) j L ∧ L.length = j ∧ GLL Q (rb + 1) L (.slice A j C) wr ∧ (∀ i (h : i < rs.length), i < j → rs[i].2 = 0) ∧ Below rb w3 wr ∧ rb < wr.heap.size
theorem GLL.set {Q : Nat → Prop} {lo rb : Nat} {L : List V} {lv : Value} {w w' : World} (h : GLL Q lo L lv w) (hs : w'.heap.size = w.heap.size) (hb : ∀ b, b ≠ rb → w'.heap[b]? = w.heap[b]?) (hr : rb < lo) (hq : ¬ Q rb) : GLL Q lo L lv w' := by
  refine ⟨ownsRow_keep h.1 (fun g hg => hb g (by have := (ownsRow_lt h.1 hg).1; omega)), fun x hx => LiesIn.keep (h.2 x hx) (fun b hb' o => World.cell?_of_block (hb b ?_)) (fun b hb' => ?_)⟩
  · intro e
    subst e
    rcases hb' with h1 | h1
    · exact hq h1
    · omega
  · rw [hs]
    exact hb'
theorem setC_ne (w : World) {g b o : Nat} (h : b ≠ g) (c : Value) : (w.setCell ⟨g, o, none⟩ c).heap[b]? = w.heap[b]? := by
  simp only [World.setCell]
  rw [Array.getElem?_modify, if_neg (Ne.symm h)]
set_option maxRecDepth 100000 in
set_option maxHeartbeats 20000000 in
theorem runpack_step (v : V) (hIH : ∀ k, kindV v.k v.l = some k → ∀ q, rk q < rk k → UK q ∧ PK q) (Q : Nat → Prop) (w : World) (hv : LiesIn Q w v) (hQ : ∀ b, Q b → b < w.heap.size) : Calls Tryz.prog 27 #[v.val] w (RUR Q (unpR v) w) := by
  generalize hR : unpR v = R
  have hvl := hv.lies hQ
  obtain ⟨W0, hW0⟩ : ∃ W0, (w.alloc (Obj.cells #[.int .i64 v.k, .int .u64 v.n, .string v.s, .slice v.a v.l.length v.c, .int .i64 v.e] 42)).alloc (Obj.cells #[.int .i64 0, .slice none 0 0] 33) = W0 := ⟨_, rfl⟩
  have hs0 : W0.heap.size = w.heap.size + 2 := by rw [← hW0]; simp
  have hb0 : Below w.heap.size w W0 := by rw [← hW0]; exact bel2 (Below.refl _ _) (Nat.le_refl _) _ _
  have hx0 : W0.heap[w.heap.size]? = some (.cells #[.int .i64 v.k, .int .u64 v.n, .string v.s, .slice v.a v.l.length v.c, .int .i64 v.e] 42 (0, 0)) := by rw [← hW0]; exact heap_past (World.alloc_heap_new _ _) _
  have hx1 : W0.heap[w.heap.size + 1]? = some (.cells #[.int .i64 0, .slice none 0 0] 33 (0, 0)) := by rw [← hW0]; exact heap_at1 _ _ _
  have HRES : Hid (∀ W', Below W0.heap.size W0 W' → W'.heap[w.heap.size + 1]? = some (.cells #[.int .i64 0, .slice none 0 0] 33 (0, 0)) ∧ w.heap.size + 1 < W'.heap.size ∧ Below w.heap.size w W') := fun W' h => ⟨(h.block _ (by omega)).trans hx1, by have := h.size; omega, belOn hb0 (by omega) h⟩
  have HBV : Hid (∀ W', Below W0.heap.size W0 W' → W'.cell? ⟨w.heap.size, 0, none⟩ = some (.int .i64 v.k) ∧ W'.cell? ⟨w.heap.size, 1, none⟩ = some (.int .u64 v.n) ∧ W'.cell? ⟨w.heap.size, 2, none⟩ = some (.string v.s) ∧ W'.cell? ⟨w.heap.size, 3, none⟩ = some (.slice v.a v.l.length v.c) ∧ W'.cell? ⟨w.heap.size, 4, none⟩ = some (.int .i64 v.e)) := fun W' h => by
    have e0 := (h.block w.heap.size (by omega)).trans hx0
    refine ⟨?_, ?_, ?_, ?_, ?_⟩ <;> (unfold World.cell?; simp only [e0]; rfl)
  have hchk := refcheck_any spelled_any v w.heap.size W0 (by omega) (hvl.keep hb0 (Nat.le_refl _))
  obtain ⟨E, hE⟩ : ∃ E, firstE checkZ (v.all 1) = E := ⟨_, rfl⟩
  have hE' : chkE v = E := hE
  rw [hE, V.val_eq] at hchk
  have HKD : Hid (∀ W', Below W0.heap.size W0 W' → Calls Tryz.prog 45 #[.agg #[.int .i64 v.k, .int .u64 v.n, .string v.s, .slice v.a v.l.length v.c, .int .i64 v.e]] W' (KindPost (kindV v.k v.l) W')) := fun W' h => by
    have hbw := belOn hb0 (by omega) h
    have := rkind_any v w.heap.size W' (by have := hbw.size; omega) (hvl.keep hbw (Nat.le_refl _))
    rwa [V.val_eq] at this
  have HCHK := hide hchk
  have HW0 := hide hW0
  have HV := hide hv
  have HIH := hide hIH
  have HRR := hide hR
  have HE := hide hE'
  have HS0 := hide hs0
  have HB0 := hide hb0
  rw [V.val_eq]
  clear hchk hW0 hv hIH hR hE hE' hx0 hx1 hvl
  by_cases hE0 : E = 0
  rotate_left
  · have hEb : (E == 0) = false := by simpa using hE0
    have hEn : (E != 0) = true := by simpa using hE0
    have HRK : Hid (R = ((0, []), 0, E)) := by rw [Hid, ← HRR.out]; unfold unpR; rw [HE.out, if_pos hE0]
    clear hE0
    go_enter Tryz.func27, Tryz.ntmps27
    go_wp2_with fail
    rw [HW0.out]
    refine HCHK.out.mono ?_
    rintro e1 w1 ⟨rfl, hb1⟩
    have HB1 := hide hb1
    clear hb1
    have HX1 : Hid (w1.heap[w.heap.size + 1]? = some (.cells #[.int .i64 0, .slice none 0 0] 33 (0, 0))) := (HRES.out w1 HB1.out).1
    have HZR : Hid ((w1.setRow (w.heap.size + 1) #[.int .i64 0, .slice none 0 0]).heap[w.heap.size + 1]? = some (.cells #[.int .i64 0, .slice none 0 0] 33 (0, 0))) := setR_at HX1.out _
    have hlt1 : w.heap.size + 1 < w1.heap.size := (HRES.out w1 HB1.out).2.1
    have HEND : Hid (RUR Q R w (.returned (.tuple #[.agg #[.int .i64 0, .slice none 0 0], .int .i64 (0), .int .i64 (E)])) (w1.setRow (w.heap.size + 1) #[.int .i64 0, .slice none 0 0])) := by
      rw [Hid, HRK.out]
      exact rur_bad (setR_below (HRES.out w1 HB1.out).2.2 (by omega) _)
    go_wp2_with (refine wpList_store_row rfl 33 (.tmp 2) (.tmp 20) rfl (w.heap.size + 1) #[.int .i64 0, .slice none 0 0] rfl rfl 33 _ HX1.out Tryz.sizeR rfl (by kernel_rfl) ?_)
    have hz := HZR.out
    have z0 : (w1.setRow (w.heap.size + 1) #[.int .i64 0, .slice none 0 0]).cell? ⟨w.heap.size + 1, 0, none⟩ = some (.int .i64 0) := by unfold World.cell?; simp only [hz]; rfl
    have z1 : (w1.setRow (w.heap.size + 1) #[.int .i64 0, .slice none 0 0]).cell? ⟨w.heap.size + 1, 1, none⟩ = some (.slice none 0 0) := by unfold World.cell?; simp only [hz]; rfl
    exact bodyPost_ret (v := .tuple #[.agg #[.int .i64 0, .slice none 0 0], .int .i64 (0), .int .i64 (E)]) (by simp [results, Tryz.results27, go_sem, z0, z1]) rfl HEND.out
  subst hE0
  have HUR : Hid (R = unpT rep v.t) := by rw [Hid, ← HRR.out]; unfold unpR; rw [HE.out]; simp
  clear HRR
  cases hkv : kindV v.k v.l with
  | none =>
    have HRK : Hid (R = ((0, []), 0, 70)) := by rw [Hid, HUR.out]; exact unpT_none (by rw [kindV_t]; exact hkv)
    rw [hkv] at HKD
    have HF := hide (fun W => rfields_any 0 W)
    rw [ftab_zero] at HF
    clear hkv HUR HIH
    go_enter Tryz.func27, Tryz.ntmps27
    go_wp2_with fail
    rw [HW0.out]
    refine HCHK.out.mono ?_
    rintro e1 w1 ⟨rfl, hb1⟩
    obtain ⟨c0, c1, c2, c3, c4⟩ := HBV.out w1 hb1
    have hy1 : w.heap.size < w1.heap.size := by have := hb1.size; have := HS0.out; omega
    go_wp2_with fail
    refine (HKD.out w1 hb1).mono ?_
    rintro e2 w2 ⟨rfl, hb2⟩
    simp only [Option.getD_none, Option.isSome_none]
    have hb02 : Below W0.heap.size W0 w2 := hb1.trans (hb2.mono hb1.size)
    clear c0 c1 c2 c3 c4
    go_wp2_with fail
    refine (HF.out w2).mono ?_
    rintro e3 w3 ⟨rfl, hb3⟩
    have HB3 : Hid (Below W0.heap.size W0 w3) := hb02.trans (hb3.mono hb02.size)
    clear hb1 hb2 hb3 hb02
    have HX1 : Hid (w3.heap[w.heap.size + 1]? = some (.cells #[.int .i64 0, .slice none 0 0] 33 (0, 0))) := (HRES.out w3 HB3.out).1
    have HZR : Hid ((w3.setRow (w.heap.size + 1) #[.int .i64 0, .slice none 0 0]).heap[w.heap.size + 1]? = some (.cells #[.int .i64 0, .slice none 0 0] 33 (0, 0))) := setR_at HX1.out _
    have hlt1 : w.heap.size + 1 < w3.heap.size := (HRES.out w3 HB3.out).2.1
    have HEND : Hid (RUR Q R w (.returned (.tuple #[.agg #[.int .i64 0, .slice none 0 0], .int .i64 (0), .int .i64 (70)])) (w3.setRow (w.heap.size + 1) #[.int .i64 0, .slice none 0 0])) := by
      rw [Hid, HRK.out]
      exact rur_bad (setR_below (HRES.out w3 HB3.out).2.2 (by omega) _)
    go_wp2_with (refine wpList_store_row rfl 33 (.tmp 2) (.tmp 46) rfl (w.heap.size + 1) #[.int .i64 0, .slice none 0 0] rfl rfl 33 _ HX1.out Tryz.sizeR rfl (by kernel_rfl) ?_)
    have hz := HZR.out
    have z0 : (w3.setRow (w.heap.size + 1) #[.int .i64 0, .slice none 0 0]).cell? ⟨w.heap.size + 1, 0, none⟩ = some (.int .i64 0) := by unfold World.cell?; simp only [hz]; rfl
    have z1 : (w3.setRow (w.heap.size + 1) #[.int .i64 0, .slice none 0 0]).cell? ⟨w.heap.size + 1, 1, none⟩ = some (.slice none 0 0) := by unfold World.cell?; simp only [hz]; rfl
    exact bodyPost_ret (v := .tuple #[.agg #[.int .i64 0, .slice none 0 0], .int .i64 (0), .int .i64 (70)]) (by simp [results, Tryz.results27, go_sem, z0, z1]) rfl HEND.out
  | some k =>
    have HIHK := hide (HIH.out k hkv)
    rw [hkv] at HKD
    clear HIH
    cases hft : ftab k with
    | none =>
      have HRK : Hid (R = ((0, []), 0, 70)) := by rw [Hid, HUR.out]; unfold unpT; rw [kindV_t, hkv]; simp only [hft]
      have HF := hide (fun W => rfields_any k W)
      rw [hft] at HF
      clear hkv HUR hft
      go_enter Tryz.func27, Tryz.ntmps27
      go_wp2_with fail
      rw [HW0.out]
      refine HCHK.out.mono ?_
      rintro e1 w1 ⟨rfl, hb1⟩
      obtain ⟨c0, c1, c2, c3, c4⟩ := HBV.out w1 hb1
      have hy1 : w.heap.size < w1.heap.size := by have := hb1.size; have := HS0.out; omega
      go_wp2_with fail
      refine (HKD.out w1 hb1).mono ?_
      rintro e2 w2 ⟨rfl, hb2⟩
      simp only [Option.getD_some, Option.isSome_some]
      have hb02 : Below W0.heap.size W0 w2 := hb1.trans (hb2.mono hb1.size)
      clear c0 c1 c2 c3 c4
      go_wp2_with fail
      refine (HF.out w2).mono ?_
      rintro e3 w3 ⟨rfl, hb3⟩
      have HB3 : Hid (Below W0.heap.size W0 w3) := hb02.trans (hb3.mono hb02.size)
      clear hb1 hb2 hb3 hb02
      have HX1 : Hid (w3.heap[w.heap.size + 1]? = some (.cells #[.int .i64 0, .slice none 0 0] 33 (0, 0))) := (HRES.out w3 HB3.out).1
      have HZR : Hid ((w3.setRow (w.heap.size + 1) #[.int .i64 0, .slice none 0 0]).heap[w.heap.size + 1]? = some (.cells #[.int .i64 0, .slice none 0 0] 33 (0, 0))) := setR_at HX1.out _
      have hlt1 : w.heap.size + 1 < w3.heap.size := (HRES.out w3 HB3.out).2.1
      have HEND : Hid (RUR Q R w (.returned (.tuple #[.agg #[.int .i64 0, .slice none 0 0], .int .i64 (0), .int .i64 (70)])) (w3.setRow (w.heap.size + 1) #[.int .i64 0, .slice none 0 0])) := by
        rw [Hid, HRK.out]
        exact rur_bad (setR_below (HRES.out w3 HB3.out).2.2 (by omega) _)
      go_wp2_with (refine wpList_store_row rfl 33 (.tmp 2) (.tmp 46) rfl (w.heap.size + 1) #[.int .i64 0, .slice none 0 0] rfl rfl 33 _ HX1.out Tryz.sizeR rfl (by kernel_rfl) ?_)
      have hz := HZR.out
      have z0 : (w3.setRow (w.heap.size + 1) #[.int .i64 0, .slice none 0 0]).cell? ⟨w.heap.size + 1, 0, none⟩ = some (.int .i64 0) := by unfold World.cell?; simp only [hz]; rfl
      have z1 : (w3.setRow (w.heap.size + 1) #[.int .i64 0, .slice none 0 0]).cell? ⟨w.heap.size + 1, 1, none⟩ = some (.slice none 0 0) := by unfold World.cell?; simp only [hz]; rfl
      exact bodyPost_ret (v := .tuple #[.agg #[.int .i64 0, .slice none 0 0], .int .i64 (0), .int .i64 (70)]) (by simp [results, Tryz.results27, go_sem, z0, z1]) rfl HEND.out
    | some fs0 =>
      obtain ⟨k', n', s', a', c', e', l', rfl⟩ := V.ex v
      rw [V.k_of, V.l_of] at hkv
      obtain ⟨rfl, d, y, rfl⟩ := kindV_form hkv
      have hrow := LiesIn.row HV.out (by simp)
      obtain ⟨b2, o2, rfl, hb2, hrow2⟩ := hrow
      have hb2' := hQ b2 hb2
      have hr0 := (hrow2 1 (by simp)).1
      have hr1 := (hrow2 1 (by simp)).2.2.2.1
      have m5 : w.cell? ⟨b2, o2 + 5, none⟩ = some (.int .i64 y.k) := hr0
      have m8 : w.cell? ⟨b2, o2 + 5 + 3, none⟩ = some (.slice y.a y.l.length y.c) := hr1
      have hyl : LiesIn Q w y := LiesIn.sub HV.out y (by simp)
      have hyc : ∀ x ∈ y.l, chkE x = 0 := fun x hx => chk_sub HE.out (by rw [V.l_of]; simp) hx
      have HM : Hid (∀ W', Below W0.heap.size W0 W' → W'.cell? ⟨b2, o2 + 5, none⟩ = some (.int .i64 y.k) ∧ W'.cell? ⟨b2, o2 + 5 + 3, none⟩ = some (.slice y.a y.l.length y.c) ∧ W'.cell? ⟨w.heap.size, 3, none⟩ = some (.slice (some ⟨b2, o2, none⟩) 2 c') ∧ w.heap.size < W'.heap.size ∧ b2 < W'.heap.size) := fun W' h => by
        have hbw := belOn HB0.out (by have := HB0.out.size; omega) h
        have h3 := (HBV.out W' h).2.2.2.1
        rw [V.a_of, V.l_of, V.c_of] at h3
        have := hbw.size
        have := h.size
        have := HS0.out
        exact ⟨(hbw.cell (p := ⟨b2, o2 + 5, none⟩) hb2').trans m5, (hbw.cell (p := ⟨b2, o2 + 5 + 3, none⟩) hb2').trans m8, h3, by omega, by omega⟩
      have hu : R = if y.k ≠ 21 then ((0, []), 0, 70) else if fs0.length < y.l.length then ((0, []), (fs0.length : Int), 71) else rowT k (fillsT rep fs0 (V.ts y.l)) := by
        rw [HUR.out]
        unfold unpT
        rw [kindV_t, V.k_of, V.l_of, hkv]
        simp only [hft]
        have e : ((V.of 24 n' s' (some ⟨b2, o2, none⟩) c' e' [d, y]).t.l[1]?).getD nul = y.t := by rw [l_t, V.l_of]; rfl
        rw [e, k_t, l_t, V.ts_length]
      obtain ⟨hN20, hfok⟩ := ftab_ok hft
      obtain ⟨N, hN⟩ : ∃ N, fs0.length = N := ⟨_, rfl⟩
      obtain ⟨M, hM⟩ : ∃ M, y.l.length = M := ⟨_, rfl⟩
      rw [hN, hM] at hu
      rw [hM] at HM
      have HF := hide (fun W => rfields_any k W)
      rw [hft] at HF
      have hML : M ≤ 2199023255552 := by rw [← hM]; exact hyl.lenV
      have hN' : N ≤ 20 := by omega
      have HU := hide hu
      have HNN := hide hN
      have HMM := hide hM
      have HYL := hide hyl
      have HYC := hide hyc
      have HFT := hide hft
      have HFOK := hide hfok
      rw [V.k_of, V.n_of, V.s_of, V.a_of, V.l_of, V.c_of, V.e_of] at HW0 HCHK HKD ⊢
      have hlen2 : ([d, y] : List V).length = 2 := rfl
      rw [hlen2] at HW0 HCHK HKD ⊢
      simp only [V.k_of, V.n_of, V.s_of, V.a_of, V.l_of, V.c_of, V.e_of, hlen2] at HBV
      clear hu hyl hyc hft hfok hN20 hN hM hr0 hr1 hrow2 m5 m8 HUR hkv hlen2
      go_enter Tryz.func27, Tryz.ntmps27
      go_wp2_with fail
      rw [HW0.out]
      refine HCHK.out.mono ?_
      rintro e1 w1 ⟨rfl, hb1⟩
      obtain ⟨c0, c1, c2, c3, c4⟩ := HBV.out w1 hb1
      have hy1 : w.heap.size < w1.heap.size := by have := hb1.size; have := HS0.out; omega
      go_wp2_with fail
      refine (HKD.out w1 hb1).mono ?_
      rintro e2 w2 ⟨rfl, hb2⟩
      simp only [Option.getD_some, Option.isSome_some]
      have hb02 : Below W0.heap.size W0 w2 := hb1.trans (hb2.mono hb1.size)
      clear c0 c1 c2 c3 c4
      go_wp2_with fail
      refine (HF.out w2).mono ?_
      rintro e3 w3 ⟨af, cf, fs, rfl, HFI, hlc, hb3⟩
      have HB3 : Hid (Below W0.heap.size W0 w3) := hb02.trans (hb3.mono hb02.size)
      clear hb1 hb2 hb3 hb02
      rw [HNN.out] at hlc ⊢
      obtain ⟨g5, g8, g3, hy3, hyb⟩ := HM.out w3 HB3.out
      by_cases h21 : y.k = 21
      rotate_left
      · have hkb : (y.k == 21) = false := by simpa using h21
        have hkn : (y.k != 21) = true := by simpa using h21
        have HRK : Hid (R = ((0, []), 0, 70)) := by rw [Hid, HU.out, if_pos h21]
        have HX1 : Hid (w3.heap[w.heap.size + 1]? = some (.cells #[.int .i64 0, .slice none 0 0] 33 (0, 0))) := (HRES.out w3 HB3.out).1
        have HZR : Hid ((w3.setRow (w.heap.size + 1) #[.int .i64 0, .slice none 0 0]).heap[w.heap.size + 1]? = some (.cells #[.int .i64 0, .slice none 0 0] 33 (0, 0))) := setR_at HX1.out _
        have hlt1 : w.heap.size + 1 < w3.heap.size := (HRES.out w3 HB3.out).2.1
        have HEND : Hid (RUR Q R w (.returned (.tuple #[.agg #[.int .i64 0, .slice none 0 0], .int .i64 (0), .int .i64 (70)])) (w3.setRow (w.heap.size + 1) #[.int .i64 0, .slice none 0 0])) := by
          rw [Hid, HRK.out]
          exact rur_bad (setR_below (HRES.out w3 HB3.out).2.2 (by omega) _)
        go_wp2_with (refine wpList_store_row rfl 33 (.tmp 2) (.tmp 46) rfl (w.heap.size + 1) #[.int .i64 0, .slice none 0 0] rfl rfl 33 _ HX1.out Tryz.sizeR rfl (by kernel_rfl) ?_)
        have hz := HZR.out
        have z0 : (w3.setRow (w.heap.size + 1) #[.int .i64 0, .slice none 0 0]).cell? ⟨w.heap.size + 1, 0, none⟩ = some (.int .i64 0) := by unfold World.cell?; simp only [hz]; rfl
        have z1 : (w3.setRow (w.heap.size + 1) #[.int .i64 0, .slice none 0 0]).cell? ⟨w.heap.size + 1, 1, none⟩ = some (.slice none 0 0) := by unfold World.cell?; simp only [hz]; rfl
        exact bodyPost_ret (v := .tuple #[.agg #[.int .i64 0, .slice none 0 0], .int .i64 (0), .int .i64 (70)]) (by simp [results, Tryz.results27, go_sem, z0, z1]) rfl HEND.out
      rw [h21] at g5
      by_cases hlt : N < M
      · have HRK : Hid (R = ((0, []), (N : Int), 71)) := by rw [Hid, HU.out, if_neg (by simp [h21]), if_pos hlt]
        have HX1 : Hid (w3.heap[w.heap.size + 1]? = some (.cells #[.int .i64 0, .slice none 0 0] 33 (0, 0))) := (HRES.out w3 HB3.out).1
        have HZR : Hid ((w3.setRow (w.heap.size + 1) #[.int .i64 0, .slice none 0 0]).heap[w.heap.size + 1]? = some (.cells #[.int .i64 0, .slice none 0 0] 33 (0, 0))) := setR_at HX1.out _
        have hlt1 : w.heap.size + 1 < w3.heap.size := (HRES.out w3 HB3.out).2.1
        have HEND : Hid (RUR Q R w (.returned (.tuple #[.agg #[.int .i64 0, .slice none 0 0], .int .i64 ((N : Int)), .int .i64 (71)])) (w3.setRow (w.heap.size + 1) #[.int .i64 0, .slice none 0 0])) := by
          rw [Hid, HRK.out]
          exact rur_bad (setR_below (HRES.out w3 HB3.out).2.2 (by omega) _)
        go_wp2_with (refine wpList_store_row rfl 33 (.tmp 2) (.tmp 57) rfl (w.heap.size + 1) #[.int .i64 0, .slice none 0 0] rfl rfl 33 _ HX1.out Tryz.sizeR rfl (by kernel_rfl) ?_)
        have hz := HZR.out
        have z0 : (w3.setRow (w.heap.size + 1) #[.int .i64 0, .slice none 0 0]).cell? ⟨w.heap.size + 1, 0, none⟩ = some (.int .i64 0) := by unfold World.cell?; simp only [hz]; rfl
        have z1 : (w3.setRow (w.heap.size + 1) #[.int .i64 0, .slice none 0 0]).cell? ⟨w.heap.size + 1, 1, none⟩ = some (.slice none 0 0) := by unfold World.cell?; simp only [hz]; rfl
        exact bodyPost_ret (v := .tuple #[.agg #[.int .i64 0, .slice none 0 0], .int .i64 ((N : Int)), .int .i64 (71)]) (by simp [results, Tryz.results27, go_sem, z0, z1]) rfl HEND.out
      have HRK : Hid (R = rowT k (fillsT rep fs0 (V.ts y.l))) := by rw [Hid, HU.out, if_neg (by simp [h21]), if_neg hlt]
      obtain ⟨rs, hrs⟩ : ∃ rs, fillsT rep fs0 (V.ts y.l) = rs := ⟨_, rfl⟩
      rw [hrs] at HRK
      have hrl : rs.length = N := by rw [← hrs, fillsT_len, HNN.out]
      have HRI : Hid (∀ i (h : i < rs.length) (h' : i < fs0.length), rs[i] = fillT rep fs0[i] (((y.l)[i]?).getD nul).t) := fun i h h' => by
        have h1 := fillsT_get rep fs0 (V.ts y.l) i (by rw [hrs]; exact h) h'
        rw [ts_get] at h1
        simp only [hrs] at h1
        exact h1
      have HRL := hide hrl
      obtain ⟨W3, hW3⟩ : ∃ W3, w3.alloc (Obj.cells #[.int .i64 k, .slice none 0 0] 33) = W3 := ⟨_, rfl⟩
      have hs3 : W3.heap.size = w3.heap.size + 1 := by rw [← hW3]; simp
      have hx3 : W3.heap[w3.heap.size]? = some (.cells #[.int .i64 k, .slice none 0 0] 33 (0, 0)) := by rw [← hW3]; exact World.alloc_heap_new _ _
      have hb33 : Below w3.heap.size w3 W3 := by rw [← hW3]; exact bel1 (Below.refl _ _) (Nat.le_refl _) _
      have HW3 := hide hW3
      have HQ3 : Hid (∀ b, Q b → b < w3.heap.size) := fun b h => by have := hQ b h; have := HB3.out.size; have := HS0.out; omega
      have hw3 : w.heap.size + 2 ≤ w3.heap.size := by have := HB3.out.size; have := HS0.out; omega
      obtain ⟨i0, hi0, hzz⟩ := Option.map_eq_some_iff.1 Tryz.infoV
      simp only [Prod.mk.injEq] at hzz
      obtain ⟨hz0', hz1', hz2'⟩ := hzz
      have HI : Hid (i0.zero = _ ∧ i0.size = _ ∧ i0.bytes = _) := ⟨hz0', hz1', hz2'⟩
      have HI0 := hide hi0
      have HUP0 : Hid (UpTo Q w3.heap.size k rs w3 0 W3) := ⟨none, 0, [], hx3, by simp [OutTo, V.ts], rfl, GLL.nil _ _ _, fun i _ h => absurd h (by omega), hb33, by omega⟩
      clear hW3 hrs hrl hx3 hb33 hz0' hz1' hz2' hi0 HU
      go_wp2
      rw [HW3.out]
      clear g5 g8 g3 hy3 hyb
      go_loopw [12] (fun i wr => ∃ j : Nat, i = .int .i64 j ∧ j ≤ N ∧ Hid (UpTo Q w3.heap.size k rs w3 j wr)) (fun i _ => N - (intOf i).toNat)
      case atStart => exact ⟨0, rfl, Nat.zero_le _, HUP0⟩
      case round =>
        obtain ⟨j, rfl, hj, HUP⟩ := hrel
        obtain ⟨A, C, L, hrb, hT1, hLJ, hG, hzs, hbr, hrbl⟩ := HUP.out
        have HT1 := hide hT1
        have HLJ := hide hLJ
        have HG := hide hG
        have HZS := hide hzs
        have HBR := hide hbr
        have HRB := hide hrb
        have HB0R : Hid (Below W0.heap.size W0 wr) := HB3.out.trans (hbr.mono HB3.out.size)
        have HBQ : Hid (∀ b, b < w3.heap.size → wr.heap[b]? = w3.heap[b]?) := fun b h => hbr.block b h
        clear hT1 hLJ hG hzs hbr hrb HUP
        by_cases hjN : j < N
        · have hjl : j < fs0.length := by rw [HNN.out]; exact hjN
          have hjr : j < rs.length := by rw [HRL.out]; exact hjN
          have hjf : j < fs.length := by rw [HFI.out.1]; exact hjl
          obtain ⟨bf, rfl, _, hbf, hfr⟩ := HFI.out.2.1 (by omega)
          have hfd := HFI.out.2.2 j hjf hjl
          have hc9 := hfr.cells j hjf
          have hokf := HFOK.out _ (List.getElem_mem hjl)
          have hokr := ftab_r HFT.out _ (List.getElem_mem hjl)
          have hri := HRI.out j hjr hjl
          obtain ⟨r, hr⟩ : ∃ r, rs[j] = r := ⟨_, rfl⟩
          rw [hr] at hri
          have HRJ : Hid ((∃ h : j < rs.length, rs[j] = r) ∧ (rs.map Prod.fst)[j]? = some r.1) := ⟨⟨hjr, hr⟩, by rw [List.getElem?_map, List.getElem?_eq_getElem hjr, hr]; rfl⟩
          generalize fs[j] = F at *
          generalize fs0[j] = Z at *
          have hbfr : bf < wr.heap.size := by have := HBR.out.size; omega
          obtain ⟨W1, hW1⟩ : ∃ W1, wr.alloc (Obj.cells #[.int .i64 0, .int .u64 0, .string ⟨#[]⟩, .slice none 0 0, .int .i64 0] 42) = W1 := ⟨_, rfl⟩
          have hs1 : W1.heap.size = wr.heap.size + 1 := by rw [← hW1]; simp
          have hb1 : Below wr.heap.size wr W1 := by rw [← hW1]; exact bel1 (Below.refl _ _) (Nat.le_refl _) _
          have HX1 : Hid (W1.heap[wr.heap.size]? = some (.cells #[.int .i64 0, .int .u64 0, .string ⟨#[]⟩, .slice none 0 0, .int .i64 0] 42 (0, 0))) := by rw [← hW1]; exact World.alloc_heap_new _ _
          have HW1 := hide hW1
          clear hW1
          -- the value that is given, or a Null
          have HMAIN : ∀ (X : V) (X0 : World), Hid ((y.l[j]?).getD nul = X) → Hid (chkE X = 0) → Hid (Below wr.heap.size wr X0) → Hid (wr.heap.size < X0.heap.size) → Hid (X0.heap[wr.heap.size]? = some (.cells #[.int .i64 X.k, .int .u64 X.n, .string X.s, .slice X.a X.l.length X.c, .int .i64 X.e] 42 (0, 0))) → Hid (LiesIn Q X0 X) → Hid ((∀ W', Below X0.heap.size X0 W' → (fun W' => W'.cell? ⟨bf, j * 9, none⟩ = some (.string F.name) ∧ W'.cell? ⟨bf, j * 9 + 1, none⟩ = some (.int .i64 F.ty) ∧ W'.cell? ⟨bf, j * 9 + 2, none⟩ = some (.slice F.ka F.kl F.kc) ∧ W'.cell? ⟨bf, j * 9 + 3, none⟩ = some (.bool F.must) ∧ W'.cell? ⟨bf, j * 9 + 4, none⟩ = some (.int .i64 F.d.k) ∧ W'.cell? ⟨bf, j * 9 + 5, none⟩ = some (.int .u64 F.d.n) ∧ W'.cell? ⟨bf, j * 9 + 6, none⟩ = some (.string F.d.s) ∧ W'.cell? ⟨bf, j * 9 + 7, none⟩ = some (.slice F.d.a F.d.l.length F.d.c) ∧ W'.cell? ⟨bf, j * 9 + 8, none⟩ = some (.int .i64 F.d.e) ∧ W'.cell? ⟨wr.heap.size, 0, none⟩ = some (.int .i64 X.k) ∧ W'.cell? ⟨wr.heap.size, 1, none⟩ = some (.int .u64 X.n) ∧ W'.cell? ⟨wr.heap.size, 2, none⟩ = some (.string X.s) ∧ W'.cell? ⟨wr.heap.size, 3, none⟩ = some (.slice X.a X.l.length X.c) ∧ W'.cell? ⟨wr.heap.size, 4, none⟩ = some (.int .i64 X.e)) W') ∧ (∀ W', Below X0.heap.size X0 W' → Calls Tryz.prog 46 #[.agg #[.string F.name, .int .i64 F.ty, .slice F.ka F.kl F.kc, .bool F.must, .int .i64 F.d.k, .int .u64 F.d.n, .string F.d.s, .slice F.d.a F.d.l.length F.d.c, .int .i64 F.d.e], .agg #[.int .i64 X.k, .int .u64 X.n, .string X.s, .slice X.a X.l.length X.c, .int .i64 X.e]] W' (RUPost Q r W'))) := fun X X0 hX hcX hbX hpX hboxX hlX => by
            refine ⟨fun W' hW' => ?_, fun W' hW' => ?_⟩
            · have e : ∀ o', W'.cell? ⟨bf, o', none⟩ = w3.cell? ⟨bf, o', none⟩ := fun o' => (hW'.cell (p := ⟨bf, o', none⟩) (by show bf < X0.heap.size; have := hbX.out.size; omega)).trans ((hbX.out.cell (p := ⟨bf, o', none⟩) hbfr).trans (World.cell?_of_block (HBQ.out bf hbf)))
              have hbx := (hW'.block wr.heap.size hpX.out).trans hboxX.out
              obtain ⟨f0, f1, f2, f3, f4, f5, f6, f7, f8⟩ := hc9
              refine ⟨(e _).trans f0, (e _).trans f1, (e _).trans f2, (e _).trans f3, (e _).trans f4, (e _).trans f5, (e _).trans f6, (e _).trans f7, (e _).trans f8, ?_, ?_, ?_, ?_, ?_⟩ <;> (unfold World.cell?; simp only [hbx]; rfl)
            · have hsx := hbX.out.size
              have hsw := hW'.size
              have hb3' : Below w3.heap.size w3 W' := HBR.out.trans ((hbX.out.trans (hW'.mono hsx)).mono HBR.out.size)
              have hfd' : FdIn 0 W' F Z := by
                obtain ⟨q1, q2, q3, q4, q5, q6, q7⟩ := hfd
                refine ⟨q1, q2, q3, q4, q5, q6, fun h0 => ?_⟩
                obtain ⟨b, e, _, r2, r3⟩ := q7 h0
                exact ⟨b, e, Nat.zero_le _, by have := hb3'.size; omega, (hb3'.block b r2).trans r3⟩
              have h := runpacked_all F Z X Q W' (fun b h => by have := HQ3.out b h; have := hb3'.size; omega) hfd' hokf hokr (LiesIn.keep hlX.out (fun b' hb' o' => hW'.cell (p := ⟨b', o', none⟩) (by show b' < X0.heap.size; have := HQ3.out b' hb'; have := HBR.out.size; omega)) (fun _ h => h)) hcX.out HIHK.out
              rw [Fd.val_eq, V.val_eq, ← hX.out, ← hri, hX.out] at h
              exact h
          have HMAIN' := hide HMAIN
          clear HMAIN hc9 hfr hfd hokf hokr hri hr
          have hjM2 : j ≤ 20 := by omega
          by_cases hjM : j < M
          · have hjy : j < y.l.length := by rw [HMM.out]; exact hjM
            obtain ⟨b3, o3, hya, hb3q, hrow3⟩ := HYL.out.rowV (by omega)
            have hb3 := hQ b3 hb3q
            have hb3r : b3 < wr.heap.size := by have := HBR.out.size; omega
            have hxl := HYL.out.subV _ (List.getElem_mem hjy)
            have hxc := HYC.out _ (List.getElem_mem hjy)
            have hbwr : Below w.heap.size w wr := (HRES.out wr HB0R.out).2.2
            obtain ⟨x0, x1, x2, x3, x4⟩ := hrow3.below hbwr hb3 j hjy
            have hgx : (y.l[j]?).getD nul = y.l[j] := by rw [List.getElem?_eq_getElem hjy]; rfl
            rw [hya]
            generalize y.l[j] = X at *
            obtain ⟨X0, hX0⟩ : ∃ X0, wr.alloc (Obj.cells #[.int .i64 X.k, .int .u64 X.n, .string X.s, .slice X.a X.l.length X.c, .int .i64 X.e] 42) = X0 := ⟨_, rfl⟩
            have hsX : X0.heap.size = wr.heap.size + 1 := by rw [← hX0]; simp
            have HBX : Hid (Below wr.heap.size wr X0) := by rw [← hX0]; exact bel1 (Below.refl _ _) (Nat.le_refl _) _
            have HPX : Hid (wr.heap.size < X0.heap.size) := by rw [Hid, hsX]; omega
            have HBOX : Hid (X0.heap[wr.heap.size]? = some (.cells #[.int .i64 X.k, .int .u64 X.n, .string X.s, .slice X.a X.l.length X.c, .int .i64 X.e] 42 (0, 0))) := by rw [← hX0]; exact World.alloc_heap_new _ _
            have HLX : Hid (LiesIn Q X0 X) := LiesIn.keep hxl (fun b' hb' o' => ((HBX.out.cell (p := ⟨b', o', none⟩) (by show b' < wr.heap.size; have := HQ3.out b' hb'; have := HBR.out.size; omega)).trans (hbwr.cell (p := ⟨b', o', none⟩) (hQ b' hb')))) (fun _ h => h)
            have HM2 := HMAIN'.out X X0 (hide hgx) (hide hxc) HBX HPX HBOX HLX
            have HX0 := hide hX0
            have HYA := hide hya
            clear hX0 hsX hya hxl hxc hgx hrow3 hbwr
            go_wp2_with fail
            rw [HX0.out]
            obtain ⟨hM1, hM3⟩ := HM2.out
            have HS := hide hM1
            have HC := hide hM3
            have HQX : Hid (∀ b, Q b → b < X0.heap.size) := fun b h => by have := HQ3.out b h; have := HBR.out.size; have := HPX.out; omega
            have HSP : Hid (∀ W' yb (Y : V), Below X0.heap.size X0 W' → X0.heap.size ≤ yb → (fun W' => W'.cell? ⟨bf, j * 9, none⟩ = some (.string F.name) ∧ W'.cell? ⟨bf, j * 9 + 1, none⟩ = some (.int .i64 F.ty) ∧ W'.cell? ⟨bf, j * 9 + 2, none⟩ = some (.slice F.ka F.kl F.kc) ∧ W'.cell? ⟨bf, j * 9 + 3, none⟩ = some (.bool F.must) ∧ W'.cell? ⟨bf, j * 9 + 4, none⟩ = some (.int .i64 F.d.k) ∧ W'.cell? ⟨bf, j * 9 + 5, none⟩ = some (.int .u64 F.d.n) ∧ W'.cell? ⟨bf, j * 9 + 6, none⟩ = some (.string F.d.s) ∧ W'.cell? ⟨bf, j * 9 + 7, none⟩ = some (.slice F.d.a F.d.l.length F.d.c) ∧ W'.cell? ⟨bf, j * 9 + 8, none⟩ = some (.int .i64 F.d.e) ∧ W'.cell? ⟨wr.heap.size, 0, none⟩ = some (.int .i64 X.k) ∧ W'.cell? ⟨wr.heap.size, 1, none⟩ = some (.int .u64 X.n) ∧ W'.cell? ⟨wr.heap.size, 2, none⟩ = some (.string X.s) ∧ W'.cell? ⟨wr.heap.size, 3, none⟩ = some (.slice X.a X.l.length X.c) ∧ W'.cell? ⟨wr.heap.size, 4, none⟩ = some (.int .i64 X.e)) (((((W'.setCell ⟨yb, 0, none⟩ (.int .i64 Y.k)).setCell ⟨yb, 1, none⟩ (.int .u64 Y.n)).setCell ⟨yb, 2, none⟩ (.string Y.s)).setCell ⟨yb, 3, none⟩ (.slice Y.a Y.l.length Y.c)).setCell ⟨yb, 4, none⟩ (.int .i64 Y.e))) := fun W' yb Y hb hyb => by
              have h := hM1 _ (put5_below (y := Y) (o := 0) hb hyb)
              rw [← put5_eq] at h
              exact h
            clear hM1 hM3 HM2 HMAIN'
            go_cut [14, 15] (fun pv gv wx => ∃ (yb : Nat) (Y : V), pv = .pointer (some ⟨yb, 0, none⟩) ∧ gv = .int .i64 r.2 ∧ Hid (RegP Q r X0 yb Y wx))
            case first =>
              have HBR1 : Hid (Below X0.heap.size X0 X0.drew) := (Below.refl _ _).drew
              refine wp_region_held_drew (S := (fun W' => W'.cell? ⟨bf, j * 9, none⟩ = some (.string F.name) ∧ W'.cell? ⟨bf, j * 9 + 1, none⟩ = some (.int .i64 F.ty) ∧ W'.cell? ⟨bf, j * 9 + 2, none⟩ = some (.slice F.ka F.kl F.kc) ∧ W'.cell? ⟨bf, j * 9 + 3, none⟩ = some (.bool F.must) ∧ W'.cell? ⟨bf, j * 9 + 4, none⟩ = some (.int .i64 F.d.k) ∧ W'.cell? ⟨bf, j * 9 + 5, none⟩ = some (.int .u64 F.d.n) ∧ W'.cell? ⟨bf, j * 9 + 6, none⟩ = some (.string F.d.s) ∧ W'.cell? ⟨bf, j * 9 + 7, none⟩ = some (.slice F.d.a F.d.l.length F.d.c) ∧ W'.cell? ⟨bf, j * 9 + 8, none⟩ = some (.int .i64 F.d.e) ∧ W'.cell? ⟨wr.heap.size, 0, none⟩ = some (.int .i64 X.k) ∧ W'.cell? ⟨wr.heap.size, 1, none⟩ = some (.int .u64 X.n) ∧ W'.cell? ⟨wr.heap.size, 2, none⟩ = some (.string X.s) ∧ W'.cell? ⟨wr.heap.size, 3, none⟩ = some (.slice X.a X.l.length X.c) ∧ W'.cell? ⟨wr.heap.size, 4, none⟩ = some (.int .i64 X.e))) (by kernel_rfl) (HS.out _ HBR1.out) (fun hHeld => ?_)
              refine take_do (i := 0) (d := 78) (v := ?_) rfl rfl (by kernel_rfl) (by kernel_rfl) (by kernel_rfl) (fun _ _ _ h => h) rfl ?_ (by assumption) ?_
              rotate_left
              · intro w hSw
                try dsimp only at hSw
                go_simp
                try with_reducible rfl
              try simp only [List.setIfInBounds_toArray, List.set_cons_zero, List.set_cons_succ]
              refine take_do (i := 1) (d := 79) (v := ?_) rfl rfl (by kernel_rfl) (by kernel_rfl) (by kernel_rfl) (fun _ _ _ h => h) rfl ?_ (by assumption) ?_
              rotate_left
              · intro w hSw
                try dsimp only at hSw
                go_simp
                try with_reducible rfl
              try simp only [List.setIfInBounds_toArray, List.set_cons_zero, List.set_cons_succ]
              refine take_do (i := 2) (d := 80) (v := ?_) rfl rfl (by kernel_rfl) (by kernel_rfl) (by kernel_rfl) (fun _ _ _ h => h) rfl ?_ (by assumption) ?_
              rotate_left
              · intro w hSw
                try dsimp only at hSw
                go_simp
                try with_reducible rfl
              try simp only [List.setIfInBounds_toArray, List.set_cons_zero, List.set_cons_succ]
              refine take_do (i := 3) (d := 81) (v := ?_) rfl rfl (by kernel_rfl) (by kernel_rfl) (by kernel_rfl) (fun _ _ _ h => h) rfl ?_ (by assumption) ?_
              rotate_left
              · intro w hSw
                try dsimp only at hSw
                go_simp
                try with_reducible rfl
              try simp only [List.setIfInBounds_toArray, List.set_cons_zero, List.set_cons_succ]
              refine take_do (i := 4) (d := 82) (v := ?_) rfl rfl (by kernel_rfl) (by kernel_rfl) (by kernel_rfl) (fun _ _ _ h => h) rfl ?_ (by assumption) ?_
              rotate_left
              · intro w hSw
                try dsimp only at hSw
                go_simp
                try with_reducible rfl
              try simp only [List.setIfInBounds_toArray, List.set_cons_zero, List.set_cons_succ]
              refine wpAnyH_ready (rs := [5, 9]) (by kernel_rfl) (by simp) ?_
              refine AllReadyH.cons rfl (fun K hK => ?_) (AllReadyH.cons rfl (fun K hK => ?_) AllReadyH.nil)
              · go_simp
                go_wp2_with (go_at_call 46; refine Calls.mono (HC.out _ HBR1.out) ?_; rintro e6 w6 ⟨Y, rfl, HY, hb6⟩; unfold VN; have HB6 : Hid (Below X0.heap.size X0 w6) := HBR1.out.trans (hb6.mono (Nat.le_refl _)); clear hb6)
                refine hK.out _ _ (HS.out _ HB6.out) (fun hHeld => ?_)
                clear hK K
                refine take_do (i := 6) (d := 77) (v := ?_) rfl rfl (by kernel_rfl) (by kernel_rfl) (by kernel_rfl) (fun _ _ _ h => h) rfl ?_ (by assumption) ?_
                rotate_left
                · intro w hSw
                  try dsimp only at hSw
                  go_simp
                  try with_reducible rfl
                try simp only [List.setIfInBounds_toArray, List.set_cons_zero, List.set_cons_succ]
                refine take_do (i := 7) (d := 84) (v := ?_) rfl rfl (by kernel_rfl) (by kernel_rfl) (by kernel_rfl) (fun _ _ _ h => h) rfl ?_ (by assumption) ?_
                rotate_left
                · intro w hSw
                  try dsimp only at hSw
                  go_simp
                  try with_reducible rfl
                try simp only [List.setIfInBounds_toArray, List.set_cons_zero, List.set_cons_succ]
                refine take_do (i := 8) (d := 85) (v := ?_) rfl rfl (by kernel_rfl) (by kernel_rfl) (by kernel_rfl) (fun _ _ _ h => h) rfl ?_ (by assumption) ?_
                rotate_left
                · intro w hSw
                  try dsimp only at hSw
                  go_simp
                  try with_reducible rfl
                try simp only [List.setIfInBounds_toArray, List.set_cons_zero, List.set_cons_succ]
                refine wpAnyH_ready (rs := [9]) (by kernel_rfl) (by simp) ?_
                refine AllReadyH.cons rfl (fun K hK => ?_) AllReadyH.nil
                go_simp
                have hs6 := HB6.out.size
                obtain ⟨WA, hWA⟩ : ∃ WA, w6.alloc (Obj.cells #[.int .i64 0, .int .u64 0, .string ⟨#[]⟩, .slice none 0 0, .int .i64 0] 42) = WA := ⟨_, rfl⟩
                have hkA : Blk WA w6.heap.size 42 5 := by rw [← hWA]; exact blk_new w6
                have hsA : WA.heap.size = w6.heap.size + 1 := by rw [← hWA]; simp
                have hbA : Below w6.heap.size w6 WA := by rw [← hWA]; exact bel1 (Below.refl _ _) (Nat.le_refl _) _
                have HBA : Hid (Below X0.heap.size X0 WA) := HB6.out.trans (hbA.mono hs6)
                rw [hWA]
                refine hK.out _ _ (HS.out _ HBA.out) (fun hHeld => ?_)
                clear hK K
                obtain ⟨z0, y0⟩ := hkA.some 0 (by omega)
                obtain ⟨z1, y1⟩ := hkA.some 1 (by omega)
                obtain ⟨z2, y2⟩ := hkA.some 2 (by omega)
                obtain ⟨z3, y3⟩ := hkA.some 3 (by omega)
                obtain ⟨z4, y4⟩ := hkA.some 4 (by omega)
                have fz := hkA.free
                have hlt : w6.heap.size < WA.heap.size := by omega
                have HREG : Hid (RegP Q r X0 w6.heap.size Y (put5 WA w6.heap.size 0 Y)) := reg_fin HBA.out hs6 hlt hkA HY.out.1 HQX.out (LiesIn.keep HY.out.2 (fun b hq o' => hbA.cell (p := ⟨b, o', none⟩) (hq.elim (fun h => by show b < w6.heap.size; have := HQX.out b h; omega) (fun h => h.2))) (fun b hq => hq.elim .inl (fun h => .inr ⟨h.1, by have := h.2; omega, by have := h.2; omega⟩)))
                rw [← put5_eq] at HREG
                clear hWA hsA hkA
                refine wpAnyH_ready (rs := [10]) (by kernel_rfl) (by simp) ?_
                refine AllReadyH.cons rfl (fun K hK => ?_) AllReadyH.nil
                go_simp
                refine hK.out _ _ (HSP.out _ _ Y HBA.out hs6) (fun hHeld => ?_)
                clear hK K
                refine take_do (i := 11) (d := 15) (v := ?_) rfl rfl (by kernel_rfl) (by kernel_rfl) (by kernel_rfl) (fun _ _ _ h => h) rfl ?_ (by assumption) ?_
                rotate_left
                · intro w hSw
                  try dsimp only at hSw
                  go_simp
                  try with_reducible rfl
                try simp only [List.setIfInBounds_toArray, List.set_cons_zero, List.set_cons_succ]
                refine wpAnyH_done (by kernel_rfl) ?_ _
                (try go_wp2_with fail)
                go_meet
                exact ⟨_, _, rfl, rfl, HREG⟩
              · go_simp
                obtain ⟨WA, hWA⟩ : ∃ WA, (X0.alloc (Obj.cells #[.int .i64 0, .int .u64 0, .string ⟨#[]⟩, .slice none 0 0, .int .i64 0] 42)).drew = WA := ⟨_, rfl⟩
                have hkA : Blk WA X0.heap.size 42 5 := by rw [← hWA]; exact blk_new X0
                have hsA : WA.heap.size = X0.heap.size + 1 := by rw [← hWA]; show (X0.alloc _).heap.size = _; simp
                have HBA : Hid (Below X0.heap.size X0 WA) := by rw [← hWA]; exact (bel1 (Below.refl _ _) (Nat.le_refl _) _).drew
                rw [hWA]
                refine hK.out _ _ (HS.out _ HBA.out) (fun hHeld => ?_)
                clear hK K
                refine wpAnyH_ready (rs := [5]) (by kernel_rfl) (by simp) ?_
                refine AllReadyH.cons rfl (fun K hK => ?_) AllReadyH.nil
                have HCA := hide (HC.out WA HBA.out)
                have HWA := hide hsA
                have HKA := hide hkA
                clear hWA hsA hkA
                go_simp
                go_wp2_with (go_at_call 46; refine Calls.mono HCA.out ?_; rintro e6 w6 ⟨Y, rfl, HY, hb6⟩; unfold VN; have HB6 : Hid (Below WA.heap.size WA w6) := hb6; clear hb6)
                have HBX6 : Hid (Below X0.heap.size X0 w6) := HBA.out.trans (HB6.out.mono HBA.out.size)
                refine hK.out _ _ (HS.out _ HBX6.out) (fun hHeld => ?_)
                clear hK K
                refine take_do (i := 6) (d := 77) (v := ?_) rfl rfl (by kernel_rfl) (by kernel_rfl) (by kernel_rfl) (fun _ _ _ h => h) rfl ?_ (by assumption) ?_
                rotate_left
                · intro w hSw
                  try dsimp only at hSw
                  go_simp
                  try with_reducible rfl
                try simp only [List.setIfInBounds_toArray, List.set_cons_zero, List.set_cons_succ]
                refine take_do (i := 7) (d := 84) (v := ?_) rfl rfl (by kernel_rfl) (by kernel_rfl) (by kernel_rfl) (fun _ _ _ h => h) rfl ?_ (by assumption) ?_
                rotate_left
                · intro w hSw
                  try dsimp only at hSw
                  go_simp
                  try with_reducible rfl
                try simp only [List.setIfInBounds_toArray, List.set_cons_zero, List.set_cons_succ]
                refine take_do (i := 8) (d := 85) (v := ?_) rfl rfl (by kernel_rfl) (by kernel_rfl) (by kernel_rfl) (fun _ _ _ h => h) rfl ?_ (by assumption) ?_
                rotate_left
                · intro w hSw
                  try dsimp only at hSw
                  go_simp
                  try with_reducible rfl
                try simp only [List.setIfInBounds_toArray, List.set_cons_zero, List.set_cons_succ]
                have hs6 := HB6.out.size
                have hsa := HWA.out
                have hk6 := HKA.out.below HB6.out (by omega)
                obtain ⟨z0, y0⟩ := hk6.some 0 (by omega)
                obtain ⟨z1, y1⟩ := hk6.some 1 (by omega)
                obtain ⟨z2, y2⟩ := hk6.some 2 (by omega)
                obtain ⟨z3, y3⟩ := hk6.some 3 (by omega)
                obtain ⟨z4, y4⟩ := hk6.some 4 (by omega)
                have fz := hk6.free
                have hlt : X0.heap.size < w6.heap.size := by omega
                have HREG : Hid (RegP Q r X0 X0.heap.size Y (put5 w6 X0.heap.size 0 Y)) := reg_fin HBX6.out (Nat.le_refl _) hlt hk6 HY.out.1 HQX.out (LiesIn.keep HY.out.2 (fun _ _ _ => rfl) (fun b hq => hq.elim .inl (fun h => .inr ⟨by have := h.1; omega, h.2, by have := h.1; omega⟩)))
                rw [← put5_eq] at HREG
                clear hs6 hsa hk6
                refine wpAnyH_ready (rs := [10]) (by kernel_rfl) (by simp) ?_
                refine AllReadyH.cons rfl (fun K hK => ?_) AllReadyH.nil
                go_simp
                refine hK.out _ _ (HSP.out _ _ Y HBX6.out (Nat.le_refl _)) (fun hHeld => ?_)
                clear hK K
                refine take_do (i := 11) (d := 15) (v := ?_) rfl rfl (by kernel_rfl) (by kernel_rfl) (by kernel_rfl) (fun _ _ _ h => h) rfl ?_ (by assumption) ?_
                rotate_left
                · intro w hSw
                  try dsimp only at hSw
                  go_simp
                  try with_reducible rfl
                try simp only [List.setIfInBounds_toArray, List.set_cons_zero, List.set_cons_succ]
                refine wpAnyH_done (by kernel_rfl) ?_ _
                (try go_wp2_with fail)
                go_meet
                exact ⟨_, _, rfl, rfl, HREG⟩
            case rest =>
              obtain ⟨yb, Y, rfl, rfl, HREG⟩ := hcut
              rename World => wx
              obtain ⟨hbx, hyb1, hyb2, ⟨c0, c1, c2, c3, c4⟩, hyt, hyl⟩ := HREG.out
              have HBX2 : Hid (Below wr.heap.size wr wx) := HBX.out.trans (hbx.mono HBX.out.size)
              have HB0X : Hid (Below W0.heap.size W0 wx) := HB0R.out.trans (HBX2.out.mono HB0R.out.size)
              have HYT := hide hyt
              have HYL2 : Hid (LiesIn (fun q => Q q ∨ (wr.heap.size ≤ q ∧ q < wx.heap.size)) wx Y) := LiesIn.keep hyl (fun _ _ _ => rfl) (fun b hq => hq.elim .inl (fun h => .inr ⟨by have := h.1; have := HBX.out.size; omega, h.2⟩))
              have hyb : yb < wx.heap.size := hyb2
              clear hbx hyb1 hyb2 hyt hyl HREG HS HC HSP
              by_cases hr0 : r.2 = 0
              rotate_left
              · have hrb2 : (r.2 == 0) = false := by simpa using hr0
                have hrn : (r.2 != 0) = true := by simpa using hr0
                have HRKB : Hid (R = ((0, []), (j : Int), r.2)) := by
                  obtain ⟨⟨h1, h2⟩, _⟩ := HRJ.out
                  rw [Hid, HRK.out, rowT_bad h1 (by rw [h2]; exact hr0) (fun i h hi => HZS.out i h hi), h2]
                clear hr0 c0 c1 c2 c3 c4
                have HX1 : Hid (wx.heap[w.heap.size + 1]? = some (.cells #[.int .i64 0, .slice none 0 0] 33 (0, 0))) := (HRES.out wx HB0X.out).1
                have HZR : Hid ((wx.setRow (w.heap.size + 1) #[.int .i64 0, .slice none 0 0]).heap[w.heap.size + 1]? = some (.cells #[.int .i64 0, .slice none 0 0] 33 (0, 0))) := setR_at HX1.out _
                have hlt1 : w.heap.size + 1 < wx.heap.size := (HRES.out wx HB0X.out).2.1
                have HEND : Hid (RUR Q R w (.returned (.tuple #[.agg #[.int .i64 0, .slice none 0 0], .int .i64 ((j : Int)), .int .i64 (r.2)])) (wx.setRow (w.heap.size + 1) #[.int .i64 0, .slice none 0 0])) := by
                  rw [Hid, HRKB.out]
                  exact rur_bad (setR_below (HRES.out wx HB0X.out).2.2 (by omega) _)
                go_wp2_with (refine wpList_store_row rfl 33 (.tmp 2) (.tmp 88) rfl (w.heap.size + 1) #[.int .i64 0, .slice none 0 0] rfl rfl 33 _ HX1.out Tryz.sizeR rfl (by kernel_rfl) ?_)
                have hz := HZR.out
                have z0 : (wx.setRow (w.heap.size + 1) #[.int .i64 0, .slice none 0 0]).cell? ⟨w.heap.size + 1, 0, none⟩ = some (.int .i64 0) := by unfold World.cell?; simp only [hz]; rfl
                have z1 : (wx.setRow (w.heap.size + 1) #[.int .i64 0, .slice none 0 0]).cell? ⟨w.heap.size + 1, 1, none⟩ = some (.slice none 0 0) := by unfold World.cell?; simp only [hz]; rfl
                exact bodyPost_ret (v := .tuple #[.agg #[.int .i64 0, .slice none 0 0], .int .i64 ((j : Int)), .int .i64 (r.2)]) (by simp [results, Tryz.results27, go_sem, z0, z1]) rfl HEND.out
              · have hrbx : wx.heap[w3.heap.size]? = some (.cells #[.int .i64 k, .slice A j C] 33 (0, 0)) := (HBX2.out.block _ hrbl).trans HRB.out
                have hrbw : w3.heap.size < wx.heap.size := by have := HBX2.out.size; omega
                have p1 : wx.cell? ⟨w3.heap.size, 1, none⟩ = some (.slice A j C) := by unfold World.cell?; simp only [hrbx]; rfl
                have HNO : Hid ((Value.slice A j C).ownBlock ≠ some w3.heap.size) := fun e => by have := (ownsRow_lt HG.out.1 e).1; omega
                have HOWN : Hid (∀ o, (wx.alloc o).ownsRow (w3.heap.size + 1) 42 5 (.slice A j C) j (flat L)) := fun o => by
                  have := (ownsRow_keep HG.out.1 (fun g hg => HBX2.out.block g (ownsRow_lt HG.out.1 hg).2)).alloc o
                  rwa [HLJ.out] at this
                have HK7 : Hid (∀ o w7, (wx.alloc o).grownBy w7 (Value.slice A j C).ownBlock → w7.heap[w3.heap.size]? = some (.cells #[.int .i64 k, .slice A j C] 33 (0, 0)) ∧ w7.cell? ⟨w3.heap.size, 1, none⟩ = some (.slice A j C) ∧ (∀ i, w7.frozen? ⟨w3.heap.size, i, none⟩ = false) ∧ w3.heap.size < w7.heap.size) := fun o w7 hg => by
                  have e : w7.heap[w3.heap.size]? = some (.cells #[.int .i64 k, .slice A j C] 33 (0, 0)) := (hg.block _ (by simp; omega) (fun e => HNO.out e.symm)).trans ((Below.heap_alloc _ _ _ hrbw).trans hrbx)
                  have := hg.size
                  refine ⟨e, by unfold World.cell?; simp only [e]; rfl, fun i => by simp [World.frozen?, e], ?_⟩
                  simp at this
                  omega
                have HR0 := hide hr0
                rw [hr0]
                clear hrbx hr0
                go_wp2_with (at_builtin; refine wpList_append_own_at _ rfl (.tmp 92) (.tmp 94) 31 rfl (w3.heap.size + 1) 42 i0 _ 5 64 Tryz.underlying31 HI0.out HI.out.1 HI.out.2.1 HI.out.2.2 rfl (by decide) _ j (flat L) rfl (HOWN.out _) ⟨wx.heap.size, 0, none⟩ 1 1 (words Y) rfl rfl (newsR wx _ _ _ _ _ _) (V.words_one _) (by simp [maxLen]; omega) (by omega) (by simp; omega) ?_; intro v' w7 hown' hgrow _ hat; obtain ⟨g', cap', rfl⟩ := ownsRow_succ hown'; obtain ⟨hx7, p7, f7, l7⟩ := HK7.out _ _ hgrow; have HX7 := hide hx7; clear hx7; have HGR7 := hide (And.intro hown' (And.intro hgrow hat)); clear hown' hgrow hat)
                have HUP8 : Hid (UpTo Q w3.heap.size k rs w3 (j + 1) (w7.setCell ⟨w3.heap.size, 1, none⟩ (.slice (some ⟨g', 0, none⟩) (j + 1) cap'))) := by
                  obtain ⟨hown', hgrow, hat⟩ := HGR7.out
                  obtain ⟨hG7, hB7⟩ := GLL.push (Y := Y) HG.out (fun b h => by have := HQ3.out b h; omega) (by omega) HBX2.out HYL2.out (by rw [HLJ.out]; exact hown') hgrow hat
                  have hx7 := HX7.out
                  obtain ⟨⟨hj1, hj2⟩, hj3⟩ := HRJ.out
                  refine ⟨some ⟨g', 0, none⟩, cap', L ++ [Y], by simp [World.setCell, Array.getElem?_modify, hx7], HT1.out.next HLJ.out (by rw [HYT.out HR0.out]; exact hj3), by simp [HLJ.out], GLL.set hG7 (by simp [World.setCell]) (fun b hb => setC_ne w7 hb _) (by omega) (fun h => by have := HQ3.out _ h; omega), fun i h hi => ?_, (HBR.out.trans (hB7.mono (by omega))).setCell (p := ⟨w3.heap.size, 1, none⟩) (Nat.le_refl _) _, by simp [World.setCell]; omega⟩
                  by_cases e : i = j
                  · subst e
                    rw [hj2]
                    exact HR0.out
                  · exact HZS.out i h (by omega)
                clear HX7 HGR7 p7 f7
                go_roundw
                case rel => exact ⟨j + 1, by go_num, by omega, HUP8⟩
                case measure => simp [intOf]; omega
          · obtain ⟨X, hXe⟩ : ∃ X, X = nul := ⟨_, rfl⟩
            have hgx : (y.l[j]?).getD nul = X := by rw [List.getElem?_eq_none (by have := HMM.out; omega), hXe]; rfl
            have hxc : chkE X = 0 := by rw [hXe]; exact chk_nul
            have hX5 : (#[.int .i64 X.k, .int .u64 X.n, .string X.s, .slice X.a X.l.length X.c, .int .i64 X.e] : Array Value) = #[.int .i64 0, .int .u64 0, .string ⟨#[]⟩, .slice none 0 0, .int .i64 0] := by rw [hXe]; exact (by unfold nul leaf; rw [V.l_of]; rfl)
            obtain ⟨X0, hX0⟩ : ∃ X0, W1 = X0 := ⟨_, rfl⟩
            have HBX : Hid (Below wr.heap.size wr X0) := by rw [← hX0]; exact hb1
            have HPX : Hid (wr.heap.size < X0.heap.size) := by rw [Hid, ← hX0]; omega
            have HBOX : Hid (X0.heap[wr.heap.size]? = some (.cells #[.int .i64 X.k, .int .u64 X.n, .string X.s, .slice X.a X.l.length X.c, .int .i64 X.e] 42 (0, 0))) := by rw [← hX0, hX5]; exact HX1.out
            have HLX : Hid (LiesIn Q X0 X) := by rw [hXe]; exact LiesIn.keep (nul_lies' 0 _) (fun _ _ _ => rfl) (fun b h => absurd h (Nat.not_lt_zero _))
            have HM2 := HMAIN'.out X X0 (hide hgx) (hide hxc) HBX HPX HBOX HLX
            have HX0 := hide hX0
            clear hX0 hXe hgx hxc hX5
            go_wp2_with fail
            rw [HW1.out, HX0.out]
            obtain ⟨hM1, hM3⟩ := HM2.out
            have HS := hide hM1
            have HC := hide hM3
            have HQX : Hid (∀ b, Q b → b < X0.heap.size) := fun b h => by have := HQ3.out b h; have := HBR.out.size; have := HPX.out; omega
            have HSP : Hid (∀ W' yb (Y : V), Below X0.heap.size X0 W' → X0.heap.size ≤ yb → (fun W' => W'.cell? ⟨bf, j * 9, none⟩ = some (.string F.name) ∧ W'.cell? ⟨bf, j * 9 + 1, none⟩ = some (.int .i64 F.ty) ∧ W'.cell? ⟨bf, j * 9 + 2, none⟩ = some (.slice F.ka F.kl F.kc) ∧ W'.cell? ⟨bf, j * 9 + 3, none⟩ = some (.bool F.must) ∧ W'.cell? ⟨bf, j * 9 + 4, none⟩ = some (.int .i64 F.d.k) ∧ W'.cell? ⟨bf, j * 9 + 5, none⟩ = some (.int .u64 F.d.n) ∧ W'.cell? ⟨bf, j * 9 + 6, none⟩ = some (.string F.d.s) ∧ W'.cell? ⟨bf, j * 9 + 7, none⟩ = some (.slice F.d.a F.d.l.length F.d.c) ∧ W'.cell? ⟨bf, j * 9 + 8, none⟩ = some (.int .i64 F.d.e) ∧ W'.cell? ⟨wr.heap.size, 0, none⟩ = some (.int .i64 X.k) ∧ W'.cell? ⟨wr.heap.size, 1, none⟩ = some (.int .u64 X.n) ∧ W'.cell? ⟨wr.heap.size, 2, none⟩ = some (.string X.s) ∧ W'.cell? ⟨wr.heap.size, 3, none⟩ = some (.slice X.a X.l.length X.c) ∧ W'.cell? ⟨wr.heap.size, 4, none⟩ = some (.int .i64 X.e)) (((((W'.setCell ⟨yb, 0, none⟩ (.int .i64 Y.k)).setCell ⟨yb, 1, none⟩ (.int .u64 Y.n)).setCell ⟨yb, 2, none⟩ (.string Y.s)).setCell ⟨yb, 3, none⟩ (.slice Y.a Y.l.length Y.c)).setCell ⟨yb, 4, none⟩ (.int .i64 Y.e))) := fun W' yb Y hb hyb => by
              have h := hM1 _ (put5_below (y := Y) (o := 0) hb hyb)
              rw [← put5_eq] at h
              exact h
            clear hM1 hM3 HM2 HMAIN'
            go_cut [14, 15] (fun pv gv wx => ∃ (yb : Nat) (Y : V), pv = .pointer (some ⟨yb, 0, none⟩) ∧ gv = .int .i64 r.2 ∧ Hid (RegP Q r X0 yb Y wx))
            case first =>
              have HBR1 : Hid (Below X0.heap.size X0 X0.drew) := (Below.refl _ _).drew
              refine wp_region_held_drew (S := (fun W' => W'.cell? ⟨bf, j * 9, none⟩ = some (.string F.name) ∧ W'.cell? ⟨bf, j * 9 + 1, none⟩ = some (.int .i64 F.ty) ∧ W'.cell? ⟨bf, j * 9 + 2, none⟩ = some (.slice F.ka F.kl F.kc) ∧ W'.cell? ⟨bf, j * 9 + 3, none⟩ = some (.bool F.must) ∧ W'.cell? ⟨bf, j * 9 + 4, none⟩ = some (.int .i64 F.d.k) ∧ W'.cell? ⟨bf, j * 9 + 5, none⟩ = some (.int .u64 F.d.n) ∧ W'.cell? ⟨bf, j * 9 + 6, none⟩ = some (.string F.d.s) ∧ W'.cell? ⟨bf, j * 9 + 7, none⟩ = some (.slice F.d.a F.d.l.length F.d.c) ∧ W'.cell? ⟨bf, j * 9 + 8, none⟩ = some (.int .i64 F.d.e) ∧ W'.cell? ⟨wr.heap.size, 0, none⟩ = some (.int .i64 X.k) ∧ W'.cell? ⟨wr.heap.size, 1, none⟩ = some (.int .u64 X.n) ∧ W'.cell? ⟨wr.heap.size, 2, none⟩ = some (.string X.s) ∧ W'.cell? ⟨wr.heap.size, 3, none⟩ = some (.slice X.a X.l.length X.c) ∧ W'.cell? ⟨wr.heap.size, 4, none⟩ = some (.int .i64 X.e))) (by kernel_rfl) (HS.out _ HBR1.out) (fun hHeld => ?_)
              refine take_do (i := 0) (d := 78) (v := ?_) rfl rfl (by kernel_rfl) (by kernel_rfl) (by kernel_rfl) (fun _ _ _ h => h) rfl ?_ (by assumption) ?_
              rotate_left
              · intro w hSw
                try dsimp only at hSw
                go_simp
                try with_reducible rfl
              try simp only [List.setIfInBounds_toArray, List.set_cons_zero, List.set_cons_succ]
              refine take_do (i := 1) (d := 79) (v := ?_) rfl rfl (by kernel_rfl) (by kernel_rfl) (by kernel_rfl) (fun _ _ _ h => h) rfl ?_ (by assumption) ?_
              rotate_left
              · intro w hSw
                try dsimp only at hSw
                go_simp
                try with_reducible rfl
              try simp only [List.setIfInBounds_toArray, List.set_cons_zero, List.set_cons_succ]
              refine take_do (i := 2) (d := 80) (v := ?_) rfl rfl (by kernel_rfl) (by kernel_rfl) (by kernel_rfl) (fun _ _ _ h => h) rfl ?_ (by assumption) ?_
              rotate_left
              · intro w hSw
                try dsimp only at hSw
                go_simp
                try with_reducible rfl
              try simp only [List.setIfInBounds_toArray, List.set_cons_zero, List.set_cons_succ]
              refine take_do (i := 3) (d := 81) (v := ?_) rfl rfl (by kernel_rfl) (by kernel_rfl) (by kernel_rfl) (fun _ _ _ h => h) rfl ?_ (by assumption) ?_
              rotate_left
              · intro w hSw
                try dsimp only at hSw
                go_simp
                try with_reducible rfl
              try simp only [List.setIfInBounds_toArray, List.set_cons_zero, List.set_cons_succ]
              refine take_do (i := 4) (d := 82) (v := ?_) rfl rfl (by kernel_rfl) (by kernel_rfl) (by kernel_rfl) (fun _ _ _ h => h) rfl ?_ (by assumption) ?_
              rotate_left
              · intro w hSw
                try dsimp only at hSw
                go_simp
                try with_reducible rfl
              try simp only [List.setIfInBounds_toArray, List.set_cons_zero, List.set_cons_succ]
              refine wpAnyH_ready (rs := [5, 9]) (by kernel_rfl) (by simp) ?_
              refine AllReadyH.cons rfl (fun K hK => ?_) (AllReadyH.cons rfl (fun K hK => ?_) AllReadyH.nil)
              · go_simp
                go_wp2_with (go_at_call 46; refine Calls.mono (HC.out _ HBR1.out) ?_; rintro e6 w6 ⟨Y, rfl, HY, hb6⟩; unfold VN; have HB6 : Hid (Below X0.heap.size X0 w6) := HBR1.out.trans (hb6.mono (Nat.le_refl _)); clear hb6)
                refine hK.out _ _ (HS.out _ HB6.out) (fun hHeld => ?_)
                clear hK K
                refine take_do (i := 6) (d := 77) (v := ?_) rfl rfl (by kernel_rfl) (by kernel_rfl) (by kernel_rfl) (fun _ _ _ h => h) rfl ?_ (by assumption) ?_
                rotate_left
                · intro w hSw
                  try dsimp only at hSw
                  go_simp
                  try with_reducible rfl
                try simp only [List.setIfInBounds_toArray, List.set_cons_zero, List.set_cons_succ]
                refine take_do (i := 7) (d := 84) (v := ?_) rfl rfl (by kernel_rfl) (by kernel_rfl) (by kernel_rfl) (fun _ _ _ h => h) rfl ?_ (by assumption) ?_
                rotate_left
                · intro w hSw
                  try dsimp only at hSw
                  go_simp
                  try with_reducible rfl
                try simp only [List.setIfInBounds_toArray, List.set_cons_zero, List.set_cons_succ]
                refine take_do (i := 8) (d := 85) (v := ?_) rfl rfl (by kernel_rfl) (by kernel_rfl) (by kernel_rfl) (fun _ _ _ h => h) rfl ?_ (by assumption) ?_
                rotate_left
                · intro w hSw
                  try dsimp only at hSw
                  go_simp
                  try with_reducible rfl
                try simp only [List.setIfInBounds_toArray, List.set_cons_zero, List.set_cons_succ]
                refine wpAnyH_ready (rs := [9]) (by kernel_rfl) (by simp) ?_
                refine AllReadyH.cons rfl (fun K hK => ?_) AllReadyH.nil
                go_simp
                have hs6 := HB6.out.size
                obtain ⟨WA, hWA⟩ : ∃ WA, w6.alloc (Obj.cells #[.int .i64 0, .int .u64 0, .string ⟨#[]⟩, .slice none 0 0, .int .i64 0] 42) = WA := ⟨_, rfl⟩
                have hkA : Blk WA w6.heap.size 42 5 := by rw [← hWA]; exact blk_new w6
                have hsA : WA.heap.size = w6.heap.size + 1 := by rw [← hWA]; simp
                have hbA : Below w6.heap.size w6 WA := by rw [← hWA]; exact bel1 (Below.refl _ _) (Nat.le_refl _) _
                have HBA : Hid (Below X0.heap.size X0 WA) := HB6.out.trans (hbA.mono hs6)
                rw [hWA]
                refine hK.out _ _ (HS.out _ HBA.out) (fun hHeld => ?_)
                clear hK K
                obtain ⟨z0, y0⟩ := hkA.some 0 (by omega)
                obtain ⟨z1, y1⟩ := hkA.some 1 (by omega)
                obtain ⟨z2, y2⟩ := hkA.some 2 (by omega)
                obtain ⟨z3, y3⟩ := hkA.some 3 (by omega)
                obtain ⟨z4, y4⟩ := hkA.some 4 (by omega)
                have fz := hkA.free
                have hlt : w6.heap.size < WA.heap.size := by omega
                have HREG : Hid (RegP Q r X0 w6.heap.size Y (put5 WA w6.heap.size 0 Y)) := reg_fin HBA.out hs6 hlt hkA HY.out.1 HQX.out (LiesIn.keep HY.out.2 (fun b hq o' => hbA.cell (p := ⟨b, o', none⟩) (hq.elim (fun h => by show b < w6.heap.size; have := HQX.out b h; omega) (fun h => h.2))) (fun b hq => hq.elim .inl (fun h => .inr ⟨h.1, by have := h.2; omega, by have := h.2; omega⟩)))
                rw [← put5_eq] at HREG
                clear hWA hsA hkA
                refine wpAnyH_ready (rs := [10]) (by kernel_rfl) (by simp) ?_
                refine AllReadyH.cons rfl (fun K hK => ?_) AllReadyH.nil
                go_simp
                refine hK.out _ _ (HSP.out _ _ Y HBA.out hs6) (fun hHeld => ?_)
                clear hK K
                refine take_do (i := 11) (d := 15) (v := ?_) rfl rfl (by kernel_rfl) (by kernel_rfl) (by kernel_rfl) (fun _ _ _ h => h) rfl ?_ (by assumption) ?_
                rotate_left
                · intro w hSw
                  try dsimp only at hSw
                  go_simp
                  try with_reducible rfl
                try simp only [List.setIfInBounds_toArray, List.set_cons_zero, List.set_cons_succ]
                refine wpAnyH_done (by kernel_rfl) ?_ _
                (try go_wp2_with fail)
                go_meet
                exact ⟨_, _, rfl, rfl, HREG⟩
              · go_simp
                obtain ⟨WA, hWA⟩ : ∃ WA, (X0.alloc (Obj.cells #[.int .i64 0, .int .u64 0, .string ⟨#[]⟩, .slice none 0 0, .int .i64 0] 42)).drew = WA := ⟨_, rfl⟩
                have hkA : Blk WA X0.heap.size 42 5 := by rw [← hWA]; exact blk_new X0
                have hsA : WA.heap.size = X0.heap.size + 1 := by rw [← hWA]; show (X0.alloc _).heap.size = _; simp
                have HBA : Hid (Below X0.heap.size X0 WA) := by rw [← hWA]; exact (bel1 (Below.refl _ _) (Nat.le_refl _) _).drew
                rw [hWA]
                refine hK.out _ _ (HS.out _ HBA.out) (fun hHeld => ?_)
                clear hK K
                refine wpAnyH_ready (rs := [5]) (by kernel_rfl) (by simp) ?_
                refine AllReadyH.cons rfl (fun K hK => ?_) AllReadyH.nil
                have HCA := hide (HC.out WA HBA.out)
                have HWA := hide hsA
                have HKA := hide hkA
                clear hWA hsA hkA
                go_simp
                go_wp2_with (go_at_call 46; refine Calls.mono HCA.out ?_; rintro e6 w6 ⟨Y, rfl, HY, hb6⟩; unfold VN; have HB6 : Hid (Below WA.heap.size WA w6) := hb6; clear hb6)
                have HBX6 : Hid (Below X0.heap.size X0 w6) := HBA.out.trans (HB6.out.mono HBA.out.size)
                refine hK.out _ _ (HS.out _ HBX6.out) (fun hHeld => ?_)
                clear hK K
                refine take_do (i := 6) (d := 77) (v := ?_) rfl rfl (by kernel_rfl) (by kernel_rfl) (by kernel_rfl) (fun _ _ _ h => h) rfl ?_ (by assumption) ?_
                rotate_left
                · intro w hSw
                  try dsimp only at hSw
                  go_simp
                  try with_reducible rfl
                try simp only [List.setIfInBounds_toArray, List.set_cons_zero, List.set_cons_succ]
                refine take_do (i := 7) (d := 84) (v := ?_) rfl rfl (by kernel_rfl) (by kernel_rfl) (by kernel_rfl) (fun _ _ _ h => h) rfl ?_ (by assumption) ?_
                rotate_left
                · intro w hSw
                  try dsimp only at hSw
                  go_simp
                  try with_reducible rfl
                try simp only [List.setIfInBounds_toArray, List.set_cons_zero, List.set_cons_succ]
                refine take_do (i := 8) (d := 85) (v := ?_) rfl rfl (by kernel_rfl) (by kernel_rfl) (by kernel_rfl) (fun _ _ _ h => h) rfl ?_ (by assumption) ?_
                rotate_left
                · intro w hSw
                  try dsimp only at hSw
                  go_simp
                  try with_reducible rfl
                try simp only [List.setIfInBounds_toArray, List.set_cons_zero, List.set_cons_succ]
                have hs6 := HB6.out.size
                have hsa := HWA.out
                have hk6 := HKA.out.below HB6.out (by omega)
                obtain ⟨z0, y0⟩ := hk6.some 0 (by omega)
                obtain ⟨z1, y1⟩ := hk6.some 1 (by omega)
                obtain ⟨z2, y2⟩ := hk6.some 2 (by omega)
                obtain ⟨z3, y3⟩ := hk6.some 3 (by omega)
                obtain ⟨z4, y4⟩ := hk6.some 4 (by omega)
                have fz := hk6.free
                have hlt : X0.heap.size < w6.heap.size := by omega
                have HREG : Hid (RegP Q r X0 X0.heap.size Y (put5 w6 X0.heap.size 0 Y)) := reg_fin HBX6.out (Nat.le_refl _) hlt hk6 HY.out.1 HQX.out (LiesIn.keep HY.out.2 (fun _ _ _ => rfl) (fun b hq => hq.elim .inl (fun h => .inr ⟨by have := h.1; omega, h.2, by have := h.1; omega⟩)))
                rw [← put5_eq] at HREG
                clear hs6 hsa hk6
                refine wpAnyH_ready (rs := [10]) (by kernel_rfl) (by simp) ?_
                refine AllReadyH.cons rfl (fun K hK => ?_) AllReadyH.nil
                go_simp
                refine hK.out _ _ (HSP.out _ _ Y HBX6.out (Nat.le_refl _)) (fun hHeld => ?_)
                clear hK K
                refine take_do (i := 11) (d := 15) (v := ?_) rfl rfl (by kernel_rfl) (by kernel_rfl) (by kernel_rfl) (fun _ _ _ h => h) rfl ?_ (by assumption) ?_
                rotate_left
                · intro w hSw
                  try dsimp only at hSw
                  go_simp
                  try with_reducible rfl
                try simp only [List.setIfInBounds_toArray, List.set_cons_zero, List.set_cons_succ]
                refine wpAnyH_done (by kernel_rfl) ?_ _
                (try go_wp2_with fail)
                go_meet
                exact ⟨_, _, rfl, rfl, HREG⟩
            case rest =>
              obtain ⟨yb, Y, rfl, rfl, HREG⟩ := hcut
              rename World => wx
              obtain ⟨hbx, hyb1, hyb2, ⟨c0, c1, c2, c3, c4⟩, hyt, hyl⟩ := HREG.out
              have HBX2 : Hid (Below wr.heap.size wr wx) := HBX.out.trans (hbx.mono HBX.out.size)
              have HB0X : Hid (Below W0.heap.size W0 wx) := HB0R.out.trans (HBX2.out.mono HB0R.out.size)
              have HYT := hide hyt
              have HYL2 : Hid (LiesIn (fun q => Q q ∨ (wr.heap.size ≤ q ∧ q < wx.heap.size)) wx Y) := LiesIn.keep hyl (fun _ _ _ => rfl) (fun b hq => hq.elim .inl (fun h => .inr ⟨by have := h.1; have := HBX.out.size; omega, h.2⟩))
              have hyb : yb < wx.heap.size := hyb2
              clear hbx hyb1 hyb2 hyt hyl HREG HS HC HSP
              by_cases hr0 : r.2 = 0
              rotate_left
              · have hrb2 : (r.2 == 0) = false := by simpa using hr0
                have hrn : (r.2 != 0) = true := by simpa using hr0
                have HRKB : Hid (R = ((0, []), (j : Int), r.2)) := by
                  obtain ⟨⟨h1, h2⟩, _⟩ := HRJ.out
                  rw [Hid, HRK.out, rowT_bad h1 (by rw [h2]; exact hr0) (fun i h hi => HZS.out i h hi), h2]
                clear hr0 c0 c1 c2 c3 c4
                have HX1 : Hid (wx.heap[w.heap.size + 1]? = some (.cells #[.int .i64 0, .slice none 0 0] 33 (0, 0))) := (HRES.out wx HB0X.out).1
                have HZR : Hid ((wx.setRow (w.heap.size + 1) #[.int .i64 0, .slice none 0 0]).heap[w.heap.size + 1]? = some (.cells #[.int .i64 0, .slice none 0 0] 33 (0, 0))) := setR_at HX1.out _
                have hlt1 : w.heap.size + 1 < wx.heap.size := (HRES.out wx HB0X.out).2.1
                have HEND : Hid (RUR Q R w (.returned (.tuple #[.agg #[.int .i64 0, .slice none 0 0], .int .i64 ((j : Int)), .int .i64 (r.2)])) (wx.setRow (w.heap.size + 1) #[.int .i64 0, .slice none 0 0])) := by
                  rw [Hid, HRKB.out]
                  exact rur_bad (setR_below (HRES.out wx HB0X.out).2.2 (by omega) _)
                go_wp2_with (refine wpList_store_row rfl 33 (.tmp 2) (.tmp 88) rfl (w.heap.size + 1) #[.int .i64 0, .slice none 0 0] rfl rfl 33 _ HX1.out Tryz.sizeR rfl (by kernel_rfl) ?_)
                have hz := HZR.out
                have z0 : (wx.setRow (w.heap.size + 1) #[.int .i64 0, .slice none 0 0]).cell? ⟨w.heap.size + 1, 0, none⟩ = some (.int .i64 0) := by unfold World.cell?; simp only [hz]; rfl
                have z1 : (wx.setRow (w.heap.size + 1) #[.int .i64 0, .slice none 0 0]).cell? ⟨w.heap.size + 1, 1, none⟩ = some (.slice none 0 0) := by unfold World.cell?; simp only [hz]; rfl
                exact bodyPost_ret (v := .tuple #[.agg #[.int .i64 0, .slice none 0 0], .int .i64 ((j : Int)), .int .i64 (r.2)]) (by simp [results, Tryz.results27, go_sem, z0, z1]) rfl HEND.out
              · have hrbx : wx.heap[w3.heap.size]? = some (.cells #[.int .i64 k, .slice A j C] 33 (0, 0)) := (HBX2.out.block _ hrbl).trans HRB.out
                have hrbw : w3.heap.size < wx.heap.size := by have := HBX2.out.size; omega
                have p1 : wx.cell? ⟨w3.heap.size, 1, none⟩ = some (.slice A j C) := by unfold World.cell?; simp only [hrbx]; rfl
                have HNO : Hid ((Value.slice A j C).ownBlock ≠ some w3.heap.size) := fun e => by have := (ownsRow_lt HG.out.1 e).1; omega
                have HOWN : Hid (∀ o, (wx.alloc o).ownsRow (w3.heap.size + 1) 42 5 (.slice A j C) j (flat L)) := fun o => by
                  have := (ownsRow_keep HG.out.1 (fun g hg => HBX2.out.block g (ownsRow_lt HG.out.1 hg).2)).alloc o
                  rwa [HLJ.out] at this
                have HK7 : Hid (∀ o w7, (wx.alloc o).grownBy w7 (Value.slice A j C).ownBlock → w7.heap[w3.heap.size]? = some (.cells #[.int .i64 k, .slice A j C] 33 (0, 0)) ∧ w7.cell? ⟨w3.heap.size, 1, none⟩ = some (.slice A j C) ∧ (∀ i, w7.frozen? ⟨w3.heap.size, i, none⟩ = false) ∧ w3.heap.size < w7.heap.size) := fun o w7 hg => by
                  have e : w7.heap[w3.heap.size]? = some (.cells #[.int .i64 k, .slice A j C] 33 (0, 0)) := (hg.block _ (by simp; omega) (fun e => HNO.out e.symm)).trans ((Below.heap_alloc _ _ _ hrbw).trans hrbx)
                  have := hg.size
                  refine ⟨e, by unfold World.cell?; simp only [e]; rfl, fun i => by simp [World.frozen?, e], ?_⟩
                  simp at this
                  omega
                have HR0 := hide hr0
                rw [hr0]
                clear hrbx hr0
                go_wp2_with (at_builtin; refine wpList_append_own_at _ rfl (.tmp 92) (.tmp 94) 31 rfl (w3.heap.size + 1) 42 i0 _ 5 64 Tryz.underlying31 HI0.out HI.out.1 HI.out.2.1 HI.out.2.2 rfl (by decide) _ j (flat L) rfl (HOWN.out _) ⟨wx.heap.size, 0, none⟩ 1 1 (words Y) rfl rfl (newsR wx _ _ _ _ _ _) (V.words_one _) (by simp [maxLen]; omega) (by omega) (by simp; omega) ?_; intro v' w7 hown' hgrow _ hat; obtain ⟨g', cap', rfl⟩ := ownsRow_succ hown'; obtain ⟨hx7, p7, f7, l7⟩ := HK7.out _ _ hgrow; have HX7 := hide hx7; clear hx7; have HGR7 := hide (And.intro hown' (And.intro hgrow hat)); clear hown' hgrow hat)
                have HUP8 : Hid (UpTo Q w3.heap.size k rs w3 (j + 1) (w7.setCell ⟨w3.heap.size, 1, none⟩ (.slice (some ⟨g', 0, none⟩) (j + 1) cap'))) := by
                  obtain ⟨hown', hgrow, hat⟩ := HGR7.out
                  obtain ⟨hG7, hB7⟩ := GLL.push (Y := Y) HG.out (fun b h => by have := HQ3.out b h; omega) (by omega) HBX2.out HYL2.out (by rw [HLJ.out]; exact hown') hgrow hat
                  have hx7 := HX7.out
                  obtain ⟨⟨hj1, hj2⟩, hj3⟩ := HRJ.out
                  refine ⟨some ⟨g', 0, none⟩, cap', L ++ [Y], by simp [World.setCell, Array.getElem?_modify, hx7], HT1.out.next HLJ.out (by rw [HYT.out HR0.out]; exact hj3), by simp [HLJ.out], GLL.set hG7 (by simp [World.setCell]) (fun b hb => setC_ne w7 hb _) (by omega) (fun h => by have := HQ3.out _ h; omega), fun i h hi => ?_, (HBR.out.trans (hB7.mono (by omega))).setCell (p := ⟨w3.heap.size, 1, none⟩) (Nat.le_refl _) _, by simp [World.setCell]; omega⟩
                  by_cases e : i = j
                  · subst e
                    rw [hj2]
                    exact HR0.out
                  · exact HZS.out i h (by omega)
                clear HX7 HGR7 p7 f7
                go_roundw
                case rel => exact ⟨j + 1, by go_num, by omega, HUP8⟩
                case measure => simp [intOf]; omega
        · obtain rfl : j = N := by omega
          have hC : j ≤ C ∧ (0 < j → ∃ g, A = some ⟨g, 0, none⟩ ∧ w3.heap.size + 1 ≤ g ∧ g < wr.heap.size ∧ Row wr g 0 L) := by
            rcases HG.out.1.2 with ⟨h, h0⟩ | ⟨g, cap, cur, h, hB, hgg, hnc, hm, hcs, _⟩
            · have := HLJ.out
              exact ⟨by omega, fun h => by omega⟩
            · simp only [Value.slice.injEq] at h
              obtain ⟨rfl, _, rfl⟩ := h
              have := HLJ.out
              exact ⟨by omega, fun _ => ⟨g, rfl, hB, (Array.getElem?_eq_some_iff.1 hgg).1, by
                have h := HG.out.1
                rw [HLJ.out] at h
                exact flat_row h⟩⟩
          have HRKG : Hid (R = ((k, rs.map Prod.fst), 0, 0)) := by
            rw [Hid, HRK.out]
            exact rowT_good (fun i h => HZS.out i h (by rw [HRL.out] at h; exact h))
          have HTL : Hid (V.ts L = rs.map Prod.fst) := by
            have := HT1.out
            unfold OutTo at this
            rw [Hid, this]
            exact List.take_of_length_le (by rw [List.length_map, HRL.out]; exact Nat.le_refl _)
          obtain ⟨hx1r, hlt1, hbwr⟩ := HRES.out wr HB0R.out
          have HX1R := hide hx1r
          have HZR : Hid ((wr.setRow (w.heap.size + 1) #[.int .i64 k, .slice A j C]).heap[w.heap.size + 1]? = some (.cells #[.int .i64 k, .slice A j C] 33 (0, 0))) := setR_at hx1r _
          have HEND : Hid (RUR Q R w (.returned (.tuple #[.agg #[.int .i64 k, .slice A j C], .int .i64 0, .int .i64 0])) (wr.setRow (w.heap.size + 1) #[.int .i64 k, .slice A j C])) := by
            rw [Hid, HRKG.out]
            refine ⟨V.of 0 0 ⟨#[]⟩ A C 0 L, by rw [V.l_of, HLJ.out]; rfl, ⟨by rw [V.l_of]; exact HTL.out, ?_⟩, setR_below hbwr (by omega) _⟩
            have hcj := hC.1
            have hll := HLJ.out
            have hjj : j ≤ 20 := by omega
            rw [V.l_of]
            refine .mk ⟨by decide, by decide, by decide, by decide, by show L.length ≤ C; omega, by omega⟩ (fun h0 => ?_) ?_
            · obtain ⟨gl, e, q1, q2, q3⟩ := hC.2 (by omega)
              exact ⟨gl, 0, e, .inr ⟨by omega, by rw [setR_size]; exact q2⟩, q3.same (fun o => World.cell?_of_block (setR_ne (b := gl) wr (by omega) _))⟩
            · intro x hx
              refine LiesIn.keep (HG.out.2 x hx) (fun b hq o' => World.cell?_of_block (setR_ne (b := b) wr (hq.elim (fun h => by have := hQ b h; omega) (fun h => by omega)) _)) (fun b hq => hq.elim .inl (fun h => .inr ⟨by omega, by rw [setR_size]; exact h.2.1⟩))
          have hrb0 := HRB.out
          have p0 : wr.cell? ⟨w3.heap.size, 0, none⟩ = some (.int .i64 k) := by unfold World.cell?; simp only [hrb0]; rfl
          have p1 : wr.cell? ⟨w3.heap.size, 1, none⟩ = some (.slice A j C) := by unfold World.cell?; simp only [hrb0]; rfl
          clear hC hx1r hrb0
          go_wp2_with (refine wpList_store_row rfl 33 (.tmp 2) (.tmp 97) rfl (w.heap.size + 1) #[.int .i64 k, .slice A j C] rfl rfl 33 _ HX1R.out Tryz.sizeR rfl (by kernel_rfl) ?_)
          have hz := HZR.out
          have z0 : (wr.setRow (w.heap.size + 1) #[.int .i64 k, .slice A j C]).cell? ⟨w.heap.size + 1, 0, none⟩ = some (.int .i64 k) := by unfold World.cell?; simp only [hz]; rfl
          have z1 : (wr.setRow (w.heap.size + 1) #[.int .i64 k, .slice A j C]).cell? ⟨w.heap.size + 1, 1, none⟩ = some (.slice A j C) := by unfold World.cell?; simp only [hz]; rfl
          exact bodyPost_ret (v := .tuple #[.agg #[.int .i64 k, .slice A j C], .int .i64 0, .int .i64 0]) (by simp [results, Tryz.results27, go_sem, z0, z1]) rfl HEND.out
end Go.Proofs.YtgldcchleoklcaaGreatDoor
