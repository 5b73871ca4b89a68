import Derived.Test.YtlpngpininkjnaaGreatDoorVEqZ

/- value.Order: it draws nothing. -/
namespace Go.Proofs.YtlpngpininkjnaaGreatDoor
open Go.RowKit
set_option linter.unusedVariables false

/-- below, and nothing drawn -/
structure BelD (B : Nat) (w w' : World) : Prop where
  below : Below B w w'
  drawn : w'.drawn = w.drawn
theorem BelD.refl (B : Nat) (w : World) : BelD B w w := ⟨Below.refl _ _, rfl⟩
theorem beld1 {B : Nat} {w wr : World} (h : BelD B w wr) (hB : B ≤ wr.heap.size) (o : Obj) : BelD B w (wr.alloc o) := ⟨bel1 h.below hB o, h.drawn⟩
theorem beld2 {B : Nat} {w wr : World} (h : BelD B w wr) (hB : B ≤ wr.heap.size) (o p : Obj) : BelD B w ((wr.alloc o).alloc p) := ⟨bel2 h.below hB o p, h.drawn⟩
theorem beldOn {B : Nat} {w w1 w2 : World} (h : BelD B w w1) (hB : B ≤ w1.heap.size) (k : BelD w1.heap.size w1 w2) : BelD B w w2 := ⟨belOn h.below hB k.below, k.drawn.trans h.drawn⟩

/-- what Order is asked, of a value x -/
def OrdOkD (x : V) : Prop := ∀ (y : V) (n₀ : Nat) (w : World), n₀ ≤ w.heap.size → Lies n₀ w x → Lies n₀ w y →
  Calls Tryz.prog 73 #[x.val, y.val] w fun e w' => e = .returned (.int .i64 (T.ord x.t y.t)) ∧ BelD w.heap.size w w'

set_option maxRecDepth 100000 in
set_option maxHeartbeats 1000000 in
theorem cmpf_someD (l m : List V) (ih : ∀ x ∈ l, OrdOkD x) (lb lo lc : Nat) (ma : Option Addr) (mc n₀ : Nat) (w : World) (hn : n₀ ≤ w.heap.size) (hl : l.length ≤ lc) (hlc : l.length ≤ 281474976710656) (hm : m.length ≤ mc) (hmc : m.length ≤ 281474976710656)
    (hlt : lb < n₀) (lr : Row w lb lo l) (ls : ∀ x ∈ l, Lies n₀ w x) (mr : 0 < m.length → ∃ b o, ma = some ⟨b, o, none⟩ ∧ b < n₀ ∧ Row w b o m) (ms : ∀ x ∈ m, Lies n₀ w x) :
    Calls Tryz.prog 86 #[.slice (some ⟨lb, lo, none⟩) l.length lc, .slice ma m.length mc, .func (.func 73) #[] #[]] w fun e w' =>
      e = .returned (.int .i64 (T.ords (V.ts l) (V.ts m))) ∧ BelD w.heap.size w w' := by
  have LR := hide lr
  have LS := hide ls
  have MR := hide mr
  have MS := hide ms
  have IH := hide ih
  clear lr ls mr ms ih
  go_enter Tryz.func86, Tryz.ntmps86
  go_wp2
  go_loopw [13] (fun i wr => ∃ k : Nat, i = .int .i64 k ∧ k ≤ l.length ∧ k ≤ m.length ∧ BelD w.heap.size w wr ∧ Hid (T.ords (V.ts l) (V.ts m) = T.ords (V.ts (l.drop k)) (V.ts (m.drop k)))) (fun i _ => l.length - (intOf i).toNat)
  case atStart => exact ⟨0, rfl, Nat.zero_le _, Nat.zero_le _, BelD.refl _ _, rfl⟩
  case round =>
    obtain ⟨k, rfl, hk, hkm, hb, HO⟩ := hrel
    by_cases h1 : k < l.length
    · by_cases h2 : k < m.length
      · obtain ⟨mb, mo, rfl, hmlt, mr⟩ := MR.out (by omega)
        obtain ⟨x0, x1, x2, x3, x4⟩ := (LR.out.below hb.below (by omega)) k h1
        obtain ⟨y0, y1, y2, y3, y4⟩ := (mr.below hb.below (by omega)) k h2
        have MR' := hide mr
        clear mr
        have hsz := hb.below.size
        have hA : lb < wr.heap.size := by omega
        have hB : mb < wr.heap.size := by omega
        have hA' : lb ≠ wr.heap.size := by omega
        have hB' : mb ≠ wr.heap.size := by omega
        have hx := IH.out l[k] (List.getElem_mem h1) m[k]
        rw [V.val_eq, V.val_eq] at hx
        have HX := hide hx
        clear hx
        go_wp2_with fail
        have hbb := beld2 hb hsz (Obj.cells #[.int .i64 l[k].k, .int .u64 l[k].n, .string l[k].s, .slice l[k].a l[k].l.length l[k].c, .int .i64 l[k].e] 30) (Obj.cells #[.int .i64 m[k].k, .int .u64 m[k].n, .string m[k].s, .slice m[k].a m[k].l.length m[k].c, .int .i64 m[k].e] 30)
        refine Calls.mono (HX.out n₀ _ ?_ ((LS.out _ (List.getElem_mem h1)).keep hbb.below hn) ((MS.out _ (List.getElem_mem h2)).keep hbb.below hn)) ?_
        · simp; omega
        · rintro e w1 ⟨rfl, hb1⟩
          have hbw := beldOn hbb (by simp; omega) hb1
          have hst := hide (ords_step h1 h2)
          clear hb1 hbb
          go_wp2
          · have hne : T.ord l[k].t m[k].t ≠ 0 := by rename_i h; simpa using h
            go_ret
            exact ⟨ret_int (by rw [HO.out, hst.out, lex, if_neg hne]), hbw⟩
          · have he : T.ord l[k].t m[k].t = 0 := by rename_i h; simpa using h
            go_roundw
            case rel => exact ⟨k + 1, by go_num, h1, h2, hbw, by rw [HO.out, hst.out, lex, if_pos he]; rfl⟩
            case measure => simp [intOf]; omega
      · obtain rfl : k = m.length := by omega
        obtain ⟨x0, x1, x2, x3, x4⟩ := (LR.out.below hb.below (by omega)) m.length h1
        have hsz := hb.below.size
        have hA : lb < wr.heap.size := by omega
        go_wp2
        go_ret
        refine ⟨ret_int ?_, beld1 hb hsz _⟩
        rw [HO.out, List.drop_eq_getElem_cons h1, List.drop_length, V.ts, V.ts, T.ords]
    · obtain rfl : k = l.length := by omega
      go_wp2
      · go_ret
        refine ⟨ret_int ?_, hb⟩
        rw [HO.out, List.drop_length, List.drop_eq_getElem_cons (by omega), V.ts, V.ts, T.ords]
      · go_ret
        refine ⟨ret_int ?_, hb⟩
        have : m.drop l.length = [] := List.drop_of_length_le (by omega)
        rw [HO.out, List.drop_length, this, V.ts, T.ords]

set_option maxRecDepth 100000 in
theorem cmpf_noneD (m : List V) (la : Option Addr) (lc : Nat) (ma : Option Addr) (mc : Nat) (w : World) (hm : m.length ≤ 281474976710656) :
    Calls Tryz.prog 86 #[.slice la 0 lc, .slice ma m.length mc, .func (.func 73) #[] #[]] w fun e w' =>
      e = .returned (.int .i64 (T.ords (V.ts []) (V.ts m))) ∧ BelD w.heap.size w w' := by
  go_enter Tryz.func86, Tryz.ntmps86
  go_wp2
  refine wp_loop_rounds 1 ?_
  rw [rounds_succ]
  by_cases h : 0 < m.length
  · go_wp2
    go_ret
    refine ⟨ret_int ?_, BelD.refl _ _⟩
    cases m with
    | nil => simp at h
    | cons x m => rw [V.ts, V.ts, T.ords]
  · obtain rfl : m = [] := List.eq_nil_of_length_eq_zero (by omega)
    go_wp2
    go_ret
    exact ⟨ret_int (by rw [V.ts, T.ords]), BelD.refl _ _⟩

set_option maxRecDepth 100000 in
set_option maxHeartbeats 1000000 in
theorem order_anyD : ∀ x, OrdOkD x := by
  refine V.ind ?_
  intro k n s a c e l ih y n₀ w hn hx hy
  obtain ⟨k', n', s', a', c', e', l', rfl⟩ := V.ex y
  case _ =>
    have hf : ∀ w1, BelD w.heap.size w w1 → Calls Tryz.prog 86 #[.slice a l.length c, .slice a' l'.length c', .func (.func 73) #[] #[]] w1 fun e w' =>
        e = .returned (.int .i64 (T.ords (V.ts l) (V.ts l'))) ∧ BelD w1.heap.size w1 w' := by
      intro w1 hb
      have hx1 := hx.keep hb.below hn
      have hy1 := hy.keep hb.below hn
      have hsz := hb.below.size
      have o1 := hx1.ok
      have o2 := hy1.ok
      by_cases h : 0 < l.length
      · obtain ⟨b, o, rfl, hlt, hr⟩ := hx1.row h
        exact cmpf_someD l l' ih b o c a' c' n₀ w1 (by omega) o1.l (by have := o1.c; omega) o2.l (by have := o2.c; omega) hlt hr hx1.sub hy1.row hy1.sub
      · obtain rfl : l = [] := List.eq_nil_of_length_eq_zero (by omega)
        exact cmpf_noneD l' a c a' c' w1 (by have := o2.l; have := o2.c; omega)
    have HF := hide hf
    clear hf ih
    rw [V.val_of, V.val_of]
    go_enter Tryz.func73, Tryz.ntmps73
    go_wp2_with (first
      | (go_at_call 83; refine (cmp_int _ _ _).mono ?_; rintro e w' ⟨rfl, rfl⟩)
      | (go_at_call 84; refine (cmp_u64 _ _ _).mono ?_; rintro e w' ⟨rfl, rfl⟩)
      | (go_at_call 85; refine (cmp_str _ _ _).mono ?_; rintro e w' ⟨rfl, rfl⟩)
      | (go_at_call 86; refine (HF.out _ (beld2 (BelD.refl _ _) (Nat.le_refl _) _ _)).mono ?_; rintro e w' ⟨rfl, hbw⟩; obtain ⟨hc, hfz⟩ := bcell hbw.below; have hz : w.heap.size + 1 < w'.heap.size := (by have := hbw.below.size; simp at this; omega)))
    all_goals
      go_ret
      refine ⟨ret_int ?_, ?_⟩
      · rw [V.t_of, V.t_of, T.of, T.of, T.ord_of]
        simp only [V.k_of, V.n_of, V.s_of, V.e_of, V.l_of, lex]
        simp_all
      · first | exact beld2 (BelD.refl _ _) (Nat.le_refl _) _ _ | exact beldOn (beld2 (BelD.refl _ _) (Nat.le_refl _) _ _) (by simp; omega) hbw
end Go.Proofs.YtlpngpininkjnaaGreatDoor
