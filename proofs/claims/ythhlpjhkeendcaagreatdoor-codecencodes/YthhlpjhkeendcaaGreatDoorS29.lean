/- VMapS, VIsMap -/
import Derived.Test.YthhlpjhkeendcaaGreatDoorS28
import Derived.Test.YthhlpjhkeendcaaGreatDoorS07
import Derived.Test.YthhlpjhkeendcaaGreatDoorS17
import Derived.Test.YthhlpjhkeendcaaGreatDoorS18
import Derived.Deep.RegionHeldLaw
import Derived.Deep.RegionLaw
import Derived.Maps.AppendAt
namespace Go.Proofs.YthhlpjhkeendcaaGreatDoor
open Go.RowKit
set_option linter.unusedVariables false
set_option linter.unusedSimpArgs false
def evens {α : Type} : List α → List α
  | a :: _ :: r => a :: evens r
  | [a] => [a]
  | [] => []
theorem evens_drop {α : Type} (l : List α) (i : Nat) (h : i < l.length) : evens (l.drop i) = l[i] :: evens (l.drop (i + 2)) := by
  rw [List.drop_eq_getElem_cons h]
  by_cases h2 : i + 1 < l.length
  · rw [List.drop_eq_getElem_cons h2, evens]
  · have e1 : l.drop (i + 1) = [] := List.drop_of_length_le (by omega)
    have e2 : l.drop (i + 2) = [] := List.drop_of_length_le (by omega)
    rw [e1, e2, evens, evens]
theorem evens_map {α β : Type} (f : α → β) : ∀ (n : Nat) (l : List α), l.length ≤ n → evens (l.map f) = (evens l).map f
  | _, [], _ => rfl
  | _, [_], _ => rfl
  | 0, _ :: _ :: _, h => by simp at h
  | n + 1, a :: b :: r, h => by
    simp only [List.map_cons, evens]
    rw [evens_map f n r (by simp at h; omega)]
theorem evens_mem {α : Type} : ∀ (n : Nat) (l : List α), l.length ≤ n → ∀ x ∈ evens l, x ∈ l
  | _, [], _, x, h => by simp [evens] at h
  | _, [a], _, x, h => by simpa [evens] using h
  | 0, _ :: _ :: _, hn, x, h => by simp at hn
  | n + 1, a :: b :: r, hn, x, h => by
    simp only [evens, List.mem_cons] at h
    rcases h with rfl | h
    · simp
    · have := evens_mem n r (by simp at hn; omega) x h
      simp [this]
def nodupT : List T → Bool
  | [] => true
  | x :: r => r.all (fun y => !eqT x y) && nodupT r
theorem nodupT_iff (l : List T) : nodupT l = true ↔ l.Pairwise (fun a b => eqT a b = false) := by
  induction l with
  | nil => simp [nodupT]
  | cons x r ih => simp [nodupT, ih, List.pairwise_cons]
def mapT (L : List T) : Bool := decide (L.length % 2 = 0) && (decide (L.length / 2 ≤ 1024) && nodupT (evens L))
theorem eqT_symm' (x y : T) : eqT y x = eqT x y := by
  unfold eqT
  rw [neg_ord x y, Bool.eq_iff_iff]
  simp only [decide_eq_true_eq]
  omega
theorem eqT_false (x y : T) : eqT x y = false ↔ T.ord x y ≠ 0 := by unfold eqT; simp
theorem nodupT_perm {l m : List T} (h : l.Perm m) : nodupT l = nodupT m := by
  rw [Bool.eq_iff_iff, nodupT_iff, nodupT_iff]
  exact h.pairwise_iff (fun {a b} hab => by rw [eqT_symm']; exact hab)
theorem nodupT_sorted (l : List T) (hs : ∀ i j (hi : i < l.length) (hj : j < l.length), i < j → 0 ≤ T.ord l[j] l[i]) : nodupT l = true ↔ ∀ i (h : i + 1 < l.length), eqT l[i] l[i + 1] = false := by
  rw [nodupT_iff, List.pairwise_iff_getElem]
  constructor
  · intro h i hi
    exact h i (i + 1) (by omega) hi (by omega)
  · intro h i j hi hj hij
    by_cases e : j = i + 1
    · subst e
      exact h i hj
    · rw [eqT_false]
      obtain ⟨k, rfl⟩ : ∃ k, j = k + 1 := ⟨j - 1, by omega⟩
      have h1 := hs i k hi (by omega) (by omega)
      have h2 := hs k (k + 1) (by omega) hj (by omega)
      have h3 := (eqT_false _ _).1 (h k hj)
      have t := tri_ord l[i] l[k] l[k + 1]
      rw [neg_ord] at h1 h2
      unfold Tri at t
      omega
structure Gath (B i : Nat) (l ks : List V) (kv : Value) (wr : World) : Prop where
  size : B ≤ wr.heap.size
  row : wr.ownsRow B 25 5 kv ks.length (flat ks)
  blk : ∃ g, kv.ownBlock = some g
  len : 2 * ks.length ≤ i + 1
  ev : evens l = ks ++ evens (l.drop i)
theorem Gath.below {B i : Nat} {l ks : List V} {kv : Value} {wr w' : World} (h : Gath B i l ks kv wr) (hb : Below wr.heap.size wr w') : Gath B i l ks kv w' :=
  ⟨Nat.le_trans h.size hb.size, ownsRow_keep h.row (fun g hg => hb.block g (ownsRow_lt h.row hg).2), h.blk, h.len, h.ev⟩
theorem Gath.push {B i : Nat} {l ks : List V} {kv v' : Value} {wr w' : World} (h : Gath B i l ks kv wr) (hi : i < l.length) (h1 : w'.ownsRow B 25 5 v' (ks.length + 1) (flat ks ++ words l[i])) (hg : wr.grownBy w' kv.ownBlock) : Gath B (i + 2) l (ks ++ [l[i]]) v' w' ∧ ∀ w0, Below B w0 wr → Below B w0 w' := by
  refine ⟨⟨Nat.le_trans h.size hg.size, ?_, ?_, ?_, ?_⟩, fun w0 hw => hw.grown hg h.size (fun k hk => (ownsRow_lt h.row hk).1)⟩
  · rw [List.length_append, flat_append]
    simpa [flat] using h1
  · rcases h1.2 with ⟨_, h0⟩ | ⟨g, cap, cur, rfl, _⟩
    · omega
    · exact ⟨g, rfl⟩
  · have := h.len
    simp only [List.length_append, List.length_cons, List.length_nil]
    omega
  · rw [h.ev, evens_drop l i hi]
    simp
theorem ts_get' (l : List V) (j : Nat) (h : j < l.length) : (V.ts l)[j]'(by rw [V.ts_length]; exact h) = l[j].t := by
  simp [V.ts_map]
set_option maxRecDepth 100000 in
set_option maxHeartbeats 4000000 in
theorem ismap_any (x : V) (n₀ : Nat) (w : World) (hn : n₀ ≤ w.heap.size) (hx : Lies n₀ w x) :
    Calls Tryz.prog 64 #[x.val] w fun e w' => e = .returned (.bool (mapT (V.ts x.l))) ∧ Below w.heap.size w w' := by
  obtain ⟨k, n, s, a, c, e, l, rfl⟩ := V.ex x
  rw [V.l_of, V.val_of]
  have HX := hide hx
  have hll := hx.ok.c
  have hlc := hx.ok.l
  clear hx
  obtain ⟨i0, hi0, hzz⟩ := Option.map_eq_some_iff.1 Tryz.infoV
  simp only [Prod.mk.injEq] at hzz
  obtain ⟨hz0, hz1, hz2⟩ := hzz
  have hlen : (V.ts l).length = l.length := V.ts_length l
  have HMT : Hid (mapT (V.ts l) = (decide (l.length % 2 = 0) && (decide (l.length / 2 ≤ 1024) && nodupT (evens (V.ts l))))) := by
    show mapT (V.ts l) = _
    unfold mapT
    rw [hlen]
  clear hlen
  obtain ⟨W0, hW0⟩ : ∃ W0, w.alloc (Obj.cells #[.int .i64 k, .int .u64 n, .string s, .slice a l.length c, .int .i64 e] 25) = W0 := ⟨_, rfl⟩
  have hs0 : W0.heap.size = w.heap.size + 1 := by rw [← hW0]; simp
  have hb0 : Below w.heap.size w W0 := by rw [← hW0]; exact bel1 (Below.refl _ _) (Nat.le_refl _) _
  have xx : BoxV W0 w.heap.size (.of k n s a c e l) := by
    rw [← hW0]
    unfold BoxV
    rw [V.k_of, V.n_of, V.s_of, V.a_of, V.l_of, V.c_of, V.e_of]
    exact World.alloc_heap_new _ _
  have HW0 := hide hW0
  clear hW0
  by_cases hodd : l.length % 2 = 0
  · by_cases hbig : l.length / 2 ≤ 1024
    · have hmk := run_makeV 0 (l.length / 2) (Nat.zero_le _) (by omega)
      rw [show ((l.length / 2 : Nat) : Int) = (l.length : Int) / 2 by omega, show ((0 : Nat) : Int) = 0 from rfl] at hmk
      go_enter Tryz.func64, Tryz.ntmps64
      go_wp2_with fail
      rw [HW0.out]
      clear HW0 hmk
      obtain ⟨W1, hW1⟩ : ∃ W1, W0.alloc (Obj.cells (madeCells zeroV (l.length / 2 * 5)) 25) = W1 := ⟨_, rfl⟩
      have hs1 : W1.heap.size = W0.heap.size + 1 := by rw [← hW1]; simp
      have hb1 : Below W0.heap.size W0 W1 := by rw [← hW1]; exact bel1 (Below.refl _ _) (Nat.le_refl _) _
      have hk1 : Blk W1 W0.heap.size 25 (l.length / 2 * 5) := by rw [← hW1]; exact Blk.made _ _ _ _
      have HG0 : Hid (Gath W0.heap.size 0 l [] (.slice (some ⟨w.heap.size + 1, 0, none⟩) 0 (l.length / 2)) W1) := by
        rw [← hs0]
        obtain ⟨cs, c1, c2⟩ := hk1
        exact ⟨by omega, ⟨rfl, .inr ⟨W0.heap.size, l.length / 2, cs, rfl, Nat.le_refl _, c1, Nat.zero_le _, by unfold maxLen; omega, c2, by simp [flat]⟩⟩, ⟨_, rfl⟩, by simp, by simp⟩
      rw [hW1]
      clear hW1 hk1
      go_loopw [3, 4] (fun kv u wr => ∃ (ks : List V) (kv' : Value) (i : Nat), kv' = kv ∧ u = .int .i64 i ∧ i ≤ l.length + 1 ∧ Hid (Gath W0.heap.size i l ks kv' wr) ∧ Below W0.heap.size W0 wr) (fun _ u _ => l.length + 2 - (intOf u).toNat)
      case atStart => exact ⟨[], _, 0, rfl, rfl, by omega, HG0, hb1⟩
      case round =>
        obtain ⟨ks, kv, i, rfl, rfl, hi, HG, hb⟩ := hrel
        have hsz := hb.size
        have hbw : Below w.heap.size w wr := belOn hb0 (by omega) hb
        obtain ⟨m0, m1, m2, m3, m4⟩ := (xx.below hb (by omega)).cells
        rw [V.a_of, V.c_of, V.l_of] at m3
        clear m0 m1 m2 m4
        by_cases hil : i < l.length
        · obtain ⟨b, o, rfl, hlt, hr⟩ := HX.out.row (by omega)
          obtain ⟨x0, x1, x2, x3, x4⟩ := (hr.below hbw (by omega)) i hil
          have hbl : b < wr.heap.size := by omega
          have hbA := bel1 (Below.refl wr.heap.size wr) (Nat.le_refl _) (Obj.cells #[.int .i64 l[i].k, .int .u64 l[i].n, .string l[i].s, .slice l[i].a l[i].l.length l[i].c, .int .i64 l[i].e] 25)
          have HGA := hide (HG.out.below hbA)
          have HBA := hide (belOn hb (by omega) hbA)
          have HNEWS := hide (news5 wr l[i])
          have hkl := HG.out.len
          have HM1 : Hid (ks.length + 1 ≤ maxLen) := (by show ks.length + 1 ≤ maxLen; unfold maxLen; omega)
          have HM2 : Hid ((ks.length + 1) * 64 ≤ 140737488355328) := (by show (ks.length + 1) * 64 ≤ 140737488355328; omega)
          clear hbA hr
          go_wp2_with (at_builtin; refine wpList_append_own_at _ rfl (.tmp 30) (.tmp 36) 23 rfl W0.heap.size 25 i0 _ 5 64 Tryz.underlying23 hi0 hz0 hz1 hz2 rfl (by decide) _ ks.length (flat ks) rfl HGA.out.row ⟨wr.heap.size, 0, none⟩ 1 1 (words l[i]) rfl rfl HNEWS.out (V.words_one _) HM1.out HM2.out HGA.out.size ?_; intro v' w3 hown' hgrow _ hat)
          have hP := HGA.out.push hil hown' hgrow
          have HP := hide hP.1
          have HBP := hide (hP.2 _ HBA.out)
          clear hP hown' hgrow hat
          go_roundw
          case rel => exact ⟨_, v', i + 2, rfl, by go_num, by omega, HP, HBP.out⟩
          case measure => simp [intOf]; omega
        · have hev : evens l = ks := by
            have := HG.out.ev
            rw [List.drop_of_length_le (by omega)] at this
            simpa [evens] using this
          obtain ⟨w3, rfl⟩ : ∃ w3, w3 = wr := ⟨_, rfl⟩
          obtain ⟨g, C, rfl, hg1, hg2, hkr, M, hkb, hM, hkC⟩ : ∃ g C, kv = .slice (some ⟨g, 0, none⟩) ks.length C ∧ W0.heap.size ≤ g ∧ g < w3.heap.size ∧ Row w3 g 0 ks ∧ ∃ M, Blk w3 g 25 M ∧ ks.length * 5 ≤ M ∧ ks.length ≤ C := by
            have hr := HG.out.row
            obtain ⟨g', hg'⟩ := HG.out.blk
            rcases hr.2 with ⟨h, _⟩ | ⟨g, cap, cur, e, h1, h2, h3, _, h5, _⟩
            · rw [h] at hg'; cases hg'
            · subst e
              exact ⟨g, cap, rfl, h1, (Array.getElem?_eq_some_iff.1 h2).1, flat_row hr, cap * 5, ⟨cur, h2, h5⟩, by omega, h3⟩
          have hkl := HG.out.len
          have hks : ∀ x ∈ ks, LiesIn (fun b => b < w3.heap.size ∧ b ≠ g) w3 x := fun x hx => by
            rw [← hev] at hx
            have hxl := HX.out.sub x (evens_mem _ l (Nat.le_refl _) x hx)
            exact LiesIn.keep hxl (fun b hb' o => hbw.cell (p := ⟨b, o, none⟩) (by show b < w.heap.size; have : b < n₀ := hb'; omega)) (fun b hb' => by have : b < n₀ := hb'; exact ⟨by omega, by omega⟩)
          have q := sortv_any ks g C M w3 hkr hkb hM hks (by omega)
          have HQ := hide q
          have HEV := hide hev
          clear q hkr hkb hks hev HG0 HG
          go_wp2_with fail
          refine HQ.out.mono ?_
          clear HQ
          rintro e4 w4 ⟨rfl, ks', hperm, hsort, hrow, hbut⟩
          have hlk : ks'.length = ks.length := hperm.length_eq
          have hs4 : w3.heap.size ≤ w4.heap.size := hbut.2.2.2.1
          have hb34 : Below W0.heap.size W0 w4 := ⟨hbut.1.trans hb.os, hbut.2.1.trans hb.tape, hbut.2.2.1.trans hb.output, by omega, fun k hk => (hbut.2.2.2.2 k (by omega) (by omega)).trans (hb.block k hk)⟩
          have hbw4 : Below w.heap.size w w4 := belOn hb0 (by omega) hb34
          have HND : Hid (nodupT (evens (V.ts l)) = true ↔ ∀ i (h : i + 1 < ks'.length), eqT ks'[i].t ks'[i + 1].t = false) := by
            have e1 : evens (V.ts l) = V.ts ks := by rw [V.ts_map, evens_map _ _ l (Nat.le_refl _), HEV.out, V.ts_map]
            have e2 : nodupT (V.ts ks) = nodupT (V.ts ks') := by
              rw [V.ts_map, V.ts_map]
              exact nodupT_perm (hperm.symm.map _)
            show nodupT (evens (V.ts l)) = true ↔ _
            rw [e1, e2, nodupT_sorted (V.ts ks') (fun i j hi hj hij => by
              rw [ts_get' ks' i (by rw [V.ts_length] at hi; exact hi), ts_get' ks' j (by rw [V.ts_length] at hj; exact hj)]
              exact hsort i j (by rw [V.ts_length] at hi; exact hi) (by rw [V.ts_length] at hj; exact hj) hij)]
            constructor
            · intro h i hi
              have := h i (by rw [V.ts_length]; exact hi)
              rw [ts_get' ks' i (by omega), ts_get' ks' (i + 1) hi] at this
              exact this
            · intro h i hi
              rw [V.ts_length] at hi
              rw [ts_get' ks' i (by omega), ts_get' ks' (i + 1) hi]
              exact h i hi
          have HLK : Hid (∀ x ∈ ks', Lies n₀ w x) := fun x hx => by
            have := hperm.mem_iff.1 hx
            rw [← HEV.out] at this
            exact HX.out.sub x (evens_mem _ l (Nat.le_refl _) x this)
          have HROW := hide hrow
          have hkl' : ks.length ≤ ks'.length := by omega
          have hkl'' : ks'.length ≤ ks.length := by omega
          have hgl4 : g < w4.heap.size := by omega
          clear hperm hsort hrow hbut hlk HEV
          go_wp2_with fail
          go_loopw [5] (fun u wr => ∃ (j : Nat), u = .int .i64 ((j : Int) + 1) ∧ (j ≤ ks.length) ∧ Below w4.heap.size w4 wr ∧ Hid (∀ q (h : q + 1 < ks'.length), q < j → eqT ks'[q].t ks'[q + 1].t = false)) (fun u _ => ks.length + 1 - (intOf u).toNat)
          case atStart => exact ⟨0, rfl, Nat.zero_le _, Below.refl _ _, fun q h h' => by omega⟩
          case round =>
            obtain ⟨j, rfl, hj, hb5, HJ⟩ := hrel
            have hs5 := hb5.size
            have hbw5 : Below w.heap.size w wr := belOn hbw4 (by omega) hb5
            by_cases hjl : j + 1 < ks.length
            · obtain ⟨p0, p1, p2, p3, p4⟩ := (HROW.out.below hb5 hgl4) j (by omega)
              obtain ⟨q0, q1, q2, q3, q4⟩ := (HROW.out.below hb5 hgl4) (j + 1) (by omega)
              rw [Nat.zero_add] at p0 p1 p2 p3 p4 q0 q1 q2 q3 q4
              have hgl5 : g < wr.heap.size := by omega
              have hjk : j < ks.length := by omega
              have hjw : IntKind.i64.wrap (j : Int) = (j : Int) := by
                rw [IntKind.wrap_i64]; omega
              have hjz : (j : Int) < (ks.length : Int) := by omega
              have hjz1 : (j : Int) + 1 < (ks.length : Int) := by omega
              have hjt : ((j : Int) + 1).toNat = j + 1 := by omega
              have hmx : Tryz.prog.follows .mixedOrders = true := by kernel_rfl
              have q := equal_any ks'[j] ks'[j + 1] n₀ wr.drew (by show _ ≤ wr.heap.size; omega) ((HLK.out _ (List.getElem_mem (by omega))).keep hbw5.drew hn) ((HLK.out _ (List.getElem_mem (by omega))).keep hbw5.drew hn)
              rw [V.val_eq, V.val_eq] at q
              have HQ := hide q
              have hj' : j < ks'.length := by omega
              have hj1' : j + 1 < ks'.length := by omega
              clear q
              go_wp2_with fail
              go_region_with (go_at_call 88; refine HQ.out.mono ?_; rintro e6 w6 ⟨rfl, hb6⟩; have hbn : Below w4.heap.size w4 w6 := hb5.drew.trans (hb6.mono (by show _ ≤ wr.heap.size; omega)))
              all_goals
                clear HQ
                clear p0 p1 p2 p3 p4 q0 q1 q2 q3 q4
                obtain ⟨r, hr⟩ : ∃ r, eqT ks'[j].t ks'[j + 1].t = r := ⟨_, rfl⟩
                have HR := hide hr
                rw [hr]
                clear hr
                have hbwn : Below w.heap.size w w6 := belOn hbw4 (by omega) hbn
                cases r
                · go_wp2
                  go_roundw
                  case rel =>
                    refine ⟨j + 1, by go_num, by omega, hbn, fun q h h' => ?_⟩
                    by_cases e : q = j
                    · subst e
                      exact HR.out
                    · exact HJ.out q h (by omega)
                  case measure => simp [intOf]; omega
                · have hnd : nodupT (evens (V.ts l)) = false := by
                    cases hh : nodupT (evens (V.ts l)) with
                    | false => rfl
                    | true =>
                      have := HND.out.1 hh j hj1'
                      rw [HR.out] at this
                      cases this
                  have HN := hide hnd
                  clear hnd
                  go_wp2
                  go_ret
                  exact ⟨by rw [HMT.out, HN.out]; simp, hbwn⟩
            · have hnd : nodupT (evens (V.ts l)) = true := HND.out.2 (fun i h => HJ.out i h (by omega))
              have HN := hide hnd
              clear hnd
              go_wp2
              go_ret
              exact ⟨by rw [HMT.out, HN.out]; simp [hodd, hbig], hbw5⟩
    · have hbb : ((l.length : Int) / 2 ≤ 1024) = False := by simp; omega
      have hbr : (decide (l.length / 2 ≤ 1024)) = false := by simpa using hbig
      go_enter Tryz.func64, Tryz.ntmps64
      go_wp2
      go_ret
      rw [HW0.out]
      exact ⟨by rw [HMT.out, hbr]; simp, hb0⟩
  · have hrr : (decide (l.length % 2 = 0)) = false := by simpa using hodd
    go_enter Tryz.func64, Tryz.ntmps64
    go_wp2
    go_ret
    rw [HW0.out]
    exact ⟨by rw [HMT.out, hrr]; simp, hb0⟩
end Go.Proofs.YthhlpjhkeendcaaGreatDoor
