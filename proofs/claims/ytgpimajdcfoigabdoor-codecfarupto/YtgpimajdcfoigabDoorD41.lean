import Derived.Test.YtgpimajdcfoigabDoorD19
import Derived.Test.YtgpimajdcfoigabDoorD21
import Derived.Shelf.SlSortCmp.NoneTotal

/- codec.hasKeyTwice. -/
namespace Go.Proofs.YtgpimajdcfoigabDoor
open Go.RowKit
set_option linter.unusedVariables false
set_option linter.unusedSimpArgs false
/-- keys that are gathered, none at first -/
structure Gatn (B i : Nat) (l ks : List V) (kv : Value) (wr : World) : Prop where
  size : B ≤ wr.heap.size
  row : wr.ownsRow B 25 5 kv ks.length (flat ks)
  len : 2 * ks.length ≤ i + 1
  ev : evens l = ks ++ evens (l.drop i)
  nl : ks = [] → kv = .slice none 0 0
theorem Gatn.below {B i : Nat} {l ks : List V} {kv : Value} {wr w' : World} (h : Gatn B i l ks kv wr) (hb : Below wr.heap.size wr w') : Gatn B i l ks kv w' :=
  ⟨Nat.le_trans h.size hb.size, ownsRow_keep h.row (fun g hg => hb.block g (ownsRow_lt h.row hg).2), h.len, h.ev, h.nl⟩
theorem Gatn.push {B i : Nat} {l ks : List V} {kv v' : Value} {wr w' : World} (h : Gatn B i l ks kv wr) (hi : i < l.length) (h1 : w'.ownsRow B 25 5 v' (ks.length + 1) (flat ks ++ words l[i])) (hg : wr.grownBy w' kv.ownBlock) : Gatn B (i + 2) l (ks ++ [l[i]]) v' w' ∧ ∀ w0, Below B w0 wr → Below B w0 w' := by
  refine ⟨⟨Nat.le_trans h.size hg.size, ?_, ?_, ?_, fun h => by simp at h⟩, fun w0 hw => hw.grown hg h.size (fun k hk => (ownsRow_lt h.row hk).1)⟩
  · rw [List.length_append, flat_append]
    simpa [flat] using h1
  · have := h.len
    simp only [List.length_append, List.length_cons, List.length_nil]
    omega
  · rw [h.ev, evens_drop l i hi]
    simp
set_option maxRecDepth 100000 in
set_option maxHeartbeats 4000000 in
theorem sort_nil (w : World) : Calls Tryd.prog 61 #[.slice none 0 0, .func (.func 62) #[] #[]] w fun e w' => e = .returned (.tuple #[]) ∧ Below w.heap.size w w' := by
  exact (AnyF.slices_SortFunc_none Tryd.sortV none 0 _ w).mono (fun e w' h => ⟨h.1, by rw [h.2]; exact Below.refl _ _⟩)
set_option maxRecDepth 100000 in
set_option maxHeartbeats 4000000 in
theorem twice_any (l : List V) (a : Option Addr) (c n₀ : Nat) (w : World) (hn : n₀ ≤ w.heap.size) (hlc : l.length ≤ c) (hl2 : l.length ≤ 4096) (hrow : 0 < l.length → ∃ b o, a = some ⟨b, o, none⟩ ∧ b < n₀ ∧ Row w b o l) (hsub : ∀ x ∈ l, Lies n₀ w x) :
    Calls Tryd.prog 58 #[.slice a l.length c] w fun e w' => e = .returned (.bool (twiceW (V.ts l))) ∧ Below w.heap.size w w' := by
  obtain ⟨i0, hi0, hzz⟩ := Option.map_eq_some_iff.1 Tryd.infoV
  simp only [Prod.mk.injEq] at hzz
  obtain ⟨hz0, hz1, hz2⟩ := hzz
  have HROWL := hide hrow
  have HSUB := hide hsub
  clear hrow hsub
  have HG0 : Hid (Gatn w.heap.size 0 l [] (.slice none 0 0) w) := ⟨Nat.le_refl _, ⟨rfl, .inl ⟨rfl, rfl⟩⟩, by simp, by simp, fun _ => rfl⟩
  go_enter Tryd.func58, Tryd.ntmps58
  go_wp2
  go_loopw [3, 4] (fun kv u wr => ∃ (ks : List V) (kv' : Value) (i : Nat), kv' = kv ∧ u = .int .i64 i ∧ i ≤ l.length + 1 ∧ Hid (Gatn w.heap.size i l ks kv' wr) ∧ Below w.heap.size w wr) (fun _ u _ => l.length + 2 - (intOf u).toNat)
  case atStart => exact ⟨[], _, 0, rfl, rfl, by omega, HG0, Below.refl _ _⟩
  case round =>
    obtain ⟨ks, kv, i, rfl, rfl, hi, HG, hb⟩ := hrel
    have hsz := hb.size
    by_cases hil : i < l.length
    · obtain ⟨b, o, rfl, hlt, hr⟩ := HROWL.out (by omega)
      obtain ⟨x0, x1, x2, x3, x4⟩ := (hr.below hb (by omega)) i hil
      have hbl : b < wr.heap.size := by omega
      have hbA := bel1 (Below.refl wr.heap.size wr) (Nat.le_refl _) (Obj.cells #[.int .i64 l[i].k, .int .u64 l[i].n, .string l[i].s, .slice l[i].a l[i].l.length l[i].c, .int .i64 l[i].e] 25)
      have HGA := hide (HG.out.below hbA)
      have HBA := hide (belOn hb (by omega) hbA)
      have HNEWS := hide (news5 wr l[i])
      have hkl := HG.out.len
      have HM1 : Hid (ks.length + 1 ≤ maxLen) := (by show ks.length + 1 ≤ maxLen; unfold maxLen; omega)
      have HM2 : Hid ((ks.length + 1) * 64 ≤ 140737488355328) := (by show (ks.length + 1) * 64 ≤ 140737488355328; omega)
      clear hbA hr
      go_wp2_with (at_builtin; refine wpList_append_own_at _ rfl (.tmp 12) (.tmp 17) 23 rfl w.heap.size 25 i0 _ 5 64 Tryd.underlying23 hi0 hz0 hz1 hz2 rfl (by decide) _ ks.length (flat ks) rfl HGA.out.row ⟨wr.heap.size, 0, none⟩ 1 1 (words l[i]) rfl rfl HNEWS.out (V.words_one _) HM1.out HM2.out HGA.out.size ?_; intro v' w3 hown' hgrow _ hat)
      have hP := HGA.out.push hil hown' hgrow
      have HP := hide hP.1
      have HBP := hide (hP.2 _ HBA.out)
      clear hP hown' hgrow hat
      go_roundw
      case rel => exact ⟨_, v', i + 2, rfl, by go_num, by omega, HP, HBP.out⟩
      case measure => simp [intOf]; omega
    · have hev : evens l = ks := by
        have := HG.out.ev
        rw [List.drop_of_length_le (by omega)] at this
        simpa [evens] using this
      have HTW : Hid (twiceW (V.ts l) = !nodupT (V.ts ks)) := by
        show twiceW (V.ts l) = _
        unfold twiceW
        rw [V.ts_map, evens_map _ _ l (Nat.le_refl _), hev, V.ts_map]
      obtain ⟨w3, rfl⟩ : ∃ w3, w3 = wr := ⟨_, rfl⟩
      by_cases hk0 : ks = []
      · subst hk0
        have hkn := HG.out.nl rfl
        subst hkn
        have HSN := hide (sort_nil w3)
        have HTW2 : Hid (twiceW (V.ts l) = false) := by show twiceW (V.ts l) = false; rw [HTW.out]; rfl
        clear HG0 HG hev
        go_wp2_with fail
        refine HSN.out.mono ?_
        rintro e4 w4 ⟨rfl, hb4⟩
        have hb5 : Below w.heap.size w w4 := belOn hb (by omega) hb4
        go_wp2
        go_loopw [5] (fun u wr => u = .int .i64 1 ∧ wr = w4) (fun _ _ => 0)
        case atStart => exact ⟨rfl, rfl⟩
        case round =>
          obtain ⟨rfl, rfl⟩ := hrel
          go_wp2
          go_ret
          exact ⟨by rw [HTW2.out]; rfl, hb5⟩
      · obtain ⟨g, C, rfl, hg1, hg2, hkr, M, hkb, hM, hkC⟩ : ∃ g C, kv = .slice (some ⟨g, 0, none⟩) ks.length C ∧ w.heap.size ≤ g ∧ g < w3.heap.size ∧ Row w3 g 0 ks ∧ ∃ M, Blk w3 g 25 M ∧ ks.length * 5 ≤ M ∧ ks.length ≤ C := by
          have hr := HG.out.row
          rcases hr.2 with ⟨_, h⟩ | ⟨g, cap, cur, e, h1, h2, h3, _, h5, _⟩
          · exact absurd (List.eq_nil_of_length_eq_zero h) hk0
          · subst e
            exact ⟨g, cap, rfl, h1, (Array.getElem?_eq_some_iff.1 h2).1, flat_row hr, cap * 5, ⟨cur, h2, h5⟩, by omega, h3⟩
        have hkl := HG.out.len
        have hks : ∀ x ∈ ks, LiesIn (fun b => b < w3.heap.size ∧ b ≠ g) w3 x := fun x hx => by
          rw [← hev] at hx
          have hxl := HSUB.out x (evens_mem _ l (Nat.le_refl _) x hx)
          exact LiesIn.keep hxl (fun b hb' o => hb.cell (p := ⟨b, o, none⟩) (by show b < w.heap.size; have : b < n₀ := hb'; omega)) (fun b hb' => by have : b < n₀ := hb'; exact ⟨by omega, by omega⟩)
        have q := sortv_any ks g C M w3 hkr hkb hM hks (by omega)
        have HQ := hide q
        have HEV := hide hev
        clear q hkr hkb hks hev HG0 HG
        go_wp2_with fail
        refine HQ.out.mono ?_
        clear HQ
        rintro e4 w4 ⟨rfl, ks', hperm, hsort, hrow, hbut⟩
        have hlk : ks'.length = ks.length := hperm.length_eq
        have hs4 : w3.heap.size ≤ w4.heap.size := hbut.2.2.2.1
        have hbw4 : Below w.heap.size w w4 := ⟨hbut.1.trans hb.os, hbut.2.1.trans hb.tape, hbut.2.2.1.trans hb.output, by omega, fun k hk => (hbut.2.2.2.2 k (by omega) (by omega)).trans (hb.block k hk)⟩
        have HND : Hid (nodupT (V.ts ks) = true ↔ ∀ i (h : i + 1 < ks'.length), eqT ks'[i].t ks'[i + 1].t = false) := by
          have e2 : nodupT (V.ts ks) = nodupT (V.ts ks') := by
            rw [V.ts_map, V.ts_map]
            exact nodupT_perm (hperm.symm.map _)
          show nodupT (V.ts ks) = true ↔ _
          rw [e2, nodupT_sorted (V.ts ks') (fun i j hi hj hij => by
            rw [ts_get' ks' i (by rw [V.ts_length] at hi; exact hi), ts_get' ks' j (by rw [V.ts_length] at hj; exact hj)]
            exact hsort i j (by rw [V.ts_length] at hi; exact hi) (by rw [V.ts_length] at hj; exact hj) hij)]
          constructor
          · intro h i hi
            have := h i (by rw [V.ts_length]; exact hi)
            rw [ts_get' ks' i (by omega), ts_get' ks' (i + 1) hi] at this
            exact this
          · intro h i hi
            rw [V.ts_length] at hi
            rw [ts_get' ks' i (by omega), ts_get' ks' (i + 1) hi]
            exact h i hi
        have HLK : Hid (∀ x ∈ ks', Lies n₀ w x) := fun x hx => by
          have := hperm.mem_iff.1 hx
          rw [← HEV.out] at this
          exact HSUB.out x (evens_mem _ l (Nat.le_refl _) x this)
        have HROW := hide hrow
        have hkl' : ks.length ≤ ks'.length := by omega
        have hkl'' : ks'.length ≤ ks.length := by omega
        have hgl4 : g < w4.heap.size := by omega
        clear hperm hsort hrow hbut hlk HEV
        go_wp2_with fail
        go_loopw [5] (fun u wr => ∃ (j : Nat), u = .int .i64 ((j : Int) + 1) ∧ (j ≤ ks.length) ∧ Below w4.heap.size w4 wr ∧ Hid (∀ q (h : q + 1 < ks'.length), q < j → eqT ks'[q].t ks'[q + 1].t = false)) (fun u _ => ks.length + 1 - (intOf u).toNat)
        case atStart => exact ⟨0, rfl, Nat.zero_le _, Below.refl _ _, fun q h h' => by omega⟩
        case round =>
          obtain ⟨j, rfl, hj, hb5, HJ⟩ := hrel
          have hs5 := hb5.size
          have hbw5 : Below w.heap.size w wr := belOn hbw4 (by omega) hb5
          by_cases hjl : j + 1 < ks.length
          · obtain ⟨p0, p1, p2, p3, p4⟩ := (HROW.out.below hb5 hgl4) j (by omega)
            obtain ⟨q0, q1, q2, q3, q4⟩ := (HROW.out.below hb5 hgl4) (j + 1) (by omega)
            rw [Nat.zero_add] at p0 p1 p2 p3 p4 q0 q1 q2 q3 q4
            have hgl5 : g < wr.heap.size := by omega
            have hjk : j < ks.length := by omega
            have hjw : IntKind.i64.wrap (j : Int) = (j : Int) := by
              rw [IntKind.wrap_i64]; omega
            have hjz : (j : Int) < (ks.length : Int) := by omega
            have hjz1 : (j : Int) + 1 < (ks.length : Int) := by omega
            have hjt : ((j : Int) + 1).toNat = j + 1 := by omega
            have hmx : Tryd.prog.follows .mixedOrders = true := by kernel_rfl
            have q := equal_any ks'[j] ks'[j + 1] n₀ wr.drew (by show _ ≤ wr.heap.size; omega) ((HLK.out _ (List.getElem_mem (by omega))).keep hbw5.drew hn) ((HLK.out _ (List.getElem_mem (by omega))).keep hbw5.drew hn)
            rw [V.val_eq, V.val_eq] at q
            have HQ := hide q
            have hj' : j < ks'.length := by omega
            have hj1' : j + 1 < ks'.length := by omega
            clear q
            go_wp2_with fail
            go_region_with (go_at_call 8; refine HQ.out.mono ?_; rintro e6 w6 ⟨rfl, hb6⟩; have hbn : Below w4.heap.size w4 w6 := hb5.drew.trans (hb6.mono (by show _ ≤ wr.heap.size; omega)))
            all_goals
              clear HQ
              clear p0 p1 p2 p3 p4 q0 q1 q2 q3 q4
              obtain ⟨r, hr⟩ : ∃ r, eqT ks'[j].t ks'[j + 1].t = r := ⟨_, rfl⟩
              have HR := hide hr
              rw [hr]
              clear hr
              have hbwn : Below w.heap.size w w6 := belOn hbw4 (by omega) hbn
              cases r
              · go_wp2
                go_roundw
                case rel =>
                  refine ⟨j + 1, by go_num, by omega, hbn, fun q h h' => ?_⟩
                  by_cases e : q = j
                  · subst e
                    exact HR.out
                  · exact HJ.out q h (by omega)
                case measure => simp [intOf]; omega
              · have hnd : nodupT (V.ts ks) = false := by
                  cases hh : nodupT (V.ts ks) with
                  | false => rfl
                  | true =>
                    have := HND.out.1 hh j hj1'
                    rw [HR.out] at this
                    cases this
                have HN := hide hnd
                clear hnd
                go_wp2
                go_ret
                exact ⟨by rw [HTW.out, HN.out]; rfl, hbwn⟩
          · have hnd : nodupT (V.ts ks) = true := HND.out.2 (fun i h => HJ.out i h (by omega))
            have HN := hide hnd
            clear hnd
            go_wp2
            go_ret
            exact ⟨by rw [HTW.out, HN.out]; rfl, hbw5⟩
end Go.Proofs.YtgpimajdcfoigabDoor
