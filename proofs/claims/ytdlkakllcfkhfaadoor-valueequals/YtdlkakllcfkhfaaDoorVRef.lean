/- longshoreref02.Order. -/
import Derived.Test.YtdlkakllcfkhfaaDoorVOrd
import Derived.Deep.RegionWith
namespace Go.Proofs.YtdlkakllcfkhfaaDoor
open Go.RowKit
set_option linter.unusedVariables false
set_option linter.unusedSimpArgs false

theorem sign_any (b : Bool) (w : World) : Calls Tryd.prog 45 #[.bool b] w fun e w' => e = .returned (.int .i64 (if b then -1 else 1)) ∧ w = w' := by
  cases b
  · go_enter Tryd.func45, Tryd.ntmps45
    go_wp2
    go_ret
    exact ⟨rfl, rfl⟩
  · go_enter Tryd.func45, Tryd.ntmps45
    go_wp2
    go_ret
    exact ⟨rfl, rfl⟩
theorem cmpZ_self (a : Int) : cmpZ a a = 0 := by unfold cmpZ; rw [if_neg (by omega), if_neg (by omega)]
theorem cmpB_self {a b : List UInt8} (h : a = b) : cmpB a b = 0 := (cmpB_zero a b).2 h
theorem cmpB_lt {a b : List UInt8} (h : Op.bytesLess a b = true) : -1 = cmpB a b := by rw [cmpB_less] at h; simp at h; omega
theorem cmpB_gt {a b : List UInt8} (h : Op.bytesLess a b = false) (hne : ¬ a = b) : 1 = cmpB a b := by
  have hz := cmpB_zero a b
  have hs := sgn_cmpB a b
  rw [cmpB_less] at h
  unfold Sgn at hs
  have h1 : cmpB a b ≠ 0 := fun e => hne (hz.1 e)
  simp at h
  omega
/-- two lists, one of them at its end -/
theorem ords_end {l m : List V} {j : Nat} (h1 : j ≤ l.length) (h2 : j ≤ m.length) (h : j = l.length ∨ j = m.length) :
    T.ords (V.ts (l.drop j)) (V.ts (m.drop j)) = cmpZ l.length m.length := by
  rcases h with rfl | rfl
  · rw [List.drop_length, V.ts]
    by_cases e : l.length = m.length
    · rw [show m.drop l.length = [] from List.drop_of_length_le (by omega), V.ts, T.ords, e, cmpZ_self]
    · rw [List.drop_eq_getElem_cons (by omega), V.ts, T.ords]
      unfold cmpZ
      rw [if_pos (by omega)]
  · rw [List.drop_length, V.ts]
    by_cases e : l.length = m.length
    · rw [show l.drop m.length = [] from List.drop_of_length_le (by omega), V.ts, T.ords, e, cmpZ_self]
    · rw [List.drop_eq_getElem_cons (by omega), V.ts, T.ords]
      unfold cmpZ
      rw [if_neg (by omega), if_pos (by omega)]

/-- what longshoreref02.Order is asked -/
def ROrdOk (x : V) : Prop := ∀ (y : V) (n₀ : Nat) (w : World), n₀ ≤ w.heap.size → Lies n₀ w x → Lies n₀ w y →
  Calls Tryd.prog 22 #[x.val, y.val] w fun e w' => e = .returned (.int .i64 (T.ord x.t y.t)) ∧ Below w.heap.size w w'

set_option maxRecDepth 100000 in
set_option maxHeartbeats 2000000 in
theorem rorder_any : ∀ x, ROrdOk x := by
  refine V.ind ?_
  intro k n s a c e l ih y n₀ w hn hx hy
  obtain ⟨k', n', s', a', c', e', m, rfl⟩ := V.ex y
  have HX := hide hx
  have HY := hide hy
  have IH := hide ih
  have o1 := hx.ok.c
  have o2 := hy.ok.c
  have hord : T.ord (V.of k n s a c e l).t (V.of k' n' s' a' c' e' m).t = lex (cmpZ k k') (lex (cmpZ n n') (lex (cmpB s.toList s'.toList) (lex (T.ords (V.ts l) (V.ts m)) (cmpZ e e')))) := by
    rw [V.t_of, V.t_of, T.of, T.of, T.ord_of, V.l_of]
    rfl
  rw [hord]
  clear hx hy ih hord
  rw [V.val_of, V.val_of]
  by_cases hk : k = k'
  · subst hk
    by_cases hnn : n = n'
    · subst hnn
      by_cases hss : s.toList = s'.toList
      · have hsb : (s.toList == s'.toList) = true := by simpa using hss
        go_enter Tryd.func22, Tryd.ntmps22
        go_wp2
        obtain ⟨W0, hW0⟩ : ∃ W0, (w.alloc (Obj.cells #[.int .i64 k, .int .u64 n, .string s, .slice a l.length c, .int .i64 e] 25)).alloc (Obj.cells #[.int .i64 k, .int .u64 n, .string s', .slice a' m.length c', .int .i64 e'] 25) = W0 := ⟨_, rfl⟩
        have hs0 : W0.heap.size = w.heap.size + 2 := by rw [← hW0]; simp
        have hb0 : Below w.heap.size w W0 := by rw [← hW0]; exact bel2 (Below.refl _ _) (Nat.le_refl _) _ _
        have HBX : Hid (∀ wr, Below W0.heap.size W0 wr → (wr.cell? ⟨w.heap.size, 3, none⟩ = some (.slice a l.length c) ∧ wr.cell? ⟨w.heap.size + 1, 3, none⟩ = some (.slice a' m.length c')) ∧ wr.cell? ⟨w.heap.size, 4, none⟩ = some (.int .i64 e) ∧ wr.cell? ⟨w.heap.size + 1, 4, none⟩ = some (.int .i64 e')) := fun wr h => by
          obtain ⟨q1, q2, _, _⟩ := box_cells (show Below _ _ wr by rw [hW0]; exact h)
          exact ⟨⟨q1 3, q2 3⟩, q1 4, q2 4⟩
        rw [hW0]
        clear hW0
        go_loopw [5] (fun i wr => ∃ j : Nat, i = .int .i64 j ∧ j ≤ l.length ∧ j ≤ m.length ∧ Below W0.heap.size W0 wr ∧ Hid (T.ords (V.ts l) (V.ts m) = T.ords (V.ts (l.drop j)) (V.ts (m.drop j)))) (fun i _ => l.length - (intOf i).toNat)
        case atStart => exact ⟨0, rfl, Nat.zero_le _, Nat.zero_le _, Below.refl _ _, rfl⟩
        case round =>
          obtain ⟨j, rfl, hj, hjm, hb, HO⟩ := hrel
          have hsz := hb.size
          obtain ⟨⟨k3, m3⟩, k4, m4⟩ := HBX.out wr hb
          have hbw : Below w.heap.size w wr := belOn hb0 (by omega) hb
          by_cases hend : j = l.length ∨ j = m.length
          · have HE := hide (HO.out.trans (ords_end hj hjm hend))
            have hcond : (j < l.length ∧ ¬ j < m.length) ∨ ¬ j < l.length := by omega
            have fin : ∀ z : Int, z = lex (cmpZ l.length m.length) (cmpZ e e') → z = lex (cmpZ k k) (lex (cmpZ n n) (lex (cmpB s.toList s'.toList) (lex (T.ords (V.ts l) (V.ts m)) (cmpZ e e')))) := fun z hz => by
              rw [cmpZ_self, cmpZ_self, cmpB_self hss, HE.out]
              exact hz
            have FIN := hide fin
            clear fin
            rcases hcond with ⟨q1, q2⟩ | q1
            all_goals
              go_wp2
              all_goals
                go_ret
                refine ⟨ret_int (FIN.out _ ?_), hbw⟩
                unfold lex cmpZ
                repeat' split
                all_goals first | rfl | omega | (simp_all; done) | (simp_all; omega)
          · have h1 : j < l.length := by omega
            have h2 : j < m.length := by omega
            obtain ⟨b, o, rfl, hlt, hr⟩ := HX.out.row (by omega)
            obtain ⟨b', o', rfl, hlt', hr'⟩ := HY.out.row (by omega)
            obtain ⟨x0, x1, x2, x3, x4⟩ := (hr.below hbw (by omega)) j h1
            obtain ⟨y0, y1, y2, y3, y4⟩ := (hr'.below hbw (by omega)) j h2
            have hA : b < wr.heap.size := by omega
            have hB : b' < wr.heap.size := by omega
            have hx := IH.out l[j] (List.getElem_mem h1) m[j] n₀ wr.drew (by show _ ≤ wr.heap.size; omega) ((HX.out.sub _ (List.getElem_mem h1)).keep hbw.drew hn) ((HY.out.sub _ (List.getElem_mem h2)).keep hbw.drew hn)
            rw [V.val_eq, V.val_eq] at hx
            have HH := hide hx
            have hmx : Tryd.prog.follows .mixedOrders = true := by kernel_rfl
            have HST := hide (ords_step h1 h2)
            clear hx hr hr' hend
            go_wp2
            go_region_with (go_at_call 22; refine HH.out.mono ?_; rintro e1 w1 ⟨rfl, hb1⟩; have hbn : Below W0.heap.size W0 w1 := hb.drew.trans (hb1.mono (by show _ ≤ wr.heap.size; omega)); have hbwn : Below w.heap.size w w1 := hbw.drew.trans (hb1.mono (by show _ ≤ wr.heap.size; omega)))
            all_goals
              generalize hr0 : T.ord l[j].t m[j].t = r
              rw [hr0] at HST
              clear hr0
              go_wp2
              · have hne : r ≠ 0 := by rename_i h; simpa using h
                go_ret
                refine ⟨ret_int ?_, hbwn⟩
                rw [cmpZ_self, cmpZ_self, cmpB_self hss, HO.out, HST.out]
                unfold lex
                simp [hne]
              · have he : r = 0 := by rename_i h; simpa using h
                go_roundw
                case rel => exact ⟨j + 1, by go_num, h1, h2, hbn, by rw [HO.out, HST.out, lex, if_pos he]; rfl⟩
                case measure => simp [intOf]; omega
      · have hsb : (s.toList == s'.toList) = false := by simpa using hss
        go_enter Tryd.func22, Tryd.ntmps22
        go_wp2
        all_goals
          go_ret
          refine ⟨ret_int ?_, bel2 (Below.refl _ _) (Nat.le_refl _) _ _⟩
          have h0 : cmpB s.toList s'.toList ≠ 0 := fun h => hss ((cmpB_zero _ _).1 h)
          rw [cmpZ_self, cmpZ_self]
          unfold lex
          rw [if_pos rfl, if_pos rfl, if_neg h0]
          first | exact cmpB_lt ‹_› | exact cmpB_gt ‹_› hss
    · have hnb : ((n : Int) == n') = false := by simpa using hnn
      go_enter Tryd.func22, Tryd.ntmps22
      go_wp2
      all_goals
        go_ret
        refine ⟨ret_int ?_, bel2 (Below.refl _ _) (Nat.le_refl _) _ _⟩
        have h0 : cmpZ n n' ≠ 0 := by unfold cmpZ; split <;> (try split) <;> omega
        rw [cmpZ_self]
        unfold lex
        rw [if_pos rfl, if_neg h0]
        unfold cmpZ
        split <;> (try split) <;> omega
  · have hkb : ((k : Int) == k') = false := by simpa using hk
    go_enter Tryd.func22, Tryd.ntmps22
    go_wp2
    all_goals
      go_ret
      refine ⟨ret_int ?_, bel2 (Below.refl _ _) (Nat.le_refl _) _ _⟩
      have h0 : cmpZ k k' ≠ 0 := by unfold cmpZ; split <;> (try split) <;> omega
      unfold lex
      rw [if_neg h0]
      unfold cmpZ
      split <;> (try split) <;> omega
end Go.Proofs.YtdlkakllcfkhfaaDoor
