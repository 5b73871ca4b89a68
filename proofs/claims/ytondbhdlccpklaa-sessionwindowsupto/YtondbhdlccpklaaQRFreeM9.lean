import Derived.Test.YtondbhdlccpklaaQRRemM9

/- Stage 13: the document's without, way, Forget. -/
namespace Go.Proofs.Ytondbhdlccpklaa
open Go.RowKit Go.Maps
set_option linter.unusedVariables false
set_option linter.unusedSimpArgs false

set_option maxRecDepth 100000 in
set_option maxHeartbeats 2000000 in
theorem without_any (a : Option Addr) (c : Nat) (l : List Pd) (h : Int) (w : World) (hr : RdP w a l) (hl : l.length ≤ 4294967296) :
    Calls Try.prog 70 #[.slice a l.length c, .int .i64 h] w fun e w' => ∃ v, e = .returned v ∧ OwnP w' w.heap.size v (l.filter fun p => p.2.1 != h) ∧ Below w.heap.size w w' := by
  have HR := hide hr
  obtain ⟨n, hn⟩ : ∃ n, n = l.length := ⟨_, rfl⟩
  rw [← hn] at hl ⊢
  have HN := hide hn
  obtain ⟨i0, hi0, hz0, hz1, hz2⟩ := info_parts Try.infoPd
  clear hr hn
  go_enter Try.func70, Try.ntmps70
  go_wp2
  go_loopw [5, 6] (fun v i W => ∃ q : Nat, i = .int .i64 q ∧ q ≤ n ∧ OwnP W w.heap.size v ((l.take q).filter fun p => p.2.1 != h) ∧ Below w.heap.size w W) (fun _ i _ => n - (intOf i).toNat)
  case atStart => exact ⟨0, rfl, Nat.zero_le _, ⟨rfl, .inl ⟨rfl, rfl⟩⟩, Below.refl _ _⟩
  case round =>
    obtain ⟨q, rfl, hq, ho, hb⟩ := hrel
    have HO := hide ho
    have HB := hide hb
    have hsz := hb.size
    by_cases hqn : q < n
    · have hqL : q < l.length := by have := HN.out; omega
      obtain ⟨b, eb, hg1, p1, p2, p3⟩ := HR.out q hqL
      subst eb
      rw [← hb.cell (p := ⟨b, q * 3, none⟩) hg1] at p1
      rw [← hb.cell (p := ⟨b, q * 3 + 1, none⟩) hg1] at p2
      rw [← hb.cell (p := ⟨b, q * 3 + 2, none⟩) hg1] at p3
      have hgw : b < wr.heap.size := by omega
      have HT := hide (take_snoc hqL)
      obtain ⟨p, hp⟩ : ∃ p, p = l[q] := ⟨_, rfl⟩
      rw [← hp] at HT p1 p2 p3
      have hlen : Hid (((l.take q).filter fun p => p.2.1 != h).length ≤ 4294967296) := Nat.le_trans (List.length_filter_le _ _) (by rw [List.length_take]; omega)
      have hqb : (q : Int) ≤ 4294967296 := by omega
      clear ho hb hp
      by_cases hx : p.2.1 = h
      · have HF : Hid (((l.take (q + 1)).filter fun p => p.2.1 != h) = (l.take q).filter fun p => p.2.1 != h) := by
          show _ = _
          rw [HT.out, List.filter_append, List.filter_cons_of_neg (by simp [hx])]
          simp
        have hxb : (p.2.1 == h) = true := by simp [hx]
        go_wp2
        go_roundw
        case rel => exact ⟨q + 1, by go_num, by omega, by rw [HF.out]; exact HO.out, HB.out⟩
        case measure => simp [intOf]; omega
      · have HF : Hid (((l.take (q + 1)).filter fun p => p.2.1 != h) = ((l.take q).filter fun p => p.2.1 != h) ++ [p]) := by
          show _ = _
          rw [HT.out, List.filter_append, List.filter_cons_of_pos (by simp [hx])]
          simp
        have hxb : (p.2.1 == h) = false := by simp [hx]
        go_wp2_with (at_builtin; refine wpList_append_own_at _ rfl _ _ 72 rfl w.heap.size 75 i0 (pdV pd0) 3 32 Try.underlying72 hi0 hz0 hz1 hz2 rfl (by decide) _ _ _ rfl (HO.out.alloc _) ⟨wr.heap.size, 0, none⟩ 1 1 (pdL p) rfl rfl (cell_pd_new _ _ _) (pd_one p) (by have := hlen.out; unfold maxLen; omega) (by have := hlen.out; omega) (by simp; omega) ?_; intro v' w3 hown' hgrow hnil hloc)
        go_roundw
        case rel =>
          refine ⟨q + 1, by go_num, by omega, ?_, ?_⟩
          · rw [HF.out]
            unfold OwnP
            rw [flatP_snoc]
            simpa using hown'
          · exact (bel1 HB.out (by omega) _).grown hgrow (by simp; omega) (fun x hx => (HO.out.lt x hx).1)
        case measure => simp [intOf]; omega
    · obtain rfl : q = n := by omega
      have HF : Hid (((l.take q).filter fun p => p.2.1 != h) = l.filter fun p => p.2.1 != h) := by
        show _ = _
        rw [List.take_of_length_le (by have := HN.out; omega)]
      rw [HF.out] at HO
      clear ho hb
      obtain ⟨a', c', rfl⟩ := own_slice HO.out
      go_wp2
      go_ret
      exact ⟨_, rfl, HO.out, HB.out⟩
section
variable (g : Nat) (s : Sn) (vh vr vs va : Value) (hs : List Int) (rs : List (Int × Int)) (S C : List Pd) (w : World)
set_option maxRecDepth 100000 in
theorem rway_any (b : Bool) (hS : RS w g s vh vr vs va hs rs S C) :
    Calls Try.prog 68 #[.pointer (some ⟨g, 0, none⟩), .bool b] w fun e w' => e = .returned (if b then vs else va) ∧ w' = w := by
  have c15 := hS.rb.c15
  have c16 := hS.rb.c16
  have hlg := hS.rb.lt
  obtain ⟨a1, k1, rfl, _⟩ := hS.os.rd
  obtain ⟨a2, k2, rfl, _⟩ := hS.oc.rd
  clear hS
  cases b
  all_goals
    go_enter Try.func68, Try.ntmps68
    go_wp2
    go_ret
    exact ⟨rfl, rfl⟩
theorem RS.wayP {w : World} {g : Nat} {s : Sn} {vh vr vs va : Value} {hs : List Int} {rs : List (Int × Int)} {S C : List Pd} (h : RS w g s vh vr vs va hs rs S C) (b : Bool) : OwnP w (g + 1) (if b then vs else va) (if b then S else C) := by
  cases b
  · exact h.oc
  · exact h.os
set_option maxRecDepth 100000 in
theorem rforget_no_s (id : Int) (hS : RS w g s vh vr vs va hs rs S C) (hl : S.length ≤ 4294967296) (hn : hasN S id = false) :
    Calls Try.prog 43 #[.pointer (some ⟨g, 0, none⟩), .bool true, .int .i64 id] w fun e w' => e = .returned (.int .i64 131) ∧ w' = w := by
  have HW := hide (rway_any g s vh vr vs va hs rs S C w true hS)
  have ho := hS.wayP true
  have HN := hide (numberedV w ho id hl)
  have hn' : hasN (if true then S else C) id = false := hn
  rw [hn'] at HN
  obtain ⟨a, c, e, hr⟩ := ho.rd
  rw [e] at HW HN
  obtain ⟨n, hn0⟩ : ∃ n, (if true then S else C).length = n := ⟨_, rfl⟩
  rw [hn0] at HW HN
  clear hS ho hn hn' e hr hn0
  go_enter Try.func43, Try.ntmps43
  go_wp2_with fail
  refine HW.out.mono ?_
  rintro e1 w1 ⟨rfl, rfl⟩
  go_wp2_with fail
  refine HN.out.mono ?_
  rintro e1 w1 ⟨rfl, rfl⟩
  go_wp2
  go_ret
  exact ⟨rfl, rfl⟩
set_option maxRecDepth 100000 in
theorem rforget_no_c (id : Int) (hS : RS w g s vh vr vs va hs rs S C) (hl : C.length ≤ 4294967296) (hn : hasN C id = false) :
    Calls Try.prog 43 #[.pointer (some ⟨g, 0, none⟩), .bool false, .int .i64 id] w fun e w' => e = .returned (.int .i64 131) ∧ w' = w := by
  have HW := hide (rway_any g s vh vr vs va hs rs S C w false hS)
  have ho := hS.wayP false
  have HN := hide (numberedV w ho id hl)
  have hn' : hasN (if false then S else C) id = false := hn
  rw [hn'] at HN
  obtain ⟨a, c, e, hr⟩ := ho.rd
  rw [e] at HW HN
  obtain ⟨n, hn0⟩ : ∃ n, (if false then S else C).length = n := ⟨_, rfl⟩
  rw [hn0] at HW HN
  clear hS ho hn hn' e hr hn0
  go_enter Try.func43, Try.ntmps43
  go_wp2_with fail
  refine HW.out.mono ?_
  rintro e1 w1 ⟨rfl, rfl⟩
  go_wp2_with fail
  refine HN.out.mono ?_
  rintro e1 w1 ⟨rfl, rfl⟩
  go_wp2
  go_ret
  exact ⟨rfl, rfl⟩
set_option maxRecDepth 100000 in
set_option maxHeartbeats 2000000 in
theorem rforget_s (id : Int) (hS : RS w g s vh vr vs va hs rs S C) (hl : S.length ≤ 4294967296) (hn : hasN S id = true) :
    Calls Try.prog 43 #[.pointer (some ⟨g, 0, none⟩), .bool true, .int .i64 id] w fun e w' => ∃ v', e = .returned (.int .i64 0) ∧ RS w' g s vh vr v' va hs rs (S.filter fun p => p.1 != id) C ∧ Kp (RSb g vh vr vs va) w w' ∧ ∀ k, RSb g vh vr v' va k → RSb g vh vr vs va k ∨ w.heap.size ≤ k := by
  have HS := hide hS
  have hlg := hS.rb.lt
  have HW := hide (rway_any g s vh vr vs va hs rs S C w true hS)
  have ho := hS.wayP true
  have HNu := hide (numberedV w ho id hl)
  have hn' : hasN (if true then S else C) id = true := hn
  rw [hn'] at HNu
  obtain ⟨l, el⟩ : ∃ l, l = S := ⟨_, rfl⟩
  obtain ⟨a, c, e, hr, _⟩ := ho.rd
  rw [e] at HW HNu
  have hr' : RdP w a S := hr
  obtain ⟨n, hn0⟩ : ∃ n, n = S.length := ⟨_, rfl⟩
  have e2 : (if true then S else C).length = n := hn0.symm
  rw [e2] at HW HNu
  rw [← el] at hr' hl hn0
  have HL := hide el
  have HN := hide hn0
  have HR := hide hr'
  rw [← hn0] at hl
  obtain ⟨i0, hi0, hz0, hz1, hz2⟩ := info_parts Try.infoPd
  clear hS ho hn hn' e hr hr' e2 hn0 el
  go_enter Try.func43, Try.ntmps43
  go_wp2_with fail
  refine HW.out.mono ?_
  rintro e1 w1 ⟨rfl, hw1⟩
  have hw2 := hw1.symm
  subst hw2
  clear hw1
  go_wp2_with fail
  refine HNu.out.mono ?_
  rintro e1 w1 ⟨rfl, hw1⟩
  have hw2 := hw1.symm
  subst hw2
  clear hw1
  go_wp2
  go_loopw [9, 10] (fun v i W => ∃ q : Nat, i = .int .i64 q ∧ q ≤ n ∧ OwnP W w.heap.size v ((l.take q).filter fun p => p.1 != id) ∧ Below w.heap.size w W) (fun _ i _ => n - (intOf i).toNat)
  case atStart => exact ⟨0, rfl, Nat.zero_le _, ⟨rfl, .inl ⟨rfl, rfl⟩⟩, Below.refl _ _⟩
  case round =>
    obtain ⟨q, rfl, hq, ho, hb⟩ := hrel
    have HO := hide ho
    have HB := hide hb
    have hsz := hb.size
    by_cases hqn : q < n
    · have hqL : q < l.length := by have := HN.out; omega
      obtain ⟨b, eb, hg1, p1, p2, p3⟩ := HR.out q hqL
      subst eb
      rw [← hb.cell (p := ⟨b, q * 3, none⟩) hg1] at p1
      rw [← hb.cell (p := ⟨b, q * 3 + 1, none⟩) hg1] at p2
      rw [← hb.cell (p := ⟨b, q * 3 + 2, none⟩) hg1] at p3
      have hgw : b < wr.heap.size := by omega
      have HT := hide (take_snoc hqL)
      obtain ⟨p, hp⟩ : ∃ p, p = l[q] := ⟨_, rfl⟩
      rw [← hp] at HT p1 p2 p3
      have hlen : Hid (((l.take q).filter fun p => p.1 != id).length ≤ 4294967296) := Nat.le_trans (List.length_filter_le _ _) (by rw [List.length_take]; omega)
      have hqb : (q : Int) ≤ 4294967296 := by omega
      clear ho hb hp
      by_cases hx : p.1 = id
      · have HF : Hid (((l.take (q + 1)).filter fun p => p.1 != id) = (l.take q).filter fun p => p.1 != id) := by
          show _ = _
          rw [HT.out, List.filter_append, List.filter_cons_of_neg (by simp [hx])]
          simp
        have hxb : (p.1 == id) = true := by simp [hx]
        go_wp2
        go_roundw
        case rel => exact ⟨q + 1, by go_num, by omega, by rw [HF.out]; exact HO.out, HB.out⟩
        case measure => simp [intOf]; omega
      · have HF : Hid (((l.take (q + 1)).filter fun p => p.1 != id) = ((l.take q).filter fun p => p.1 != id) ++ [p]) := by
          show _ = _
          rw [HT.out, List.filter_append, List.filter_cons_of_pos (by simp [hx])]
          simp
        have hxb : (p.1 == id) = false := by simp [hx]
        go_wp2_with (at_builtin; refine wpList_append_own_at _ rfl _ _ 72 rfl w.heap.size 75 i0 (pdV pd0) 3 32 Try.underlying72 hi0 hz0 hz1 hz2 rfl (by decide) _ _ _ rfl (HO.out.alloc _) ⟨wr.heap.size, 0, none⟩ 1 1 (pdL p) rfl rfl (cell_pd_new _ _ _) (pd_one p) (by have := hlen.out; unfold maxLen; omega) (by have := hlen.out; omega) (by simp; omega) ?_; intro v' w3 hown' hgrow hnil hloc)
        go_roundw
        case rel =>
          refine ⟨q + 1, by go_num, by omega, ?_, ?_⟩
          · rw [HF.out]
            unfold OwnP
            rw [flatP_snoc]
            simpa using hown'
          · exact (bel1 HB.out (by omega) _).grown hgrow (by simp; omega) (fun x hx => (HO.out.lt x hx).1)
        case measure => simp [intOf]; omega
    · obtain rfl : q = n := by omega
      have HF : Hid (((l.take q).filter fun p => p.1 != id) = l.filter fun p => p.1 != id) := by
        show _ = _
        rw [List.take_of_length_le (by have := HN.out; omega)]
      rw [HF.out] at HO
      clear ho hb
      have rb2 := HS.out.rb.at (HB.out.block g hlg)
      have hc2 := rb2.c15
      have hf2 := rb2.frozen 15
      have hl2 := rb2.lt
      obtain ⟨a', c', rfl⟩ := own_slice HO.out
      clear rb2
      go_wp2
      go_ret
      have eL := HL.out
      subst eL
      have := HS.out.put_vs _ HB.out (Nat.le_refl _) HO.out
      exact ⟨_, rfl, this⟩
set_option maxRecDepth 100000 in
set_option maxHeartbeats 2000000 in
theorem rforget_c (id : Int) (hS : RS w g s vh vr vs va hs rs S C) (hl : C.length ≤ 4294967296) (hn : hasN C id = true) :
    Calls Try.prog 43 #[.pointer (some ⟨g, 0, none⟩), .bool false, .int .i64 id] w fun e w' => ∃ v', e = .returned (.int .i64 0) ∧ RS w' g s vh vr vs v' hs rs S (C.filter fun p => p.1 != id) ∧ Kp (RSb g vh vr vs va) w w' ∧ ∀ k, RSb g vh vr vs v' k → RSb g vh vr vs va k ∨ w.heap.size ≤ k := by
  have HS := hide hS
  have hlg := hS.rb.lt
  have HW := hide (rway_any g s vh vr vs va hs rs S C w false hS)
  have ho := hS.wayP false
  have HNu := hide (numberedV w ho id hl)
  have hn' : hasN (if false then S else C) id = true := hn
  rw [hn'] at HNu
  obtain ⟨l, el⟩ : ∃ l, l = C := ⟨_, rfl⟩
  obtain ⟨a, c, e, hr, _⟩ := ho.rd
  rw [e] at HW HNu
  have hr' : RdP w a C := hr
  obtain ⟨n, hn0⟩ : ∃ n, n = C.length := ⟨_, rfl⟩
  have e2 : (if false then S else C).length = n := hn0.symm
  rw [e2] at HW HNu
  rw [← el] at hr' hl hn0
  have HL := hide el
  have HN := hide hn0
  have HR := hide hr'
  rw [← hn0] at hl
  obtain ⟨i0, hi0, hz0, hz1, hz2⟩ := info_parts Try.infoPd
  clear hS ho hn hn' e hr hr' e2 hn0 el
  go_enter Try.func43, Try.ntmps43
  go_wp2_with fail
  refine HW.out.mono ?_
  rintro e1 w1 ⟨rfl, hw1⟩
  have hw2 := hw1.symm
  subst hw2
  clear hw1
  go_wp2_with fail
  refine HNu.out.mono ?_
  rintro e1 w1 ⟨rfl, hw1⟩
  have hw2 := hw1.symm
  subst hw2
  clear hw1
  go_wp2
  go_loopw [9, 10] (fun v i W => ∃ q : Nat, i = .int .i64 q ∧ q ≤ n ∧ OwnP W w.heap.size v ((l.take q).filter fun p => p.1 != id) ∧ Below w.heap.size w W) (fun _ i _ => n - (intOf i).toNat)
  case atStart => exact ⟨0, rfl, Nat.zero_le _, ⟨rfl, .inl ⟨rfl, rfl⟩⟩, Below.refl _ _⟩
  case round =>
    obtain ⟨q, rfl, hq, ho, hb⟩ := hrel
    have HO := hide ho
    have HB := hide hb
    have hsz := hb.size
    by_cases hqn : q < n
    · have hqL : q < l.length := by have := HN.out; omega
      obtain ⟨b, eb, hg1, p1, p2, p3⟩ := HR.out q hqL
      subst eb
      rw [← hb.cell (p := ⟨b, q * 3, none⟩) hg1] at p1
      rw [← hb.cell (p := ⟨b, q * 3 + 1, none⟩) hg1] at p2
      rw [← hb.cell (p := ⟨b, q * 3 + 2, none⟩) hg1] at p3
      have hgw : b < wr.heap.size := by omega
      have HT := hide (take_snoc hqL)
      obtain ⟨p, hp⟩ : ∃ p, p = l[q] := ⟨_, rfl⟩
      rw [← hp] at HT p1 p2 p3
      have hlen : Hid (((l.take q).filter fun p => p.1 != id).length ≤ 4294967296) := Nat.le_trans (List.length_filter_le _ _) (by rw [List.length_take]; omega)
      have hqb : (q : Int) ≤ 4294967296 := by omega
      clear ho hb hp
      by_cases hx : p.1 = id
      · have HF : Hid (((l.take (q + 1)).filter fun p => p.1 != id) = (l.take q).filter fun p => p.1 != id) := by
          show _ = _
          rw [HT.out, List.filter_append, List.filter_cons_of_neg (by simp [hx])]
          simp
        have hxb : (p.1 == id) = true := by simp [hx]
        go_wp2
        go_roundw
        case rel => exact ⟨q + 1, by go_num, by omega, by rw [HF.out]; exact HO.out, HB.out⟩
        case measure => simp [intOf]; omega
      · have HF : Hid (((l.take (q + 1)).filter fun p => p.1 != id) = ((l.take q).filter fun p => p.1 != id) ++ [p]) := by
          show _ = _
          rw [HT.out, List.filter_append, List.filter_cons_of_pos (by simp [hx])]
          simp
        have hxb : (p.1 == id) = false := by simp [hx]
        go_wp2_with (at_builtin; refine wpList_append_own_at _ rfl _ _ 72 rfl w.heap.size 75 i0 (pdV pd0) 3 32 Try.underlying72 hi0 hz0 hz1 hz2 rfl (by decide) _ _ _ rfl (HO.out.alloc _) ⟨wr.heap.size, 0, none⟩ 1 1 (pdL p) rfl rfl (cell_pd_new _ _ _) (pd_one p) (by have := hlen.out; unfold maxLen; omega) (by have := hlen.out; omega) (by simp; omega) ?_; intro v' w3 hown' hgrow hnil hloc)
        go_roundw
        case rel =>
          refine ⟨q + 1, by go_num, by omega, ?_, ?_⟩
          · rw [HF.out]
            unfold OwnP
            rw [flatP_snoc]
            simpa using hown'
          · exact (bel1 HB.out (by omega) _).grown hgrow (by simp; omega) (fun x hx => (HO.out.lt x hx).1)
        case measure => simp [intOf]; omega
    · obtain rfl : q = n := by omega
      have HF : Hid (((l.take q).filter fun p => p.1 != id) = l.filter fun p => p.1 != id) := by
        show _ = _
        rw [List.take_of_length_le (by have := HN.out; omega)]
      rw [HF.out] at HO
      clear ho hb
      have rb2 := HS.out.rb.at (HB.out.block g hlg)
      have hc2 := rb2.c16
      have hf2 := rb2.frozen 16
      have hl2 := rb2.lt
      obtain ⟨a', c', rfl⟩ := own_slice HO.out
      clear rb2
      go_wp2
      go_ret
      have eL := HL.out
      subst eL
      have := HS.out.put_va _ HB.out (Nat.le_refl _) HO.out
      exact ⟨_, rfl, this⟩
end
end Go.Proofs.Ytondbhdlccpklaa


/- Stage 13: the document's Free. -/
namespace Go.Proofs.Ytondbhdlccpklaa
open Go.RowKit Go.Maps
set_option linter.unusedVariables false
set_option linter.unusedSimpArgs false

/-- a session that was turned since w: only its blocks were written, and its new ones are new -/
structure RT (w : World) (g : Nat) (vh vr vs va : Value) (s : Sn) (W : World) (v1 v2 v3 v4 : Value) (l1 : List Int) (l2 : List (Int × Int)) (l3 l4 : List Pd) : Prop where
  rs : RS W g s v1 v2 v3 v4 l1 l2 l3 l4
  kp : Kp (RSb g vh vr vs va) w W
  nw : ∀ k, RSb g v1 v2 v3 v4 k → RSb g vh vr vs va k ∨ w.heap.size ≤ k
section
variable {w W W' : World} {g : Nat} {vh vr vs va v1 v2 v3 v4 n1 n2 n3 n4 : Value} {s s' : Sn} {l1 m1 : List Int} {l2 m2 : List (Int × Int)} {l3 l4 m3 m4 : List Pd}
theorem RT.start (h : RS w g s vh vr vs va l1 l2 l3 l4) : RT w g vh vr vs va s w vh vr vs va l1 l2 l3 l4 := ⟨h, Kp.refl _ _, fun k hk => .inl hk⟩
theorem RT.step (t : RT w g vh vr vs va s W v1 v2 v3 v4 l1 l2 l3 l4) (h : RS W' g s' n1 n2 n3 n4 m1 m2 m3 m4 ∧ Kp (RSb g v1 v2 v3 v4) W W' ∧ ∀ k, RSb g n1 n2 n3 n4 k → RSb g v1 v2 v3 v4 k ∨ W.heap.size ≤ k) : RT w g vh vr vs va s' W' n1 n2 n3 n4 m1 m2 m3 m4 :=
  ⟨h.1, t.kp.transN h.2.1 t.nw, fun k hk => by
    rcases h.2.2 k hk with e | e
    · exact t.nw k e
    · exact .inr (Nat.le_trans t.kp.size e)⟩
end
theorem takeI_snoc {ps : List Int} {j : Nat} (h : j < ps.length) : ps.take (j + 1) = ps.take j ++ [ps[j]] := List.take_succ_eq_append_getElem h
theorem takeR_snoc {ps : List (Int × Int)} {j : Nat} (h : j < ps.length) : ps.take (j + 1) = ps.take j ++ [ps[j]] := List.take_succ_eq_append_getElem h
section
variable (g : Nat) (s : Sn) (vh vr vs va : Value) (hs : List Int) (rs : List (Int × Int)) (S C : List Pd) (w : World)
set_option maxRecDepth 100000 in
theorem rfree_no (h : Int) (hS : RS w g s vh vr vs va hs rs S C) (hl : hs.length ≤ 4294967296) (hu : hasH hs h = false) :
    Calls Try.prog 45 #[.pointer (some ⟨g, 0, none⟩), .int .i64 h] w fun e w' => e = .returned (.int .i64 132) ∧ w' = w := by
  have HU := hide (RS.used g s vh vr vs va hs rs S C w hS h hl)
  rw [hu] at HU
  clear hS hu
  go_enter Try.func45, Try.ntmps45
  go_wp2_with (go_at_call 64; refine HU.out.mono ?_; rintro e1 w1 ⟨rfl, rfl⟩)
  go_ret
  exact ⟨rfl, rfl⟩
set_option maxRecDepth 100000 in
set_option maxHeartbeats 4000000 in
theorem rfree_yes (h : Int) (hS : RS w g s vh vr vs va hs rs S C) (hl : hs.length ≤ 4294967296) (hlr : rs.length ≤ 4294967296) (hls : S.length ≤ 4294967296) (hlc : C.length ≤ 4294967296) (hu : hasH hs h = true) :
    Calls Try.prog 45 #[.pointer (some ⟨g, 0, none⟩), .int .i64 h] w fun e w' => e = .returned (.int .i64 0) ∧ ∃ v1 v2 v3 v4, RT w g vh vr vs va s w' v1 v2 v3 v4 (hs.filter fun x => x != h) (rs.filter fun p => p.2 != h) (S.filter fun p => p.2.1 != h) (C.filter fun p => p.2.1 != h) := by
  have HU := hide (RS.used g s vh vr vs va hs rs S C w hS h hl)
  rw [hu] at HU
  have HS := hide hS
  have HLs := hide hls
  have HLc := hide hlc
  have hlg := hS.rb.lt
  obtain ⟨a, c, rfl, ha⟩ := hS.oh.rd
  have HA := hide ha
  obtain ⟨n, hn⟩ : ∃ n, n = hs.length := ⟨_, rfl⟩
  have HN := hide hn
  obtain ⟨m, hm⟩ : ∃ m, m = rs.length := ⟨_, rfl⟩
  have HM := hide hm
  have c13' := hS.rb.c13
  rw [← hn] at c13' hl
  rw [← hm] at hlr
  obtain ⟨i0, hi0, hz0, hz1, hz2⟩ := info_parts Try.infoInt
  obtain ⟨i1, hi1, hy0, hy1, hy2⟩ := info_parts Try.infoPr
  clear hS hu ha hn hm hls hlc
  go_enter Try.func45, Try.ntmps45
  go_wp2_with fail
  refine HU.out.mono ?_
  rintro e1 w1 ⟨rfl, hw1⟩
  have hw2 := hw1.symm
  subst hw2
  clear hw1
  go_wp2
  go_loopw [6, 7] (fun v i W => ∃ q : Nat, i = .int .i64 q ∧ q ≤ n ∧ OwnI W w.heap.size v ((hs.take q).filter fun x => x != h) ∧ Below w.heap.size w W) (fun _ i _ => n - (intOf i).toNat)
  case atStart => exact ⟨0, rfl, Nat.zero_le _, ⟨rfl, .inl ⟨rfl, rfl⟩⟩, Below.refl _ _⟩
  case round =>
    obtain ⟨q, rfl, hq, ho, hb⟩ := hrel
    have HO := hide ho
    have HB := hide hb
    have hsz := hb.size
    have hlr' : g < wr.heap.size := by omega
    have c13 := c13'
    rw [← hb.cell (p := ⟨g, 13, none⟩) hlg] at c13
    by_cases hqn : q < n
    · have hqL : q < hs.length := by have := HN.out; omega
      obtain ⟨b, eb, hg1, p1⟩ := HA.out q hqL
      subst eb
      rw [← hb.cell (p := ⟨b, q, none⟩) hg1] at p1
      have hgw : b < wr.heap.size := by omega
      have HT := hide (takeI_snoc hqL)
      obtain ⟨p, hp⟩ : ∃ p, p = hs[q] := ⟨_, rfl⟩
      rw [← hp] at HT p1
      have hlen : Hid (((hs.take q).filter fun x => x != h).length ≤ 4294967296) := Nat.le_trans (List.length_filter_le _ _) (by rw [List.length_take]; omega)
      have hqb : (q : Int) ≤ 4294967296 := by omega
      clear ho hb hp
      by_cases hx : p = h
      · have HF : Hid (((hs.take (q + 1)).filter fun x => x != h) = (hs.take q).filter fun x => x != h) := by
          show _ = _
          rw [HT.out, List.filter_append, List.filter_cons_of_neg (by simp [hx])]
          simp
        have hxb : (p == h) = true := by simp [hx]
        go_wp2
        go_roundw
        case rel => exact ⟨q + 1, by go_num, by omega, by rw [HF.out]; exact HO.out, HB.out⟩
        case measure => simp [intOf]; omega
      · have HF : Hid (((hs.take (q + 1)).filter fun x => x != h) = ((hs.take q).filter fun x => x != h) ++ [p]) := by
          show _ = _
          rw [HT.out, List.filter_append, List.filter_cons_of_pos (by simp [hx])]
          simp
        have hxb : (p == h) = false := by simp [hx]
        go_wp2_with (at_builtin; refine wpList_append_own_at _ rfl _ _ 68 rfl w.heap.size 3 i0 (.int .i64 0) 1 8 Try.underlying68 hi0 hz0 hz1 hz2 rfl (by decide) _ _ _ rfl (HO.out.alloc _) ⟨wr.heap.size, 0, none⟩ 1 1 [.int .i64 p] rfl rfl (cell_one_new _ _ _) (ints_oneCell .i64 [p]) (by have := hlen.out; unfold maxLen; omega) (by have := hlen.out; omega) (by simp; omega) ?_; intro v' w3 hown' hgrow hnil hloc)
        go_roundw
        case rel =>
          refine ⟨q + 1, by go_num, by omega, ?_, ?_⟩
          · rw [HF.out]
            simpa [OwnI] using hown'
          · exact (bel1 HB.out (by omega) _).grown hgrow (by simp; omega) (fun x hx => (HO.out.lt x hx).1)
        case measure => simp [intOf]; omega
    · obtain rfl : q = n := by omega
      have HF : Hid (((hs.take q).filter fun x => x != h) = hs.filter fun x => x != h) := by
        show _ = _
        rw [List.take_of_length_le (by have := HN.out; omega)]
      rw [HF.out] at HO
      obtain ⟨a', c', rfl⟩ := own_slice HO.out
      have f13 := (HS.out.rb.at (hb.block g hlg)).frozen 13
      have HT1 := hide ((RT.start HS.out).step (HS.out.put_vh _ HB.out (Nat.le_refl _) HO.out))
      obtain ⟨W2, hW2⟩ : ∃ W2, wr.setCell ⟨g, 13, none⟩ (.slice a' (hs.filter fun x => x != h).length c') = W2 := ⟨_, rfl⟩
      rw [hW2] at HT1
      have HW2 := hide hW2
      clear ho hb hW2 HF HO HB HU c13'
      go_wp2_with fail
      rw [HW2.out]
      obtain ⟨ra, rc, erv, hra⟩ := HT1.out.rs.og.rd
      have HRa := hide hra
      have c14' := HT1.out.rs.rb.c14
      rw [erv, ← HM.out] at c14'
      have hlg2 := HT1.out.rs.rb.lt
      clear hra c13 f13 erv
      go_loopw [8, 9] (fun v i W => ∃ q : Nat, i = .int .i64 q ∧ q ≤ m ∧ OwnR W W2.heap.size v ((rs.take q).filter fun p => p.2 != h) ∧ Below W2.heap.size W2 W) (fun _ i _ => m - (intOf i).toNat)
      case atStart => exact ⟨0, rfl, Nat.zero_le _, ⟨rfl, .inl ⟨rfl, rfl⟩⟩, Below.refl _ _⟩
      case round =>
        obtain ⟨q2, rfl, hq2, ho, hb⟩ := hrel
        have HO := hide ho
        have HB := hide hb
        have hsz := hb.size
        have hlr2 : g < wr.heap.size := by omega
        have c14 := c14'
        rw [← hb.cell (p := ⟨g, 14, none⟩) hlg2] at c14
        by_cases hqn : q2 < m
        · have hqL : q2 < rs.length := by have := HM.out; omega
          obtain ⟨b, eb, hg1, p1, p2⟩ := HRa.out q2 hqL
          subst eb
          rw [← hb.cell (p := ⟨b, q2 * 2, none⟩) hg1] at p1
          rw [← hb.cell (p := ⟨b, q2 * 2 + 1, none⟩) hg1] at p2
          have hgw : b < wr.heap.size := by omega
          have HT := hide (takeR_snoc hqL)
          obtain ⟨p, hp⟩ : ∃ p, p = rs[q2] := ⟨_, rfl⟩
          rw [← hp] at HT p1 p2
          have hlen : Hid (((rs.take q2).filter fun p => p.2 != h).length ≤ 4294967296) := Nat.le_trans (List.length_filter_le _ _) (by rw [List.length_take]; omega)
          have hqb : (q2 : Int) ≤ 4294967296 := by omega
          clear ho hb hp
          by_cases hx : p.2 = h
          · have HF : Hid (((rs.take (q2 + 1)).filter fun p => p.2 != h) = (rs.take q2).filter fun p => p.2 != h) := by
              show _ = _
              rw [HT.out, List.filter_append, List.filter_cons_of_neg (by simp [hx])]
              simp
            have hxb : (p.2 == h) = true := by simp [hx]
            go_wp2
            go_roundw
            case rel => exact ⟨q2 + 1, by go_num, by omega, by rw [HF.out]; exact HO.out, HB.out⟩
            case measure => simp [intOf]; omega
          · have HF : Hid (((rs.take (q2 + 1)).filter fun p => p.2 != h) = ((rs.take q2).filter fun p => p.2 != h) ++ [p]) := by
              show _ = _
              rw [HT.out, List.filter_append, List.filter_cons_of_pos (by simp [hx])]
              simp
            have hxb : (p.2 == h) = false := by simp [hx]
            go_wp2_with (at_builtin; refine wpList_append_own_at _ rfl _ _ 93 rfl W2.heap.size 110 i1 (.agg #[.int .i64 0, .int .i64 0]) 2 16 Try.underlying93 hi1 hy0 hy1 hy2 rfl (by decide) _ _ _ rfl (HO.out.alloc _) ⟨wr.heap.size, 0, none⟩ 1 1 [.int .i64 p.1, .int .i64 p.2] rfl rfl (cell_pr_new _ p _) (pr_one p) (by have := hlen.out; unfold maxLen; omega) (by have := hlen.out; omega) (by simp; omega) ?_; intro v' w3 hown' hgrow hnil hloc)
            go_roundw
            case rel =>
              refine ⟨q2 + 1, by go_num, by omega, ?_, ?_⟩
              · rw [HF.out]
                unfold OwnR
                rw [flatR_snoc]
                simpa using hown'
              · exact (bel1 HB.out (by omega) _).grown hgrow (by simp; omega) (fun x hx => (HO.out.lt x hx).1)
            case measure => simp [intOf]; omega
        · obtain rfl : q2 = m := by omega
          have HF : Hid (((rs.take q2).filter fun p => p.2 != h) = rs.filter fun p => p.2 != h) := by
            show _ = _
            rw [List.take_of_length_le (by have := HM.out; omega)]
          rw [HF.out] at HO
          obtain ⟨a2, c2, rfl⟩ := own_slice HO.out
          have f14 := (HT1.out.rs.rb.at (hb.block g hlg2)).frozen 14
          have HT2 := hide (HT1.out.step (HT1.out.rs.put_vr _ HB.out (Nat.le_refl _) HO.out))
          obtain ⟨W3, hW3⟩ : ∃ W3, wr.setCell ⟨g, 14, none⟩ (.slice a2 (rs.filter fun p => p.2 != h).length c2) = W3 := ⟨_, rfl⟩
          rw [hW3] at HT2
          have HW3 := hide hW3
          obtain ⟨sa, sc, esv, hsa, _⟩ := HT2.out.rs.os.rd
          have HWs := hide (without_any sa sc S h W3 hsa HLs.out)
          rw [← esv] at HWs
          have c15 := HT2.out.rs.rb.c15
          have hlg3 := HT2.out.rs.rb.lt
          have c15w : wr.cell? ⟨g, 15, none⟩ = some vs := (HT1.out.rs.rb.at (hb.block g hlg2)).c15
          clear ho hb hW3 HF HO HB c14' hsa esv
          go_wp2_with fail
          rw [HW3.out]
          refine HWs.out.mono ?_
          rintro e4 w4 ⟨x4, rfl, o4, b4⟩
          obtain ⟨a4, c4, rfl⟩ := own_slice o4
          have rb4 := HT2.out.rs.rb.at (b4.block g hlg3)
          have d15 := rb4.c15
          have d16 := rb4.c16
          have f15 := rb4.frozen 15
          have hlg4 := rb4.lt
          have HT3 := hide (HT2.out.step (HT2.out.rs.put_vs _ b4 (Nat.le_refl _) o4))
          obtain ⟨W5, hW5⟩ : ∃ W5, w4.setCell ⟨g, 15, none⟩ (.slice a4 (S.filter fun p => p.2.1 != h).length c4) = W5 := ⟨_, rfl⟩
          rw [hW5] at HT3
          have HW5 := hide hW5
          obtain ⟨ca, cc, ecv, hca, _⟩ := HT3.out.rs.oc.rd
          have HWc := hide (without_any ca cc C h W5 hca HLc.out)
          rw [← ecv] at HWc
          have hlg5 := HT3.out.rs.rb.lt
          clear rb4 o4 b4 hW5 hca HWs c15 c15w ecv
          go_wp2_with fail
          rw [HW5.out]
          refine HWc.out.mono ?_
          rintro e6 w6 ⟨x6, rfl, o6, b6⟩
          obtain ⟨a6, c6, rfl⟩ := own_slice o6
          have rb6 := HT3.out.rs.rb.at (b6.block g hlg5)
          have e16 := rb6.c16
          have f16 := rb6.frozen 16
          have hlg6 := rb6.lt
          have HT4 := hide (HT3.out.step (HT3.out.rs.put_va _ b6 (Nat.le_refl _) o6))
          clear rb6 o6 b6 HWc d15 d16
          go_wp2
          go_ret
          exact ⟨rfl, _, _, _, _, HT4.out⟩
end
end Go.Proofs.Ytondbhdlccpklaa
