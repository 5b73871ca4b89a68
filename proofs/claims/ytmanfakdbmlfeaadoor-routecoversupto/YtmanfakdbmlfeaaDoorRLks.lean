
/- Stage 18: lacks. -/
import Derived.Test.YtmanfakdbmlfeaaDoorRNxt
namespace Go.Proofs.YtmanfakdbmlfeaaDoor
open Go.RowKit Go.Maps
set_option linter.unusedVariables false
set_option linter.unusedSimpArgs false
def lkF (ws a : List ByteArray) : Nat → List ByteArray → List ByteArray → Bool
  | 0, _, _ => false
  | _ + 1, [], u => decide (u.length ≤ 8) && (!u.isEmpty && !fitP a u)
  | n + 1, p :: b, u => if p = bHash then lkF ws a n b u || (decide (u.length < 8) && ws.any fun w => lkF ws a n (p :: b) (u ++ [w])) else decide (u.length < 8) && ws.any fun w => (decide (p = bStar) || decide (p = w)) && lkF ws a n b (u ++ [w])
theorem lkF_iff (ws a : List ByteArray) : ∀ (n : Nat) (b u : List ByteArray), b.length + (9 - u.length) < n → (lkF ws a n b u = true ↔ Lk ws a b u)
  | 0, _, _, h => absurd h (by omega)
  | n + 1, [], u, _ => by
    rw [lkF]
    by_cases hl : u.length ≤ 8
    · rw [decide_eq_true hl, Bool.true_and, lk_nil hl, Bool.and_eq_true, Bool.not_eq_true', Bool.not_eq_true', ← Bool.not_eq_true, List.isEmpty_iff]
    · rw [decide_eq_false hl, Bool.false_and]
      refine ⟨fun h => absurd h (by decide), ?_⟩
      rintro ⟨t, _, h2, _⟩
      rw [List.length_append] at h2
      omega
  | n + 1, p :: b, u, h => by
    rw [List.length_cons] at h
    rw [lkF]
    by_cases hp : p = bHash
    · subst hp
      rw [if_pos rfl, Bool.or_eq_true, Bool.and_eq_true, decide_eq_true_eq, List.any_eq_true, lkF_iff ws a n b u (by omega), lk_hash]
      refine or_congr Iff.rfl (and_congr_right fun hu => exists_congr fun w => and_congr_right fun _ => ?_)
      exact lkF_iff ws a n _ _ (by rw [List.length_append, List.length_cons, List.length_singleton]; omega)
    · rw [if_neg hp, Bool.and_eq_true, decide_eq_true_eq, List.any_eq_true, lk_one hp]
      refine and_congr_right fun hu => exists_congr fun w => and_congr_right fun _ => ?_
      rw [Bool.and_eq_true, Bool.or_eq_true, decide_eq_true_eq, decide_eq_true_eq]
      exact and_congr_right fun _ => lkF_iff ws a n _ _ (by rw [List.length_append, List.length_singleton]; omega)
def lkB (ws a b u : List ByteArray) : Bool := lkF ws a (b.length + (9 - u.length) + 1) b u
theorem lkB_iff {ws a b u : List ByteArray} : lkB ws a b u = true ↔ Lk ws a b u := by unfold lkB; exact lkF_iff ws a _ b u (by omega)
theorem lkB_nil {ws a u : List ByteArray} (hu : u.length ≤ 8) : lkB ws a [] u = (decide (0 < u.length) && !fitP a u) := by
  rw [Bool.eq_iff_iff, lkB_iff, lk_nil hu, Bool.and_eq_true, decide_eq_true_eq, Bool.not_eq_true']
  constructor
  · rintro ⟨h1, h2⟩
    exact ⟨List.length_pos_iff.2 h1, h2⟩
  · rintro ⟨h1, h2⟩
    exact ⟨List.length_pos_iff.1 h1, h2⟩
/-- one word on -/
def lkT (ws a b : List ByteArray) (k : Nat) (u : List ByteArray) (x s : ByteArray) : Bool := (decide (x = bHash) || decide (x = bStar) || decide (x = s)) && lkB ws a (b.drop (if x = bHash then k else k + 1)) (u ++ [s])
theorem lkB_hash {ws a b u : List ByteArray} {k : Nat} (hx : b[k]? = some bHash) : lkB ws a (b.drop k) u = (lkB ws a (b.drop (k + 1)) u || (decide (u.length < 8) && ws.any (lkT ws a b k u bHash))) := by
  have e : b.drop k = bHash :: b.drop (k + 1) := by
    obtain ⟨h1, h2⟩ := List.getElem?_eq_some_iff.1 hx
    rw [List.drop_eq_getElem_cons h1, h2]
  rw [Bool.eq_iff_iff, lkB_iff, Bool.or_eq_true, lkB_iff, Bool.and_eq_true, decide_eq_true_eq, List.any_eq_true]
  conv => lhs; rw [e]
  rw [lk_hash]
  constructor
  · rintro (h | ⟨h1, s, h2, h3⟩)
    · exact .inl h
    · exact .inr ⟨h1, s, h2, by unfold lkT; simp only [if_true, decide_true, Bool.true_or, Bool.true_and]; rw [lkB_iff, e]; exact h3⟩
  · rintro (h | ⟨h1, s, h2, h3⟩)
    · exact .inl h
    · refine .inr ⟨h1, s, h2, ?_⟩
      unfold lkT at h3
      simp only [if_true, decide_true, Bool.true_or, Bool.true_and] at h3
      rw [lkB_iff, e] at h3
      exact h3
theorem lkB_one {ws a b u : List ByteArray} {k : Nat} {x : ByteArray} (hx : b[k]? = some x) (h : x ≠ bHash) : lkB ws a (b.drop k) u = (decide (u.length < 8) && ws.any (lkT ws a b k u x)) := by
  have e : b.drop k = x :: b.drop (k + 1) := by
    obtain ⟨h1, h2⟩ := List.getElem?_eq_some_iff.1 hx
    rw [List.drop_eq_getElem_cons h1, h2]
  rw [Bool.eq_iff_iff, lkB_iff, Bool.and_eq_true, decide_eq_true_eq, List.any_eq_true]
  conv => lhs; rw [e]
  rw [lk_one h]
  constructor
  · rintro ⟨h1, s, h2, h3, h4⟩
    refine ⟨h1, s, h2, ?_⟩
    unfold lkT
    rw [if_neg h, lkB_iff.2 h4, Bool.and_true, decide_eq_false h, Bool.false_or]
    rcases h3 with h3 | h3 <;> simp [h3]
  · rintro ⟨h1, s, h2, h3⟩
    unfold lkT at h3
    rw [if_neg h, decide_eq_false h, Bool.false_or, Bool.and_eq_true, lkB_iff, Bool.or_eq_true, decide_eq_true_eq, decide_eq_true_eq] at h3
    exact ⟨h1, s, h2, h3.1, h3.2⟩
def LkOk (ws a b : List ByteArray) (k : Nat) (u : List ByteArray) : Prop := ∀ (w : World) (va vb vi vw : Value) (zk zn : Int), zk = k → zn = u.length → Tl w va a → Tl w vb b → Nf w vi (a.length + 1) (AtP a u) → Tl w vw ws →
    Calls Tryd.prog 30 #[va, vb, vi, .int .i64 zk, vw, .int .i64 zn] w fun e w' => e = .returned (.bool (lkB ws a (b.drop k) u)) ∧ Below w.heap.size w w'
set_option maxHeartbeats 2000000 in
theorem lacks_end {ws a b u : List ByteArray} {k : Nat} (h8a : a.length ≤ 8) (h8b : b.length ≤ 8) (hu : u.length ≤ 8) (hk : k = b.length) : LkOk ws a b k u := by
  intro w va vb vi vw zk zn e1 e2 ha hb hi hw
  subst e1 e2 hk
  obtain ⟨ga, oa, ca, rfl, hca, hca9, hxa⟩ := ha
  obtain ⟨gb, ob, cb, rfl, hcb, hcb9, hxb⟩ := hb
  obtain ⟨gi, ci, rfl, hci, hci9, hgi, hxi⟩ := hi
  obtain ⟨gw, ow, cw, rfl, hcw, hcw9, hxw⟩ := hw
  have hcell := hxi a.length (by omega)
  rw [at_end] at hcell
  have hL : lkB ws a (b.drop b.length) u = (decide (0 < u.length) && !fitP a u) := by rw [List.drop_length]; exact lkB_nil hu
  obtain ⟨R, hR⟩ : ∃ R, R = lkB ws a (b.drop b.length) u := ⟨_, rfl⟩
  rw [← hR] at hL ⊢
  have HL := hide hL
  clear hR hL
  have hkk : ((b.length : Int) == (b.length : Int)) = true := by rw [beq_iff_eq]
  clear hxa hxb hxi hxw
  cases hf : fitP a u
  · rw [hf] at hcell HL
    unfold z1 at hcell
    simp only [Bool.false_eq_true, if_false] at hcell
    by_cases h0 : 0 < u.length
    · have h0z : (0 : Int) < (u.length : Int) := by omega
      have HG : Hid (R = true) := by show _ = _; rw [HL.out]; simp [h0]
      clear HL hf
      go_enter Tryd.func30, Tryd.ntmps30
      go_wp2
      go_ret
      exact ⟨by rw [HG.out]; rfl, Below.refl _ _⟩
    · have h0z : ¬ (0 : Int) < (u.length : Int) := by omega
      have HG : Hid (R = false) := by show _ = _; rw [HL.out]; simp [h0]
      clear HL hf
      go_enter Tryd.func30, Tryd.ntmps30
      go_wp2
      go_ret
      exact ⟨by rw [HG.out]; rfl, Below.refl _ _⟩
  · rw [hf] at hcell HL
    unfold z1 at hcell
    simp only [if_true] at hcell
    have HG : Hid (R = false) := by show _ = _; rw [HL.out]; simp
    clear HL hf
    go_enter Tryd.func30, Tryd.ntmps30
    go_wp2
    go_ret
    exact ⟨by rw [HG.out]; rfl, Below.refl _ _⟩
/-- the loop over the words, and what stands ahead of it -/
theorem any_no {ws : List ByteArray} {T : ByteArray → Bool} (h : ∀ (i : Nat) s, ws[i]? = some s → T s = false) : ws.any T = false := by
  rw [List.any_eq_false]
  intro s hs
  obtain ⟨i, hi, rfl⟩ := List.mem_iff_getElem.1 hs
  rw [h i _ (List.getElem?_eq_getElem hi)]
  exact Bool.false_ne_true
theorem any_yes {ws : List ByteArray} {T : ByteArray → Bool} {i : Nat} {s : ByteArray} (h : ws[i]? = some s) (h2 : T s = true) : ws.any T = true := List.any_eq_true.2 ⟨s, List.mem_of_getElem? h, h2⟩
set_option maxHeartbeats 4000000 in
theorem lacks_one {ws a b u : List ByteArray} {k : Nat} {x : ByteArray} (hx : b[k]? = some x) (h1 : x ≠ bHash) (h8a : a.length ≤ 8) (h8b : b.length ≤ 8) (hu : u.length ≤ 8) (hws : ws.length ≤ 1000) (IH : Hid (∀ s, u.length < 8 → LkOk ws a b (k + 1) (u ++ [s]))) : LkOk ws a b k u := by
  intro w va vb vi vw zk zn ez1 ez2 ha hb hi hw
  subst ez1 ez2
  have HA := hide ha
  have HB := hide hb
  have HI := hide hi
  have HW := hide hw
  obtain ⟨ga, oa, ca, rfl, hca, hca9, hxa⟩ := ha
  obtain ⟨gb, ob, cb, rfl, hcb, hcb9, hxb⟩ := hb
  obtain ⟨gi, ci, rfl, hci, hci9, hgi, hxi⟩ := hi
  obtain ⟨gw, ow, cw, rfl, hcw, hcw9, hxw⟩ := hw
  have hkb : k < b.length := (List.getElem?_eq_some_iff.1 hx).1
  have hkk : ((k : Int) == (b.length : Int)) = false := by rw [beq_eq_false_iff_ne]; omega
  have hcb0 := hxb.2 k x hx
  have hgb := hxb.1
  have hgw := hxw.1
  have HCB : Hid (∀ W, Below w.heap.size w W → W.cell? ⟨gb, ob + k, none⟩ = some (.string x)) := fun W q => (World.cell?_of_block (a := ⟨gb, ob + k, none⟩) (q.block gb hgb)).trans hcb0
  have HCW : Hid (∀ W, Below w.heap.size w W → ∀ (i : Nat) s, ws[i]? = some s → W.cell? ⟨gw, ow + i, none⟩ = some (.string s)) := fun W q i s hs => (World.cell?_of_block (a := ⟨gw, ow + i, none⟩) (q.block gw hgw)).trans (hxw.2 i s hs)
  have hL := lkB_one (ws := ws) (a := a) (u := u) hx h1
  obtain ⟨R, hR⟩ : ∃ R, R = lkB ws a (b.drop k) u := ⟨_, rfl⟩
  rw [← hR] at hL ⊢
  have HL := hide hL
  have e1 : (x.toList == [35]) = false := by rw [hash_eq]; simpa using h1
  have e1' : (x.toList != [35]) = true := by rw [bne, e1]; rfl
  have HT : Hid (∀ s, lkT ws a b k u x s = ((decide (x = bStar) || decide (x = s)) && lkB ws a (b.drop (k + 1)) (u ++ [s]))) := fun s => by unfold lkT; rw [if_neg h1, decide_eq_false h1, Bool.false_or]
  have HNX : Hid (∀ s W va vi, Below w.heap.size w W → Tl W va a → Nf W vi (a.length + 1) (AtP a u) → Calls Tryd.prog 47 #[va, vi, .string s] W fun e w' => ∃ v, e = .returned v ∧ Nf w' v (a.length + 1) (AtP a (u ++ [s])) ∧ Below w.heap.size w w') := fun s W va vi q1 q2 q3 =>
    (next_any a (AtP a u) s W va vi q2 q3 h8a).mono fun e w' ⟨v, z1, z2, z3⟩ => ⟨v, z1, z2.congr (fun i hi => nxt_at a u s i (by omega)), belOn q1 q1.size z3⟩
  clear hR hL hxa hxb hxi hxw hcb0 h1 hx
  by_cases h8 : u.length = 8
  · have HG : Hid (R = false) := by show _ = _; rw [HL.out, decide_eq_false (by omega), Bool.false_and]
    have h8z : ((u.length : Int) == 8) = true := by rw [beq_iff_eq]; omega
    have hcx := HCB.out w (Below.refl _ _)
    clear HL
    go_enter Tryd.func30, Tryd.ntmps30
    go_wp2
    go_ret
    exact ⟨by rw [HG.out]; rfl, Below.refl _ _⟩
  · have HG : Hid (R = ws.any (lkT ws a b k u x)) := by show _ = _; rw [HL.out, decide_eq_true (by omega), Bool.true_and]
    have h8z : ((u.length : Int) == 8) = false := by rw [beq_eq_false_iff_ne]; omega
    have hcx := HCB.out w (Below.refl _ _)
    clear HL
    go_enter Tryd.func30, Tryd.ntmps30
    go_wp2
    clear hcx
    go_loopw [14] (fun i wr => ∃ m : Nat, m ≤ ws.length ∧ i = .int .i64 m ∧ Below w.heap.size w wr ∧ Hid (∀ (j : Nat) s, j < m → ws[j]? = some s → lkT ws a b k u x s = false)) (fun i _ => ws.length - (intOf i).toNat)
    case atStart => exact ⟨0, Nat.zero_le _, rfl, Below.refl _ _, fun j s hj => by omega⟩
    case round =>
      obtain ⟨m, hm, rfl, hbr, HK⟩ := hrel
      have HBr := hide hbr
      by_cases hmn : m < ws.length
      · obtain ⟨s, hs⟩ : ∃ s, ws[m]? = some s := ⟨_, List.getElem?_eq_getElem hmn⟩
        have hcs := HCW.out wr hbr m s hs
        have hcx := HCB.out wr hbr
        have HS := hide hs
        have HTS := hide (HT.out s)
        have HKN : Hid (lkT ws a b k u x s = false → ∀ (j : Nat) s, j < m + 1 → ws[j]? = some s → lkT ws a b k u x s = false) := fun q j s' hj hs' => by
          by_cases e : j = m
          · subst e
            rw [hs] at hs'
            cases hs'
            exact q
          · exact HK.out j s' (by omega) hs'
        have HCA : Hid (∀ W v (z1 z2 : Int), z1 = k + 1 → z2 = u.length + 1 → Below w.heap.size w W → Nf W v (a.length + 1) (AtP a (u ++ [s])) → Calls Tryd.prog 30 #[.slice (some ⟨ga, oa, none⟩) a.length ca, .slice (some ⟨gb, ob, none⟩) b.length cb, v, .int .i64 z1, .slice (some ⟨gw, ow, none⟩) ws.length cw, .int .i64 z2] W fun e w' => e = .returned (.bool (lkB ws a (b.drop (k + 1)) (u ++ [s]))) ∧ Below w.heap.size w w') := fun W v z1 z2 q1 q2 q3 q4 =>
          (IH.out s (by omega) W _ _ v _ z1 z2 (by rw [q1]; omega) (by rw [q2, List.length_append, List.length_singleton]; omega) (HA.out.keep q3) (HB.out.keep q3) q4 (HW.out.keep q3)).mono fun e w' ⟨t1, t2⟩ => ⟨t1, belOn q3 q3.size t2⟩
        have HN1 := hide (HNX.out s wr (.slice (some ⟨ga, oa, none⟩) a.length ca) (.slice (some ⟨gi, 0, none⟩) (a.length + 1) ci) hbr (HA.out.keep hbr) (HI.out.keep hbr))
        clear hs hbr
        by_cases h2 : x = bStar
        · have e2 : (x.toList == [42]) = true := by rw [star_eq]; simpa using h2
          have e2' : (x.toList != [42]) = false := by rw [bne, e2]; rfl
          have HTV : Hid (lkT ws a b k u x s = lkB ws a (b.drop (k + 1)) (u ++ [s])) := by show _ = _; rw [HTS.out, decide_eq_true h2, Bool.true_or, Bool.true_and]
          clear h2
          go_wp2_with fail
          refine HN1.out.mono ?_
          rintro e w3 ⟨v3, rfl, hn3, hb3⟩
          have HC3 := hide (HCA.out w3 v3 _ _ rfl rfl hb3 hn3)
          clear hn3 hb3 HN1 HCA
          go_wp2_with fail
          refine HC3.out.mono ?_
          rintro e w4 ⟨rfl, hb4⟩
          have HB4 := hide hb4
          clear hb4
          cases hf : lkB ws a (b.drop (k + 1)) (u ++ [s])
          · have HK2 := hide (HKN.out (HTV.out.trans hf))
            clear hf
            go_wp2
            go_roundw
            case rel => exact ⟨m + 1, by omega, by go_num, HB4.out, HK2.out⟩
            case measure => simp [intOf]; omega
          · have HF : Hid (R = true) := by show _ = _; rw [HG.out]; exact any_yes HS.out (HTV.out.trans hf)
            clear hf
            go_wp2
            go_ret
            exact ⟨by rw [HF.out]; rfl, HB4.out⟩
        · have e2 : (x.toList == [42]) = false := by rw [star_eq]; simpa using h2
          have e2' : (x.toList != [42]) = true := by rw [bne, e2]; rfl
          by_cases h3 : x = s
          · have e3 : (x.toList == s.toList) = true := by rw [str_eq]; simpa using h3
            have e3' : (x.toList != s.toList) = false := by rw [bne, e3]; rfl
            have HTV : Hid (lkT ws a b k u x s = lkB ws a (b.drop (k + 1)) (u ++ [s])) := by show _ = _; rw [HTS.out, decide_eq_true h3, Bool.or_true, Bool.true_and]
            clear h2 h3
            go_wp2_with fail
            refine HN1.out.mono ?_
            rintro e w3 ⟨v3, rfl, hn3, hb3⟩
            have HC3 := hide (HCA.out w3 v3 _ _ rfl rfl hb3 hn3)
            clear hn3 hb3 HN1 HCA
            go_wp2_with fail
            refine HC3.out.mono ?_
            rintro e w4 ⟨rfl, hb4⟩
            have HB4 := hide hb4
            clear hb4
            cases hf : lkB ws a (b.drop (k + 1)) (u ++ [s])
            · have HK2 := hide (HKN.out (HTV.out.trans hf))
              clear hf
              go_wp2
              go_roundw
              case rel => exact ⟨m + 1, by omega, by go_num, HB4.out, HK2.out⟩
              case measure => simp [intOf]; omega
            · have HF : Hid (R = true) := by show _ = _; rw [HG.out]; exact any_yes HS.out (HTV.out.trans hf)
              clear hf
              go_wp2
              go_ret
              exact ⟨by rw [HF.out]; rfl, HB4.out⟩
          · have e3 : (x.toList == s.toList) = false := by rw [str_eq]; simpa using h3
            have e3' : (x.toList != s.toList) = true := by rw [bne, e3]; rfl
            have HK2 := hide (HKN.out (by rw [HTS.out, decide_eq_false h2, decide_eq_false h3, Bool.or_false, Bool.false_and]))
            clear h2 h3 HN1 HCA
            go_wp2
            go_roundw
            case rel => exact ⟨m + 1, by omega, by go_num, HBr.out, HK2.out⟩
            case measure => simp [intOf]; omega
      · have HF : Hid (R = false) := by show _ = _; rw [HG.out]; exact any_no fun i s hs => HK.out i s (by have := (List.getElem?_eq_some_iff.1 hs).1; omega) hs
        have hmz : ¬ (m : Int) < (ws.length : Int) := by omega
        go_wp2
        go_ret
        exact ⟨by rw [HF.out]; rfl, HBr.out⟩
set_option maxHeartbeats 4000000 in
theorem lacks_hash {ws a b u : List ByteArray} {k : Nat} {x : ByteArray} (hx : b[k]? = some x) (h1 : x = bHash) (h8a : a.length ≤ 8) (h8b : b.length ≤ 8) (hu : u.length ≤ 8) (hws : ws.length ≤ 1000) (IH1 : Hid (LkOk ws a b (k + 1) u)) (IH : Hid (∀ s, u.length < 8 → LkOk ws a b k (u ++ [s]))) : LkOk ws a b k u := by
  intro w va vb vi vw zk zn ez1 ez2 ha hb hi hw
  subst ez1 ez2
  have HA := hide ha
  have HB := hide hb
  have HI := hide hi
  have HW := hide hw
  obtain ⟨ga, oa, ca, rfl, hca, hca9, hxa⟩ := ha
  obtain ⟨gb, ob, cb, rfl, hcb, hcb9, hxb⟩ := hb
  obtain ⟨gi, ci, rfl, hci, hci9, hgi, hxi⟩ := hi
  obtain ⟨gw, ow, cw, rfl, hcw, hcw9, hxw⟩ := hw
  have hkb : k < b.length := (List.getElem?_eq_some_iff.1 hx).1
  have hkk : ((k : Int) == (b.length : Int)) = false := by rw [beq_eq_false_iff_ne]; omega
  have hcb0 := hxb.2 k x hx
  have hgb := hxb.1
  have hgw := hxw.1
  have HCB : Hid (∀ W, Below w.heap.size w W → W.cell? ⟨gb, ob + k, none⟩ = some (.string x)) := fun W q => (World.cell?_of_block (a := ⟨gb, ob + k, none⟩) (q.block gb hgb)).trans hcb0
  have HCW : Hid (∀ W, Below w.heap.size w W → ∀ (i : Nat) s, ws[i]? = some s → W.cell? ⟨gw, ow + i, none⟩ = some (.string s)) := fun W q i s hs => (World.cell?_of_block (a := ⟨gw, ow + i, none⟩) (q.block gw hgw)).trans (hxw.2 i s hs)
  have hL : lkB ws a (b.drop k) u = (lkB ws a (b.drop (k + 1)) u || (decide (u.length < 8) && ws.any (lkT ws a b k u x))) := by rw [h1]; exact lkB_hash (by rw [hx, h1])
  obtain ⟨R, hR⟩ : ∃ R, R = lkB ws a (b.drop k) u := ⟨_, rfl⟩
  rw [← hR] at hL ⊢
  have HL := hide hL
  have e1 : (x.toList == [35]) = true := by rw [hash_eq]; simpa using h1
  have e1' : (x.toList != [35]) = false := by rw [bne, e1]; rfl
  have HT : Hid (∀ s, lkT ws a b k u x s = lkB ws a (b.drop k) (u ++ [s])) := fun s => by unfold lkT; rw [if_pos h1, decide_eq_true h1, Bool.true_or, Bool.true_or, Bool.true_and]
  have HF1 := hide (IH1.out w _ _ _ _ ((k : Int) + 1) (u.length : Int) (by omega) rfl HA.out HB.out HI.out HW.out)
  have HNX : Hid (∀ s W va vi, Below w.heap.size w W → Tl W va a → Nf W vi (a.length + 1) (AtP a u) → Calls Tryd.prog 47 #[va, vi, .string s] W fun e w' => ∃ v, e = .returned v ∧ Nf w' v (a.length + 1) (AtP a (u ++ [s])) ∧ Below w.heap.size w w') := fun s W va vi q1 q2 q3 =>
    (next_any a (AtP a u) s W va vi q2 q3 h8a).mono fun e w' ⟨v, z1, z2, z3⟩ => ⟨v, z1, z2.congr (fun i hi => nxt_at a u s i (by omega)), belOn q1 q1.size z3⟩
  clear hR hL hxa hxb hxi hxw hcb0 h1 hx
  have hcx0 := HCB.out w (Below.refl _ _)
  go_enter Tryd.func30, Tryd.ntmps30
  go_wp2_with fail
  refine HF1.out.mono ?_
  rintro e w1 ⟨rfl, hb1⟩
  have HB1 := hide hb1
  clear hb1 HF1 hcx0 IH1
  cases hf1 : lkB ws a (b.drop (k + 1)) u
  rotate_left
  · have HG : Hid (R = true) := by show _ = _; rw [HL.out, hf1, Bool.true_or]
    clear hf1
    go_wp2
    go_ret
    exact ⟨by rw [HG.out]; rfl, HB1.out⟩
  by_cases h8 : u.length = 8
  · have HG : Hid (R = false) := by show _ = _; rw [HL.out, hf1, decide_eq_false (by omega), Bool.false_and, Bool.false_or]
    have h8z : ((u.length : Int) == 8) = true := by rw [beq_iff_eq]; omega
    clear HL hf1
    go_wp2
    go_ret
    exact ⟨by rw [HG.out]; rfl, HB1.out⟩
  · have HG : Hid (R = ws.any (lkT ws a b k u x)) := by show _ = _; rw [HL.out, hf1, decide_eq_true (by omega), Bool.true_and, Bool.false_or]
    have h8z : ((u.length : Int) == 8) = false := by rw [beq_eq_false_iff_ne]; omega
    clear HL hf1
    go_wp2
    go_loopw [14] (fun i wr => ∃ m : Nat, m ≤ ws.length ∧ i = .int .i64 m ∧ Below w.heap.size w wr ∧ Hid (∀ (j : Nat) s, j < m → ws[j]? = some s → lkT ws a b k u x s = false)) (fun i _ => ws.length - (intOf i).toNat)
    case atStart => exact ⟨0, Nat.zero_le _, rfl, HB1.out, fun j s hj => by omega⟩
    case round =>
      obtain ⟨m, hm, rfl, hbr, HK⟩ := hrel
      have HBr := hide hbr
      by_cases hmn : m < ws.length
      · obtain ⟨s, hs⟩ : ∃ s, ws[m]? = some s := ⟨_, List.getElem?_eq_getElem hmn⟩
        have hcs := HCW.out wr hbr m s hs
        have hcx := HCB.out wr hbr
        have HS := hide hs
        have HTS := hide (HT.out s)
        have HKN : Hid (lkT ws a b k u x s = false → ∀ (j : Nat) s, j < m + 1 → ws[j]? = some s → lkT ws a b k u x s = false) := fun q j s' hj hs' => by
          by_cases e : j = m
          · subst e
            rw [hs] at hs'
            cases hs'
            exact q
          · exact HK.out j s' (by omega) hs'
        have HCA : Hid (∀ W v (z1 z2 : Int), z1 = k → z2 = u.length + 1 → Below w.heap.size w W → Nf W v (a.length + 1) (AtP a (u ++ [s])) → Calls Tryd.prog 30 #[.slice (some ⟨ga, oa, none⟩) a.length ca, .slice (some ⟨gb, ob, none⟩) b.length cb, v, .int .i64 z1, .slice (some ⟨gw, ow, none⟩) ws.length cw, .int .i64 z2] W fun e w' => e = .returned (.bool (lkB ws a (b.drop k) (u ++ [s]))) ∧ Below w.heap.size w w') := fun W v z1 z2 q1 q2 q3 q4 =>
          (IH.out s (by omega) W _ _ v _ z1 z2 q1 (by rw [q2, List.length_append, List.length_singleton]; omega) (HA.out.keep q3) (HB.out.keep q3) q4 (HW.out.keep q3)).mono fun e w' ⟨t1, t2⟩ => ⟨t1, belOn q3 q3.size t2⟩
        have HN1 := hide (HNX.out s wr (.slice (some ⟨ga, oa, none⟩) a.length ca) (.slice (some ⟨gi, 0, none⟩) (a.length + 1) ci) hbr (HA.out.keep hbr) (HI.out.keep hbr))
        clear hs hbr
        have HTV := HTS
        go_wp2_with fail
        refine HN1.out.mono ?_
        rintro e w3 ⟨v3, rfl, hn3, hb3⟩
        have HC3 := hide (HCA.out w3 v3 _ _ rfl rfl hb3 hn3)
        clear hn3 hb3 HN1 HCA
        go_wp2_with fail
        refine HC3.out.mono ?_
        rintro e w4 ⟨rfl, hb4⟩
        have HB4 := hide hb4
        clear hb4
        cases hf : lkB ws a (b.drop k) (u ++ [s])
        · have HK2 := hide (HKN.out (HTV.out.trans hf))
          clear hf
          go_wp2
          go_roundw
          case rel => exact ⟨m + 1, by omega, by go_num, HB4.out, HK2.out⟩
          case measure => simp [intOf]; omega
        · have HF : Hid (R = true) := by show _ = _; rw [HG.out]; exact any_yes HS.out (HTV.out.trans hf)
          clear hf
          go_wp2
          go_ret
          exact ⟨by rw [HF.out]; rfl, HB4.out⟩
      · have HF : Hid (R = false) := by show _ = _; rw [HG.out]; exact any_no fun i s hs => HK.out i s (by have := (List.getElem?_eq_some_iff.1 hs).1; omega) hs
        have hmz : ¬ (m : Int) < (ws.length : Int) := by omega
        go_wp2
        go_ret
        exact ⟨by rw [HF.out]; rfl, HBr.out⟩
theorem lacks_any (ws a b : List ByteArray) (h8a : a.length ≤ 8) (h8b : b.length ≤ 8) (hws : ws.length ≤ 1000) : ∀ (n k : Nat) (u : List ByteArray), (b.length - k) + (8 - u.length) ≤ n → k ≤ b.length → u.length ≤ 8 → LkOk ws a b k u := by
  intro n
  induction n with
  | zero =>
    intro k u hn hk hu
    exact lacks_end h8a h8b hu (by omega)
  | succ n ih =>
    intro k u hn hk hu
    by_cases he : k = b.length
    · exact lacks_end h8a h8b hu he
    · obtain ⟨x, hx⟩ : ∃ x, b[k]? = some x := ⟨_, List.getElem?_eq_getElem (by omega)⟩
      by_cases h1 : x = bHash
      · exact lacks_hash hx h1 h8a h8b hu hws (ih (k + 1) u (by omega) (by omega) hu) (fun s h8 => ih k (u ++ [s]) (by rw [List.length_append, List.length_singleton]; omega) hk (by rw [List.length_append, List.length_singleton]; omega))
      · exact lacks_one hx h1 h8a h8b hu hws (fun s h8 => ih (k + 1) (u ++ [s]) (by rw [List.length_append, List.length_singleton]; omega) (by omega) (by rw [List.length_append, List.length_singleton]; omega))
end Go.Proofs.YtmanfakdbmlfeaaDoor
