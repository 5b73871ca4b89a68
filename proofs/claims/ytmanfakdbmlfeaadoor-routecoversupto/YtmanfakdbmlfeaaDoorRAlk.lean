
/- Stage 18: alike: the words that matter. -/
import Derived.Test.YtmanfakdbmlfeaaDoorRLks
import Derived.Test.YtmanfakdbmlfeaaDoorRRFit
namespace Go.Proofs.YtmanfakdbmlfeaaDoor
open Go.RowKit Go.Maps
set_option linter.unusedVariables false
set_option linter.unusedSimpArgs false
/-- is a part known? -/
def knw (out : List ByteArray) (p : ByteArray) (n : Nat) : Bool := decide (p = bStar) || decide (p = bHash) || (out.take n).any (fun x => decide (x = p))
theorem knw_zero (out : List ByteArray) (p : ByteArray) : knw out p 0 = (decide (p = bStar) || decide (p = bHash)) := by simp [knw]
theorem knw_step {out : List ByteArray} {p x : ByteArray} {n : Nat} (h : out[n]? = some x) : knw out p (n + 1) = (knw out p n || decide (x = p)) := by
  unfold knw
  rw [take_snoc h, List.any_append, Bool.or_assoc]
  simp [Bool.or_assoc]
theorem knw_all (out : List ByteArray) (p : ByteArray) : knw out p out.length = true ↔ (p = bStar ∨ p = bHash ∨ p ∈ out) := by
  unfold knw
  rw [List.take_length]
  simp only [Bool.or_eq_true, decide_eq_true_eq, List.any_eq_true, or_assoc]
  constructor
  · rintro (h | h | ⟨x, hx, rfl⟩)
    · exact .inl h
    · exact .inr (.inl h)
    · exact .inr (.inr hx)
  · rintro (h | h | h)
    · exact .inl h
    · exact .inr (.inl h)
    · exact .inr (.inr ⟨p, h, rfl⟩)
theorem alk_snoc : ∀ (l out : List ByteArray) (p : ByteArray), alk out (l ++ [p]) = if knw (alk out l) p (alk out l).length then alk out l else alk out l ++ [p]
  | [], out, p => by
    rw [List.nil_append, alk, alk, alk]
    by_cases h : p = bStar ∨ p = bHash ∨ p ∈ out
    · rw [if_pos h, if_pos ((knw_all out p).2 h)]
    · rw [if_neg h, if_neg (fun e => h ((knw_all out p).1 e))]
  | x :: l, out, p => by
    rw [List.cons_append, alk, alk_snoc l _ p]
    rfl
theorem alk_len : ∀ (l out : List ByteArray), (alk out l).length ≤ out.length + l.length
  | [], out => by rw [alk]; omega
  | x :: l, out => by
    rw [alk]
    by_cases h : x = bStar ∨ x = bHash ∨ x ∈ out
    · rw [if_pos h]; have := alk_len l out; rw [List.length_cons]; omega
    · rw [if_neg h]; have := alk_len l (out ++ [x]); rw [List.length_append, List.length_singleton] at this; rw [List.length_cons]; omega
theorem alk_ne : ∀ (l out : List ByteArray), out ≠ [] → alk out l ≠ []
  | [], out, h => by rw [alk]; exact h
  | x :: l, out, h => by
    rw [alk]
    by_cases q : x = bStar ∨ x = bHash ∨ x ∈ out
    · rw [if_pos q]; exact alk_ne l out h
    · rw [if_neg q]; exact alk_ne l _ (by simp)
set_option maxHeartbeats 4000000 in
theorem alike_any (a : List ByteArray) (w : World) (va : Value) (ha : Tl w va a) (h8 : a.length ≤ 8) :
    Calls Tryd.prog 29 #[va] w fun e w' => ∃ v, e = .returned v ∧ Wy SK w' w.heap.size v (wsOf a) ∧ Below w.heap.size w w' := by
  obtain ⟨ga, oa, ca, rfl, hca, hca9, hxa⟩ := ha
  have hga := hxa.1
  have HRA : Hid (∀ W, Below w.heap.size w W → ∀ (i : Nat) x, a[i]? = some x → W.cell? ⟨ga, oa + i, none⟩ = some (.string x)) := fun W hb i x hx => (hxa.keep hb hga).2 i x hx
  have hmx : Tryd.prog.follows .mixedOrders = true := by kernel_rfl
  clear hxa
  go_enter Tryd.func29, Tryd.ntmps29
  go_wp2
  have hb0 : Below w.heap.size w (w.alloc (.cells #[.string bNone] 9)) := bel1 (Below.refl _ _) (Nat.le_refl _) _
  have HW0 : Hid (Wy SK (w.alloc (.cells #[.string bNone] 9)) w.heap.size (.slice (some ⟨w.heap.size, 0, none⟩) 1 1) (alk [bNone] (a.take 0))) := by
    rw [List.take_zero, alk]
    refine .inr ⟨w.heap.size, 0, 1, #[.string bNone], rfl, Nat.le_refl _, by simp, by unfold maxLen; omega, heap_new _ _, by simp [SK], fun j u hu => ?_⟩
    rw [sk_flat] at hu
    cases j with
    | zero => simp at hu; subst hu; exact cellOf (heap_new _ _) 0 _ rfl
    | succ j => simp at hu
  go_loopw [3, 4] (fun v i wr => ∃ k : Nat, k ≤ a.length ∧ i = .int .i64 k ∧ Below w.heap.size w wr ∧ Wy SK wr w.heap.size v (alk [bNone] (a.take k))) (fun _ i _ => a.length - (intOf i).toNat)
  case atStart => exact ⟨0, Nat.zero_le _, rfl, hb0, HW0.out⟩
  case round =>
    clear hb0 HW0
    obtain ⟨k, hk, rfl, hb, hwy⟩ := hrel
    have HNE : Hid (alk [bNone] (a.take k) ≠ []) := alk_ne _ _ (by simp)
    have hln := alk_len (a.take k) [bNone]
    have HST : Hid (∀ x, a[k]? = some x → alk [bNone] (a.take (k + 1)) = if knw (alk [bNone] (a.take k)) x (alk [bNone] (a.take k)).length then alk [bNone] (a.take k) else alk [bNone] (a.take k) ++ [x]) := fun x hx => by rw [take_snoc hx]; exact alk_snoc _ _ _
    have HEN : Hid (k = a.length → alk [bNone] (a.take k) = wsOf a) := fun e => by rw [e, List.take_length]; rfl
    obtain ⟨out, hout⟩ : ∃ out, out = alk [bNone] (a.take k) := ⟨_, rfl⟩
    rw [← hout] at hwy HNE hln HST HEN
    have hol : out.length ≤ 9 := by rw [List.length_take, List.length_singleton] at hln; omega
    obtain ⟨go, oo, co, rfl, hco, hmco, hxo⟩ := hwy.tl HNE.out
    have HWy := hide hwy
    have HB := hide hb
    clear hout hln
    by_cases hkn : k < a.length
    · obtain ⟨x, hx⟩ : ∃ x, a[k]? = some x := ⟨_, List.getElem?_eq_getElem hkn⟩
      have hcx := HRA.out wr hb k x hx
      have HSX := hide (HST.out x hx)
      have hkz : (k : Int) < (a.length : Int) := by omega
      have HS0 : Hid (wr.drew.cell? ⟨ga, oa + k, none⟩ = some (.string x)) := hcx
      have hgo := hxo.1
      have HX : Hid (a[k]? = some x) := hx
      clear hx HST
      obtain ⟨W1, hW1⟩ : ∃ W1, W1 = wr := ⟨_, rfl⟩
      subst hW1
      by_cases q1 : x = bStar
      · have e1 : (x.toList == [42]) = true := by rw [star_eq]; simpa using q1
        have HK0 : Hid (true = knw out x 0) := by show _ = _; rw [knw_zero, decide_eq_true q1]; rfl
        clear q1
        go_wp2
        go_loopw [5, 6] (fun t i ws => ∃ n : Nat, n ≤ out.length ∧ i = .int .i64 n ∧ t = .bool (knw out x n) ∧ Below W1.heap.size W1 ws) (fun _ i _ => out.length - (intOf i).toNat)
        case atStart => exact ⟨0, Nat.zero_le _, rfl, by rw [← HK0.out], Below.refl _ _⟩
        case round =>
          obtain ⟨n, hn, rfl, rfl, hbn⟩ := hrel
          have HBn := hide hbn
          have hcxn : wr.cell? ⟨ga, oa + k, none⟩ = some (.string x) := HRA.out wr (HB.out.trans (hbn.mono HB.out.size)) k x HX.out
          have hcxd : wr.drew.cell? ⟨ga, oa + k, none⟩ = some (.string x) := hcxn
          by_cases hnn : n < out.length
          · obtain ⟨y, hy⟩ : ∃ y, out[n]? = some y := ⟨_, List.getElem?_eq_getElem hnn⟩
            have hnz : (n : Int) < (out.length : Int) := by omega
            have hcy : wr.cell? ⟨go, oo + n, none⟩ = some (.string y) := (World.cell?_of_block (a := ⟨go, oo + n, none⟩) (hbn.block go hgo)).trans (hxo.2 n y hy)
            have hcyd : wr.drew.cell? ⟨go, oo + n, none⟩ = some (.string y) := hcy
            have HKS := hide (knw_step (p := x) hy)
            clear hy
            cases hkn2 : knw out x n
            · have HT : Hid (knw out x (n + 1) = (y.toList == x.toList)) := by show _ = _; rw [HKS.out, hkn2, Bool.false_or, str_eq]
              clear hkn2
              go_wp2_with fail
              refine wp_region_held_drew (S := fun W => W.cell? ⟨go, oo + n, none⟩ = some (.string y) ∧ W.cell? ⟨ga, oa + k, none⟩ = some (.string x)) (by kernel_rfl) ⟨hcyd, hcxd⟩ (fun hHeld => ?_)
              refine take_do (i := 0) (d := 32) (v := ?_) rfl rfl (by kernel_rfl) (by kernel_rfl) (by kernel_rfl) (fun _ _ _ h => h) rfl ?_ (by assumption) ?_
              rotate_left
              · intro W hSw
                try dsimp only at hSw
                go_simp
                try with_reducible rfl
              try simp only [List.setIfInBounds_toArray, List.set_cons_zero, List.set_cons_succ]
              refine take_do (i := 1) (d := 33) (v := ?_) rfl rfl (by kernel_rfl) (by kernel_rfl) (by kernel_rfl) (fun _ _ _ h => h) rfl ?_ (by assumption) ?_
              rotate_left
              · intro W hSw
                try dsimp only at hSw
                go_simp
                try with_reducible rfl
              try simp only [List.setIfInBounds_toArray, List.set_cons_zero, List.set_cons_succ]
              refine take_wanted (i := 2) (d := 34) (v := ?_) rfl rfl (by kernel_rfl) (by kernel_rfl) (by kernel_rfl) (fun _ _ _ h => h) (by first | rfl | kernel_rfl) ?_ (by assumption) ?_
              rotate_left
              · intro W hSw
                try dsimp only at hSw
                go_simp
                try with_reducible rfl
              try simp only [List.setIfInBounds_toArray, List.set_cons_zero, List.set_cons_succ]
              refine take_wanted (i := 3) (d := 35) (v := ?_) rfl rfl (by kernel_rfl) (by kernel_rfl) (by kernel_rfl) (fun _ _ _ h => h) (by first | rfl | kernel_rfl) ?_ (by assumption) ?_
              rotate_left
              · intro W hSw
                try dsimp only at hSw
                go_simp
                try with_reducible rfl
              try simp only [List.setIfInBounds_toArray, List.set_cons_zero, List.set_cons_succ]
              refine take_wanted (i := 4) (d := 36) (v := ?_) rfl rfl (by kernel_rfl) (by kernel_rfl) (by kernel_rfl) (fun _ _ _ h => h) (by first | rfl | kernel_rfl) ?_ (by assumption) ?_
              rotate_left
              · intro W hSw
                try dsimp only at hSw
                go_simp
                try with_reducible rfl
              try simp only [List.setIfInBounds_toArray, List.set_cons_zero, List.set_cons_succ]
              refine take_wanted (i := 5) (d := 37) (v := ?_) rfl rfl (by kernel_rfl) (by kernel_rfl) (by kernel_rfl) (fun _ _ _ h => h) (by first | rfl | kernel_rfl) ?_ (by assumption) ?_
              rotate_left
              · intro W hSw
                try dsimp only at hSw
                go_simp
                try with_reducible rfl
              try simp only [List.setIfInBounds_toArray, List.set_cons_zero, List.set_cons_succ]
              refine take_wanted (i := 6) (d := 38) (v := ?_) rfl rfl (by kernel_rfl) (by kernel_rfl) (by kernel_rfl) (fun _ _ _ h => h) (by first | rfl | kernel_rfl) ?_ (by assumption) ?_
              rotate_left
              · intro W hSw
                try dsimp only at hSw
                go_simp
                try with_reducible rfl
              try simp only [List.setIfInBounds_toArray, List.set_cons_zero, List.set_cons_succ]
              refine take_wanted (i := 7) (d := 39) (v := ?_) rfl rfl (by kernel_rfl) (by kernel_rfl) (by kernel_rfl) (fun _ _ _ h => h) (by first | rfl | kernel_rfl) ?_ (by assumption) ?_
              rotate_left
              · intro W hSw
                try dsimp only at hSw
                go_simp
                try with_reducible rfl
              try simp only [List.setIfInBounds_toArray, List.set_cons_zero, List.set_cons_succ]
              refine take_wanted (i := 8) (d := 40) (v := ?_) rfl rfl (by kernel_rfl) (by kernel_rfl) (by kernel_rfl) (fun _ _ _ h => h) (by first | rfl | kernel_rfl) ?_ (by assumption) ?_
              rotate_left
              · intro W hSw
                try dsimp only at hSw
                go_simp
                try with_reducible rfl
              try simp only [List.setIfInBounds_toArray, List.set_cons_zero, List.set_cons_succ]
              refine take_wanted (i := 9) (d := 41) (v := ?_) rfl rfl (by kernel_rfl) (by kernel_rfl) (by kernel_rfl) (fun _ _ _ h => h) (by first | rfl | kernel_rfl) ?_ (by assumption) ?_
              rotate_left
              · intro W hSw
                try dsimp only at hSw
                go_simp
                try with_reducible rfl
              try simp only [List.setIfInBounds_toArray, List.set_cons_zero, List.set_cons_succ]
              refine take_wanted (i := 10) (d := 42) (v := ?_) rfl rfl (by kernel_rfl) (by kernel_rfl) (by kernel_rfl) (fun _ _ _ h => h) (by first | rfl | kernel_rfl) ?_ (by assumption) ?_
              rotate_left
              · intro W hSw
                try dsimp only at hSw
                go_simp
                try with_reducible rfl
              try simp only [List.setIfInBounds_toArray, List.set_cons_zero, List.set_cons_succ]
              refine take_do (i := 11) (d := 43) (v := ?_) rfl rfl (by kernel_rfl) (by kernel_rfl) (by kernel_rfl) (fun _ _ _ h => h) rfl ?_ (by assumption) ?_
              rotate_left
              · intro W hSw
                try dsimp only at hSw
                go_simp
                try with_reducible rfl
              try simp only [List.setIfInBounds_toArray, List.set_cons_zero, List.set_cons_succ]
              refine take_do (i := 12) (d := 5) (v := ?_) rfl rfl (by kernel_rfl) (by kernel_rfl) (by kernel_rfl) (fun _ _ _ h => h) rfl ?_ (by assumption) ?_
              rotate_left
              · intro W hSw
                try dsimp only at hSw
                go_simp
                try with_reducible rfl
              try simp only [List.setIfInBounds_toArray, List.set_cons_zero, List.set_cons_succ]
              refine wpAnyH_done (by kernel_rfl) ?_ _
              go_wp2
              go_roundw
              case rel => exact ⟨n + 1, by omega, by go_num, by rw [HT.out], HBn.out.drew⟩
              case measure => simp [intOf]; omega
            · have HT : Hid (knw out x (n + 1) = true) := by show _ = _; rw [HKS.out, hkn2, Bool.true_or]
              clear hkn2
              go_wp2_with fail
              refine wp_region_held_drew (S := fun W => W.cell? ⟨go, oo + n, none⟩ = some (.string y) ∧ W.cell? ⟨ga, oa + k, none⟩ = some (.string x)) (by kernel_rfl) ⟨hcyd, hcxd⟩ (fun hHeld => ?_)
              refine take_do (i := 0) (d := 32) (v := ?_) rfl rfl (by kernel_rfl) (by kernel_rfl) (by kernel_rfl) (fun _ _ _ h => h) rfl ?_ (by assumption) ?_
              rotate_left
              · intro W hSw
                try dsimp only at hSw
                go_simp
                try with_reducible rfl
              try simp only [List.setIfInBounds_toArray, List.set_cons_zero, List.set_cons_succ]
              refine take_do (i := 1) (d := 33) (v := ?_) rfl rfl (by kernel_rfl) (by kernel_rfl) (by kernel_rfl) (fun _ _ _ h => h) rfl ?_ (by assumption) ?_
              rotate_left
              · intro W hSw
                try dsimp only at hSw
                go_simp
                try with_reducible rfl
              try simp only [List.setIfInBounds_toArray, List.set_cons_zero, List.set_cons_succ]
              refine take_skip (i := 2) (d := 34) (j := 1) (b := false) rfl rfl (by kernel_rfl) (by kernel_rfl) (by kernel_rfl) (fun _ _ _ h => h) rfl rfl (by assumption) ?_
              try simp only [List.setIfInBounds_toArray, List.set_cons_zero, List.set_cons_succ]
              refine take_skip (i := 3) (d := 35) (j := 1) (b := false) rfl rfl (by kernel_rfl) (by kernel_rfl) (by kernel_rfl) (fun _ _ _ h => h) rfl rfl (by assumption) ?_
              try simp only [List.setIfInBounds_toArray, List.set_cons_zero, List.set_cons_succ]
              refine take_skip (i := 4) (d := 36) (j := 1) (b := false) rfl rfl (by kernel_rfl) (by kernel_rfl) (by kernel_rfl) (fun _ _ _ h => h) rfl rfl (by assumption) ?_
              try simp only [List.setIfInBounds_toArray, List.set_cons_zero, List.set_cons_succ]
              refine take_skip (i := 5) (d := 37) (j := 1) (b := false) rfl rfl (by kernel_rfl) (by kernel_rfl) (by kernel_rfl) (fun _ _ _ h => h) rfl rfl (by assumption) ?_
              try simp only [List.setIfInBounds_toArray, List.set_cons_zero, List.set_cons_succ]
              refine take_skip (i := 6) (d := 38) (j := 1) (b := false) rfl rfl (by kernel_rfl) (by kernel_rfl) (by kernel_rfl) (fun _ _ _ h => h) rfl rfl (by assumption) ?_
              try simp only [List.setIfInBounds_toArray, List.set_cons_zero, List.set_cons_succ]
              refine take_skip (i := 7) (d := 39) (j := 1) (b := false) rfl rfl (by kernel_rfl) (by kernel_rfl) (by kernel_rfl) (fun _ _ _ h => h) rfl rfl (by assumption) ?_
              try simp only [List.setIfInBounds_toArray, List.set_cons_zero, List.set_cons_succ]
              refine take_skip (i := 8) (d := 40) (j := 1) (b := false) rfl rfl (by kernel_rfl) (by kernel_rfl) (by kernel_rfl) (fun _ _ _ h => h) rfl rfl (by assumption) ?_
              try simp only [List.setIfInBounds_toArray, List.set_cons_zero, List.set_cons_succ]
              refine take_skip (i := 9) (d := 41) (j := 1) (b := false) rfl rfl (by kernel_rfl) (by kernel_rfl) (by kernel_rfl) (fun _ _ _ h => h) rfl rfl (by assumption) ?_
              try simp only [List.setIfInBounds_toArray, List.set_cons_zero, List.set_cons_succ]
              refine take_skip (i := 10) (d := 42) (j := 1) (b := false) rfl rfl (by kernel_rfl) (by kernel_rfl) (by kernel_rfl) (fun _ _ _ h => h) rfl rfl (by assumption) ?_
              try simp only [List.setIfInBounds_toArray, List.set_cons_zero, List.set_cons_succ]
              refine take_do (i := 11) (d := 43) (v := ?_) rfl rfl (by kernel_rfl) (by kernel_rfl) (by kernel_rfl) (fun _ _ _ h => h) rfl ?_ (by assumption) ?_
              rotate_left
              · intro W hSw
                try dsimp only at hSw
                go_simp
                try with_reducible rfl
              try simp only [List.setIfInBounds_toArray, List.set_cons_zero, List.set_cons_succ]
              refine take_do (i := 12) (d := 5) (v := ?_) rfl rfl (by kernel_rfl) (by kernel_rfl) (by kernel_rfl) (fun _ _ _ h => h) rfl ?_ (by assumption) ?_
              rotate_left
              · intro W hSw
                try dsimp only at hSw
                go_simp
                try with_reducible rfl
              try simp only [List.setIfInBounds_toArray, List.set_cons_zero, List.set_cons_succ]
              refine wpAnyH_done (by kernel_rfl) ?_ _
              go_wp2
              go_roundw
              case rel => exact ⟨n + 1, by omega, by go_num, by rw [HT.out], HBn.out.drew⟩
              case measure => simp [intOf]; omega
          · obtain rfl : n = out.length := by omega
            have hnz : ¬ (out.length : Int) < (out.length : Int) := by omega
            have HWn : Hid (Wy SK wr w.heap.size (.slice (some ⟨go, oo, none⟩) out.length co) out) := HWy.out.at fun q e => hbn.block q (HWy.out.lt e).2
            have HBB : Hid (Below w.heap.size w wr) := HB.out.trans (hbn.mono HB.out.size)
            have hz : w.heap.size ≤ wr.heap.size := HBB.out.size
            cases hkl : knw out x out.length
            · have HA2 : Hid (alk [bNone] (a.take (k + 1)) = out ++ [x]) := by show _ = _; rw [HSX.out, hkl]; rfl
              clear hkl
              have HWA : Hid (Wy SK (wr.alloc (.cells #[.string x] 9)) w.heap.size (.slice (some ⟨go, oo, none⟩) out.length co) out) := HWn.out.at fun q e => Below.heap_alloc _ _ _ (HWn.out.lt e).2
              have HBA : Hid (w.heap.size ≤ (wr.alloc (.cells #[.string x] 9)).heap.size) := by show _ ≤ (wr.alloc _).heap.size; simp; omega
              go_wp2_with (at_builtin; refine wpList_append_way skOk _ rfl (.tmp 46) (.tmp 51) rfl w.heap.size (.slice (some ⟨go, oo, none⟩) out.length co) out x rfl HWA.out wr.heap.size 1 rfl (heap_new _ _) HBA.out (by omega) ?_; intro v' w7 hw7 hg7 hs7; have HW7 := hide hw7; have HG7 := hide hg7; clear hw7 hg7 hs7)
              have HB7 : Hid (Below w.heap.size w w7) := (bel1 HBB.out HBB.out.size _).grown HG7.out HBA.out (fun q hq => (HWn.out.lt hq).1)
              go_wp2
              go_roundw
              case rel => exact ⟨k + 1, by omega, by go_num, HB7.out, by rw [HA2.out]; exact HW7.out⟩
              case measure => simp [intOf]; omega
            · have HA2 : Hid (alk [bNone] (a.take (k + 1)) = out) := by show _ = _; rw [HSX.out, hkl]; rfl
              clear hkl
              go_wp2
              go_roundw
              case rel => exact ⟨k + 1, by omega, by go_num, HBB.out, by rw [HA2.out]; exact HWn.out⟩
              case measure => simp [intOf]; omega
      · have e1 : (x.toList == [42]) = false := by rw [star_eq]; simpa using q1
        by_cases q2 : x = bHash
        · have e2 : (x.toList == [35]) = true := by rw [hash_eq]; simpa using q2
          have HK0 : Hid (true = knw out x 0) := by show _ = _; rw [knw_zero, decide_eq_true q2, Bool.or_true]
          clear q1 q2
          go_wp2
          go_loopw [5, 6] (fun t i ws => ∃ n : Nat, n ≤ out.length ∧ i = .int .i64 n ∧ t = .bool (knw out x n) ∧ Below W1.heap.size W1 ws) (fun _ i _ => out.length - (intOf i).toNat)
          case atStart => exact ⟨0, Nat.zero_le _, rfl, by rw [← HK0.out], Below.refl _ _⟩
          case round =>
            obtain ⟨n, hn, rfl, rfl, hbn⟩ := hrel
            have HBn := hide hbn
            have hcxn : wr.cell? ⟨ga, oa + k, none⟩ = some (.string x) := HRA.out wr (HB.out.trans (hbn.mono HB.out.size)) k x HX.out
            have hcxd : wr.drew.cell? ⟨ga, oa + k, none⟩ = some (.string x) := hcxn
            by_cases hnn : n < out.length
            · obtain ⟨y, hy⟩ : ∃ y, out[n]? = some y := ⟨_, List.getElem?_eq_getElem hnn⟩
              have hnz : (n : Int) < (out.length : Int) := by omega
              have hcy : wr.cell? ⟨go, oo + n, none⟩ = some (.string y) := (World.cell?_of_block (a := ⟨go, oo + n, none⟩) (hbn.block go hgo)).trans (hxo.2 n y hy)
              have hcyd : wr.drew.cell? ⟨go, oo + n, none⟩ = some (.string y) := hcy
              have HKS := hide (knw_step (p := x) hy)
              clear hy
              cases hkn2 : knw out x n
              · have HT : Hid (knw out x (n + 1) = (y.toList == x.toList)) := by show _ = _; rw [HKS.out, hkn2, Bool.false_or, str_eq]
                clear hkn2
                go_wp2_with fail
                refine wp_region_held_drew (S := fun W => W.cell? ⟨go, oo + n, none⟩ = some (.string y) ∧ W.cell? ⟨ga, oa + k, none⟩ = some (.string x)) (by kernel_rfl) ⟨hcyd, hcxd⟩ (fun hHeld => ?_)
                refine take_do (i := 0) (d := 32) (v := ?_) rfl rfl (by kernel_rfl) (by kernel_rfl) (by kernel_rfl) (fun _ _ _ h => h) rfl ?_ (by assumption) ?_
                rotate_left
                · intro W hSw
                  try dsimp only at hSw
                  go_simp
                  try with_reducible rfl
                try simp only [List.setIfInBounds_toArray, List.set_cons_zero, List.set_cons_succ]
                refine take_do (i := 1) (d := 33) (v := ?_) rfl rfl (by kernel_rfl) (by kernel_rfl) (by kernel_rfl) (fun _ _ _ h => h) rfl ?_ (by assumption) ?_
                rotate_left
                · intro W hSw
                  try dsimp only at hSw
                  go_simp
                  try with_reducible rfl
                try simp only [List.setIfInBounds_toArray, List.set_cons_zero, List.set_cons_succ]
                refine take_wanted (i := 2) (d := 34) (v := ?_) rfl rfl (by kernel_rfl) (by kernel_rfl) (by kernel_rfl) (fun _ _ _ h => h) (by first | rfl | kernel_rfl) ?_ (by assumption) ?_
                rotate_left
                · intro W hSw
                  try dsimp only at hSw
                  go_simp
                  try with_reducible rfl
                try simp only [List.setIfInBounds_toArray, List.set_cons_zero, List.set_cons_succ]
                refine take_wanted (i := 3) (d := 35) (v := ?_) rfl rfl (by kernel_rfl) (by kernel_rfl) (by kernel_rfl) (fun _ _ _ h => h) (by first | rfl | kernel_rfl) ?_ (by assumption) ?_
                rotate_left
                · intro W hSw
                  try dsimp only at hSw
                  go_simp
                  try with_reducible rfl
                try simp only [List.setIfInBounds_toArray, List.set_cons_zero, List.set_cons_succ]
                refine take_wanted (i := 4) (d := 36) (v := ?_) rfl rfl (by kernel_rfl) (by kernel_rfl) (by kernel_rfl) (fun _ _ _ h => h) (by first | rfl | kernel_rfl) ?_ (by assumption) ?_
                rotate_left
                · intro W hSw
                  try dsimp only at hSw
                  go_simp
                  try with_reducible rfl
                try simp only [List.setIfInBounds_toArray, List.set_cons_zero, List.set_cons_succ]
                refine take_wanted (i := 5) (d := 37) (v := ?_) rfl rfl (by kernel_rfl) (by kernel_rfl) (by kernel_rfl) (fun _ _ _ h => h) (by first | rfl | kernel_rfl) ?_ (by assumption) ?_
                rotate_left
                · intro W hSw
                  try dsimp only at hSw
                  go_simp
                  try with_reducible rfl
                try simp only [List.setIfInBounds_toArray, List.set_cons_zero, List.set_cons_succ]
                refine take_wanted (i := 6) (d := 38) (v := ?_) rfl rfl (by kernel_rfl) (by kernel_rfl) (by kernel_rfl) (fun _ _ _ h => h) (by first | rfl | kernel_rfl) ?_ (by assumption) ?_
                rotate_left
                · intro W hSw
                  try dsimp only at hSw
                  go_simp
                  try with_reducible rfl
                try simp only [List.setIfInBounds_toArray, List.set_cons_zero, List.set_cons_succ]
                refine take_wanted (i := 7) (d := 39) (v := ?_) rfl rfl (by kernel_rfl) (by kernel_rfl) (by kernel_rfl) (fun _ _ _ h => h) (by first | rfl | kernel_rfl) ?_ (by assumption) ?_
                rotate_left
                · intro W hSw
                  try dsimp only at hSw
                  go_simp
                  try with_reducible rfl
                try simp only [List.setIfInBounds_toArray, List.set_cons_zero, List.set_cons_succ]
                refine take_wanted (i := 8) (d := 40) (v := ?_) rfl rfl (by kernel_rfl) (by kernel_rfl) (by kernel_rfl) (fun _ _ _ h => h) (by first | rfl | kernel_rfl) ?_ (by assumption) ?_
                rotate_left
                · intro W hSw
                  try dsimp only at hSw
                  go_simp
                  try with_reducible rfl
                try simp only [List.setIfInBounds_toArray, List.set_cons_zero, List.set_cons_succ]
                refine take_wanted (i := 9) (d := 41) (v := ?_) rfl rfl (by kernel_rfl) (by kernel_rfl) (by kernel_rfl) (fun _ _ _ h => h) (by first | rfl | kernel_rfl) ?_ (by assumption) ?_
                rotate_left
                · intro W hSw
                  try dsimp only at hSw
                  go_simp
                  try with_reducible rfl
                try simp only [List.setIfInBounds_toArray, List.set_cons_zero, List.set_cons_succ]
                refine take_wanted (i := 10) (d := 42) (v := ?_) rfl rfl (by kernel_rfl) (by kernel_rfl) (by kernel_rfl) (fun _ _ _ h => h) (by first | rfl | kernel_rfl) ?_ (by assumption) ?_
                rotate_left
                · intro W hSw
                  try dsimp only at hSw
                  go_simp
                  try with_reducible rfl
                try simp only [List.setIfInBounds_toArray, List.set_cons_zero, List.set_cons_succ]
                refine take_do (i := 11) (d := 43) (v := ?_) rfl rfl (by kernel_rfl) (by kernel_rfl) (by kernel_rfl) (fun _ _ _ h => h) rfl ?_ (by assumption) ?_
                rotate_left
                · intro W hSw
                  try dsimp only at hSw
                  go_simp
                  try with_reducible rfl
                try simp only [List.setIfInBounds_toArray, List.set_cons_zero, List.set_cons_succ]
                refine take_do (i := 12) (d := 5) (v := ?_) rfl rfl (by kernel_rfl) (by kernel_rfl) (by kernel_rfl) (fun _ _ _ h => h) rfl ?_ (by assumption) ?_
                rotate_left
                · intro W hSw
                  try dsimp only at hSw
                  go_simp
                  try with_reducible rfl
                try simp only [List.setIfInBounds_toArray, List.set_cons_zero, List.set_cons_succ]
                refine wpAnyH_done (by kernel_rfl) ?_ _
                go_wp2
                go_roundw
                case rel => exact ⟨n + 1, by omega, by go_num, by rw [HT.out], HBn.out.drew⟩
                case measure => simp [intOf]; omega
              · have HT : Hid (knw out x (n + 1) = true) := by show _ = _; rw [HKS.out, hkn2, Bool.true_or]
                clear hkn2
                go_wp2_with fail
                refine wp_region_held_drew (S := fun W => W.cell? ⟨go, oo + n, none⟩ = some (.string y) ∧ W.cell? ⟨ga, oa + k, none⟩ = some (.string x)) (by kernel_rfl) ⟨hcyd, hcxd⟩ (fun hHeld => ?_)
                refine take_do (i := 0) (d := 32) (v := ?_) rfl rfl (by kernel_rfl) (by kernel_rfl) (by kernel_rfl) (fun _ _ _ h => h) rfl ?_ (by assumption) ?_
                rotate_left
                · intro W hSw
                  try dsimp only at hSw
                  go_simp
                  try with_reducible rfl
                try simp only [List.setIfInBounds_toArray, List.set_cons_zero, List.set_cons_succ]
                refine take_do (i := 1) (d := 33) (v := ?_) rfl rfl (by kernel_rfl) (by kernel_rfl) (by kernel_rfl) (fun _ _ _ h => h) rfl ?_ (by assumption) ?_
                rotate_left
                · intro W hSw
                  try dsimp only at hSw
                  go_simp
                  try with_reducible rfl
                try simp only [List.setIfInBounds_toArray, List.set_cons_zero, List.set_cons_succ]
                refine take_skip (i := 2) (d := 34) (j := 1) (b := false) rfl rfl (by kernel_rfl) (by kernel_rfl) (by kernel_rfl) (fun _ _ _ h => h) rfl rfl (by assumption) ?_
                try simp only [List.setIfInBounds_toArray, List.set_cons_zero, List.set_cons_succ]
                refine take_skip (i := 3) (d := 35) (j := 1) (b := false) rfl rfl (by kernel_rfl) (by kernel_rfl) (by kernel_rfl) (fun _ _ _ h => h) rfl rfl (by assumption) ?_
                try simp only [List.setIfInBounds_toArray, List.set_cons_zero, List.set_cons_succ]
                refine take_skip (i := 4) (d := 36) (j := 1) (b := false) rfl rfl (by kernel_rfl) (by kernel_rfl) (by kernel_rfl) (fun _ _ _ h => h) rfl rfl (by assumption) ?_
                try simp only [List.setIfInBounds_toArray, List.set_cons_zero, List.set_cons_succ]
                refine take_skip (i := 5) (d := 37) (j := 1) (b := false) rfl rfl (by kernel_rfl) (by kernel_rfl) (by kernel_rfl) (fun _ _ _ h => h) rfl rfl (by assumption) ?_
                try simp only [List.setIfInBounds_toArray, List.set_cons_zero, List.set_cons_succ]
                refine take_skip (i := 6) (d := 38) (j := 1) (b := false) rfl rfl (by kernel_rfl) (by kernel_rfl) (by kernel_rfl) (fun _ _ _ h => h) rfl rfl (by assumption) ?_
                try simp only [List.setIfInBounds_toArray, List.set_cons_zero, List.set_cons_succ]
                refine take_skip (i := 7) (d := 39) (j := 1) (b := false) rfl rfl (by kernel_rfl) (by kernel_rfl) (by kernel_rfl) (fun _ _ _ h => h) rfl rfl (by assumption) ?_
                try simp only [List.setIfInBounds_toArray, List.set_cons_zero, List.set_cons_succ]
                refine take_skip (i := 8) (d := 40) (j := 1) (b := false) rfl rfl (by kernel_rfl) (by kernel_rfl) (by kernel_rfl) (fun _ _ _ h => h) rfl rfl (by assumption) ?_
                try simp only [List.setIfInBounds_toArray, List.set_cons_zero, List.set_cons_succ]
                refine take_skip (i := 9) (d := 41) (j := 1) (b := false) rfl rfl (by kernel_rfl) (by kernel_rfl) (by kernel_rfl) (fun _ _ _ h => h) rfl rfl (by assumption) ?_
                try simp only [List.setIfInBounds_toArray, List.set_cons_zero, List.set_cons_succ]
                refine take_skip (i := 10) (d := 42) (j := 1) (b := false) rfl rfl (by kernel_rfl) (by kernel_rfl) (by kernel_rfl) (fun _ _ _ h => h) rfl rfl (by assumption) ?_
                try simp only [List.setIfInBounds_toArray, List.set_cons_zero, List.set_cons_succ]
                refine take_do (i := 11) (d := 43) (v := ?_) rfl rfl (by kernel_rfl) (by kernel_rfl) (by kernel_rfl) (fun _ _ _ h => h) rfl ?_ (by assumption) ?_
                rotate_left
                · intro W hSw
                  try dsimp only at hSw
                  go_simp
                  try with_reducible rfl
                try simp only [List.setIfInBounds_toArray, List.set_cons_zero, List.set_cons_succ]
                refine take_do (i := 12) (d := 5) (v := ?_) rfl rfl (by kernel_rfl) (by kernel_rfl) (by kernel_rfl) (fun _ _ _ h => h) rfl ?_ (by assumption) ?_
                rotate_left
                · intro W hSw
                  try dsimp only at hSw
                  go_simp
                  try with_reducible rfl
                try simp only [List.setIfInBounds_toArray, List.set_cons_zero, List.set_cons_succ]
                refine wpAnyH_done (by kernel_rfl) ?_ _
                go_wp2
                go_roundw
                case rel => exact ⟨n + 1, by omega, by go_num, by rw [HT.out], HBn.out.drew⟩
                case measure => simp [intOf]; omega
            · obtain rfl : n = out.length := by omega
              have hnz : ¬ (out.length : Int) < (out.length : Int) := by omega
              have HWn : Hid (Wy SK wr w.heap.size (.slice (some ⟨go, oo, none⟩) out.length co) out) := HWy.out.at fun q e => hbn.block q (HWy.out.lt e).2
              have HBB : Hid (Below w.heap.size w wr) := HB.out.trans (hbn.mono HB.out.size)
              have hz : w.heap.size ≤ wr.heap.size := HBB.out.size
              cases hkl : knw out x out.length
              · have HA2 : Hid (alk [bNone] (a.take (k + 1)) = out ++ [x]) := by show _ = _; rw [HSX.out, hkl]; rfl
                clear hkl
                have HWA : Hid (Wy SK (wr.alloc (.cells #[.string x] 9)) w.heap.size (.slice (some ⟨go, oo, none⟩) out.length co) out) := HWn.out.at fun q e => Below.heap_alloc _ _ _ (HWn.out.lt e).2
                have HBA : Hid (w.heap.size ≤ (wr.alloc (.cells #[.string x] 9)).heap.size) := by show _ ≤ (wr.alloc _).heap.size; simp; omega
                go_wp2_with (at_builtin; refine wpList_append_way skOk _ rfl (.tmp 46) (.tmp 51) rfl w.heap.size (.slice (some ⟨go, oo, none⟩) out.length co) out x rfl HWA.out wr.heap.size 1 rfl (heap_new _ _) HBA.out (by omega) ?_; intro v' w7 hw7 hg7 hs7; have HW7 := hide hw7; have HG7 := hide hg7; clear hw7 hg7 hs7)
                have HB7 : Hid (Below w.heap.size w w7) := (bel1 HBB.out HBB.out.size _).grown HG7.out HBA.out (fun q hq => (HWn.out.lt hq).1)
                go_wp2
                go_roundw
                case rel => exact ⟨k + 1, by omega, by go_num, HB7.out, by rw [HA2.out]; exact HW7.out⟩
                case measure => simp [intOf]; omega
              · have HA2 : Hid (alk [bNone] (a.take (k + 1)) = out) := by show _ = _; rw [HSX.out, hkl]; rfl
                clear hkl
                go_wp2
                go_roundw
                case rel => exact ⟨k + 1, by omega, by go_num, HBB.out, by rw [HA2.out]; exact HWn.out⟩
                case measure => simp [intOf]; omega
        · have e2 : (x.toList == [35]) = false := by rw [hash_eq]; simpa using q2
          have HK0 : Hid (false = knw out x 0) := by show _ = _; rw [knw_zero, decide_eq_false q1, decide_eq_false q2]; rfl
          clear q1 q2
          go_wp2
          go_loopw [5, 6] (fun t i ws => ∃ n : Nat, n ≤ out.length ∧ i = .int .i64 n ∧ t = .bool (knw out x n) ∧ Below W1.heap.size W1 ws) (fun _ i _ => out.length - (intOf i).toNat)
          case atStart => exact ⟨0, Nat.zero_le _, rfl, by rw [← HK0.out], Below.refl _ _⟩
          case round =>
            obtain ⟨n, hn, rfl, rfl, hbn⟩ := hrel
            have HBn := hide hbn
            have hcxn : wr.cell? ⟨ga, oa + k, none⟩ = some (.string x) := HRA.out wr (HB.out.trans (hbn.mono HB.out.size)) k x HX.out
            have hcxd : wr.drew.cell? ⟨ga, oa + k, none⟩ = some (.string x) := hcxn
            by_cases hnn : n < out.length
            · obtain ⟨y, hy⟩ : ∃ y, out[n]? = some y := ⟨_, List.getElem?_eq_getElem hnn⟩
              have hnz : (n : Int) < (out.length : Int) := by omega
              have hcy : wr.cell? ⟨go, oo + n, none⟩ = some (.string y) := (World.cell?_of_block (a := ⟨go, oo + n, none⟩) (hbn.block go hgo)).trans (hxo.2 n y hy)
              have hcyd : wr.drew.cell? ⟨go, oo + n, none⟩ = some (.string y) := hcy
              have HKS := hide (knw_step (p := x) hy)
              clear hy
              cases hkn2 : knw out x n
              · have HT : Hid (knw out x (n + 1) = (y.toList == x.toList)) := by show _ = _; rw [HKS.out, hkn2, Bool.false_or, str_eq]
                clear hkn2
                go_wp2_with fail
                refine wp_region_held_drew (S := fun W => W.cell? ⟨go, oo + n, none⟩ = some (.string y) ∧ W.cell? ⟨ga, oa + k, none⟩ = some (.string x)) (by kernel_rfl) ⟨hcyd, hcxd⟩ (fun hHeld => ?_)
                refine take_do (i := 0) (d := 32) (v := ?_) rfl rfl (by kernel_rfl) (by kernel_rfl) (by kernel_rfl) (fun _ _ _ h => h) rfl ?_ (by assumption) ?_
                rotate_left
                · intro W hSw
                  try dsimp only at hSw
                  go_simp
                  try with_reducible rfl
                try simp only [List.setIfInBounds_toArray, List.set_cons_zero, List.set_cons_succ]
                refine take_do (i := 1) (d := 33) (v := ?_) rfl rfl (by kernel_rfl) (by kernel_rfl) (by kernel_rfl) (fun _ _ _ h => h) rfl ?_ (by assumption) ?_
                rotate_left
                · intro W hSw
                  try dsimp only at hSw
                  go_simp
                  try with_reducible rfl
                try simp only [List.setIfInBounds_toArray, List.set_cons_zero, List.set_cons_succ]
                refine take_wanted (i := 2) (d := 34) (v := ?_) rfl rfl (by kernel_rfl) (by kernel_rfl) (by kernel_rfl) (fun _ _ _ h => h) (by first | rfl | kernel_rfl) ?_ (by assumption) ?_
                rotate_left
                · intro W hSw
                  try dsimp only at hSw
                  go_simp
                  try with_reducible rfl
                try simp only [List.setIfInBounds_toArray, List.set_cons_zero, List.set_cons_succ]
                refine take_wanted (i := 3) (d := 35) (v := ?_) rfl rfl (by kernel_rfl) (by kernel_rfl) (by kernel_rfl) (fun _ _ _ h => h) (by first | rfl | kernel_rfl) ?_ (by assumption) ?_
                rotate_left
                · intro W hSw
                  try dsimp only at hSw
                  go_simp
                  try with_reducible rfl
                try simp only [List.setIfInBounds_toArray, List.set_cons_zero, List.set_cons_succ]
                refine take_wanted (i := 4) (d := 36) (v := ?_) rfl rfl (by kernel_rfl) (by kernel_rfl) (by kernel_rfl) (fun _ _ _ h => h) (by first | rfl | kernel_rfl) ?_ (by assumption) ?_
                rotate_left
                · intro W hSw
                  try dsimp only at hSw
                  go_simp
                  try with_reducible rfl
                try simp only [List.setIfInBounds_toArray, List.set_cons_zero, List.set_cons_succ]
                refine take_wanted (i := 5) (d := 37) (v := ?_) rfl rfl (by kernel_rfl) (by kernel_rfl) (by kernel_rfl) (fun _ _ _ h => h) (by first | rfl | kernel_rfl) ?_ (by assumption) ?_
                rotate_left
                · intro W hSw
                  try dsimp only at hSw
                  go_simp
                  try with_reducible rfl
                try simp only [List.setIfInBounds_toArray, List.set_cons_zero, List.set_cons_succ]
                refine take_wanted (i := 6) (d := 38) (v := ?_) rfl rfl (by kernel_rfl) (by kernel_rfl) (by kernel_rfl) (fun _ _ _ h => h) (by first | rfl | kernel_rfl) ?_ (by assumption) ?_
                rotate_left
                · intro W hSw
                  try dsimp only at hSw
                  go_simp
                  try with_reducible rfl
                try simp only [List.setIfInBounds_toArray, List.set_cons_zero, List.set_cons_succ]
                refine take_wanted (i := 7) (d := 39) (v := ?_) rfl rfl (by kernel_rfl) (by kernel_rfl) (by kernel_rfl) (fun _ _ _ h => h) (by first | rfl | kernel_rfl) ?_ (by assumption) ?_
                rotate_left
                · intro W hSw
                  try dsimp only at hSw
                  go_simp
                  try with_reducible rfl
                try simp only [List.setIfInBounds_toArray, List.set_cons_zero, List.set_cons_succ]
                refine take_wanted (i := 8) (d := 40) (v := ?_) rfl rfl (by kernel_rfl) (by kernel_rfl) (by kernel_rfl) (fun _ _ _ h => h) (by first | rfl | kernel_rfl) ?_ (by assumption) ?_
                rotate_left
                · intro W hSw
                  try dsimp only at hSw
                  go_simp
                  try with_reducible rfl
                try simp only [List.setIfInBounds_toArray, List.set_cons_zero, List.set_cons_succ]
                refine take_wanted (i := 9) (d := 41) (v := ?_) rfl rfl (by kernel_rfl) (by kernel_rfl) (by kernel_rfl) (fun _ _ _ h => h) (by first | rfl | kernel_rfl) ?_ (by assumption) ?_
                rotate_left
                · intro W hSw
                  try dsimp only at hSw
                  go_simp
                  try with_reducible rfl
                try simp only [List.setIfInBounds_toArray, List.set_cons_zero, List.set_cons_succ]
                refine take_wanted (i := 10) (d := 42) (v := ?_) rfl rfl (by kernel_rfl) (by kernel_rfl) (by kernel_rfl) (fun _ _ _ h => h) (by first | rfl | kernel_rfl) ?_ (by assumption) ?_
                rotate_left
                · intro W hSw
                  try dsimp only at hSw
                  go_simp
                  try with_reducible rfl
                try simp only [List.setIfInBounds_toArray, List.set_cons_zero, List.set_cons_succ]
                refine take_do (i := 11) (d := 43) (v := ?_) rfl rfl (by kernel_rfl) (by kernel_rfl) (by kernel_rfl) (fun _ _ _ h => h) rfl ?_ (by assumption) ?_
                rotate_left
                · intro W hSw
                  try dsimp only at hSw
                  go_simp
                  try with_reducible rfl
                try simp only [List.setIfInBounds_toArray, List.set_cons_zero, List.set_cons_succ]
                refine take_do (i := 12) (d := 5) (v := ?_) rfl rfl (by kernel_rfl) (by kernel_rfl) (by kernel_rfl) (fun _ _ _ h => h) rfl ?_ (by assumption) ?_
                rotate_left
                · intro W hSw
                  try dsimp only at hSw
                  go_simp
                  try with_reducible rfl
                try simp only [List.setIfInBounds_toArray, List.set_cons_zero, List.set_cons_succ]
                refine wpAnyH_done (by kernel_rfl) ?_ _
                go_wp2
                go_roundw
                case rel => exact ⟨n + 1, by omega, by go_num, by rw [HT.out], HBn.out.drew⟩
                case measure => simp [intOf]; omega
              · have HT : Hid (knw out x (n + 1) = true) := by show _ = _; rw [HKS.out, hkn2, Bool.true_or]
                clear hkn2
                go_wp2_with fail
                refine wp_region_held_drew (S := fun W => W.cell? ⟨go, oo + n, none⟩ = some (.string y) ∧ W.cell? ⟨ga, oa + k, none⟩ = some (.string x)) (by kernel_rfl) ⟨hcyd, hcxd⟩ (fun hHeld => ?_)
                refine take_do (i := 0) (d := 32) (v := ?_) rfl rfl (by kernel_rfl) (by kernel_rfl) (by kernel_rfl) (fun _ _ _ h => h) rfl ?_ (by assumption) ?_
                rotate_left
                · intro W hSw
                  try dsimp only at hSw
                  go_simp
                  try with_reducible rfl
                try simp only [List.setIfInBounds_toArray, List.set_cons_zero, List.set_cons_succ]
                refine take_do (i := 1) (d := 33) (v := ?_) rfl rfl (by kernel_rfl) (by kernel_rfl) (by kernel_rfl) (fun _ _ _ h => h) rfl ?_ (by assumption) ?_
                rotate_left
                · intro W hSw
                  try dsimp only at hSw
                  go_simp
                  try with_reducible rfl
                try simp only [List.setIfInBounds_toArray, List.set_cons_zero, List.set_cons_succ]
                refine take_skip (i := 2) (d := 34) (j := 1) (b := false) rfl rfl (by kernel_rfl) (by kernel_rfl) (by kernel_rfl) (fun _ _ _ h => h) rfl rfl (by assumption) ?_
                try simp only [List.setIfInBounds_toArray, List.set_cons_zero, List.set_cons_succ]
                refine take_skip (i := 3) (d := 35) (j := 1) (b := false) rfl rfl (by kernel_rfl) (by kernel_rfl) (by kernel_rfl) (fun _ _ _ h => h) rfl rfl (by assumption) ?_
                try simp only [List.setIfInBounds_toArray, List.set_cons_zero, List.set_cons_succ]
                refine take_skip (i := 4) (d := 36) (j := 1) (b := false) rfl rfl (by kernel_rfl) (by kernel_rfl) (by kernel_rfl) (fun _ _ _ h => h) rfl rfl (by assumption) ?_
                try simp only [List.setIfInBounds_toArray, List.set_cons_zero, List.set_cons_succ]
                refine take_skip (i := 5) (d := 37) (j := 1) (b := false) rfl rfl (by kernel_rfl) (by kernel_rfl) (by kernel_rfl) (fun _ _ _ h => h) rfl rfl (by assumption) ?_
                try simp only [List.setIfInBounds_toArray, List.set_cons_zero, List.set_cons_succ]
                refine take_skip (i := 6) (d := 38) (j := 1) (b := false) rfl rfl (by kernel_rfl) (by kernel_rfl) (by kernel_rfl) (fun _ _ _ h => h) rfl rfl (by assumption) ?_
                try simp only [List.setIfInBounds_toArray, List.set_cons_zero, List.set_cons_succ]
                refine take_skip (i := 7) (d := 39) (j := 1) (b := false) rfl rfl (by kernel_rfl) (by kernel_rfl) (by kernel_rfl) (fun _ _ _ h => h) rfl rfl (by assumption) ?_
                try simp only [List.setIfInBounds_toArray, List.set_cons_zero, List.set_cons_succ]
                refine take_skip (i := 8) (d := 40) (j := 1) (b := false) rfl rfl (by kernel_rfl) (by kernel_rfl) (by kernel_rfl) (fun _ _ _ h => h) rfl rfl (by assumption) ?_
                try simp only [List.setIfInBounds_toArray, List.set_cons_zero, List.set_cons_succ]
                refine take_skip (i := 9) (d := 41) (j := 1) (b := false) rfl rfl (by kernel_rfl) (by kernel_rfl) (by kernel_rfl) (fun _ _ _ h => h) rfl rfl (by assumption) ?_
                try simp only [List.setIfInBounds_toArray, List.set_cons_zero, List.set_cons_succ]
                refine take_skip (i := 10) (d := 42) (j := 1) (b := false) rfl rfl (by kernel_rfl) (by kernel_rfl) (by kernel_rfl) (fun _ _ _ h => h) rfl rfl (by assumption) ?_
                try simp only [List.setIfInBounds_toArray, List.set_cons_zero, List.set_cons_succ]
                refine take_do (i := 11) (d := 43) (v := ?_) rfl rfl (by kernel_rfl) (by kernel_rfl) (by kernel_rfl) (fun _ _ _ h => h) rfl ?_ (by assumption) ?_
                rotate_left
                · intro W hSw
                  try dsimp only at hSw
                  go_simp
                  try with_reducible rfl
                try simp only [List.setIfInBounds_toArray, List.set_cons_zero, List.set_cons_succ]
                refine take_do (i := 12) (d := 5) (v := ?_) rfl rfl (by kernel_rfl) (by kernel_rfl) (by kernel_rfl) (fun _ _ _ h => h) rfl ?_ (by assumption) ?_
                rotate_left
                · intro W hSw
                  try dsimp only at hSw
                  go_simp
                  try with_reducible rfl
                try simp only [List.setIfInBounds_toArray, List.set_cons_zero, List.set_cons_succ]
                refine wpAnyH_done (by kernel_rfl) ?_ _
                go_wp2
                go_roundw
                case rel => exact ⟨n + 1, by omega, by go_num, by rw [HT.out], HBn.out.drew⟩
                case measure => simp [intOf]; omega
            · obtain rfl : n = out.length := by omega
              have hnz : ¬ (out.length : Int) < (out.length : Int) := by omega
              have HWn : Hid (Wy SK wr w.heap.size (.slice (some ⟨go, oo, none⟩) out.length co) out) := HWy.out.at fun q e => hbn.block q (HWy.out.lt e).2
              have HBB : Hid (Below w.heap.size w wr) := HB.out.trans (hbn.mono HB.out.size)
              have hz : w.heap.size ≤ wr.heap.size := HBB.out.size
              cases hkl : knw out x out.length
              · have HA2 : Hid (alk [bNone] (a.take (k + 1)) = out ++ [x]) := by show _ = _; rw [HSX.out, hkl]; rfl
                clear hkl
                have HWA : Hid (Wy SK (wr.alloc (.cells #[.string x] 9)) w.heap.size (.slice (some ⟨go, oo, none⟩) out.length co) out) := HWn.out.at fun q e => Below.heap_alloc _ _ _ (HWn.out.lt e).2
                have HBA : Hid (w.heap.size ≤ (wr.alloc (.cells #[.string x] 9)).heap.size) := by show _ ≤ (wr.alloc _).heap.size; simp; omega
                go_wp2_with (at_builtin; refine wpList_append_way skOk _ rfl (.tmp 46) (.tmp 51) rfl w.heap.size (.slice (some ⟨go, oo, none⟩) out.length co) out x rfl HWA.out wr.heap.size 1 rfl (heap_new _ _) HBA.out (by omega) ?_; intro v' w7 hw7 hg7 hs7; have HW7 := hide hw7; have HG7 := hide hg7; clear hw7 hg7 hs7)
                have HB7 : Hid (Below w.heap.size w w7) := (bel1 HBB.out HBB.out.size _).grown HG7.out HBA.out (fun q hq => (HWn.out.lt hq).1)
                go_wp2
                go_roundw
                case rel => exact ⟨k + 1, by omega, by go_num, HB7.out, by rw [HA2.out]; exact HW7.out⟩
                case measure => simp [intOf]; omega
              · have HA2 : Hid (alk [bNone] (a.take (k + 1)) = out) := by show _ = _; rw [HSX.out, hkl]; rfl
                clear hkl
                go_wp2
                go_roundw
                case rel => exact ⟨k + 1, by omega, by go_num, HBB.out, by rw [HA2.out]; exact HWn.out⟩
                case measure => simp [intOf]; omega
    · have hkz : ¬ (k : Int) < (a.length : Int) := by omega
      go_wp2
      go_ret
      exact ⟨_, rfl, by rw [← HEN.out (by omega)]; exact HWy.out, HB.out⟩
end Go.Proofs.YtmanfakdbmlfeaaDoor
