
/- RouteLeads: the law's led. -/
import Derived.Test.YtmanfakdbmlfeaaDoorRLedM
import Derived.BigQuiet
namespace Go.Proofs.YtmanfakdbmlfeaaDoor
open Go.RowKit Go.Maps
set_option linter.unusedVariables false
set_option linter.unusedSimpArgs false
/-- what led asks of the bindings -/
structure LdB (W : List Bd) (M : List ByteArray) (t d : ByteArray) : Prop where
  ord : ∀ (i : Nat) (x y : Bd), W[i]? = some x → W[i + 1]? = some y → (x.1 ≠ y.1 → Op.bytesLess x.1.toList y.1.toList = true) ∧ (x.1 = y.1 → Op.bytesLess x.2.toList y.2.toList = true)
  fit : ∀ (i : Nat) (x : Bd), W[i]? = some x → x.1.size ≤ 281474976710656 ∧ fitE x.1 t = 0 ∧ x.2 ≠ d ∧ (fitB x.1 t = true → hasT M x.2 = true)
  mrd : ∀ (i : Nat) (x y : ByteArray), M[i]? = some x → M[i + 1]? = some y → Op.bytesLess x.toList y.toList = true
  way : ∀ (i : Nat) (x : ByteArray), M[i]? = some x → ∃ (j : Nat) (b : Bd), W[j]? = some b ∧ b.2 = x ∧ fitB b.1 t = true
def anyW (W : List Bd) (x t : ByteArray) : Bool := W.any fun b => decide (b.2 = x) && fitB b.1 t
theorem anyW_step {W : List Bd} {x t : ByteArray} {n : Nat} {b : Bd} (h : W[n]? = some b) : anyW (W.take (n + 1)) x t = (anyW (W.take n) x t || (decide (b.2 = x) && fitB b.1 t)) := by
  unfold anyW
  rw [List.take_add_one, h, List.any_append]
  simp
theorem anyW_all {W : List Bd} {x t : ByteArray} (h : ∃ (j : Nat) (b : Bd), W[j]? = some b ∧ b.2 = x ∧ fitB b.1 t = true) : anyW W x t = true := by
  obtain ⟨j, b, h1, h2, h3⟩ := h
  unfold anyW
  rw [List.any_eq_true]
  exact ⟨b, List.mem_of_getElem? h1, by rw [h3]; simpa using h2⟩
theorem bel_drewN {B : Nat} {a w : World} (h : Below B a w) (n : Nat) : Below B a (w.drewN n) := ⟨h.os, h.tape, h.output, h.size, h.block⟩
set_option maxRecDepth 100000 in
set_option maxHeartbeats 8000000 in
theorem led_some (W : List Bd) (M : List ByteArray) (t d : ByteArray) (base : Nat) (v vm : Value) (w : World) (hM : Wy SK w base vm M) (hW : Wy BK w base v W) (hL : LdB W M t d) (ht : t.size ≤ 281474976710656) (hn : W.length ≤ 4096) (hm : M.length ≤ 4096) (hne : W ≠ []) :
    Calls Tryd.prog 20 #[v, vm, .string t, .string d] w fun e w' => e = .returned (.bool true) ∧ Below w.heap.size w w' := by
  obtain ⟨g, o, c, rfl, hc, hmc, hbg, hx⟩ := hW.tlB hne
  have hg := hx.1
  have HX : Hid (∀ W', Below w.heap.size w W' → ∀ (i : Nat) (x : Bd), W[i]? = some x → W'.cell? ⟨g, o + i * 2, none⟩ = some (.string x.1) ∧ W'.cell? ⟨g, o + i * 2 + 1, none⟩ = some (.string x.2)) := fun W' hb => (hx.keep hb hg).2
  have HM : Hid (∀ W', Below w.heap.size w W' → Wy SK W' base vm M) := fun W' hb => hM.at fun k hk => hb.block k (hM.lt hk).2
  obtain ⟨ma, mc, rfl⟩ := hM.shape
  have HL := hide hL
  have hmx : Tryd.prog.follows .mixedOrders = true := by kernel_rfl
  clear hx hM hW hL hne
  go_enter Tryd.func20, Tryd.ntmps20
  go_wp2
  go_loopw [9] (fun i wr => ∃ k : Nat, k ≤ W.length ∧ i = .int .i64 k ∧ Below w.heap.size w wr) (fun i _ => W.length - (intOf i).toNat)
  case atStart => exact ⟨0, Nat.zero_le _, rfl, Below.refl _ _⟩
  case round =>
    obtain ⟨k, hk, rfl, hb⟩ := hrel
    have HB := hide hb
    clear hb
    by_cases hkn : k < W.length
    · obtain ⟨⟨p, q⟩, hx⟩ : ∃ x, W[k]? = some x := ⟨_, List.getElem?_eq_getElem hkn⟩
      have HXK := hide hx
      have hkz : (k : Int) < (W.length : Int) := by omega
      obtain ⟨f1, f2, f3, f4⟩ := HL.out.fit k (p, q) hx
      dsimp only at f1 f2 f3 f4
      obtain ⟨c1, c2⟩ := HX.out wr HB.out k (p, q) hx
      dsimp only at c1 c2
      have HFI : Hid (∀ W', Calls Tryd.prog 9 #[.string p, .string t] W' fun e w' => e = .returned (.tuple #[.bool (fitB p t), .int .i64 0]) ∧ Below W'.heap.size W' w') := fun W' => by rw [← f2]; exact Fits_any p t f1 ht W'
      have e3 : (q.toList == d.toList) = false := by rw [str_eq]; simpa using f3
      have HF4 := hide f4
      clear f2 f3 f4 hx f1
      rcases Nat.eq_zero_or_pos k with h0 | h0
      · subst h0
        simp only [Nat.zero_mul, Nat.add_zero] at c1 c2
        go_wp2_with fail
        go_quiet (fail)
        go_wp2_with fail
        refine (HFI.out _).mono ?_
        rintro e1 w1 ⟨rfl, hb1⟩
        have HB1 : Hid (Below w.heap.size w w1) := (bel_drewN HB.out _).trans (hb1.mono (bel_drewN HB.out _).size)
        obtain ⟨a1, a2⟩ := HX.out w1 HB1.out _ (p, q) HXK.out
        dsimp only at a1 a2
        simp only [Nat.zero_mul, Nat.add_zero] at a1 a2
        have HH := hide (lawhas_any M q base _ w1 (HM.out w1 HB1.out) (by omega))
        clear hb1
        go_wp2_with fail
        refine HH.out.mono ?_
        rintro e2 w2 ⟨rfl, rfl⟩
        cases hfb : fitB p t
        · clear hfb HF4
          go_wp2
          go_roundw
          case rel => exact ⟨0 + 1, by omega, by simp, HB1.out⟩
          case measure => first | omega | (simp [intOf]; omega)
        · have hht := HF4.out hfb
          rw [hht]
          clear hfb HF4 hht
          go_wp2
          go_roundw
          case rel => exact ⟨0 + 1, by omega, by simp, HB1.out⟩
          case measure => first | omega | (simp [intOf]; omega)
      · obtain ⟨j, hj⟩ : ∃ j, k = j + 1 := ⟨k - 1, by omega⟩
        obtain ⟨⟨p', q'⟩, hy⟩ : ∃ y, W[j]? = some y := ⟨_, List.getElem?_eq_getElem (by omega)⟩
        obtain ⟨o1, o2⟩ := HL.out.ord j (p', q') (p, q) hy (by rw [← hj]; exact HXK.out)
        obtain ⟨d1, d2⟩ := HX.out wr HB.out j (p', q') hy
        dsimp only at o1 o2 d1 d2
        have hjw : IntKind.i64.wrap ((k : Int) - 1) = (j : Int) := by rw [IntKind.wrap_i64]; omega
        have hk0 : (0 : Int) < (k : Int) := by omega
        have hjl : j < W.length := by omega
        have hjz : (j : Int) < (W.length : Int) := by omega
        clear hy
        by_cases hp : p' = p
        · have o3 := o2 hp
          have e4 : (p'.toList == p.toList) = true := by rw [str_eq]; simpa using hp
          clear o1 o2 hp hj
          go_wp2_with fail
          go_quiet (fail)
          go_wp2_with fail
          refine (HFI.out _).mono ?_
          rintro e1 w1 ⟨rfl, hb1⟩
          have HB1 : Hid (Below w.heap.size w w1) := (bel_drewN HB.out _).trans (hb1.mono (bel_drewN HB.out _).size)
          obtain ⟨a1, a2⟩ := HX.out w1 HB1.out _ (p, q) HXK.out
          dsimp only at a1 a2
          have HH := hide (lawhas_any M q base _ w1 (HM.out w1 HB1.out) (by omega))
          clear hb1
          go_wp2_with fail
          refine HH.out.mono ?_
          rintro e2 w2 ⟨rfl, rfl⟩
          cases hfb : fitB p t
          · clear hfb HF4
            go_wp2
            go_roundw
            case rel => exact ⟨k + 1, by omega, by simp, HB1.out⟩
            case measure => first | omega | (simp [intOf]; omega)
          · have hht := HF4.out hfb
            rw [hht]
            clear hfb HF4 hht
            go_wp2
            go_roundw
            case rel => exact ⟨k + 1, by omega, by simp, HB1.out⟩
            case measure => first | omega | (simp [intOf]; omega)
        · have e4 : (p'.toList == p.toList) = false := by rw [str_eq]; simpa using hp
          have e5 : ¬ p'.toList = p.toList := by simpa using e4
          have o3 := o1 hp
          clear o1 o2 hp hj
          go_wp2_with fail
          go_quiet (fail)
          go_wp2_with fail
          refine (HFI.out _).mono ?_
          rintro e1 w1 ⟨rfl, hb1⟩
          have HB1 : Hid (Below w.heap.size w w1) := (bel_drewN HB.out _).trans (hb1.mono (bel_drewN HB.out _).size)
          obtain ⟨a1, a2⟩ := HX.out w1 HB1.out _ (p, q) HXK.out
          dsimp only at a1 a2
          have HH := hide (lawhas_any M q base _ w1 (HM.out w1 HB1.out) (by omega))
          clear hb1
          go_wp2_with fail
          refine HH.out.mono ?_
          rintro e2 w2 ⟨rfl, rfl⟩
          cases hfb : fitB p t
          · clear hfb HF4
            go_wp2
            go_roundw
            case rel => exact ⟨k + 1, by omega, by simp, HB1.out⟩
            case measure => first | omega | (simp [intOf]; omega)
          · have hht := HF4.out hfb
            rw [hht]
            clear hfb HF4 hht
            go_wp2
            go_roundw
            case rel => exact ⟨k + 1, by omega, by simp, HB1.out⟩
            case measure => first | omega | (simp [intOf]; omega)
    · have e : k = W.length := by omega
      subst e
      obtain ⟨W1, hW1⟩ : ∃ W1, W1 = wr := ⟨_, rfl⟩
      subst hW1
      go_wp2_with fail
      go_loopw [13] (fun i wr => ∃ k : Nat, k ≤ M.length ∧ i = .int .i64 k ∧ Below w.heap.size w wr) (fun i _ => M.length - (intOf i).toNat)
      case atStart => exact ⟨0, Nat.zero_le _, rfl, HB.out⟩
      case round =>
        clear HB
        obtain ⟨k, hk, rfl, hb⟩ := hrel
        have HB := hide hb
        clear hb
        by_cases hkn : k < M.length
        · obtain ⟨x, hx⟩ : ∃ x, M[k]? = some x := ⟨_, List.getElem?_eq_getElem hkn⟩
          have HXK := hide hx
          have hkz : (k : Int) < (M.length : Int) := by omega
          have HAL := hide (anyW_all (HL.out.way k x hx))
          have hMne : M ≠ [] := by rintro rfl; simp at hkn
          obtain ⟨gm, om, cm, em, hcm, hmcm, hxm⟩ := (HM.out _ HB.out).tl hMne
          injection em with em1 em2 em3
          subst em1 em3
          have HMX : Hid (∀ W', Below w.heap.size w W' → ∀ (i : Nat) y, M[i]? = some y → W'.cell? ⟨gm, om + i, none⟩ = some (.string y)) := fun W' hb => by
            obtain ⟨g', o', c', e', _, _, h'⟩ := (HM.out W' hb).tl hMne
            injection e' with e1 e2 e3
            injection e1 with e1
            injection e1 with e4 e5 e6
            subst e4 e5
            exact h'.2
          have c1 := HMX.out wr HB.out k x hx
          clear hx hxm hMne
          rcases Nat.eq_zero_or_pos k with h0 | h0
          · subst h0
            simp only [Nat.add_zero] at c1
            go_wp2_with fail
            go_quiet (fail)
            go_wp2
            obtain ⟨W2, hW2⟩ : ∃ W2, W2 = wr.drewN nq := ⟨_, rfl⟩
            have HB2 : Hid (Below w.heap.size w W2) := by rw [hW2]; exact bel_drewN HB.out _
            rw [← hW2]
            clear hW2
            go_loopw [14, 15] (fun f i ws => ∃ n : Nat, n ≤ W.length ∧ i = .int .i64 n ∧ f = .bool (anyW (W.take n) x t) ∧ Below w.heap.size w ws) (fun _ i _ => W.length - (intOf i).toNat)
            case atStart => exact ⟨0, Nat.zero_le _, rfl, by rw [List.take_zero]; rfl, HB2.out⟩
            case round =>
              obtain ⟨n, hn2, rfl, rfl, hb⟩ := hrel
              clear HB HB2
              have HB := hide hb
              clear hb
              cases hf : anyW (W.take n) x t
              · by_cases hnn : n < W.length
                · obtain ⟨⟨p, q⟩, hb⟩ : ∃ b, W[n]? = some b := ⟨_, List.getElem?_eq_getElem hnn⟩
                  have HST := hide (anyW_step (x := x) (t := t) hb)
                  have hnz : (n : Int) < (W.length : Int) := by omega
                  obtain ⟨f1, f2, f3, f4⟩ := HL.out.fit n (p, q) hb
                  dsimp only at f1 f2 f3 f4
                  have HFI : Hid (∀ W', Calls Tryd.prog 9 #[.string p, .string t] W' fun e w' => e = .returned (.tuple #[.bool (fitB p t), .int .i64 0]) ∧ Below W'.heap.size W' w') := fun W' => by rw [← f2]; exact Fits_any p t f1 ht W'
                  obtain ⟨b1, b2⟩ := HX.out wr HB.out n (p, q) hb
                  dsimp only at b1 b2
                  have m1 := HMX.out wr HB.out _ x HXK.out
                  simp only [Nat.add_zero] at m1
                  have HBN := hide hb
                  by_cases hq : q = x
                  · have e1 : (q.toList == x.toList) = true := by rw [str_eq]; simpa using hq
                    have HN : Hid (anyW (W.take (n + 1)) x t = fitB p t) := by show _ = _; rw [HST.out, hf]; simp [hq]
                    clear hq hf HST f1 f2 f3 f4 hb
                    go_wp2_with fail
                    go_quiet (fail)
                    have HB3 := hide (bel_drewN HB.out nq)
                    obtain ⟨b3, b4⟩ := HX.out _ HB3.out n (p, q) HBN.out
                    dsimp only at b3 b4
                    go_wp2_with fail
                    refine (HFI.out _).mono ?_
                    rintro e1 w1 ⟨rfl, hb1⟩
                    have HB1 : Hid (Below w.heap.size w w1) := HB3.out.trans (hb1.mono HB3.out.size)
                    clear hb1
                    go_wp2
                    go_roundw
                    case rel => exact ⟨n + 1, by omega, by simp, by rw [HN.out], HB1.out⟩
                    case measure => first | omega | (simp [intOf]; omega)
                  · have e1 : (q.toList == x.toList) = false := by rw [str_eq]; simpa using hq
                    have HN : Hid (anyW (W.take (n + 1)) x t = false) := by show _ = _; rw [HST.out, hf]; simp [hq]
                    clear hq hf HST f1 f2 f3 f4 hb
                    go_wp2_with fail
                    go_quiet (fail)
                    have HB3 := hide (bel_drewN HB.out nq)
                    go_wp2
                    go_roundw
                    case rel => exact ⟨n + 1, by omega, by simp, by rw [HN.out], HB3.out⟩
                    case measure => first | omega | (simp [intOf]; omega)
                · have e : n = W.length := by omega
                  rw [e, List.take_length, HAL.out] at hf
                  cases hf
              · clear hf
                by_cases hnn : n < W.length
                · have hnz : (n : Int) < (W.length : Int) := by omega
                  go_wp2
                  go_roundw
                  case rel => exact ⟨0 + 1, by omega, by simp, HB.out⟩
                  case measure => first | omega | (simp [intOf]; omega)
                · have e : n = W.length := by omega
                  subst e
                  go_wp2
                  go_roundw
                  case rel => exact ⟨0 + 1, by omega, by simp, HB.out⟩
                  case measure => first | omega | (simp [intOf]; omega)
          · obtain ⟨j, hj⟩ : ∃ j, k = j + 1 := ⟨k - 1, by omega⟩
            obtain ⟨y, hy⟩ : ∃ y, M[j]? = some y := ⟨_, List.getElem?_eq_getElem (by omega)⟩
            have o3 := HL.out.mrd j y x hy (by rw [← hj]; exact HXK.out)
            have d1 := HMX.out wr HB.out j y hy
            have hjw : IntKind.i64.wrap ((k : Int) - 1) = (j : Int) := by rw [IntKind.wrap_i64]; omega
            have hk0 : (0 : Int) < (k : Int) := by omega
            have hjl : j < M.length := by omega
            have hjz : (j : Int) < (M.length : Int) := by omega
            clear hy hj
            go_wp2_with fail
            go_quiet (fail)
            go_wp2
            obtain ⟨W2, hW2⟩ : ∃ W2, W2 = wr.drewN nq := ⟨_, rfl⟩
            have HB2 : Hid (Below w.heap.size w W2) := by rw [hW2]; exact bel_drewN HB.out _
            rw [← hW2]
            clear hW2
            go_loopw [14, 15] (fun f i ws => ∃ n : Nat, n ≤ W.length ∧ i = .int .i64 n ∧ f = .bool (anyW (W.take n) x t) ∧ Below w.heap.size w ws) (fun _ i _ => W.length - (intOf i).toNat)
            case atStart => exact ⟨0, Nat.zero_le _, rfl, by rw [List.take_zero]; rfl, HB2.out⟩
            case round =>
              obtain ⟨n, hn2, rfl, rfl, hb⟩ := hrel
              clear HB HB2
              have HB := hide hb
              clear hb
              cases hf : anyW (W.take n) x t
              · by_cases hnn : n < W.length
                · obtain ⟨⟨p, q⟩, hb⟩ : ∃ b, W[n]? = some b := ⟨_, List.getElem?_eq_getElem hnn⟩
                  have HST := hide (anyW_step (x := x) (t := t) hb)
                  have hnz : (n : Int) < (W.length : Int) := by omega
                  obtain ⟨f1, f2, f3, f4⟩ := HL.out.fit n (p, q) hb
                  dsimp only at f1 f2 f3 f4
                  have HFI : Hid (∀ W', Calls Tryd.prog 9 #[.string p, .string t] W' fun e w' => e = .returned (.tuple #[.bool (fitB p t), .int .i64 0]) ∧ Below W'.heap.size W' w') := fun W' => by rw [← f2]; exact Fits_any p t f1 ht W'
                  obtain ⟨b1, b2⟩ := HX.out wr HB.out n (p, q) hb
                  dsimp only at b1 b2
                  have m1 := HMX.out wr HB.out _ x HXK.out
                  have HBN := hide hb
                  by_cases hq : q = x
                  · have e1 : (q.toList == x.toList) = true := by rw [str_eq]; simpa using hq
                    have HN : Hid (anyW (W.take (n + 1)) x t = fitB p t) := by show _ = _; rw [HST.out, hf]; simp [hq]
                    clear hq hf HST f1 f2 f3 f4 hb
                    go_wp2_with fail
                    go_quiet (fail)
                    have HB3 := hide (bel_drewN HB.out nq)
                    obtain ⟨b3, b4⟩ := HX.out _ HB3.out n (p, q) HBN.out
                    dsimp only at b3 b4
                    go_wp2_with fail
                    refine (HFI.out _).mono ?_
                    rintro e1 w1 ⟨rfl, hb1⟩
                    have HB1 : Hid (Below w.heap.size w w1) := HB3.out.trans (hb1.mono HB3.out.size)
                    clear hb1
                    go_wp2
                    go_roundw
                    case rel => exact ⟨n + 1, by omega, by simp, by rw [HN.out], HB1.out⟩
                    case measure => first | omega | (simp [intOf]; omega)
                  · have e1 : (q.toList == x.toList) = false := by rw [str_eq]; simpa using hq
                    have HN : Hid (anyW (W.take (n + 1)) x t = false) := by show _ = _; rw [HST.out, hf]; simp [hq]
                    clear hq hf HST f1 f2 f3 f4 hb
                    go_wp2_with fail
                    go_quiet (fail)
                    have HB3 := hide (bel_drewN HB.out nq)
                    go_wp2
                    go_roundw
                    case rel => exact ⟨n + 1, by omega, by simp, by rw [HN.out], HB3.out⟩
                    case measure => first | omega | (simp [intOf]; omega)
                · have e : n = W.length := by omega
                  rw [e, List.take_length, HAL.out] at hf
                  cases hf
              · clear hf
                by_cases hnn : n < W.length
                · have hnz : (n : Int) < (W.length : Int) := by omega
                  go_wp2
                  go_roundw
                  case rel => exact ⟨k + 1, by omega, by simp, HB.out⟩
                  case measure => first | omega | (simp [intOf]; omega)
                · have e : n = W.length := by omega
                  subst e
                  go_wp2
                  go_roundw
                  case rel => exact ⟨k + 1, by omega, by simp, HB.out⟩
                  case measure => first | omega | (simp [intOf]; omega)
        · have e : k = M.length := by omega
          subst e
          go_wp2
          go_ret
          exact ⟨rfl, HB.out⟩
end Go.Proofs.YtmanfakdbmlfeaaDoor
