/- VREq -/
import Derived.Test.YthhlpjhkeendcaaGreatDoorS08
import Derived.Test.YthhlpjhkeendcaaGreatDoorS07
import Derived.Deep.RegionWith
namespace Go.Proofs.YthhlpjhkeendcaaGreatDoor
open Go.RowKit
set_option linter.unusedVariables false
set_option linter.unusedSimpArgs false
def REqOk (x : V) : Prop := ∀ (y : V) (n₀ : Nat) (w : World), n₀ ≤ w.heap.size → Lies n₀ w x → Lies n₀ w y →
  Calls Tryz.prog 97 #[x.val, y.val] w fun e w' => e = .returned (.bool (eqT x.t y.t)) ∧ Below w.heap.size w w'
set_option maxRecDepth 100000 in
set_option maxHeartbeats 2000000 in
theorem requal_any : ∀ x, REqOk x := by
  refine V.ind ?_
  intro k n s a c e l ih y n₀ w hn hx hy
  obtain ⟨k', n', s', a', c', e', m, rfl⟩ := V.ex y
  have HX := hide hx
  have HY := hide hy
  have IH := hide ih
  have o1 := hx.ok.c
  have o2 := hy.ok.c
  rw [eqT_of]
  clear hx hy ih
  rw [V.val_of, V.val_of]
  have hbel := fun A B => bel2 (Below.refl w.heap.size w) (Nat.le_refl _) A B
  by_cases hk : k = k'
  · subst hk
    by_cases hnn : n = n'
    · subst hnn
      by_cases hss : s.toList = s'.toList
      · have hsb : (s.toList == s'.toList) = true := by simpa using hss
        by_cases hee : e = e'
        · subst hee
          by_cases hlen : l.length = m.length
          · rw [← hlen]
            have hl1 : l.length ≤ m.length := by omega
            have hl2 : m.length ≤ l.length := by omega
            have HL := hide hlen
            clear hlen hbel
            go_enter Tryz.func97, Tryz.ntmps97
            go_wp2
            obtain ⟨W0, hW0⟩ : ∃ W0, (w.alloc (Obj.cells #[.int .i64 k, .int .u64 n, .string s, .slice a l.length c, .int .i64 e] 25)).alloc (Obj.cells #[.int .i64 k, .int .u64 n, .string s', .slice a' l.length c', .int .i64 e] 25) = W0 := ⟨_, rfl⟩
            have hs0 : W0.heap.size = w.heap.size + 2 := by rw [← hW0]; simp
            have hb0 : Below w.heap.size w W0 := by rw [← hW0]; exact bel2 (Below.refl _ _) (Nat.le_refl _) _ _
            have HBX : Hid (∀ wr, Below W0.heap.size W0 wr → (wr.cell? ⟨w.heap.size, 3, none⟩ = some (.slice a l.length c) ∧ wr.cell? ⟨w.heap.size + 1, 3, none⟩ = some (.slice a' l.length c'))) := fun wr h => by
              obtain ⟨q1, q2, _, _⟩ := box_cells (show Below _ _ wr by rw [hW0]; exact h)
              exact ⟨q1 3, q2 3⟩
            rw [hW0]
            clear hW0
            go_loopw [5] (fun i wr => ∃ j : Nat, i = .int .i64 j ∧ j ≤ l.length ∧ Below W0.heap.size W0 wr ∧ Hid (eqsT (V.ts l) (V.ts m) = eqsT (V.ts (l.drop j)) (V.ts (m.drop j)))) (fun i _ => l.length - (intOf i).toNat)
            case atStart => exact ⟨0, rfl, Nat.zero_le _, Below.refl _ _, rfl⟩
            case round =>
              obtain ⟨j, rfl, hj, hb, HO⟩ := hrel
              have hsz := hb.size
              obtain ⟨k3, m3⟩ := HBX.out wr hb
              have hbw : Below w.heap.size w wr := belOn hb0 (by omega) hb
              by_cases h1 : j < l.length
              · have h2 : j < m.length := by omega
                obtain ⟨b, o, rfl, hlt, hr⟩ := HX.out.row (by omega)
                obtain ⟨b', o', rfl, hlt', hr'⟩ := HY.out.row (by omega)
                obtain ⟨x0, x1, x2, x3, x4⟩ := (hr.below hbw (by omega)) j h1
                obtain ⟨y0, y1, y2, y3, y4⟩ := (hr'.below hbw (by omega)) j h2
                have hA : b < wr.heap.size := by omega
                have hB : b' < wr.heap.size := by omega
                have hx := IH.out l[j] (List.getElem_mem h1) m[j] n₀ wr.drew (by show _ ≤ wr.heap.size; omega) ((HX.out.sub _ (List.getElem_mem h1)).keep hbw.drew hn) ((HY.out.sub _ (List.getElem_mem h2)).keep hbw.drew hn)
                rw [V.val_eq, V.val_eq] at hx
                have HH := hide hx
                have hmx : Tryz.prog.follows .mixedOrders = true := by kernel_rfl
                have HST := hide (eqsT_step h1 h2)
                clear hx hr hr'
                go_wp2
                go_region_with (go_at_call 97; refine HH.out.mono ?_; rintro e1 w1 ⟨rfl, hb1⟩; have hbn : Below W0.heap.size W0 w1 := hb.drew.trans (hb1.mono (by show _ ≤ wr.heap.size; omega)); have hbwn : Below w.heap.size w w1 := hbw.drew.trans (hb1.mono (by show _ ≤ wr.heap.size; omega)))
                all_goals
                  generalize hr0 : eqT l[j].t m[j].t = r
                  rw [hr0] at HST
                  clear hr0
                  cases r
                  · go_wp2
                    go_ret
                    exact ⟨by rw [HO.out, HST.out]; simp, hbwn⟩
                  · go_wp2
                    go_roundw
                    case rel => exact ⟨j + 1, by go_num, h1, hbn, by rw [HO.out, HST.out, Bool.true_and]; rfl⟩
                    case measure => simp [intOf]; omega
              · obtain rfl : j = l.length := by omega
                go_wp2
                go_ret
                refine ⟨?_, hbw⟩
                have e1 : m.drop l.length = [] := List.drop_of_length_le (by omega)
                rw [HO.out, List.drop_length, e1]
                simp [hss, eqsT, V.ts, T.ords]
          · have hlb : ((l.length : Int) == (m.length : Int)) = false := by simp; omega
            have he : eqsT (V.ts l) (V.ts m) = false := by
              cases h : eqsT (V.ts l) (V.ts m) with
              | false => rfl
              | true =>
                have := eqsT_len h
                simp [V.ts_length] at this
                omega
            rw [he]
            go_enter Tryz.func97, Tryz.ntmps97
            go_wp2
            go_ret
            exact ⟨by simp, hbel _ _⟩
        · have heb : ((e : Int) == e') = false := by simpa using hee
          go_enter Tryz.func97, Tryz.ntmps97
          go_wp2
          go_ret
          exact ⟨by simp [hee], hbel _ _⟩
      · have hsb : (s.toList == s'.toList) = false := by simpa using hss
        go_enter Tryz.func97, Tryz.ntmps97
        go_wp2
        go_ret
        exact ⟨by simp [hss], hbel _ _⟩
    · have hnb : ((n : Int) == n') = false := by simpa using hnn
      go_enter Tryz.func97, Tryz.ntmps97
      go_wp2
      go_ret
      exact ⟨by simp [hnn], hbel _ _⟩
  · have hkb : ((k : Int) == k') = false := by simpa using hk
    go_enter Tryz.func97, Tryz.ntmps97
    go_wp2
    go_ret
    exact ⟨by simp [hk], hbel _ _⟩
end Go.Proofs.YthhlpjhkeendcaaGreatDoor
