
/- Stage 17: container/heap's up. -/
import Derived.Test.YtnbhifakfehefaaKSwap
namespace Go.Proofs.Ytnbhifakfehefaa
open Go.RowKit
set_option linter.unusedVariables false
set_option linter.unusedSimpArgs false
def ifc (qb : Nat) : Value := .iface 72 (.pointer (some ⟨qb, 7, none⟩))
/-- a line in its queue's block, on the way of a heap operation -/
structure Ln (w : World) (B qb : Nat) (F : Value) (H : List Nat) (E : Nat → It) : Prop where
  lx : Lx w B F H E
  cell : w.cell? ⟨qb, 7, none⟩ = some F
  out : ¬ inF F H qb
theorem Ln.below {w w' : World} {B qb : Nat} {F : Value} {H : List Nat} {E : Nat → It} (h : Ln w B qb F H E) (hb : Below w.heap.size w w') : Ln w' B qb F H E := ⟨h.lx.below hb, cell_on hb h.cell, h.out⟩
theorem inF_perm {F : Value} {H H' : List Nat} (h : H'.Perm H) (k : Nat) : inF F H' k ↔ inF F H k := by
  unfold inF
  rw [h.mem_iff]
/-- a Swap, the line in its queue's block -/
theorem Ln.swapped {w w' : World} {B qb : Nat} {F : Value} {H : List Nat} {E : Nat → It} (h : Ln w B qb F H E) {i j : Nat} (hi : i < H.length) (hj : j < H.length) (hl : Lx w' B F (sw H i j) E) (hk : Kp (inF F H) w w') : Ln w' B qb F (sw H i j) E :=
  ⟨hl, (hk.cell (cell_lt h.cell) h.out).trans h.cell, fun e => h.out ((inF_perm (sw_perm H i j hi hj) qb).1 e)⟩
set_option maxRecDepth 100000 in
set_option maxHeartbeats 4000000 in
theorem up_any (B qb : Nat) (F : Value) (H : List Nat) (E : Nat → It) (j : Nat) (w : World) (n : Nat) (h : Ln w B qb F H E) (hj : j < n) (hn : n ≤ H.length) (hu : UpI (leE E) H n j) :
    Calls Try.prog 41 #[ifc qb, .int .i64 (j : Int)] w fun e w' => e = .returned (.tuple #[]) ∧ Hid (∃ H', H'.Perm H ∧ Ln w' B qb F H' E ∧ HeapOk (leE E) H' n ∧ (∀ k, n ≤ k → hv H' k = hv H k) ∧ Kp (inF F H) w w') := by
  have hlen := h.lx.len
  have hj4 : j < 4096 := by omega
  have HS : Hid (∃ H1 : List Nat, H1.Perm H ∧ Ln w B qb F H1 E ∧ UpI (leE E) H1 n j ∧ (j < n ∧ n ≤ H1.length) ∧ (∀ k, n ≤ k → hv H1 k = hv H k) ∧ Kp (inF F H) w w) := ⟨H, List.Perm.refl _, h, hu, ⟨hj, hn⟩, fun _ _ => rfl, Kp.refl _ _⟩
  clear h hu hn
  unfold ifc
  go_enter Try.func41, Try.ntmps41
  go_wp2
  go_loopw [1, 4] (fun vj vi wr => ∃ j : Nat, vj = .int .i64 (j : Int) ∧ j < 4096 ∧ Hid (∃ H1 : List Nat, H1.Perm H ∧ Ln wr B qb F H1 E ∧ UpI (leE E) H1 n j ∧ (j < n ∧ n ≤ H1.length) ∧ (∀ k, n ≤ k → hv H1 k = hv H k) ∧ Kp (inF F H) w wr)) (fun vj _ _ => (intOf vj).toNat)
  case atStart => exact ⟨j, rfl, hj4, HS⟩
  case round =>
    obtain ⟨j, rfl, hj, HR⟩ := hrel
    obtain ⟨H1, hp, hl, hu, ⟨hjn, hn1⟩, hbey, hk⟩ := HR.out
    have hj1 : j < H1.length := by omega
    have HJN := hide hjn
    have HN1 := hide hn1
    have HBY := hide hbey
    have HP := hide hp
    have HL := hide hl
    have HU := hide hu
    have HJ1 := hide hj1
    have HK := hide hk
    clear HR hp hl hu hj1 hk hjn hn1 hbey
    by_cases h0 : 0 < j
    · have hw : IntKind.i64.wrap ((j : Int) - 1) = (j : Int) - 1 := by rw [IntKind.wrap_i64]; omega
      obtain ⟨P, hP⟩ : ∃ P, P = par j := ⟨_, rfl⟩
      have HPP := hide hP
      have hq : ((j : Int) - 1) / 2 = (P : Int) := by rw [hP]; unfold par; omega
      have hPj : P < j := by rw [hP]; unfold par; omega
      have he : ((P : Int) == (j : Int)) = false := by rw [beq_eq_false_iff_ne]; omega
      have hm := mLess wr qb F HL.out.cell
      clear hP
      go_wp2_with fail
      refine Calls.mono (less_line B F H1 E wr HL.out.lx j P HJ1.out (by have := HJ1.out; omega)) ?_
      rintro e w2 ⟨rfl, hb2⟩
      have HL2 := hide (HL.out.below hb2)
      have HK2 := hide (HK.out.below hb2)
      have hm2 := mSwap w2 qb F HL2.out.cell
      clear hm hb2
      by_cases hz : ordZ (E (hv H1 j)) (E (hv H1 P)) < 0
      · have HZ := hide ((ordZ_neg _ _).1 hz)
        go_wp2_with fail
        refine Calls.mono (swap_line B F H1 E w2 HL2.out.lx P j (by have := HJ1.out; omega) HJ1.out (by omega)) ?_
        rintro e w3 ⟨rfl, HW⟩
        go_wp2
        go_roundw
        case rel =>
          refine ⟨P, rfl, by omega, sw H1 P j, (sw_perm H1 P j (by have := HJ1.out; omega) HJ1.out).trans HP.out, HL2.out.swapped (by have := HJ1.out; omega) HJ1.out HW.out.1 HW.out.2, ?_, ⟨by have := HJN.out; omega, by rw [sw_len]; exact HN1.out⟩, ?_, ?_⟩
          · rw [HPP.out]
            exact up_step (leE_trans E) HU.out h0 HJN.out HN1.out (by rw [← HPP.out]; exact leE_of E _ _ HZ.out)
          · intro k hk
            rw [hv_sw H1 P j k (by have := HJ1.out; omega) HJ1.out, if_neg (by have := HJN.out; omega), if_neg (by have := HJN.out; omega)]
            exact HBY.out k hk
          · exact HK2.out.trans (HW.out.2.mono (fun k hk => (inF_perm HP.out k).1 hk))
        case measure => simp [intOf]; omega
      · have HZ : Hid (leE E (hv H1 (par j)) (hv H1 j)) := by
          rw [← HPP.out]
          exact fun ha => hz ((ordZ_neg _ _).2 ha)
        have hd : decide (ordZ (E (hv H1 j)) (E (hv H1 P)) < 0) = false := decide_eq_false hz
        clear hz
        go_wp2
        go_end0
        exact ⟨rfl, H1, HP.out, HL2.out, up_end HU.out (.inr HZ.out), HBY.out, HK2.out⟩
    · obtain rfl : j = 0 := by omega
      go_wp2
      go_end0
      exact ⟨rfl, H1, HP.out, HL.out, up_end HU.out (.inl rfl), HBY.out, HK.out⟩
end Go.Proofs.Ytnbhifakfehefaa
