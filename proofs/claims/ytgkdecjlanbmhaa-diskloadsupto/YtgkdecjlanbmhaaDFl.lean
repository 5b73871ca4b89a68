
/- Stage 19: a file falls. -/
import Derived.Test.YtgkdecjlanbmhaaDSm
import Derived.RegionTactic
import Derived.ChangeAlike
namespace Go.Proofs.Ytgkdecjlanbmhaa
open Go.RowKit Go.Maps
set_option linter.unusedVariables false
set_option linter.unusedSimpArgs false
theorem Rb.cut {w : World} {a : Option Addr} {c : Nat} {l : List Nat} (h : Rb w (.slice a l.length c) l) {n : Nat} (hn : n ≤ l.length) : Rb w (.slice a n c) (l.take n) := by
  obtain ⟨a', c', e, h1, h2, h3, h4, h5⟩ := h
  simp only [Value.slice.injEq] at e
  obtain ⟨rfl, _, rfl⟩ := e
  have hl : (l.take n).length = n := by simp; omega
  refine ⟨a, c, by rw [hl], h1, by omega, rfl, fun x hx => h4 x (List.mem_of_mem_take hx), fun h0 => ?_⟩
  obtain ⟨b, off, e, hb, hc⟩ := h5 (by omega)
  refine ⟨b, off, e, hb, fun j hj => ?_⟩
  rw [hc j (by omega)]
  simp [List.getD_eq_getElem?_getD, List.getElem?_take, show j < n by omega]
/-- a file's two cells -/
def FB (w : World) (p : Nat) (v : Value) (s : Nat) : Prop := w.heap[p]? = some (.cells (flA v s) 91 (0, 0))
theorem FB.set0 {w : World} {p : Nat} {v : Value} {s : Nat} (h : FB w p v s) (v' : Value) : FB (w.setCell ⟨p, 0, none⟩ v') p v' s := blk_set h 0 v'
theorem FB.set1 {w : World} {p : Nat} {v : Value} {s : Nat} (h : FB w p v s) (n : Nat) : FB (w.setCell ⟨p, 1, none⟩ (.int .i64 (n : Int))) p v n := blk_set h 1 _
theorem FB.c0 {w : World} {p : Nat} {v : Value} {s : Nat} (h : FB w p v s) : w.cell? ⟨p, 0, none⟩ = some v := cellOf h 0 _ rfl
theorem FB.c1 {w : World} {p : Nat} {v : Value} {s : Nat} (h : FB w p v s) : w.cell? ⟨p, 1, none⟩ = some (.int .i64 (s : Int)) := cellOf h 1 _ rfl
theorem FB.frozen {w : World} {p : Nat} {v : Value} {s : Nat} (h : FB w p v s) (o : Nat) : w.frozen? ⟨p, o, none⟩ = false := frozen_of h o
theorem FB.lt {w : World} {p : Nat} {v : Value} {s : Nat} (h : FB w p v s) : p < w.heap.size := (Array.getElem?_eq_some_iff.1 h).1
theorem FB.ne {w : World} {p : Nat} {v : Value} {s : Nat} (h : FB w p v s) {B : Nat} {u : Value} {l : List Nat} (ho : Ob B w u l) {g : Nat} (hg : u.ownBlock = some g) : g ≠ p := by
  rintro rfl
  obtain ⟨cs', fr', h1⟩ := ho.blk hg
  have := h.symm.trans h1
  simp at this
theorem ob_set {B : Nat} {w : World} {u : Value} {l : List Nat} (ho : Ob B w u l) {p : Nat} {v : Value} {s : Nat} (h : FB w p v s) (o : Nat) (x : Value) : Ob B (w.setCell ⟨p, o, none⟩ x) u l :=
  ho.at_same (fun g hg => blk_set_other _ _ _ _ (h.ne ho hg))
theorem kp_self {g : Nat} {w w' : World} (h : Kp (fun k => k = g) w w') (o : Nat) (v : Value) : Kp (fun k => k = g) w (w'.setCell ⟨g, o, none⟩ v) := Kp.setCell h rfl v
theorem drew_below (w : World) : Below w.heap.size w w.drew := Below.drew (Below.refl _ _)
set_option maxHeartbeats 4000000 in
theorem ffall_any (p : Nat) (v : Value) (l : List Nat) (s : Nat) (keep : Int) (w : World) (hk : -9223372036854775808 ≤ keep ∧ keep < 9223372036854775808) (hb : FB w p v s) (ho : Ob 0 w v l) (hs : s ≤ l.length) (hl : l.length ≤ 16777216) :
    Calls Try.prog 76 #[pV p, .int .i64 keep] w fun e w' => e = .returned (.tuple #[]) ∧ ∃ v', FB w' p v' (stay l.length s keep) ∧ Ob 0 w' v' (l.take (stay l.length s keep)) ∧ Whe w v v' ∧ Kp (fun k => k = p) w w' := by
  have HB := hide hb
  have HO := hide ho
  obtain ⟨a, c, rfl, hc⟩ := ho.slice
  have c0 : w.cell? ⟨p, 0, none⟩ = some (.slice a l.length c) := hb.c0
  have c1 : w.cell? ⟨p, 1, none⟩ = some (.int .i64 (s : Int)) := hb.c1
  have f1 : w.frozen? ⟨p, 1, none⟩ = false := hb.frozen 1
  clear hb ho
  unfold pV
  have fin : ∀ n : Nat, stay l.length s keep = n → n = l.length → Hid (∃ v', FB (w.setCell ⟨p, 1, none⟩ (.int .i64 (n : Int))).drew p v' (stay l.length s keep) ∧ Ob 0 (w.setCell ⟨p, 1, none⟩ (.int .i64 (n : Int))).drew v' (l.take (stay l.length s keep)) ∧ Whe w (.slice a l.length c) v' ∧ Kp (fun k => k = p) w (w.setCell ⟨p, 1, none⟩ (.int .i64 (n : Int))).drew) := fun n e1 e2 => by
    have hb : FB w.drew p (.slice a l.length c) s := HB.out
    have ho : Ob 0 w.drew (.slice a l.length c) l := HO.out.below (drew_below w)
    rw [e1, show (w.setCell ⟨p, 1, none⟩ (.int .i64 (n : Int))).drew = w.drew.setCell ⟨p, 1, none⟩ (.int .i64 (n : Int)) from rfl]
    exact ⟨_, hb.set1 n, by rw [e2, List.take_of_length_le (Nat.le_refl _)]; exact ob_set ho hb 1 _, fun g hg => .inl hg, kp_self (Kp.ofBelow (drew_below w)) _ _⟩
  have own : ∀ n : Nat, stay l.length s keep = n → n ≤ l.length → Hid (Calls Try.prog 53 #[.slice a n c] w.drew fun e w1 => ∃ a' n' c', e = .returned (.slice a' n' c') ∧ (FB w1 p (.slice a l.length c) s ∧ Hid (∃ v'', FB ((w1.setCell ⟨p, 0, none⟩ (.slice a' n' c')).setCell ⟨p, 1, none⟩ (.int .i64 (n : Int))) p v'' (stay l.length s keep) ∧ Ob 0 ((w1.setCell ⟨p, 0, none⟩ (.slice a' n' c')).setCell ⟨p, 1, none⟩ (.int .i64 (n : Int))) v'' (l.take (stay l.length s keep)) ∧ Whe w (.slice a l.length c) v'' ∧ Kp (fun k => k = p) w ((w1.setCell ⟨p, 0, none⟩ (.slice a' n' c')).setCell ⟨p, 1, none⟩ (.int .i64 (n : Int)))))) := fun n e1 e2 => by
    have hr : Rb w.drew (.slice a n c) (l.take n) := ((HO.out.below (drew_below w)).rb).cut e2
    refine (own_any _ _ w.drew hr (by simp; omega)).mono ?_
    rintro e w1 ⟨v', rfl, h1, h2⟩
    obtain ⟨a', c', rfl, _⟩ := h1.slice
    have hb : FB w1 p (.slice a l.length c) s := (h2.block p HB.out.lt).trans HB.out
    have h3 := hb.set0 (.slice a' (l.take n).length c')
    refine ⟨a', _, c', rfl, hb, _, by rw [e1]; exact h3.set1 n, by rw [e1]; exact ob_set (ob_set (h1.mono (Nat.zero_le _)) hb 0 _) h3 1 _, fun g hg => .inr (h1.lt g hg).1, kp_self (kp_self ((Kp.ofBelow (drew_below w)).below h2) _ _) _ _⟩
  have hcase : keep < 0 ∨ ∃ k : Nat, keep = k := by
    by_cases h : keep < 0
    · exact .inl h
    · exact .inr ⟨keep.toNat, by omega⟩
  have hw1 : IntKind.i64.wrap ((l.length : Int) - s) = (l.length : Int) - s := by rw [IntKind.wrap_i64]; omega
  rcases hcase with h1 | ⟨k, rfl⟩
  · have e1 : stay l.length s keep = s := by unfold stay; omega
    have hw2 : IntKind.i64.wrap (s : Int) = s := by rw [IntKind.wrap_i64]; omega
    have hi1 : (if keep < 0 then (0 : Int) else keep) = 0 := if_pos h1
    have hi2 : (if (l.length : Int) - s < 0 then (l.length : Int) - s else 0) = 0 := if_neg (by omega)
    by_cases h2 : s < l.length
    · have OWN := own s e1 hs
      have z1 : ¬ (l.length : Int) - s < 0 := by omega
      have z2 : (s : Int) < (l.length : Int) := by omega
      clear own fin
      have E1 := hide e1
      clear e1
      go_enter Try.func76, Try.ntmps76
      go_wp2_with fail
      go_region_held (fun W => W.cell? ⟨p, 0, none⟩ = some (.slice a l.length c) ∧ W.cell? ⟨p, 1, none⟩ = some (.int .i64 (s : Int))) (exact ⟨c0, c1⟩) (fail)
      go_wp2_with fail
      refine OWN.out.mono ?_
      rintro e w1 ⟨a', n', c', rfl, hb1, HF⟩
      have d0 := hb1.c0
      have d1 := hb1.c1
      have g0 := hb1.frozen 0
      have g1 := hb1.frozen 1
      clear hb1
      go_wp2
      go_end0
      exact ⟨rfl, by first | exact HF.out | simpa using HF.out | (have h := HF.out; rw [E1.out] at h; simpa using h)⟩
    · have FIN := fin s e1 (by omega)
      have z1 : ¬ (l.length : Int) - s < 0 := by omega
      have z2 : ¬ (s : Int) < (l.length : Int) := by omega
      clear own fin h2
      have E1 := hide e1
      clear e1
      go_enter Try.func76, Try.ntmps76
      go_wp2_with fail
      go_region_held (fun W => W.cell? ⟨p, 0, none⟩ = some (.slice a l.length c) ∧ W.cell? ⟨p, 1, none⟩ = some (.int .i64 (s : Int))) (exact ⟨c0, c1⟩) (fail)
      go_wp2
      go_end0
      exact ⟨rfl, by first | exact FIN.out | simpa using FIN.out | (have h := FIN.out; rw [E1.out] at h; simpa using h)⟩
  · have hi1 : (if (k : Int) < 0 then (0 : Int) else k) = k := if_neg (by omega)
    rcases (show (k : Int) < (l.length : Int) - s ∨ (l.length : Int) - s < k ∨ s + k = l.length by omega) with h2 | h2 | h2
    · have e1 : stay l.length s (k : Int) = s + k := by unfold stay; omega
      have OWN := own (s + k) e1 (by omega)
      have z1 : ¬ (l.length : Int) - s < (k : Int) := by omega
      have hw2 : IntKind.i64.wrap ((s : Int) + k) = s + k := by rw [IntKind.wrap_i64]; omega
      have hi2 : (if (l.length : Int) - s < (k : Int) then (l.length : Int) - s else (k : Int)) = k := if_neg (by omega)
      have z3 : (s : Int) + k < (l.length : Int) := by omega
      clear own fin
      have E1 := hide e1
      clear e1
      go_enter Try.func76, Try.ntmps76
      go_wp2_with fail
      go_region_held (fun W => W.cell? ⟨p, 0, none⟩ = some (.slice a l.length c) ∧ W.cell? ⟨p, 1, none⟩ = some (.int .i64 (s : Int))) (exact ⟨c0, c1⟩) (fail)
      go_wp2_with fail
      refine OWN.out.mono ?_
      rintro e w1 ⟨a', n', c', rfl, hb1, HF⟩
      have d0 := hb1.c0
      have d1 := hb1.c1
      have g0 := hb1.frozen 0
      have g1 := hb1.frozen 1
      clear hb1
      go_wp2
      go_end0
      exact ⟨rfl, by first | exact HF.out | simpa using HF.out | (have h := HF.out; rw [E1.out] at h; simpa using h)⟩
    · have e1 : stay l.length s (k : Int) = l.length := by unfold stay; omega
      have FIN := fin l.length e1 rfl
      have z2 : (s : Int) + ((l.length : Int) - s) = l.length := by omega
      have hw2 : IntKind.i64.wrap (l.length : Int) = l.length := by rw [IntKind.wrap_i64]; omega
      have hi2 : (if (l.length : Int) - s < (k : Int) then (l.length : Int) - s else (k : Int)) = (l.length : Int) - s := if_pos h2
      clear own fin
      have E1 := hide e1
      clear e1
      go_enter Try.func76, Try.ntmps76
      go_wp2_with fail
      go_region_held (fun W => W.cell? ⟨p, 0, none⟩ = some (.slice a l.length c) ∧ W.cell? ⟨p, 1, none⟩ = some (.int .i64 (s : Int))) (exact ⟨c0, c1⟩) (fail)
      go_wp2
      go_end0
      exact ⟨rfl, by first | exact FIN.out | simpa using FIN.out | (have h := FIN.out; rw [E1.out] at h; simpa using h)⟩
    · have e1 : stay l.length s (k : Int) = s + k := by unfold stay; omega
      have FIN := fin (s + k) e1 h2
      have hw2 : IntKind.i64.wrap ((s : Int) + k) = s + k := by rw [IntKind.wrap_i64]; omega
      have hi2 : (if (l.length : Int) - s < (k : Int) then (l.length : Int) - s else (k : Int)) = k := if_neg (by omega)
      have z1 : ¬ (l.length : Int) - s < (k : Int) := by omega
      have z2 : ¬ (s : Int) + k < (l.length : Int) := by omega
      clear own fin h2
      have E1 := hide e1
      clear e1
      go_enter Try.func76, Try.ntmps76
      go_wp2_with fail
      go_region_held (fun W => W.cell? ⟨p, 0, none⟩ = some (.slice a l.length c) ∧ W.cell? ⟨p, 1, none⟩ = some (.int .i64 (s : Int))) (exact ⟨c0, c1⟩) (fail)
      go_wp2
      go_end0
      exact ⟨rfl, by first | exact FIN.out | simpa using FIN.out | (have h := FIN.out; rw [E1.out] at h; simpa using h)⟩
end Go.Proofs.Ytgkdecjlanbmhaa
