import Derived.Test.YtondbhdlccpklaaQPeerM9
import Derived.Deep.RegionHeld

/- Stage 13: laws at the operations on tables. -/
namespace Go.Proofs.Ytondbhdlccpklaa
open Go.RowKit Go.Maps
set_option linter.unusedVariables false
set_option linter.unusedSimpArgs false

def hasK {A : Type} (l : List (Int × A)) (k : Int) : Bool := l.any (fun p => p.1 == k)
def lu {A : Type} (d : A) (l : List (Int × A)) (k : Int) : A := match l.find? (fun p => p.1 == k) with | some p => p.2 | none => d
def pd0 : Pd := (0, 0, ⟨#[]⟩)
theorem lu_mem {A : Type} {d : A} {l : List (Int × A)} {k : Int} (h : hasK l k = true) : (k, lu d l k) ∈ l := by
  unfold lu
  cases hf : l.find? (fun p => p.1 == k) with
  | none =>
    have := List.find?_eq_none.1 hf
    obtain ⟨p, hp, hk⟩ := List.any_eq_true.1 h
    exact absurd hk (this p hp)
  | some p =>
    have h1 := List.mem_of_find?_eq_some hf
    have h2 := List.find?_some hf
    simp at h2
    obtain ⟨a, b⟩ := p
    simp at h2
    subst h2
    exact h1
theorem lu_none {A : Type} {d : A} {l : List (Int × A)} {k : Int} (h : hasK l k = false) : lu d l k = d := by
  unfold lu
  cases hf : l.find? (fun p => p.1 == k) with
  | none => rfl
  | some p =>
    have h1 := List.mem_of_find?_eq_some hf
    have h2 := List.find?_some hf
    unfold hasK at h
    rw [List.any_eq_false] at h
    exact absurd h2 (h p h1)
theorem Rp.lu {A : Type} {mk : A → Value} {D : DataW Value} {l : List (Int × A)} (h : Rp mk D l) (d : A) (k : Int) : D.atKey (.int .i64 k) (.held (mk d)) = .held (mk (lu d l k)) := by
  cases hh : hasK l k with
  | true => exact h.at (lu_mem hh) _
  | false => rw [lu_none hh]; exact h.at_none (any_not.1 hh) _

theorem zeroI (w : World) : (zeroValue 3).run Try.prog w = .ok (intV 0) w := by kernel_rfl
theorem zeroP (w : World) : (zeroValue 75).run Try.prog w = .ok (pdV pd0) w := by kernel_rfl
theorem grown_kp {w w' : World} {b : Nat} (h : w.mapTurned w' b) : Kp (fun k => k = b) w w' := (Kp.refl _ w).grown h.grown (fun j hj => by cases hj; exact .inl rfl)
open Go.ChangeMaps Go.MapKept in
theorem turned_size {w w' : World} {b : Nat} (h : w.mapTurned w' b) : w'.heap.size = w.heap.size := by
  obtain ⟨es, clock, es', clock', hb, rfl⟩ := h
  simp [setBlock]
section
variable {ops : Array Oper} {rest : List Oper} {o : Oper} {a : Act} {Q : Exit → Act → World → Prop} {w : World}
theorem look_I (hg : o.guard = none) (m x : Operand) (hop : o.op = Op.lookup 88 m x true) (b : Nat) (hm : a.eval m = .map (some b)) (k : Int) (hx : a.eval x = .int .i64 k) (l : List (Int × Int)) (hT : TbI w b l) (hk : wf64 k)
    (hK : wpList Try.prog ops Q rest (a.put o.dst (.tuple #[.int .i64 (lu 0 l k), .bool (hasK l k)])) w) : wpList Try.prog ops Q (o :: rest) a w := by
  obtain ⟨D, h1, h2⟩ := hT
  refine wpList_lookup_own_ok w hg m x 88 hop 3 3 Try.keyed Try.underlying88 rI (zeroI w) (.held (intV 0)) [] rfl b _ D hm h1 _ (.int .i64 k) hx (key64 hk) ?_
  intro v ps hv
  rw [h2.lu 0 k] at hv
  obtain ⟨c, rfl, e⟩ := rI_inv hv
  simp only [Prod.mk.injEq, DataW.held.injEq] at e
  rw [← e.1, h2.has]
  exact hK
theorem look_P (hg : o.guard = none) (m x : Operand) (hop : o.op = Op.lookup 90 m x true) (b : Nat) (hm : a.eval m = .map (some b)) (k : Int) (hx : a.eval x = .int .i64 k) (l : List (Int × Pd)) (hT : TbP w b l) (hk : wf64 k)
    (hK : wpList Try.prog ops Q rest (a.put o.dst (.tuple #[pdV (lu pd0 l k), .bool (hasK l k)])) w) : wpList Try.prog ops Q (o :: rest) a w := by
  obtain ⟨D, h1, h2⟩ := hT
  refine wpList_lookup_own_ok w hg m x 90 hop 3 75 Try.keyed Try.underlying90 rP (zeroP w) (.held (pdV pd0)) [] (rP_mk _) b _ D hm h1 _ (.int .i64 k) hx (key64 hk) ?_
  intro v ps hv
  rw [h2.lu pd0 k] at hv
  obtain ⟨c, rfl, e⟩ := rP_inv hv
  simp only [Prod.mk.injEq, DataW.held.injEq] at e
  rw [← e.1, h2.has]
  exact hK
/-- 'm[k]' without ok -/
theorem look1_P (hg : o.guard = none) (m x : Operand) (hop : o.op = Op.lookup 90 m x false) (b : Nat) (hm : a.eval m = .map (some b)) (k : Int) (hx : a.eval x = .int .i64 k) (l : List (Int × Pd)) (hT : TbP w b l) (hk : wf64 k)
    (hK : wpList Try.prog ops Q rest (a.put o.dst (pdV (lu pd0 l k))) w) : wpList Try.prog ops Q (o :: rest) a w := by
  obtain ⟨D, h1, h2⟩ := hT
  refine wpList_plain hg fun K' hK' => ?_
  obtain ⟨v, ps, hrun, hv⟩ := h1.lookup Try.keyed Try.underlying90 (zeroP w) (zd := .held (pdV pd0)) (zp := []) (rP_mk _) (key64 hk)
  rw [h2.lu pd0 k] at hv
  obtain ⟨c, rfl, e⟩ := rP_inv hv
  simp only [Prod.mk.injEq, DataW.held.injEq] at e
  rw [← e.1] at hrun
  unfold Oper.wp
  simp [execOp, hop, hm, hx, hrun, Result.andThen]
  exact hK' _ _ hK
theorem put_I (hg : o.guard = none) (m x v : Operand) (hop : o.op = Op.mapUpdate 88 m x v) (b : Nat) (hm : a.eval m = .map (some b)) (k c : Int) (hx : a.eval x = .int .i64 k) (hv : a.eval v = .int .i64 c) (l : List (Int × Int)) (hT : TbI w b l) (hk : wf64 k) (hn : l.length < maxLen)
    (hK : ∀ w', TbI w' b ((k, c) :: l.filter fun p => p.1 != k) → Kp (fun q => q = b) w w' → w'.heap.size = w.heap.size → wpList Try.prog ops Q rest (a.put o.dst undef) w') : wpList Try.prog ops Q (o :: rest) a w := by
  obtain ⟨D, h1, h2⟩ := hT
  exact wpList_mapUpdate_in w hg m x v 88 hop 3 3 Try.keyed Try.underlying88 rI b _ D hm h1 hn _ _ (.int .i64 k) hx hv (key64 hk) (.held (intV c)) [] (rI_mk c) fun w' g1 g2 => hK w' (TbI.mk g1 (h2.put k c)) (grown_kp g2) (turned_size g2)
theorem put_P (hg : o.guard = none) (m x v : Operand) (hop : o.op = Op.mapUpdate 90 m x v) (b : Nat) (hm : a.eval m = .map (some b)) (k : Int) (p : Pd) (hx : a.eval x = .int .i64 k) (hv : a.eval v = pdV p) (l : List (Int × Pd)) (hT : TbP w b l) (hk : wf64 k) (hn : l.length < maxLen)
    (hK : ∀ w', TbP w' b ((k, p) :: l.filter fun p => p.1 != k) → Kp (fun q => q = b) w w' → w'.heap.size = w.heap.size → wpList Try.prog ops Q rest (a.put o.dst undef) w') : wpList Try.prog ops Q (o :: rest) a w := by
  obtain ⟨D, h1, h2⟩ := hT
  exact wpList_mapUpdate_in w hg m x v 90 hop 3 75 Try.keyed Try.underlying90 rP b _ D hm h1 hn _ _ (.int .i64 k) hx hv (key64 hk) (.held (pdV p)) [] (rP_mk p) fun w' g1 g2 => hK w' (TbP.mk g1 (h2.put k p)) (grown_kp g2) (turned_size g2)
theorem del_I (hg : o.guard = none) (m x : Operand) (hop : o.op = Op.call { callee := Callee.builtin Builtin.delete, args := #[m, x], argTypes := #[88, 3] }) (b : Nat) (hm : a.eval m = .map (some b)) (k : Int) (hx : a.eval x = .int .i64 k) (l : List (Int × Int)) (hT : TbI w b l) (hk : wf64 k)
    (hK : ∀ w', TbI w' b (l.filter fun p => p.1 != k) → Kp (fun q => q = b) w w' → w'.heap.size = w.heap.size → wpList Try.prog ops Q rest (a.put o.dst (.tuple #[])) w') : wpList Try.prog ops Q (o :: rest) a w := by
  obtain ⟨D, h1, h2⟩ := hT
  exact wpList_delete_own w hg m x 88 3 hop 3 Try.keyed Try.underlying88 rI b _ D hm h1 _ (.int .i64 k) hx (key64 hk) fun w' g1 g2 => hK w' (TbI.mk g1 (h2.del k)) (grown_kp g2) (turned_size g2)
theorem del_P (hg : o.guard = none) (m x : Operand) (hop : o.op = Op.call { callee := Callee.builtin Builtin.delete, args := #[m, x], argTypes := #[90, 3] }) (b : Nat) (hm : a.eval m = .map (some b)) (k : Int) (hx : a.eval x = .int .i64 k) (l : List (Int × Pd)) (hT : TbP w b l) (hk : wf64 k)
    (hK : ∀ w', TbP w' b (l.filter fun p => p.1 != k) → Kp (fun q => q = b) w w' → w'.heap.size = w.heap.size → wpList Try.prog ops Q rest (a.put o.dst (.tuple #[])) w') : wpList Try.prog ops Q (o :: rest) a w := by
  obtain ⟨D, h1, h2⟩ := hT
  exact wpList_delete_own w hg m x 90 3 hop 75 Try.keyed Try.underlying90 rP b _ D hm h1 _ (.int .i64 k) hx (key64 hk) fun w' g1 g2 => hK w' (TbP.mk g1 (h2.del k)) (grown_kp g2) (turned_size g2)
theorem len_P (hg : o.guard = none) (m : Operand) (hop : o.op = Op.call { callee := Callee.builtin Builtin.len, args := #[m], argTypes := #[90] }) (b : Nat) (hm : a.eval m = .map (some b)) (l : List (Int × Pd)) (hT : TbP w b l)
    (hK : wpList Try.prog ops Q rest (a.put o.dst (.int .i64 l.length)) w) : wpList Try.prog ops Q (o :: rest) a w := by
  obtain ⟨D, h1, h2⟩ := hT
  refine wpList_len_own w hg m 90 hop 3 75 Try.underlying90 rP b _ D hm h1 ?_
  rw [h2.size]
  exact hK
end
theorem hasI_any (b : Nat) (l : List (Int × Int)) (k : Int) (w : World) (hT : TbI w b l) (hk : wf64 k) :
    Calls Try.prog 54 #[.map (some b), .int .i64 k] w fun e w' => e = .returned (.bool (hasK l k)) ∧ w' = w := by
  have HT := hide hT
  have HK := hide hk
  clear hT hk
  go_enter Try.func54, Try.ntmps54
  go_wp2_with (at_lookup; refine look_I rfl _ _ rfl b rfl k rfl l HT.out HK.out ?_)
  go_ret
  exact ⟨rfl, rfl⟩
theorem hasP_any (b : Nat) (l : List (Int × Pd)) (k : Int) (w : World) (hT : TbP w b l) (hk : wf64 k) :
    Calls Try.prog 59 #[.map (some b), .int .i64 k] w fun e w' => e = .returned (.bool (hasK l k)) ∧ Below w.heap.size w w' := by
  have HT := hide hT
  have HK := hide hk
  clear hT hk
  go_enter Try.func59, Try.ntmps59
  go_wp2_with (at_lookup; refine look_P rfl _ _ rfl b rfl k rfl l HT.out HK.out ?_; unfold pdV)
  go_ret
  exact ⟨rfl, bel1 (Below.refl _ _) (Nat.le_refl _) _⟩
end Go.Proofs.Ytondbhdlccpklaa


/- Stage 13: Handle, note, Deliver, Arrive. -/
namespace Go.Proofs.Ytondbhdlccpklaa
open Go.RowKit Go.Maps
set_option linter.unusedVariables false
set_option linter.unusedSimpArgs false

theorem wf_nat {n : Nat} (h : n ≤ 281474976710656) : wf64 (n : Int) := wf_of (by omega) (by omega)
theorem wf_word {n : Int} (h : 0 ≤ n ∧ n ≤ 4294967295) : wf64 n := wf_of (by omega) (by omega)
set_option maxRecDepth 100000 in
theorem handle_down (g : Nat) (s : Sn) (w : World) (hS : SB w g s) (hp : s.peer = false) :
    Calls Try.prog 27 #[.pointer (some ⟨g, 0, none⟩)] w fun e w' => e = .returned (.tuple #[.int .i64 0, .int .i64 4]) ∧ w' = w := by
  obtain ⟨s0, s1, s2, s3, s4, s5, s6, s7, s8, s9, s10, s11, s12, s13, s14, s15, s16⟩ := hS.facts
  have hl := hS.lt
  rw [hp] at s0
  clear hS hp
  go_enter Try.func27, Try.ntmps27
  go_wp2
  go_ret2
  exact ⟨rfl, rfl⟩
set_option maxRecDepth 100000 in
theorem handle_yes (g : Nat) (s : Sn) (H : List (Int × Int)) (h : Nat) (w : World) (hS : SB w g s) (hT : TbI w s.bh H) (hp : s.peer = true) (hl : H.length < maxLen) (h64 : h < 64) (hrh : (h : Int) ≤ s.rh) (hall : ∀ j : Nat, j < h → hasK H j = true) (hfree : hasK H h = false) :
    Calls Try.prog 27 #[.pointer (some ⟨g, 0, none⟩)] w fun e w' => e = .returned (.tuple #[.int .i64 h, .int .i64 0]) ∧ TbI w' s.bh ((h, -1) :: H) ∧ Kp (fun q => q = s.bh) w w' := by
  obtain ⟨s0, s1, s2, s3, s4, s5, s6, s7, s8, s9, s10, s11, s12, s13, s14, s15, s16⟩ := hS.facts
  have hlg := hS.lt
  rw [hp] at s0
  have HT := hide hT
  have HL := hide hl
  have HA := hide hall
  have HF := hide hfree
  clear hS hp hT hl hall hfree
  go_enter Try.func27, Try.ntmps27
  go_wp2
  go_loopw [4] (fun i wr => ∃ j : Nat, i = .int .i64 j ∧ j ≤ h ∧ wr = w) (fun i _ => h - (intOf i).toNat)
  case atStart => exact ⟨0, rfl, by omega, rfl⟩
  case round =>
    obtain ⟨j, rfl, hj, rfl⟩ := hrel
    have hj64 : (j : Int) < 64 := by omega
    have hjr : (j : Int) ≤ s.rh := by omega
    have HC := hide (hasI_any s.bh H j wr HT.out (wf_nat (by omega)))
    by_cases hjh : j < h
    · rw [HA.out j hjh] at HC
      go_wp2_with (go_at_call 54; refine HC.out.mono ?_; rintro e1 w1 ⟨rfl, rfl⟩)
      go_roundw
      case rel => exact ⟨j + 1, by go_num, by omega, by trivial⟩
      case measure => simp [intOf]; omega
    · obtain rfl : j = h := by omega
      rw [HF.out] at HC
      go_wp2_with (first | (go_at_call 54; refine HC.out.mono ?_; rintro e1 w1 ⟨rfl, rfl⟩) | (at_mapUpdate; refine put_I rfl _ _ _ rfl s.bh rfl j (-1) rfl rfl H HT.out (wf_nat (by omega)) HL.out ?_; intro w2 T2 K2 z2))
      go_ret2
      rw [filter_none (any_not.1 HF.out)] at T2
      exact ⟨rfl, T2, K2⟩
set_option maxRecDepth 100000 in
theorem handle_full (g : Nat) (s : Sn) (H : List (Int × Int)) (w : World) (hS : SB w g s) (hT : TbI w s.bh H) (hp : s.peer = true) (hr0 : 0 ≤ s.rh) (hall : ∀ j : Nat, j < 64 → (j : Int) ≤ s.rh → hasK H j = true) :
    Calls Try.prog 27 #[.pointer (some ⟨g, 0, none⟩)] w fun e w' => e = .returned (.tuple #[.int .i64 0, .int .i64 132]) ∧ w' = w := by
  obtain ⟨s0, s1, s2, s3, s4, s5, s6, s7, s8, s9, s10, s11, s12, s13, s14, s15, s16⟩ := hS.facts
  have hlg := hS.lt
  rw [hp] at s0
  have HT := hide hT
  have HA := hide hall
  clear hS hp hT hall
  go_enter Try.func27, Try.ntmps27
  go_wp2
  go_loopw [4] (fun i wr => ∃ j : Nat, i = .int .i64 j ∧ j ≤ 64 ∧ wr = w) (fun i _ => 64 - (intOf i).toNat)
  case atStart => exact ⟨0, rfl, by omega, rfl⟩
  case round =>
    obtain ⟨j, rfl, hj, rfl⟩ := hrel
    have HC := hide (hasI_any s.bh H j wr HT.out (wf_nat (by omega)))
    by_cases hj64 : (j : Int) < 64
    · by_cases hjr : (j : Int) ≤ s.rh
      · rw [HA.out j (by omega) hjr] at HC
        go_wp2_with (go_at_call 54; refine HC.out.mono ?_; rintro e1 w1 ⟨rfl, rfl⟩)
        go_roundw
        case rel => exact ⟨j + 1, by go_num, by omega, by trivial⟩
        case measure => simp [intOf]; omega
      · go_wp2
        go_ret2
        exact ⟨rfl, rfl⟩
    · go_wp2
      go_ret2
      exact ⟨rfl, rfl⟩
end Go.Proofs.Ytondbhdlccpklaa


/- Stage 13: note, Deliver, Arrive. -/
namespace Go.Proofs.Ytondbhdlccpklaa
open Go.RowKit Go.Maps
set_option linter.unusedVariables false
set_option linter.unusedSimpArgs false

theorem TbI.alloc {w : World} {b : Nat} {l : List (Int × Int)} (h : TbI w b l) (o : Obj) : TbI (w.alloc o) b l := h.at (Below.heap_alloc _ _ _ h.lt)
theorem TbP.alloc {w : World} {b : Nat} {l : List (Int × Pd)} (h : TbP w b l) (o : Obj) : TbP (w.alloc o) b l := h.at (Below.heap_alloc _ _ _ h.lt)
theorem TbI.drew {w : World} {b : Nat} {l : List (Int × Int)} (h : TbI w b l) : TbI w.drew b l := h.at rfl
theorem TbP.drew {w : World} {b : Nat} {l : List (Int × Pd)} (h : TbP w b l) : TbP w.drew b l := h.at rfl
def noteE {A B : Type} (H : List (Int × A)) (L : List (Int × B)) (id h : Int) : Int := if hasK H h = false then 132 else if hasK L id = true then 131 else 0
set_option maxRecDepth 100000 in
theorem note_no (g : Nat) (s : Sn) (H : List (Int × Int)) (bw : Nat) (L : List (Int × Pd)) (id h : Int) (tag : ByteArray) (settled : Bool) (w : World) (hS : SB w g s) (hT : TbI w s.bh H) (hL : TbP w bw L) (hi : wf64 id) (hh : wf64 h) (hE : noteE H L id h ≠ 0 ∨ settled = true) :
    Calls Try.prog 56 #[.pointer (some ⟨g, 0, none⟩), .map (some bw), .agg #[.int .i64 id, .int .i64 h, .string tag], .bool settled] w fun e w' => e = .returned (.int .i64 (noteE H L id h)) ∧ Below w.heap.size w w' := by
  obtain ⟨s0, s1, s2, s3, s4, s5, s6, s7, s8, s9, s10, s11, s12, s13, s14, s15, s16⟩ := hS.facts
  have hlg := hS.lt
  have HI := hide (hasI_any s.bh H h ((w.alloc (.cells #[.int .i64 id, .int .i64 h, .string tag] 75)).drew) (hT.alloc _).drew hh)
  have HP := hide (hasP_any bw L id ((w.alloc (.cells #[.int .i64 id, .int .i64 h, .string tag] 75)).drew) (hL.alloc _).drew hi)
  have HB : Hid (Below w.heap.size w ((w.alloc (.cells #[.int .i64 id, .int .i64 h, .string tag] 75)).drew)) := (bel1 (Below.refl _ _) (Nat.le_refl _) _).trans ((bel_drew _).mono (by simp))
  unfold noteE at *
  cases hx : hasK H h
  · rw [hx] at HI
    rw [if_pos rfl]
    clear hS hT hL hi hh hE hx HP
    go_enter Try.func56, Try.ntmps56
    go_wp2
    go_region_held (fun W => W.cell? ⟨g, 13, none⟩ = some (.map (some s.bh)) ∧ W.cell? ⟨w.heap.size, 1, none⟩ = some (.int .i64 h)) (go_keep) ((go_at_call 54; refine Calls.mono HI.out ?_; rintro e2 w2 ⟨rfl, rfl⟩))
    go_wp2
    go_ret
    exact ⟨rfl, HB.out⟩
  · rw [hx] at HI hE
    rw [if_neg (by simp)] at hE ⊢
    cases hy : hasK L id
    · rw [hy] at HP hE
      rw [if_neg (by simp)] at hE ⊢
      obtain rfl : settled = true := by simpa using hE
      clear hS hT hL hi hh hE hx hy
      go_enter Try.func56, Try.ntmps56
      go_wp2
      go_region_held (fun W => W.cell? ⟨g, 13, none⟩ = some (.map (some s.bh)) ∧ W.cell? ⟨w.heap.size, 1, none⟩ = some (.int .i64 h)) (go_keep) ((go_at_call 54; refine Calls.mono HI.out ?_; rintro e2 w2 ⟨rfl, rfl⟩))
      go_wp2_with (go_at_call 59; refine HP.out.mono ?_; rintro e3 w3 ⟨rfl, hb3⟩)
      go_ret
      exact ⟨rfl, belOn HB.out HB.out.size hb3⟩
    · rw [hy] at HP hE
      rw [if_pos rfl]
      clear hS hT hL hi hh hE hx hy
      go_enter Try.func56, Try.ntmps56
      go_wp2
      go_region_held (fun W => W.cell? ⟨g, 13, none⟩ = some (.map (some s.bh)) ∧ W.cell? ⟨w.heap.size, 1, none⟩ = some (.int .i64 h)) (go_keep) ((go_at_call 54; refine Calls.mono HI.out ?_; rintro e2 w2 ⟨rfl, rfl⟩))
      go_wp2_with (go_at_call 59; refine HP.out.mono ?_; rintro e3 w3 ⟨rfl, hb3⟩)
      go_ret
      exact ⟨rfl, belOn HB.out HB.out.size hb3⟩
set_option maxRecDepth 100000 in
theorem note_yes (g : Nat) (s : Sn) (H : List (Int × Int)) (bw : Nat) (L : List (Int × Pd)) (id h : Int) (tag : ByteArray) (w : World) (hS : SB w g s) (hT : TbI w s.bh H) (hL : TbP w bw L) (hi : wf64 id) (hh : wf64 h) (hE : noteE H L id h = 0) (hm : L.length < maxLen) :
    Calls Try.prog 56 #[.pointer (some ⟨g, 0, none⟩), .map (some bw), .agg #[.int .i64 id, .int .i64 h, .string tag], .bool false] w fun e w' => e = .returned (.int .i64 0) ∧ TbP w' bw ((id, (id, h, tag)) :: L) ∧ Kp (fun q => q = bw) w w' := by
  obtain ⟨s0, s1, s2, s3, s4, s5, s6, s7, s8, s9, s10, s11, s12, s13, s14, s15, s16⟩ := hS.facts
  have hlg := hS.lt
  obtain ⟨W0, hW0⟩ : ∃ W0, (w.alloc (.cells #[.int .i64 id, .int .i64 h, .string tag] 75)).drew = W0 := ⟨_, rfl⟩
  have HI := hide (hasI_any s.bh H h W0 (hW0 ▸ (hT.alloc _).drew) hh)
  have HP := hide (hasP_any bw L id W0 (hW0 ▸ (hL.alloc _).drew) hi)
  have HB : Hid (Below w.heap.size w W0) := hW0 ▸ (bel1 (Below.refl _ _) (Nat.le_refl _) _).trans ((bel_drew _).mono (by simp))
  have HL : Hid (TbP W0 bw L) := hW0 ▸ (hL.alloc _).drew
  have HN : Hid (W0.heap[w.heap.size]? = some (.cells #[.int .i64 id, .int .i64 h, .string tag] 75 (0, 0))) := hW0 ▸ heap_alloc_last w _
  have HW0 := hide hW0
  have HK0 : Hid (W0.cell? ⟨g, 13, none⟩ = some (.map (some s.bh)) ∧ W0.cell? ⟨w.heap.size, 1, none⟩ = some (.int .i64 h)) := ⟨(HB.out.cell (p := ⟨g, 13, none⟩) hlg).trans s13, cellOf HN.out 1 _ rfl⟩
  unfold noteE at hE
  have hx : hasK H h = true := by
    cases hx : hasK H h
    · rw [hx] at hE; simp at hE
    · rfl
  rw [hx, if_neg (by simp)] at hE
  have hy : hasK L id = false := by
    cases hy : hasK L id
    · rfl
    · rw [hy] at hE; simp at hE
  rw [hx] at HI
  rw [hy] at HP
  have HY := hide hy
  have HM := hide hm
  have HH := hide hi
  clear hS hT hL hi hh hE hx hy hm hW0
  go_enter Try.func56, Try.ntmps56
  go_wp2
  go_region_held (fun W => W.cell? ⟨g, 13, none⟩ = some (.map (some s.bh)) ∧ W.cell? ⟨w.heap.size, 1, none⟩ = some (.int .i64 h)) (first | exact HK0.out | go_keep) ((go_at_call 54; rw [HW0.out]; refine Calls.mono HI.out ?_; rintro e2 w2 ⟨rfl, rfl⟩))
  have d0 := cellOf HN.out 0 _ rfl
  go_wp2_with fail
  refine HP.out.mono ?_
  rintro e3 w3 ⟨rfl, hb3⟩
  clear d0
  have hn3 := (hb3.block w.heap.size (by have := (Array.getElem?_eq_some_iff.1 HN.out).1; exact this)).trans HN.out
  have c0 := cellOf hn3 0 _ rfl
  have c1 := cellOf hn3 1 _ rfl
  have c2 := cellOf hn3 2 _ rfl
  have hlt3 := (Array.getElem?_eq_some_iff.1 hn3).1
  have HL3 : Hid (TbP w3 bw L) := HL.out.at (hb3.block _ HL.out.lt)
  have HB3 : Hid (Below w.heap.size w w3) := belOn HB.out HB.out.size hb3
  clear hb3 hn3 s0 s1 s2 s3 s4 s5 s6 s7 s8 s9 s10 s11 s12 s13 s14 s15 s16
  go_wp2_with (at_mapUpdate; refine put_P rfl _ _ _ rfl bw rfl id (id, h, tag) rfl rfl L HL3.out HH.out HM.out ?_; intro w4 T4 K4 z4)
  go_ret
  rw [filter_none (any_not.1 HY.out)] at T4
  exact ⟨rfl, T4, (Kp.ofBelow HB3.out).trans K4⟩

/-! ### Deliver -/
set_option maxRecDepth 100000 in
theorem deliver_no (g : Nat) (s : Sn) (H : List (Int × Int)) (L : List (Int × Pd)) (h : Int) (tag : ByteArray) (settled : Bool) (w : World) (hS : SB w g s) (hT : TbI w s.bh H) (hL : TbP w s.bs L) (hn : 0 ≤ s.nd ∧ s.nd ≤ 4294967295) (hh : wf64 h) (hE : noteE H L s.nd h ≠ 0) :
    Calls Try.prog 35 #[.pointer (some ⟨g, 0, none⟩), .int .i64 h, .string tag, .bool settled] w fun e w' => e = .returned (.tuple #[.int .i64 0, .int .i64 (noteE H L s.nd h)]) ∧ Below w.heap.size w w' := by
  obtain ⟨s0, s1, s2, s3, s4, s5, s6, s7, s8, s9, s10, s11, s12, s13, s14, s15, s16⟩ := hS.facts
  have hlg := hS.lt
  have HN := hide (note_no g s H s.bs L s.nd h tag settled w hS hT hL (wf_word hn) hh (.inl hE))
  obtain ⟨x, hx⟩ : ∃ x, x = noteE H L s.nd h := ⟨_, rfl⟩
  rw [← hx] at HN hE ⊢
  have hxb : (x == 0) = false := by simp [hE]
  clear hS hT hL hn hh hE hx
  go_enter Try.func35, Try.ntmps35
  go_wp2_with (go_at_call 56; refine HN.out.mono ?_; rintro e1 w1 ⟨rfl, hb1⟩)
  go_ret2
  exact ⟨rfl, hb1⟩
set_option maxRecDepth 100000 in
theorem deliver_settled (g : Nat) (s : Sn) (H : List (Int × Int)) (L : List (Int × Pd)) (h : Int) (tag : ByteArray) (w : World) (hS : SB w g s) (hT : TbI w s.bh H) (hL : TbP w s.bs L) (hn : 0 ≤ s.nd ∧ s.nd ≤ 4294967295) (hh : wf64 h) (hE : noteE H L s.nd h = 0) :
    Calls Try.prog 35 #[.pointer (some ⟨g, 0, none⟩), .int .i64 h, .string tag, .bool true] w fun e w' => e = .returned (.tuple #[.int .i64 s.nd, .int .i64 0]) ∧ SB w' g { s with nd := (s.nd + 1) % 4294967296 } ∧ Kp (fun k => k = g) w w' := by
  obtain ⟨s0, s1, s2, s3, s4, s5, s6, s7, s8, s9, s10, s11, s12, s13, s14, s15, s16⟩ := hS.facts
  have hlg := hS.lt
  have HS := hide hS
  have HN := hide (note_no g s H s.bs L s.nd h tag true w hS hT hL (wf_word hn) hh (.inr rfl))
  rw [hE] at HN
  clear hS hT hL hn hh hE
  go_enter Try.func35, Try.ntmps35
  go_wp2_with fail
  refine HN.out.mono ?_
  rintro e1 w1 ⟨rfl, hb1⟩
  have H1 := hide (HS.out.at (hb1.block g hlg))
  have HB := hide hb1
  clear hb1 s0 s1 s2 s3 s4 s5 s6 s7 s8 s9 s10 s11 s12 s13 s14 s15 s16
  have f7 := H1.out.frozen 7
  have hl1 := H1.out.lt
  obtain ⟨s0, s1, s2, s3, s4, s5, s6, s7, s8, s9, s10, s11, s12, s13, s14, s15, s16⟩ := H1.out.facts
  go_wp2_with (go_at_call 62; refine (add_any _ _ _).mono ?_; rintro e2 w2 ⟨rfl, rfl⟩)
  go_ret2
  exact ⟨rfl, H1.out.set_nd _, kp_self (Kp.ofBelow HB.out) _ _⟩
set_option maxRecDepth 100000 in
theorem deliver_yes (g : Nat) (s : Sn) (H : List (Int × Int)) (L : List (Int × Pd)) (h : Int) (tag : ByteArray) (w : World) (hS : SB w g s) (hT : TbI w s.bh H) (hL : TbP w s.bs L) (hn : 0 ≤ s.nd ∧ s.nd ≤ 4294967295) (hh : wf64 h) (hE : noteE H L s.nd h = 0) (hm : L.length < maxLen) :
    Calls Try.prog 35 #[.pointer (some ⟨g, 0, none⟩), .int .i64 h, .string tag, .bool false] w fun e w' => e = .returned (.tuple #[.int .i64 s.nd, .int .i64 0]) ∧ SB w' g { s with nd := (s.nd + 1) % 4294967296 } ∧ TbP w' s.bs ((s.nd, (s.nd, h, tag)) :: L) ∧ Kp (fun k => k = g ∨ k = s.bs) w w' := by
  obtain ⟨s0, s1, s2, s3, s4, s5, s6, s7, s8, s9, s10, s11, s12, s13, s14, s15, s16⟩ := hS.facts
  have hlg := hS.lt
  have HS := hide hS
  have hne : g ≠ s.bs := fun e => hL.ne hS e.symm
  have HN := hide (note_yes g s H s.bs L s.nd h tag w hS hT hL (wf_word hn) hh hE hm)
  clear hS hT hL hn hh hE hm
  go_enter Try.func35, Try.ntmps35
  go_wp2_with fail
  refine HN.out.mono ?_
  rintro e1 w1 ⟨rfl, t1, k1⟩
  have H1 := hide (HS.out.at (k1.block hlg hne))
  have HT := hide t1
  have HK := hide k1
  clear t1 k1 s0 s1 s2 s3 s4 s5 s6 s7 s8 s9 s10 s11 s12 s13 s14 s15 s16
  have f7 := H1.out.frozen 7
  have hl1 := H1.out.lt
  obtain ⟨s0, s1, s2, s3, s4, s5, s6, s7, s8, s9, s10, s11, s12, s13, s14, s15, s16⟩ := H1.out.facts
  go_wp2_with (go_at_call 62; refine (add_any _ _ _).mono ?_; rintro e2 w2 ⟨rfl, rfl⟩)
  go_ret2
  exact ⟨rfl, H1.out.set_nd _, HT.out.at (blk_set_other _ _ _ _ (fun e => hne e.symm)), (HK.out.mono (fun k hk => .inr hk)).setCell (.inl rfl) _⟩
end Go.Proofs.Ytondbhdlccpklaa
