
/- Stage 19: Append. -/
import Derived.Test.YtgkdecjlanbmhaaDMeth
namespace Go.Proofs.Ytgkdecjlanbmhaa
open Go.RowKit Go.Maps Go.MuLone
set_option linter.unusedVariables false
set_option linter.unusedSimpArgs false
/-- what Append does -/
def dApp (x : Dx) (F : List Fi) (k : ByteArray) (t : List Nat) : Int × Dx × List Fi :=
  if refE x.down [k] ≠ 0 then (refE x.down [k], x, F) else if x.room - x.used < (t.length : Int) then (190, x, F) else (actE x, actX { x with used := x.used + (t.length : Int) } (addF k t F), actF x (addF k t F))
theorem ref_zero {dn : Bool} {k : ByteArray} (h : refE dn [k] = 0) : dn = false ∧ nm k = true := by
  unfold refE at h
  cases dn <;> cases h1 : nm k <;> simp [h1] at h ⊢
theorem Rb.disk {S : Nat → Prop} {w : World} {d m : Nat} {x : Dx} {E : List En} {u : Value} {t : List Nat} (hr : Rb w u t) (hD : DkS S w d m x E) (o : Nat) (v : Value) : Rb (w.setCell ⟨d, o, none⟩ v) u t :=
  hr.kp (kp_self (Kp.refl _ w) o v) (fun b off c hb => by subst hb; exact cell_u8 hD.blk off c)
set_option maxHeartbeats 4000000 in
set_option maxRecDepth 100000 in
theorem append_any (S : Nat → Prop) (w : World) (d : Nat) (x : Dx) (F : List Fi) (hD : DD S w d x F) (k : ByteArray) (u : Value) (t : List Nat) (hr : Rb w u t) (hn : F.length + 1 ≤ maxLen) :
    Calls Try.prog 26 #[.pointer (some ⟨d, 0, none⟩), .string k, u] w fun e w' => e = .returned (.int .i64 (dApp x F k t).1) ∧ Beh S w d (dApp x F k t).2.1 (dApp x F k t).2.2 w' := by
  obtain ⟨⟨m, E, rfl, hD⟩, hlk, hO⟩ := hD
  have c0 : w.cell? ⟨d, 0, none⟩ = some (.int .i32 0) := by have := hD.cell 0 (.int .i32 x.lk) rfl; rw [this, hlk]
  have f0 : w.frozen? ⟨d, 0, none⟩ = false := hD.frozen 0
  have hD1 := hD.lk 1
  have hk1 : Kp S w (w.setCell ⟨d, 0, none⟩ (.int .i32 1)) := (Kp.refl S w).setCell hD.sd _
  have hr1 := hr.disk hD 0 (.int .i32 1)
  obtain ⟨W1, hW1⟩ : ∃ W1, W1 = (w.setCell ⟨d, 0, none⟩ (.int .i32 1)).alloc (.cells #[.string k] 9) := ⟨_, rfl⟩
  have hz1 : W1.heap.size = w.heap.size + 1 := by rw [hW1]; simp
  have hb1 : Below (w.setCell ⟨d, 0, none⟩ (.int .i32 1)).heap.size (w.setCell ⟨d, 0, none⟩ (.int .i32 1)) W1 := by rw [hW1]; exact bel1 (Below.refl _ _) (Nat.le_refl _) _
  have hB1 : W1.heap[w.heap.size]? = some (.cells #[.string k] 9 (0, 0)) := by
    have := heap_new (w.setCell ⟨d, 0, none⟩ (.int .i32 1)) (.cells #[.string k] 9)
    rw [hW1]
    simpa using this
  have hD2 : DkS (fun k => S k ∧ k < (w.setCell ⟨d, 0, none⟩ (.int .i32 1)).heap.size) W1 d m { x with lk := 1 } E := hD1.lts.keep (fun q hq => hb1.block q hq.2)
  have hK1 : Kp S w W1 := hk1.below hb1
  have hr2 := hr1.below hb1
  have hO1 := hO.lk 1
  have HRF := hide (refuses_any _ W1 d m _ E hD2 (.slice (some ⟨w.heap.size, 0, none⟩) 1 1) [k] (Sr.one (by omega) (cellOf hB1 0 _ rfl)) (by simp))
  have hDs : Dsk S W1 d { x with lk := 1 } (E.map En.f) := (hD2.mono (fun k h => h.1)).dsk
  have hnm : ((E.map En.f).map (·.1)).Nodup := by rw [List.map_map]; exact hD.names
  have HW1 := hide hW1
  have HD1 := hide hDs
  have HK1 := hide hK1
  have HR2 := hide hr2
  have HO1 := hide hO1
  have HNM := hide hnm
  have HN := hide hn
  have HSD : Hid (S d) := hD.sd
  have HLK := hide hlk
  obtain ⟨ua, uc, rfl, _⟩ : ∃ a c, u = .slice a t.length c ∧ True := by obtain ⟨a, c, e, _⟩ := hr; exact ⟨a, c, e, trivial⟩
  clear hD hO hD1 hk1 hr1 hW1 hb1 hB1 hD2 hK1 hr2 hO1 hDs hr hn hnm hlk
  by_cases h1 : refE x.down [k] = 0
  · obtain ⟨hdn, hk⟩ := ref_zero h1
    rw [h1] at HRF
    have HRM := hide (hasRoom_any S W1 d _ _ HD1.out HO1.out ua t.length uc)
    by_cases h2 : x.room - x.used < (t.length : Int)
    · have hres : dApp x (E.map En.f) k t = (190, x, E.map En.f) := by unfold dApp; rw [if_neg (by rw [h1]; simp), if_pos h2]
      rw [hres]
      have hdec : decide ((t.length : Int) ≤ x.room - x.used) = false := by simp; omega
      dsimp only at HRM
      rw [hdec] at HRM
      clear hres hdec h1 h2 hdn hk
      go_enter_defers Try.func26, Try.ntmps26
      go_wp2_with (go_at_call 41; refine (lock_free Try.muLib ⟨d, 0, none⟩ _ c0 f0).mono ?_; rintro e w' ⟨rfl, rfl⟩)
      rw [← HW1.out]
      refine HRF.out.mono ?_
      rintro e w2 ⟨rfl, hw2⟩
      rw [hw2]
      clear hw2
      go_wp2_with fail
      refine HRM.out.mono ?_
      rintro e w3 ⟨rfl, hb3⟩
      have HF := hide (((Beh.of HK1.out HD1.out).below hb3).fin HSD.out rfl)
      clear hb3
      go_wp2
      refine leaves_cons (f := 42) (args := #[.pointer (some ⟨d, 0, none⟩)]) (by simp) (by simp [go_sem]) ?_
      refine (unlock_deferred Try.muLib ⟨d, 0, none⟩ .returning _ (HF.out).1 (HF.out).2.1).mono ?_
      rintro e u' w'' ⟨rfl, rfl, rfl⟩
      exact ⟨_, results_tmp rfl _ _ _, rfl, by first | (have h := (HF.out).2.2; rw [show ({ ({ x with lk := 1 } : Dx) with lk := 0 } : Dx) = x from lk_self HLK.out] at h; exact h) | skip⟩
    · have hres : dApp x (E.map En.f) k t = (actE x, actX { x with used := x.used + (t.length : Int) } (addF k t (E.map En.f)), actF x (addF k t (E.map En.f))) := by unfold dApp; rw [if_neg (by rw [h1]; simp), if_neg h2]
      rw [hres]
      have hdec : decide ((t.length : Int) ≤ x.room - x.used) = true := by simp; omega
      dsimp only at HRM
      rw [hdec] at HRM
      have hroom : (usd (E.map En.f) : Int) + t.length ≤ x.room := by have := HO1.out.used; dsimp only at this; omega
      have HLY : Hid (∀ w3, Below W1.heap.size W1 w3 → Calls Try.prog 51 #[.pointer (some ⟨d, 0, none⟩), .string k, .slice ua t.length uc] w3 fun e w' => ∃ p, e = .returned (pV p) ∧ Beh S w d { x with lk := 1, used := x.used + (t.length : Int) } (addF k t (E.map En.f)) w') := fun w3 hb3 => by
        have hB := (Beh.of HK1.out HD1.out).below hb3
        refine (lay_n _ w3 d _ _ hB.1 HO1.out k hk _ t (HR2.out.below hb3) hroom HN.out).mono ?_
        rintro e w4 ⟨p, rfl, h⟩
        exact ⟨p, rfl, hB.next h⟩
      have HAC : Hid (∀ w4, Beh S w d { x with lk := 1, used := x.used + (t.length : Int) } (addF k t (E.map En.f)) w4 → Calls Try.prog 58 #[.pointer (some ⟨d, 0, none⟩)] w4 fun e w' => e = .returned (.int .i64 (actE x)) ∧ w'.cell? ⟨d, 0, none⟩ = some (.int .i32 1) ∧ w'.frozen? ⟨d, 0, none⟩ = false ∧ Beh S w d (actX { x with used := x.used + (t.length : Int) } (addF k t (E.map En.f))) (actF x (addF k t (E.map En.f))) (w'.setCell ⟨d, 0, none⟩ (.int .i32 0))) := fun w4 hB => by
        have hO2 : DOk { x with lk := 1, used := x.used + (t.length : Int) } (addF k t (E.map En.f)) := HO1.out.add HNM.out hroom
        refine (act_n _ w4 d _ _ hB.1 hO2).mono ?_
        rintro e w5 ⟨rfl, h⟩
        have h9 := (hB.next h).fin HSD.out (actX_fields _ _).1
        refine ⟨rfl, h9.1, h9.2.1, ?_⟩
        have h10 := h9.2.2
        have e1 : ({ actX { x with lk := 1, used := x.used + (t.length : Int) } (addF k t (E.map En.f)) with lk := 0 } : Dx) = actX { x with used := x.used + (t.length : Int) } (addF k t (E.map En.f)) := by
          rw [← actX_lk]
          congr 1
          cases x
          have := HLK.out
          dsimp only at this ⊢
          rw [this]
        rw [e1] at h10
        exact h10
      clear hres hdec h1 h2 hdn hk hroom
      go_enter_defers Try.func26, Try.ntmps26
      go_wp2_with (go_at_call 41; refine (lock_free Try.muLib ⟨d, 0, none⟩ _ c0 f0).mono ?_; rintro e w' ⟨rfl, rfl⟩)
      rw [← HW1.out]
      refine HRF.out.mono ?_
      rintro e w2 ⟨rfl, hw2⟩
      rw [hw2]
      clear hw2
      go_wp2_with fail
      refine HRM.out.mono ?_
      rintro e w3 ⟨rfl, hb3⟩
      have HL3 := hide (HLY.out w3 hb3)
      clear hb3
      go_wp2_with fail
      refine HL3.out.mono ?_
      rintro e w4 ⟨p, rfl, hB⟩
      have HA4 := hide (HAC.out w4 hB)
      clear hB
      unfold pV
      go_wp2_with fail
      refine HA4.out.mono ?_
      rintro e w5 ⟨rfl, hf⟩
      have HF := hide hf
      clear hf
      go_wp2
      refine leaves_cons (f := 42) (args := #[.pointer (some ⟨d, 0, none⟩)]) (by simp) (by simp [go_sem]) ?_
      refine (unlock_deferred Try.muLib ⟨d, 0, none⟩ .returning _ (HF.out).1 (HF.out).2.1).mono ?_
      rintro e u' w'' ⟨rfl, rfl, rfl⟩
      exact ⟨_, results_tmp rfl _ _ _, rfl, (HF.out).2.2⟩
  · have hres : dApp x (E.map En.f) k t = (refE x.down [k], x, E.map En.f) := if_pos h1
    rw [hres]
    clear hres
    generalize refE x.down [k] = r at *
    go_enter_defers Try.func26, Try.ntmps26
    go_wp2_with (go_at_call 41; refine (lock_free Try.muLib ⟨d, 0, none⟩ _ c0 f0).mono ?_; rintro e w' ⟨rfl, rfl⟩)
    rw [← HW1.out]
    refine HRF.out.mono ?_
    rintro e w2 ⟨rfl, hw2⟩
    rw [hw2]
    clear hw2
    have HF := hide ((Beh.of HK1.out HD1.out).fin HSD.out rfl)
    go_wp2
    refine leaves_cons (f := 42) (args := #[.pointer (some ⟨d, 0, none⟩)]) (by simp) (by simp [go_sem]) ?_
    refine (unlock_deferred Try.muLib ⟨d, 0, none⟩ .returning _ (HF.out).1 (HF.out).2.1).mono ?_
    rintro e u' w'' ⟨rfl, rfl, rfl⟩
    exact ⟨_, results_tmp rfl _ _ _, rfl, by first | (have h := (HF.out).2.2; rw [show ({ ({ x with lk := 1 } : Dx) with lk := 0 } : Dx) = x from lk_self HLK.out] at h; exact h) | skip⟩
end Go.Proofs.Ytgkdecjlanbmhaa
