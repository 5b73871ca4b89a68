
/- Stage 17: the line's Pop; container/heap's Push and Pop. -/
import Derived.Test.YtnbhifakfehefaaKPush
namespace Go.Proofs.Ytnbhifakfehefaa
open Go.RowKit
set_option linter.unusedVariables false
set_option linter.unusedSimpArgs false
theorem mPush (w : World) (qb : Nat) : (method 240 72 (.pointer (some ⟨qb, 7, none⟩)) "Push").run Try.prog w = .ok (95, .pointer (some ⟨qb, 7, none⟩)) w := by kernel_rfl
theorem mPop (w : World) (qb : Nat) : (method 240 72 (.pointer (some ⟨qb, 7, none⟩)) "Pop").run Try.prog w = .ok (94, .pointer (some ⟨qb, 7, none⟩)) w := by kernel_rfl
theorem hv_left (H : List Nat) (b k : Nat) (h : k < H.length) : hv (H ++ [b]) k = hv H k := by
  unfold hv
  simp [List.getD_eq_getElem?_getD, List.getElem?_append_left h]
theorem up_new {le : Nat → Nat → Prop} {H : List Nat} {b : Nat} (h : HeapOk le H H.length) : UpI le (H ++ [b]) (H.length + 1) H.length := by
  refine ⟨fun k k0 kn ke => ?_, fun k k0 kn _ pk => ?_⟩
  · have : par k < k := by unfold par; omega
    rw [hv_left _ _ _ (by omega), hv_left _ _ _ (by omega)]
    exact h k k0 (by omega)
  · have : par k < k := by unfold par; omega
    omega
/-- what heap.Push leaves -/
def HPushP (B qb b : Nat) (c : Cf) (hi : Int) (A F : Value) (H : List Nat) (E : Nat → It) (w w' : World) (F' : Value) (H' : List Nat) : Prop :=
  QB w' qb c hi A F' ∧ Lx w' B F' H' E ∧ H'.Perm (H ++ [b]) ∧ HeapOk (leE E) H' H'.length ∧ (F'.ownBlock = F.ownBlock ∨ ∃ g, F'.ownBlock = some g ∧ w.heap.size ≤ g) ∧ Kp (fun k => k = qb ∨ k = b ∨ inF F H k) w w'
set_option maxRecDepth 100000 in
set_option maxHeartbeats 4000000 in
theorem heap_push (B qb b : Nat) (c : Cf) (hi : Int) (A F : Value) (H : List Nat) (E : Nat → It) (p : Int) (w : World) (hq : QB w qb c hi A F) (hl : Lx w B F H E) (hh : HeapOk (leE E) H H.length) (hb : IB w b ((E b).at p)) (hbH : b ∉ H) (hB : B ≤ w.heap.size) (h4 : H.length < 4096) :
    Calls Try.prog 26 #[ifc qb, .iface 67 (ptr b)] w fun e w' => e = .returned (.tuple #[]) ∧ ∃ F' H', Hid (HPushP B qb b c hi A F H E w w' F' H') := by
  have HPL := hide (push_line B qb b c hi A F H E p w hq hl hb hbH hB h4)
  have HUN := hide (up_new (b := b) hh)
  have HOUT : Hid (∀ w' F', PushP B qb b c hi A F H E w w' F' → Ln w' B qb F' (H ++ [b]) E) := fun w' F' hp => ⟨hp.2.1, hp.1.cell.2.2.2.2.2.2.2, fun e => e.elim (fun e => (hp.1.ne_row hp.2.1.row e) rfl) (fun e => by
    obtain ⟨k, hk, he⟩ := List.mem_iff_getElem.1 e
    exact (hp.1.ne_item (hp.2.1.it k _ (List.getElem?_eq_getElem hk))) he.symm)⟩
  have hm := mPush w qb
  clear hq hl hh hb hbH hB
  unfold ifc
  go_enter Try.func26, Try.ntmps26
  go_wp2_with fail
  refine Calls.mono HPL.out ?_
  rintro e w1 ⟨rfl, F1, HP1⟩
  have HLN := hide (HOUT.out w1 F1 HP1.out)
  obtain ⟨a, cap, hF⟩ := row_form HP1.out.2.1.row
  have HFF := hide hF
  have hm2 := mLen w1 qb F1 HLN.out.cell
  have hlen : (H ++ [b]).length = H.length + 1 := by simp
  have HLE := hide hlen
  rw [hlen] at hF
  rw [hF] at hm2
  clear hlen hF
  go_wp2_with fail
  refine Calls.mono (len_line F1 (H.length + 1) cap a w1) ?_
  rintro e w2 ⟨rfl, rfl⟩
  go_wp2_with fail
  have q := up_any B qb F1 (H ++ [b]) E H.length w2 (H.length + 1) HLN.out (by omega) (by rw [HLE.out]; exact Nat.le_refl _) HUN.out
  unfold ifc at q
  refine Calls.mono q ?_
  rintro e w3 ⟨rfl, HR⟩
  go_wp2
  go_end0
  obtain ⟨H', hp, hl, hk, hbey, hkp⟩ := HR.out
  obtain ⟨p1, p2, p3, p4⟩ := HP1.out
  have hpl : H'.length = H.length + 1 := by rw [hp.length_eq]; exact HLE.out
  refine ⟨rfl, F1, H', (hkp.block p1.lt (HLN.out.out)).trans p1, hl.lx, hp, by rw [hpl]; exact hk, p3, ?_⟩
  refine (p4.mono (fun k hk => ?_)).transN hkp (fun k hk => ?_)
  · rcases hk with h | h | h
    · exact .inl h
    · exact .inr (.inl h)
    · exact .inr (.inr (.inl h))
  · rcases hk with h | h
    · rcases p3 with e | ⟨g, e1, e2⟩
      · exact .inl (.inr (.inr (.inl (by rw [← e]; exact h))))
      · rw [h] at e1
        simp only [Option.some.injEq] at e1
        exact .inr (by omega)
    · rcases List.mem_append.1 h with h | h
      · exact .inl (.inr (.inr (.inr h)))
      · simp at h
        exact .inl (.inr (.inl h))
/-- what Pop of a line leaves -/
def PopP (B qb : Nat) (c : Cf) (hi : Int) (A F : Value) (H : List Nat) (E : Nat → It) (w w' : World) (F' : Value) : Prop :=
  QB w' qb c hi A F' ∧ Lx w' B F' H E ∧ F'.ownBlock = F.ownBlock ∧ Kp (fun k => k = qb ∨ F.ownBlock = some k) w w'
set_option maxRecDepth 100000 in
set_option maxHeartbeats 4000000 in
theorem pop_line (B qb b : Nat) (c : Cf) (hi : Int) (A F : Value) (H : List Nat) (E : Nat → It) (w : World) (hq : QB w qb c hi A F) (hl : Lx w B F (H ++ [b]) E) :
    Calls Try.prog 94 #[.pointer (some ⟨qb, 7, none⟩)] w fun e w' => e = .returned (.iface 67 (ptr b)) ∧ ∃ F', Hid (PopP B qb c hi A F H E w w' F') := by
  have hln : (H ++ [b]).length = H.length + 1 := by simp
  obtain ⟨g, cap, hF, cg, fg, hcap⟩ := hl.cell H.length (by omega)
  rw [hln] at hF hcap
  subst hF
  have ec : (H ++ [b])[H.length]'(by omega) = b := by simp
  rw [ec] at cg
  have h4 : H.length < 4096 := by have := hl.len; omega
  have c7 := hq.cell.2.2.2.2.2.2.2
  have f7 := hq.free 7
  have hne : qb ≠ g := hq.ne_row hl.row rfl
  obtain ⟨W1, hW1⟩ : ∃ W1, w.setCell ⟨g, H.length, none⟩ (.pointer none) = W1 := ⟨_, rfl⟩
  have hq1 : QB W1 qb c hi A (.slice (some ⟨g, 0, none⟩) (H.length + 1) cap) := by rw [← hW1]; exact (blk_set_other _ ⟨g, H.length, none⟩ _ qb hne).trans hq
  have d7 := hq1.cell.2.2.2.2.2.2.2
  have e7 := hq1.free 7
  have HFIN : Hid (PopP B qb c hi A (.slice (some ⟨g, 0, none⟩) (H.length + 1) cap) H E w (W1.setCell ⟨qb, 7, none⟩ (.slice (some ⟨g, 0, none⟩) H.length cap)) (.slice (some ⟨g, 0, none⟩) H.length cap)) := by
    refine ⟨hq1.set7 _, ⟨?_, ?_, ?_, by omega⟩, rfl, ?_⟩
    · refine rows_set ?_ (fun e => hne (by simpa [Value.ownBlock] using e.symm))
      rcases hl.row.2 with ⟨h', _⟩ | ⟨g', cap', cur, h', hBg, h2, h3, h4', h5, h6⟩
      · cases h'
      · simp only [Value.slice.injEq, Option.some.injEq, Addr.mk.injEq, and_true] at h'
        obtain ⟨rfl, _, rfl⟩ := h'
        refine ⟨by simp, .inr ⟨g, cap, _, rfl, hBg, by rw [← hW1]; exact blk_set w g H.length _ h2, by omega, h4', by simpa using h5, ?_⟩⟩
        rw [Nat.mul_one] at h6 ⊢
        rw [Array.toList_setIfInBounds, List.take_set, List.set_eq_of_length_le (by simp; omega)]
        have := congrArg (List.take H.length) h6
        rw [List.take_take, hln] at this
        rw [show min H.length (H.length + 1) = H.length by omega] at this
        rw [this]
        simp
    · intro k x hk
      have hkl := (List.getElem?_eq_some_iff.1 hk).1
      have hix := hl.it k x (by rw [List.getElem?_append_left hkl]; exact hk)
      rw [← hW1]
      exact ((blk_set_other _ ⟨qb, 7, none⟩ _ x (fun e => (hq.ne_item hix) e.symm)).trans (blk_set_other _ ⟨g, H.length, none⟩ _ x (hix.ne_row hl.row rfl))).trans hix
    · exact (List.nodup_append.1 hl.nd).1
    · rw [← hW1]
      refine ⟨rfl, rfl, rfl, by simp, fun k hk hs => ?_⟩
      rw [blk_set_other _ ⟨qb, 7, none⟩ _ k (fun e => hs (.inl e)), blk_set_other _ ⟨g, H.length, none⟩ _ k (fun e => hs (.inr (by rw [e]; rfl)))]
  rw [← hW1] at d7 e7 HFIN
  clear hl hq hq1 ec hln hW1
  unfold ptr at cg ⊢
  generalize H.length = n at *
  go_enter Try.func94, Try.ntmps94
  go_wp2
  go_ret
  exact ⟨rfl, _, HFIN⟩
end Go.Proofs.Ytnbhifakfehefaa
