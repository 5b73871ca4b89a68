
/- Stage 17: container/heap's Pop. -/
import Derived.Test.YtnbhifakfehefaaKPop
namespace Go.Proofs.Ytnbhifakfehefaa
open Go.RowKit
set_option linter.unusedVariables false
set_option linter.unusedSimpArgs false
theorem set_same {w : World} {b o : Nat} {v : Value} (h : w.cell? ⟨b, o, none⟩ = some v) (k : Nat) : (w.setCell ⟨b, o, none⟩ v).heap[k]? = w.heap[k]? := by
  by_cases e : k = b
  · subst e
    obtain ⟨cur, t, fr, hg, hc⟩ := cell_blk h
    rw [blk_set w k o v hg, hg]
    obtain ⟨hl, hv⟩ := Array.getElem?_eq_some_iff.1 hc
    congr 2
    apply Array.ext
    · simp
    · intro i h1 h2
      rw [Array.getElem_setIfInBounds]
      split
      · rename_i e; subst e; exact hv.symm
      · rfl
  · exact blk_set_other _ ⟨b, o, none⟩ _ k e
set_option maxRecDepth 100000 in
set_option maxHeartbeats 4000000 in
theorem swap_same (g n cap i p : Nat) (x : It) (w : World) (hi : i < n) (hn : n ≤ 4096) (ci : w.cell? ⟨g, i, none⟩ = some (ptr p)) (fi : w.frozen? ⟨g, i, none⟩ = false) (hp : IB w p (x.at (i : Int))) (hgp : g ≠ p) :
    Calls Try.prog 93 #[.slice (some ⟨g, 0, none⟩) n cap, .int .i64 (i : Int), .int .i64 (i : Int)] w fun e w' => e = .returned (.tuple #[]) ∧ Below w.heap.size w w' := by
  have a7 : w.cell? ⟨p, 7, none⟩ = some (.int .i64 (i : Int)) := hp.cells.2.2.2.2.2.2.2
  have fp : w.frozen? ⟨p, 7, none⟩ = false := hp.free 7
  have hmx : Try.prog.follows .mixedOrders = true := by kernel_rfl
  have HP := hide hp
  clear hp
  unfold ptr at ci
  go_enter Try.func93, Try.ntmps93
  go_wp2_with fail
  go_region
  obtain ⟨W1, hW1⟩ : ∃ W1, ((w.setCell ⟨g, i, none⟩ (.pointer (some ⟨p, 0, none⟩))).setCell ⟨g, i, none⟩ (.pointer (some ⟨p, 0, none⟩))).drew = W1 := ⟨_, rfl⟩
  have h1 : ∀ k, W1.heap[k]? = w.heap[k]? := fun k => by
    rw [← hW1]
    have e1 := set_same ci
    have e2 : (w.setCell ⟨g, i, none⟩ (.pointer (some ⟨p, 0, none⟩))).cell? ⟨g, i, none⟩ = some (.pointer (some ⟨p, 0, none⟩)) := (World.cell?_of_block (a := ⟨g, i, none⟩) (e1 g)).trans ci
    exact (set_same e2 k).trans (e1 k)
  have s1 : W1.heap.size = w.heap.size := by rw [← hW1]; simp
  have HB1 : Hid (Below w.heap.size w W1) := by
    refine ⟨?_, ?_, ?_, by omega, fun k hk => h1 k⟩ <;> (rw [← hW1]; rfl)
  have c1 : W1.cell? ⟨g, i, none⟩ = some (.pointer (some ⟨p, 0, none⟩)) := (World.cell?_of_block (a := ⟨g, i, none⟩) (h1 g)).trans ci
  have d1 : W1.cell? ⟨p, 7, none⟩ = some (.int .i64 (i : Int)) := (World.cell?_of_block (a := ⟨p, 7, none⟩) (h1 p)).trans a7
  have hp1 : IB W1 p (x.at (i : Int)) := (h1 p).trans HP.out
  have f1 := hp1.free 7
  have HD1 := hide d1
  rw [hW1]
  clear hW1 h1 ci fi a7 fp hp1 s1
  go_wp2_with fail
  go_region
  go_wp2
  go_end0
  refine ⟨rfl, ?_⟩
  have e1 := set_same HD1.out
  have e2 : (W1.setCell ⟨p, 7, none⟩ (.int .i64 (i : Int))).cell? ⟨p, 7, none⟩ = some (.int .i64 (i : Int)) := (World.cell?_of_block (a := ⟨p, 7, none⟩) (e1 p)).trans HD1.out
  exact ⟨HB1.out.os, HB1.out.tape, HB1.out.output, by simpa using HB1.out.size, fun k hk => ((set_same e2 k).trans (e1 k)).trans (HB1.out.block k hk)⟩
/-- what heap.Pop leaves: b has gone, which stood at the head -/
def HPopP (B qb : Nat) (c : Cf) (hi : Int) (A F : Value) (H : List Nat) (E : Nat → It) (w w' : World) (F' : Value) (H' : List Nat) : Prop :=
  QB w' qb c hi A F' ∧ Lx w' B F' H' E ∧ (H' ++ [hv H 0]).Perm H ∧ HeapOk (leE E) H' H'.length ∧ F'.ownBlock = F.ownBlock ∧ Kp (fun k => k = qb ∨ inF F H k) w w' ∧ ∃ p, IB w' (hv H 0) ((E (hv H 0)).at p)
theorem Ln.of {w : World} {B qb : Nat} {c : Cf} {hi : Int} {A F : Value} {H : List Nat} {E : Nat → It} (hq : QB w qb c hi A F) (hl : Lx w B F H E) : Ln w B qb F H E := ⟨hl, hq.cell.2.2.2.2.2.2.2, fun e => e.elim (fun e => (hq.ne_row hl.row e) rfl) (fun e => by
    obtain ⟨k, hk, he⟩ := List.mem_iff_getElem.1 e
    exact (hq.ne_item (hl.it k _ (List.getElem?_eq_getElem hk))) he.symm)⟩
theorem down_first {le : Nat → Nat → Prop} {H : List Nat} {n : Nat} (h : HeapOk le H (n + 1)) (hn : n < H.length) (h0 : 0 < n) : DownI le (sw H 0 n) n 0 true := by
  refine ⟨fun k k0 kn pk _ => ?_, fun k k0 kn hx _ => by omega⟩
  have : par k < k := by unfold par; omega
  rw [hv_sw H 0 n _ (by omega) hn, hv_sw H 0 n _ (by omega) hn, if_neg (by omega), if_neg pk, if_neg (by omega), if_neg (by omega)]
  exact h k k0 (by omega)
theorem snoc_of (H : List Nat) (n : Nat) (h : H.length = n + 1) : H = H.take n ++ [hv H n] := by
  have : H.take (n + 1) = H.take n ++ [hv H n] := by
    rw [List.take_succ_eq_append_getElem (by omega), hv_eq H n (by omega)]
  rw [← this, List.take_of_length_le (by omega)]
theorem hv_take (H : List Nat) (n k : Nat) (h : k < n) : hv (H.take n) k = hv H k := by
  unfold hv
  simp [List.getD_eq_getElem?_getD, List.getElem?_take, h]
set_option maxRecDepth 100000 in
set_option maxHeartbeats 4000000 in
theorem heap_pop (B qb : Nat) (c : Cf) (hi : Int) (A F : Value) (H : List Nat) (E : Nat → It) (w : World) (hq : QB w qb c hi A F) (hl : Lx w B F H E) (hh : HeapOk (leE E) H H.length) (h0 : 0 < H.length) :
    Calls Try.prog 42 #[ifc qb] w fun e w' => e = .returned (.iface 67 (ptr (hv H 0))) ∧ ∃ F' H', Hid (HPopP B qb c hi A F H E w w' F' H') := by
  obtain ⟨n, hn⟩ : ∃ n, H.length = n + 1 := ⟨H.length - 1, by omega⟩
  have h4 : n < 4096 := by have := hl.len; omega
  have HLN := hide (Ln.of hq hl)
  obtain ⟨a, cap, hF⟩ := row_form hl.row
  rw [hn] at hF
  have HSW : Hid (Calls Try.prog 93 #[F, .int .i64 0, .int .i64 (n : Int)] w fun e w' => e = .returned (.tuple #[]) ∧ ∃ H1 : List Nat, Hid (H1.Perm H ∧ Ln w' B qb F H1 E ∧ DownI (leE E) H1 n 0 true ∧ hv H1 n = hv H 0 ∧ Kp (inF F H) w w')) := by
    by_cases hz : n = 0
    · subst hz
      obtain ⟨g, cap', hF', cg, fg, _⟩ := hl.cell 0 (by omega)
      rw [hF']
      have q := swap_same g H.length cap' 0 (H[0]'(by omega)) (E (H[0]'(by omega))) w (by omega) hl.len cg fg (item_cells hl 0 (by omega)) (by
        have hl' := hl
        rw [hF'] at hl'
        exact hl'.ne 0 (by omega))
      refine Calls.mono q ?_
      rintro e w' ⟨rfl, hb⟩
      rw [hF'] at HLN
      exact ⟨rfl, H, List.Perm.refl _, HLN.out.below hb, ⟨fun k k0 kn => by omega, fun k k0 kn => by omega⟩, rfl, Kp.ofBelow hb⟩
    · refine Calls.mono (swap_line B F H E w hl 0 n (by omega) (by omega) (by omega)) ?_
      rintro e w' ⟨rfl, HW⟩
      refine ⟨rfl, sw H 0 n, sw_perm H 0 n (by omega) (by omega), HLN.out.swapped (by omega) (by omega) HW.out.1 HW.out.2, down_first (by rw [← hn]; exact hh) (by omega) (by omega), ?_, HW.out.2⟩
      rw [hv_sw H 0 n n (by omega) (by omega), if_pos rfl]
  have HQ := hide hq
  have hm := mLen w qb F HLN.out.cell
  have hm2 := mSwap w qb F HLN.out.cell
  have HHN := hide hn
  rw [hF] at hm hm2 HSW
  have HFF := hide hF
  clear hq hl hh h0 hn hF
  unfold ifc
  go_enter Try.func42, Try.ntmps42
  go_wp2_with fail
  refine Calls.mono (len_line F (n + 1) cap a w) ?_
  rintro e w1 ⟨rfl, rfl⟩
  go_wp2_with fail
  refine Calls.mono HSW.out ?_
  rintro e w2 ⟨rfl, H1, HW⟩
  rw [← HFF.out] at HW
  obtain ⟨p1, p2, p3, p4, p5⟩ := HW.out
  have HP1 := hide p1
  have HP2 := hide p2
  have HP4 := hide p4
  have HP5 := hide p5
  have q := down_any B qb F H1 E 0 n true w2 p2 (by rw [p1.length_eq, HHN.out]; omega) (by omega) p3
  unfold ifc at q
  have HDN := hide q
  clear HW p1 p2 p3 p4 p5 q hm hm2
  go_wp2_with fail
  refine Calls.mono HDN.out ?_
  rintro e w3 ⟨H3, i3, rfl, hp3, hl3, hd3, hbey, hk3⟩
  have hlen3 : H3.length = n + 1 := by rw [hp3.length_eq, HP1.out.length_eq]; exact HHN.out
  have hkk : Kp (inF F H) w1 w3 := HP5.out.trans (hk3.mono (fun k hk => (inF_perm HP1.out k).1 hk))
  have hsn := snoc_of H3 n hlen3
  have hhd : hv H3 n = hv H 0 := (hbey n (Nat.le_refl _)).trans HP4.out
  rw [hhd] at hsn
  have hq3 : QB w3 qb c hi A F := (hkk.block HQ.out.lt HLN.out.out).trans HQ.out
  have hl3' : Lx w3 B F (H3.take n ++ [hv H 0]) E := by rw [← hsn]; exact hl3.lx
  have hib : IB w3 (hv H 0) ((E (hv H 0)).at (n : Int)) := hl3'.it n (hv H 0) (by rw [List.getElem?_append_right (by simp; omega)]; simp [List.length_take, hlen3])
  have HIB : Hid (IB w3 (hv H 0) ((E (hv H 0)).at (n : Int)) ∧ hv H 0 ≠ qb ∧ F.ownBlock ≠ some (hv H 0)) := ⟨hib, fun e => (hq3.ne_item hib) e.symm, fun e => (hib.ne_row hl3'.row e) rfl⟩
  have HPO := hide (pop_line B qb (hv H 0) c hi A F (H3.take n) E w3 hq3 hl3')
  have HKK := hide hkk
  have HPM : Hid ((H3.take n ++ [hv H 0]).Perm H) := by
    show List.Perm _ _
    rw [← hsn]
    exact hp3.trans HP1.out
  have HOK : Hid (HeapOk (leE E) (H3.take n) (H3.take n).length) := by
    intro k k0 kn
    have hkn : k < n := by rw [List.length_take] at kn; omega
    have : par k < k := by unfold par; omega
    rw [hv_take _ _ _ (by omega), hv_take _ _ _ hkn]
    exact hd3.1 (.inr rfl) k k0 hkn
  have hm := mPop w3 qb
  clear hp3 hl3 hd3 hbey hk3 hkk hsn hhd hq3 hl3' hlen3 hib
  go_wp2_with fail
  refine Calls.mono HPO.out ?_
  rintro e w4 ⟨rfl, F4, HP⟩
  go_wp2
  go_ret
  obtain ⟨r1, r2, r3, r4⟩ := HP.out
  exact ⟨rfl, F4, H3.take n, r1, r2, HPM.out, HOK.out, r3, (HKK.out.mono (fun k hk => .inr hk)).trans (r4.mono (fun k hk => hk.elim .inl (fun h => .inr (.inl h)))), n, (r4.block HIB.out.1.lt (fun hk => hk.elim HIB.out.2.1 HIB.out.2.2)).trans HIB.out.1⟩
end Go.Proofs.Ytnbhifakfehefaa
