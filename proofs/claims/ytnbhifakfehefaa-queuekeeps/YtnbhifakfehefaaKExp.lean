
/- Expire. -/
import Derived.Test.YtnbhifakfehefaaKSrt
import Derived.Test.YtnbhifakfehefaaKSmall
namespace Go.Proofs.Ytnbhifakfehefaa
open Go.RowKit
set_option linter.unusedVariables false
set_option linter.unusedSimpArgs false
/-- blocks of numbers and of bytes stay -/
def KN (w w' : World) : Prop := w.heap.size ≤ w'.heap.size ∧ ∀ (k : Nat) (cur : Array Value) (t : TypeId) (fr : Nat × Nat), w.heap[k]? = some (.cells cur t fr) → (t = 3 ∨ t = 5) → w'.heap[k]? = some (.cells cur t fr)
theorem KN.trans {w w' w2 : World} (h : KN w w') (h2 : KN w' w2) : KN w w2 := ⟨Nat.le_trans h.1 h2.1, fun k cur t fr e ht => h2.2 k cur t fr (h.2 k cur t fr e ht) ht⟩
theorem KN.below {w w' : World} (h : Below w.heap.size w w') : KN w w' := ⟨h.size, fun k cur t fr e _ => (h.block k (Array.getElem?_eq_some_iff.1 e).1).trans e⟩
theorem KN.kp {w w' : World} {S : Nat → Prop} (h : Kp S w w') (hS : ∀ k cur t fr, w.heap[k]? = some (.cells cur t fr) → S k → t ≠ 3 ∧ t ≠ 5) : KN w w' := ⟨h.size, fun k cur t fr e ht => (h.block (Array.getElem?_eq_some_iff.1 e).1 (fun hk => by
  obtain ⟨h1, h2⟩ := hS k cur t fr e hk
  exact ht.elim h1 h2)).trans e⟩
theorem KN.grown {w w' : World} {row : Option Nat} (h : w.grownBy w' row) (hr : ∀ k, row = some k → ∃ cur fr, w.heap[k]? = some (.cells cur 37 fr)) : KN w w' := ⟨h.size, fun k cur t fr e ht => (h.block k (Array.getElem?_eq_some_iff.1 e).1 (fun hk => by
  obtain ⟨cur', fr', h1⟩ := hr k hk.symm
  rw [e] at h1
  simp only [Option.some.injEq, Obj.cells.injEq] at h1
  rw [h1.2.1] at ht
  revert ht
  decide)).trans e⟩
section
variable {w w' : World} {B qb : Nat} {c : Cf} {hi : Int} {A F : Value} {L H : List Nat} {E : Nat → It} {D : Nat → List Nat} {X Y : Nat → Prop}
theorem Qy.typ (h : Qy w B qb c hi A F L H E D X) {k : Nat} (hk : inQ qb A F L k) : ∃ cur t fr, w.heap[k]? = some (.cells cur t fr) ∧ (t = 63 ∨ t = 70 ∨ t = 67) := by
  rcases hk with e | e | e | e
  · subst e
    exact ⟨_, _, _, h.q, .inl rfl⟩
  · obtain ⟨p, hp⟩ := h.it k e
    exact ⟨_, _, _, hp, .inr (.inl rfl)⟩
  · obtain ⟨cur, hg⟩ := row_blk h.ra e
    exact ⟨_, _, _, hg, .inr (.inr rfl)⟩
  · obtain ⟨cur, hg⟩ := row_blk h.lx.row e
    exact ⟨_, _, _, hg, .inr (.inr rfl)⟩
theorem Qy.far (h : Qy w B qb c hi A F L H E D X) {n : Nat} {cur : Array Value} {t : TypeId} {fr : Nat × Nat} (hn : w.heap[n]? = some (.cells cur t fr)) (h1 : t ≠ 63) (h2 : t ≠ 70) (h3 : t ≠ 67) : ¬ inQ qb A F L n := fun hk => by
  obtain ⟨cur', t', fr', h4, h5⟩ := h.typ hk
  rw [hn] at h4
  simp only [Option.some.injEq, Obj.cells.injEq] at h4
  rw [← h4.2.1] at h5
  exact h5.elim h1 (fun h => h.elim h2 h3)
theorem Qy.kn (h : Qy w B qb c hi A F L H E D X) (hk : Kp (inQ qb A F L) w w') : KN w w' := KN.kp hk (fun k cur t fr e hi => by
  obtain ⟨cur', t', fr', h4, h5⟩ := h.typ hi
  rw [e] at h4
  simp only [Option.some.injEq, Obj.cells.injEq] at h4
  rw [h4.2.1]
  rcases h5 with rfl | rfl | rfl <;> decide)
theorem Qy.way {base : Nat} {v : Value} {ls : List Ev} (h : Qy w B qb c hi A F L H E D X) (hk : Kp (inQ qb A F L) w w') (hw : Wy EK w base v ls) : Wy EK w' base v ls := hw.at (fun k e => by
  obtain ⟨cur, hg⟩ := hw.typ e
  exact hk.block (Array.getElem?_eq_some_iff.1 hg).1 (h.far hg (by decide) (by decide) (by decide)))
theorem Qy.x (h : Qy w B qb c hi A F L H E D X) (hx : ∀ k, X k ↔ Y k) : Qy w B qb c hi A F L H E D Y := ⟨h.q, h.ra, h.lx, h.ne, h.it, h.ok, fun b => by rw [h.mem, hx], h.nd, h.srt, h.top, h.len, h.lo, h.dat, h.dl⟩
end
/-- an entry that came out -/
def Gm (base : Nat) (w : World) (x : Ev) (y : It) (l : List Nat) : Prop := (x.seq = y.seq ∧ x.pri = y.pri ∧ x.exp = y.exp ∧ x.dur = y.dur ∧ x.cnt = y.cnt ∧ x.hol = y.hol) ∧ x.n = l.length ∧ Ob base w (.slice x.a x.n x.c) l
theorem Gm.kn {base : Nat} {w w' : World} {x : Ev} {y : It} {l : List Nat} (h : Gm base w x y l) (hk : KN w w') : Gm base w' x y l := ⟨h.1, h.2.1, h.2.2.keep (fun k e => by
  rcases h.2.2.1.2 with ⟨hv, _⟩ | ⟨g, cap, cur, hv, _, hg, _⟩
  · rw [hv] at e
    cases e
  · rw [hv] at e
    cases e
    rw [hg]
    exact hk.2 _ _ _ _ hg (.inr rfl))⟩
def ovs (E : Nat → It) (L : List Nat) (now : Int) (n : Nat) : List Nat := (L.take n).filter (fun b => (E b).over now)
theorem ovs_yes {E : Nat → It} {L : List Nat} {now : Int} {n : Nat} (hl : n < L.length) (h : (E (hv L n)).over now = true) : ovs E L now (n + 1) = ovs E L now n ++ [hv L n] := by
  unfold ovs
  rw [take_next hl, List.filter_append]
  simp [h]
theorem ovs_no {E : Nat → It} {L : List Nat} {now : Int} {n : Nat} (hl : n < L.length) (h : (E (hv L n)).over now = false) : ovs E L now (n + 1) = ovs E L now n := by
  unfold ovs
  rw [take_next hl, List.filter_append]
  simp [h]
theorem ovs_le (E : Nat → It) (L : List Nat) (now : Int) (n : Nat) : (ovs E L now n).length ≤ L.length := by
  unfold ovs
  have h1 := List.length_filter_le (fun b => (E b).over now) (L.take n)
  rw [List.length_take] at h1
  omega
theorem fil_two (p : Nat → Bool) (L : List Nat) : (L.filter (fun b => !p b)).length + (L.filter p).length = L.length := by
  induction L with
  | nil => rfl
  | cons x L ih =>
    rw [List.filter_cons, List.filter_cons]
    cases h : p x
    · simp only [Bool.not_false, if_true, List.length_cons]
      simp
      omega
    · simp only [Bool.not_true, if_true, List.length_cons]
      simp
      omega
theorem ovs_kept (E : Nat → It) (L : List Nat) (now : Int) : (kept L (fun b => (E b).over now) L.length).length + (ovs E L now L.length).length = L.length := by
  unfold kept ovs
  rw [List.take_of_length_le (Nat.le_refl _)]
  exact fil_two (fun b => (E b).over now) L
def ExI (w : World) (B qb : Nat) (c : Cf) (hi : Int) (A F : Value) (L : List Nat) (E : Nat → It) (D : Nat → List Nat) (now : Int) (n : Nat) (v : Value) (wr : World) : Prop :=
  ∃ F' H' gs, Qy wr B qb c hi A F' L H' E D (fun b => b ∈ ovs E L now n) ∧ Wy EK wr w.heap.size v gs ∧ gs.length = (ovs E L now n).length ∧ (∀ k x, gs[k]? = some x → Gm w.heap.size wr x (E (hv (ovs E L now n) k)) (D (hv (ovs E L now n) k))) ∧ Kp (inQ qb A F L) w wr ∧ F'.ownBlock = F.ownBlock ∧ wr.heap[w.heap.size]? = some (.cells #[.int .i64 now] 3 (0, 0))
theorem ExI.same {w wr w' : World} {B qb : Nat} {c : Cf} {hi : Int} {A F : Value} {L : List Nat} {E : Nat → It} {D : Nat → List Nat} {now : Int} {n : Nat} {v : Value} (h : ExI w B qb c hi A F L E D now n v wr) (hs : Same wr w') : ExI w B qb c hi A F L E D now n v w' := by
  obtain ⟨F', H', gs, h1, h2, h3, h4, h5, h6, h7⟩ := h
  have hb : Below wr.heap.size wr w' := Kp.toBelow hs (Nat.le_refl _) (fun _ _ e => e)
  exact ⟨F', H', gs, h1.below hb, h2.ke (KE.below hb), h3, fun k x e => (h4 k x e).kn (KN.below hb), h5.below hb, h6, (hb.block _ (Array.getElem?_eq_some_iff.1 h7).1).trans h7⟩
set_option maxRecDepth 100000 in
theorem delete_none (f : Value) (a : Option Addr) (cap : Nat) (w : World) : Calls Try.prog 33 #[.slice a 0 cap, f] w fun e w' => e = .returned (.slice a 0 cap) ∧ w' = w := by
  have HIF : Hid (Calls Try.prog 49 #[.slice a 0 cap, f] w fun e w' => e = .returned (.int .i64 (-1)) ∧ w' = w) := by
    go_enter Try.func49, Try.ntmps49
    go_wp2
    go_rounds 1
    all_goals first | (go_ret; exact ⟨rfl, rfl⟩) | (go_wp2; go_ret; exact ⟨rfl, rfl⟩)
  go_enter Try.func33, Try.ntmps33
  go_wp2_with fail
  refine Calls.mono HIF.out ?_
  rintro e w1 ⟨rfl, rfl⟩
  go_wp2
  go_ret
  exact ⟨rfl, rfl⟩
theorem delete_any {w : World} {B nb : Nat} {A : Value} {L : List Nat} {P : Nat → Bool} (hl : L.length ≤ 4096) (hr : w.ownsRow B 67 1 A L.length (L.map ptr)) (ht : Tells #[.pointer (some ⟨nb, 0, none⟩)] 32 L P w) :
    Calls Try.prog 33 #[A, .func (.func 32) #[] #[.pointer (some ⟨nb, 0, none⟩)]] w fun e w' => ∃ A', e = .returned A' ∧ Hid (w'.ownsRow B 67 1 A' (kept L P L.length).length ((kept L P L.length).map ptr) ∧ A'.ownBlock = A.ownBlock ∧ Kp (fun k => A.ownBlock = some k) w w') := by
  by_cases h0 : 0 < L.length
  · obtain ⟨g, cap, rfl, hB, hm, hrow⟩ := RowB.of hr h0
    refine Calls.mono (delete_func nb g cap L P w hl hm hrow ht) ?_
    rintro e w' ⟨rfl, HH⟩
    exact ⟨_, rfl, HH.out.1.to hB hm, rfl, HH.out.2.mono (fun k e => by rw [e]; rfl)⟩
  · have hL : L = [] := List.eq_nil_of_length_eq_zero (by omega)
    subst hL
    obtain ⟨a, cap, rfl⟩ := row_form hr
    refine Calls.mono (delete_none _ a cap w) ?_
    rintro e w' ⟨rfl, rfl⟩
    exact ⟨_, rfl, hr, rfl, Kp.refl _ _⟩
/-- SortFunc of what came out -/
theorem sort_out {w : World} {base : Nat} {v : Value} {gs : List Ev} (hw : Wy EK w base v gs) (hl : gs.length ≤ 4096) : Calls Try.prog 34 #[v, .func (.func 35) #[] #[]] w fun e w' => e = .returned (.tuple #[]) ∧ Hid (∃ ks : List Ev, ks.Perm gs ∧ (∀ i j (hi : i < ks.length) (hj : j < ks.length), i < j → 0 ≤ Ev.cf ks[j] ks[i]) ∧ Wy EK w' base v ks ∧ w.grownBy w' v.ownBlock) := by
  by_cases h0 : ∃ g off cap, v = .slice (some ⟨g, off, none⟩) gs.length cap
  · obtain ⟨g, off, cap, rfl⟩ := h0
    refine Calls.mono (sorte_any gs base g off cap w hw hl) ?_
    rintro e w' ⟨rfl, ks, h1, h2, h3, h4⟩
    exact ⟨rfl, ks, h1, h2, h3, ⟨h4.1, h4.2.1, h4.2.2.1, h4.size, fun k hk hne => h4.block hk (fun e => hne (by rw [e]; rfl))⟩⟩
  · rcases hw with ⟨rfl, rfl⟩ | ⟨g, off, cap, cur, e, _⟩
    · refine Calls.mono (sort_one none 0 0 _ w (by omega)) ?_
      rintro e w' ⟨rfl, rfl⟩
      exact ⟨rfl, [], List.Perm.refl _, fun i j hi => by simp at hi, .inl ⟨rfl, rfl⟩, ⟨rfl, rfl, rfl, Nat.le_refl _, fun _ _ _ => rfl⟩⟩
    · exact absurd ⟨g, off, cap, e⟩ h0
set_option maxRecDepth 100000 in
set_option maxHeartbeats 8000000 in
theorem expire_any (B qb : Nat) (c : Cf) (hi : Int) (A F : Value) (L H : List Nat) (E : Nat → It) (D : Nat → List Nat) (now : Int) (w : World) (hs : Qs w B qb c hi A F L H E D) :
    Calls Try.prog 17 #[.pointer (some ⟨qb, 0, none⟩), .int .i64 now] w fun e w' => ∃ v, e = .returned v ∧ Hid (∃ A' F' H' gs ks, Qs w' B qb c hi A' F' (kept L (fun b => (E b).over now) L.length) H' E D ∧ Wy EK w' w.heap.size v ks ∧ ks.Perm gs ∧ (∀ i j (hi : i < ks.length) (hj : j < ks.length), i < j → 0 ≤ Ev.cf ks[j] ks[i]) ∧ gs.length = (ovs E L now L.length).length ∧ (∀ k x, gs[k]? = some x → Gm w.heap.size w' x (E (hv (ovs E L now L.length) k)) (D (hv (ovs E L now L.length) k))) ∧ Kp (inQ qb A F L) w w') := by
  obtain ⟨W1, hW1⟩ : ∃ W1, w.alloc (Obj.cells #[.int .i64 now] 3) = W1 := ⟨_, rfl⟩
  have hb1 : Below w.heap.size w W1 := by rw [← hW1]; exact bel1 (Below.refl _ _) (Nat.le_refl _) _
  have hs1 := hs.below hb1
  have c6 := hs1.q.cell.2.2.2.2.2.2.1
  obtain ⟨aA, cA, hA⟩ := row_form hs.ra
  have HA := hide hA
  rw [hA] at c6
  obtain ⟨nL, hnL⟩ : ∃ nL, L.length = nL := ⟨_, rfl⟩
  have HNL := hide hnL
  have hL4 : nL ≤ 4096 := by have := hs.len; omega
  have HND := hide hs.nd
  have hql := hs1.q.lt
  have hqlw := hs.q.lt
  rw [hnL] at c6
  have HI0 : Hid (ExI w B qb c hi A F L E D now 0 (.slice none 0 0) W1) := by
    refine ⟨F, H, [], hs1.qy.x (fun k => by simp [ovs]), .inl ⟨rfl, rfl⟩, by simp [ovs], fun k x e => by simp at e, Kp.ofBelow hb1, rfl, ?_⟩
    rw [← hW1]
    exact heap_new _ _
  have HBW : Hid (B ≤ w.heap.size) := by show B ≤ _; have := hs.lo.1; omega
  have HW1 := hide hW1
  have HS := hide hs
  clear hs hA hnL hW1 hb1 hs1
  go_enter Try.func17, Try.ntmps17
  go_wp2_with (rw [HW1.out])
  go_loopw [6, 15] (fun v6 v15 wr => ∃ n : Nat, v15 = .int .i64 (n : Int) ∧ n ≤ nL ∧ Hid (ExI w B qb c hi A F L E D now n v6 wr)) (fun _ v15 _ => nL - (intOf v15).toNat)
  case atStart => exact ⟨0, rfl, Nat.zero_le _, HI0⟩
  case round =>
    rename World => wr
    clear HI0
    obtain ⟨n, rfl, hn, HI⟩ := hrel
    by_cases hnl : n < nL
    · have hnl' : (n : Int) < (nL : Int) := by omega
      have hwn : IntKind.i64.wrap ((n : Int) + 1) = (n : Int) + 1 := by rw [IntKind.wrap_i64]; omega
      have hnL2 : n < L.length := by have := HNL.out; omega
      obtain ⟨F1, H1, gs1, hY1, _, _, _, _, _, hnw⟩ := HI.out
      obtain ⟨g, cap, hA, cn, hcap⟩ := row_cell hY1.ra n hnL2
      rw [HA.out, HNL.out] at hA
      cases hA
      obtain ⟨b, hb⟩ : ∃ b, hv L n = b := ⟨_, rfl⟩
      have hbL : b ∈ L := by rw [← hb]; exact hv_mem L n hnL2
      have hbT : b ∉ L.take n := by rw [← hb]; exact take_mem HND.out hnL2
      obtain ⟨p, hib⟩ := hY1.it b hbL
      rw [hb] at cn
      unfold ptr at cn
      have hgl := cell_lt cn
      have cnow : wr.cell? ⟨w.heap.size, 0, none⟩ = some (.int .i64 now) := by simp [World.cell?, hnw]
      have HOV : Hid (Calls Try.prog 32 #[.pointer (some ⟨b, 0, none⟩), .pointer (some ⟨w.heap.size, 0, none⟩)] wr fun e w' => e = .returned (.bool ((E b).over now)) ∧ Same wr w') := over_any b w.heap.size ((E b).at p) now wr hib cnow
      have HBE := hide hb
      have HBT := hide hbT
      clear hY1 hnw hib cnow hb hbT
      go_wp2_with fail
      refine Calls.mono HOV.out ?_
      rintro e w1 ⟨rfl, hsm⟩
      have HI1 := hide (HI.out.same hsm)
      clear hsm HI HOV cn hgl
      by_cases hov : (E b).over now = true
      · have HO : Hid ((E b).over now = true) := hov
        rw [hov]
        clear hov
        obtain ⟨F1, H1, gs1, hY1, hW1', hg1, hgm1, hk1, hf1, hnw1⟩ := HI1.out
        have hE0 : (E b).hol = 0 := by
          have := HO.out
          unfold It.over at this
          exact (of_decide_eq_true this).1
        have hbH : b ∈ H1 := (hY1.mem b).2 ⟨hbL, hE0, fun e => HBT.out (List.mem_filter.1 e).1⟩
        obtain ⟨j, hj, hje⟩ := List.mem_iff_getElem.1 hbH
        have hjv : hv H1 j = b := by rw [hv_eq H1 j hj, hje]
        have hibj : IB w1 b ((E b).at (j : Int)) := hY1.lx.it j b (by rw [List.getElem?_eq_getElem hj, hje])
        have hbl := hibj.lt
        have hql1 := hY1.q.lt
        have HY7 : Hid (w1.cell? ⟨b, 7, none⟩ = some (.int .i64 (j : Int))) := hibj.cells.2.2.2.2.2.2.2
        have hjb : (j : Int) < 4096 := by have := hY1.lx.len; omega
        obtain ⟨a6, c6', h6⟩ := hW1'.shape
        obtain ⟨m6, hm6⟩ : ∃ m6, gs1.length = m6 := ⟨_, rfl⟩
        have HM6 := hide hm6
        rw [hm6] at h6
        subst h6
        have HRM : Hid (Calls Try.prog 30 #[.iface 72 (.pointer (some ⟨qb, 7, none⟩)), .int .i64 (j : Int)] w1.drew fun e w' => e = .returned (.iface 67 (ptr b)) ∧ ∃ F' H', Hid (Qy w' B qb c hi A F' L H' E D (fun k => k ∈ ovs E L now n ∨ k = b) ∧ Kp (inQ qb A F1 L) w1 w' ∧ F'.ownBlock = F1.ownBlock)) := by
          have hyd := hY1.below (Below.refl _ w1).drew
          refine Calls.mono (heap_remove B qb c hi A F1 H1 E j w1.drew hyd.q hyd.lx hyd.ok hj) ?_
          rintro e w' ⟨rfl, F', H', HP⟩
          rw [hjv] at HP
          obtain ⟨r1, r2⟩ := Qy.rem hyd hbH HP.out
          exact ⟨by rw [hjv], F', H', r1, (Kp.ofBelow (Below.refl _ w1).drew).trans r2, HP.out.2.2.2.2.1⟩
        have HY1 := hide hY1
        have HW6 := hide hW1'
        have HG1 := hide hg1
        have HGM1 := hide hgm1
        have HK1 := hide hk1
        have HF1 := hide hf1
        have HNW1 := hide hnw1
        clear hY1 hW1' hg1 hgm1 hk1 hf1 hnw1 hjv hje hj hibj HI1 hm6 hE0
        go_wp2_with fail
        refine wp_region_Z (S := fun _ => True) (C := fun z W' => z = 8 → W'.cell? ⟨b, 7, none⟩ = some (.int .i64 (j : Int))) (by kernel_rfl) ⟨trivial, fun z _ _ => HY7.out⟩ (fun hHeld => ?_)
        clear hHeld
        refine Z_take (i := 0) (d := 22) (v := ?_) (Zs := []) rfl rfl (by kernel_rfl) (by kernel_rfl) (by kernel_rfl) (fun _ _ _ h => h) (fun _ h => absurd h (by decide)) (by kernel_rfl) rfl ?_ ⟨trivial, fun z _ _ => HY7.out⟩ ?_
        rotate_left
        · intro W hSw hC
          try dsimp only at hSw
          go_simp
          try with_reducible rfl
        try simp only [List.setIfInBounds_toArray, List.set_cons_zero, List.set_cons_succ]
        refine Z_take (i := 1) (d := 23) (v := ?_) (Zs := []) rfl rfl (by kernel_rfl) (by kernel_rfl) (by kernel_rfl) (fun _ _ _ h => h) (fun _ h => absurd h (by decide)) (by kernel_rfl) rfl ?_ ⟨trivial, fun z _ _ => HY7.out⟩ ?_
        rotate_left
        · intro W hSw hC
          try dsimp only at hSw
          go_simp
          try with_reducible rfl
        try simp only [List.setIfInBounds_toArray, List.set_cons_zero, List.set_cons_succ]
        refine Z_take (i := 2) (d := 24) (v := ?_) (Zs := []) rfl rfl (by kernel_rfl) (by kernel_rfl) (by kernel_rfl) (fun _ _ _ h => h) (fun _ h => absurd h (by decide)) (by kernel_rfl) rfl ?_ ⟨trivial, fun z _ _ => HY7.out⟩ ?_
        rotate_left
        · intro W hSw hC
          try dsimp only at hSw
          go_simp
          try with_reducible rfl
        try simp only [List.setIfInBounds_toArray, List.set_cons_zero, List.set_cons_succ]
        refine Z_take (i := 3) (d := 25) (v := ?_) (Zs := []) rfl rfl (by kernel_rfl) (by kernel_rfl) (by kernel_rfl) (fun _ _ _ h => h) (fun _ h => absurd h (by decide)) (by kernel_rfl) rfl ?_ ⟨trivial, fun z _ _ => HY7.out⟩ ?_
        rotate_left
        · intro W hSw hC
          try dsimp only at hSw
          go_simp
          try with_reducible rfl
        try simp only [List.setIfInBounds_toArray, List.set_cons_zero, List.set_cons_succ]
        refine Z_take (i := 4) (d := 26) (v := ?_) (Zs := []) rfl rfl (by kernel_rfl) (by kernel_rfl) (by kernel_rfl) (fun _ _ _ h => h) (fun _ h => absurd h (by decide)) (by kernel_rfl) rfl ?_ ⟨trivial, fun z _ _ => HY7.out⟩ ?_
        rotate_left
        · intro W hSw hC
          try dsimp only at hSw
          go_simp
          try with_reducible rfl
        try simp only [List.setIfInBounds_toArray, List.set_cons_zero, List.set_cons_succ]
        refine Z_take (i := 5) (d := 27) (v := ?_) (Zs := []) rfl rfl (by kernel_rfl) (by kernel_rfl) (by kernel_rfl) (fun _ _ _ h => h) (fun _ h => absurd h (by decide)) (by kernel_rfl) rfl ?_ ⟨trivial, fun z _ _ => HY7.out⟩ ?_
        rotate_left
        · intro W hSw hC
          try dsimp only at hSw
          go_simp
          try with_reducible rfl
        try simp only [List.setIfInBounds_toArray, List.set_cons_zero, List.set_cons_succ]
        refine Z_take (i := 6) (d := 28) (v := ?_) (Zs := []) rfl rfl (by kernel_rfl) (by kernel_rfl) (by kernel_rfl) (fun _ _ _ h => h) (fun _ h => absurd h (by decide)) (by kernel_rfl) rfl ?_ ⟨trivial, fun z _ _ => HY7.out⟩ ?_
        rotate_left
        · intro W hSw hC
          try dsimp only at hSw
          go_simp
          try with_reducible rfl
        try simp only [List.setIfInBounds_toArray, List.set_cons_zero, List.set_cons_succ]
        refine Z_take (i := 7) (d := 29) (v := ?_) (Zs := [8]) rfl rfl (by kernel_rfl) (by kernel_rfl) (by kernel_rfl) (fun _ _ _ h => h) (fun _ h => absurd h (by decide)) (by kernel_rfl) rfl ?_ ⟨trivial, fun z _ _ => HY7.out⟩ ?_
        rotate_left
        · intro W hSw hC
          have hC8 := hC 8 (by simp) rfl; try dsimp only at hSw
          go_simp
          try with_reducible rfl
        try simp only [List.setIfInBounds_toArray, List.set_cons_zero, List.set_cons_succ]
        refine wpAnyZ_ready (rs := [8]) (by kernel_rfl) (by simp) ?_
        refine AllReadyZ.cons rfl (fun K hK => ?_) AllReadyZ.nil
        go_simp
        go_wp2_with (go_at_call 30; refine Calls.mono HRM.out ?_; rintro e1 w2 ⟨rfl, F2, H2, HQY⟩)
        refine hK.out _ _ ⟨trivial, fun z hz => by
          rintro rfl
          simp at hz⟩ (fun hHeld => ?_)
        clear hK K hHeld
        try simp only [Act.put, List.setIfInBounds_toArray, List.set_cons_zero, List.set_cons_succ]
        refine wpAnyZ_done (by kernel_rfl) ?_ _
        obtain ⟨hY2, hk2, hf2⟩ := HQY.out
        obtain ⟨p2, hib2⟩ := hY2.it b hbL
        obtain ⟨y0, y1, y2, y3, y4, y5, y6, _⟩ := hib2.cells
        unfold It.at at y0 y1 y2 y3 y4 y5 y6
        simp only at y0 y1 y2 y3 y4 y5 y6
        have hbl2 := hib2.lt
        have HOW := hide (own_any (E b) (D b) w2 (hY2.dat b hbL).rb (by have := hY2.dl b hbL; omega))
        unfold It.put It.ent at HOW
        have HW2 : Hid (Wy EK w2 w.heap.size (.slice a6 m6 c6') gs1) := HY1.out.way hk2 HW6.out
        have HKN2 : Hid (KN w1 w2) := HY1.out.kn hk2
        have HY2 := hide hY2
        have HK2 := hide hk2
        have HF2 := hide hf2
        clear hY2 hk2 hf2 hib2 HQY HRM
        go_wp2_with fail
        refine Calls.mono HOW.out ?_
        rintro e w3 ⟨v3, rfl, HOB, hb3⟩
        obtain ⟨av, cv, hv'⟩ := row_form HOB.out.1
        subst hv'
        have HB3 := hide hb3
        have HW3 : Hid (Wy EK w3 w.heap.size (.slice a6 m6 c6') gs1) := HW2.out.ke (KE.below hb3)
        have hz3 : w.heap.size ≤ w3.heap.size := Nat.le_trans (Nat.le_trans HK1.out.size HKN2.out.1) hb3.size
        have HZ3 := hide hz3
        clear hb3 hz3 y0 y1 y2 y3 y4 y5 y6 HW2
        go_wp2_with (first | (refine wpList_build_one ekOk rfl (.tmp 36) rfl ⟨(E b).seq, (E b).pri, (E b).exp, (E b).dur, (E b).cnt, (E b).hol, av, (D b).length, cv⟩ rfl ?_) | (at_builtin; refine wpList_append_way ekOk _ rfl (.tmp 31) (.tmp 37) rfl w.heap.size (.slice a6 m6 c6') gs1 ⟨(E b).seq, (E b).pri, (E b).exp, (E b).dur, (E b).cnt, (E b).hol, av, (D b).length, cv⟩ rfl (HW3.out.ke (KE.below (bel1 (Below.refl _ _) (Nat.le_refl _) _))) w3.heap.size 1 rfl (heap_new _ _) (by have := HZ3.out; simp; omega) (by have := HG1.out; have := ovs_le E L now n; have := HNL.out; omega) ?_; intro v' w4 hwy hgr hat; have HWY := hide hwy; have HGR := hide hgr; clear hwy hgr hat))
        go_roundw
        case rel =>
          refine ⟨n + 1, by go_num, by omega, ?_⟩
          have e := ovs_yes (E := E) (now := now) hnL2 (by rw [HBE.out]; exact HO.out)
          rw [HBE.out] at e
          have hba : Below w3.heap.size w3 (w3.alloc (Obj.cells ⟨EK.enc ⟨(E b).seq, (E b).pri, (E b).exp, (E b).dur, (E b).cnt, (E b).hol, av, (D b).length, cv⟩⟩ EK.t)) := bel1 (Below.refl _ _) (Nat.le_refl _) _
          have hrow : ∀ k, (Value.slice a6 m6 c6').ownBlock = some k → ∃ cur fr, (w3.alloc (Obj.cells ⟨EK.enc ⟨(E b).seq, (E b).pri, (E b).exp, (E b).dur, (E b).cnt, (E b).hol, av, (D b).length, cv⟩⟩ EK.t)).heap[k]? = some (.cells cur 37 fr) := fun k hk => by
            obtain ⟨cur, hc⟩ := (HW3.out.ke (KE.below hba)).typ hk
            exact ⟨cur, (0, 0), hc⟩
          have hkn3 : KN w3 w4 := (KN.below hba).trans (KN.grown HGR.out hrow)
          have hkn : KN w1 w4 := HKN2.out.trans ((KN.below HB3.out).trans hkn3)
          have hin : ∀ k, inQ qb A F1 L k → inQ qb A F L k := fun k hk => by
            rcases hk with h | h | h | h
            · exact .inl h
            · exact .inr (.inl h)
            · exact .inr (.inr (.inl h))
            · exact .inr (.inr (.inr (by rw [← HF1.out]; exact h)))
          refine ⟨F2, H2, gs1 ++ [⟨(E b).seq, (E b).pri, (E b).exp, (E b).dur, (E b).cnt, (E b).hol, av, (D b).length, cv⟩], ?_, HWY.out, ?_, fun k x hx => ?_, ?_, HF2.out.trans HF1.out, hkn.2 _ _ _ _ HNW1.out (.inl rfl)⟩
          · refine (((HY2.out.below HB3.out).below hba).grown HGR.out 37 (by decide) (by decide) (by decide) (by decide) hrow).x (fun k => ?_)
            rw [e]
            simp
          · rw [e, List.length_append, List.length_append, HG1.out]
            rfl
          · rw [e]
            by_cases hk : k < gs1.length
            · rw [List.getElem?_append_left hk] at hx
              rw [hv_app _ _ _ (by rw [← HG1.out]; exact hk)]
              exact (HGM1.out k x hx).kn hkn
            · have hke : k = gs1.length := by
                have := (List.getElem?_eq_some_iff.1 hx).1
                simp at this
                omega
              subst hke
              rw [List.getElem?_append_right (Nat.le_refl _), Nat.sub_self] at hx
              simp only [List.getElem?_cons_zero, Option.some.injEq] at hx
              subst hx
              rw [HG1.out, hv_last]
              exact Gm.kn ⟨⟨rfl, rfl, rfl, rfl, rfl, rfl⟩, rfl, HOB.out.mono (Nat.le_trans HK1.out.size HKN2.out.1)⟩ hkn3
          · exact (((HK1.out.trans (HK2.out.mono hin)).below HB3.out).alloc _).grown HGR.out (fun j e => .inr (HW3.out.lt e).1)
        case measure => simp [intOf]; omega
      · have hov' : (E b).over now = false := by simpa using hov
        have HO : Hid ((E b).over now = false) := hov'
        rw [hov']
        clear hov hov'
        go_wp2_with fail
        go_roundw
        case rel =>
          refine ⟨n + 1, by go_num, by omega, ?_⟩
          obtain ⟨F1, H1, gs1, h1, h2, h3, h4, h5⟩ := HI1.out
          have e := ovs_no (E := E) (now := now) hnL2 (by rw [HBE.out]; exact HO.out)
          refine ⟨F1, H1, gs1, ?_, h2, ?_, ?_, h5⟩
          · rw [e]; exact h1
          · rw [e]; exact h3
          · rw [e]; exact h4
        case measure => simp [intOf]; omega
    · obtain rfl : nL = n := by omega
      obtain ⟨F1, H1, gs1, hY1, hW6, hg1, hgm1, hk1, hf1, hnw1⟩ := HI.out
      have c6r := hY1.q.cell.2.2.2.2.2.2.1
      have hqlr := hY1.q.lt
      have HTL : Tells #[.pointer (some ⟨w.heap.size, 0, none⟩)] 32 L (fun b => (E b).over now) wr := fun W b hb hk => by
        obtain ⟨p, hp⟩ := hY1.it b hb
        have hp' : IB W b ((E b).at p) := (hk.block hp.lt (fun ⟨cur, h⟩ => by
          unfold IB at hp
          rw [hp] at h
          simp only [Option.some.injEq, Obj.cells.injEq] at h
          exact absurd h.2.1 (by decide))).trans hp
        have hn' : W.heap[w.heap.size]? = some (.cells #[.int .i64 now] 3 (0, 0)) := (hk.block (Array.getElem?_eq_some_iff.1 hnw1).1 (fun ⟨cur, h⟩ => by
          rw [hnw1] at h
          simp only [Option.some.injEq, Obj.cells.injEq] at h
          exact absurd h.2.1 (by decide))).trans hnw1
        exact over_any b w.heap.size ((E b).at p) now W hp' (by simp [World.cell?, hn'])
      have HDL := hide (delete_any (nb := w.heap.size) hY1.len hY1.ra HTL)
      obtain ⟨KL, hKL⟩ : ∃ KL, kept L (fun b => (E b).over now) L.length = KL := ⟨_, rfl⟩
      have HKL := hide hKL
      rw [hKL] at HDL
      have HEN : Hid (∀ (w2 : World) (A2 : Value), w2.ownsRow B 67 1 A2 KL.length (KL.map ptr) ∧ A2.ownBlock = A.ownBlock ∧ Kp (fun k => A.ownBlock = some k) wr w2 → QB w2 qb c hi A F1 ∧ Qs (w2.setCell ⟨qb, 6, none⟩ A2) B qb c hi A2 F1 KL H1 E D ∧ Kp (inQ qb A F1 L) wr (w2.setCell ⟨qb, 6, none⟩ A2)) := fun w2 A2 ⟨r1, r2, r3⟩ => by
        have hq2 : QB w2 qb c hi A F1 := (r3.block hY1.q.lt (fun e => (hY1.q.ne_row hY1.ra e) rfl)).trans hY1.q
        have hkp : Kp (fun j => j = qb ∨ A.ownBlock = some j) wr (w2.setCell ⟨qb, 6, none⟩ A2) := (r3.mono (fun k e => .inr e)).setCell (.inl rfl) _
        refine ⟨hq2, Qy.fewer hY1 (L' := KL) ?_ (fun b hb => ?_) (fun b hb h0 hx => ?_) (hq2.set6 A2) (rows_set' r1 (fun e => (hY1.q.ne_row hY1.ra (by rw [← r2]; exact e)) rfl) _) r2 hkp, hkp.mono (fun k h => h.elim .inl (fun e => .inr (.inr (.inl e))))⟩
        · rw [← HKL.out]
          unfold kept
          rw [List.take_of_length_le (Nat.le_refl _)]
          exact List.filter_sublist
        · have h := (hY1.mem b).1 hb
          rw [← HKL.out]
          unfold kept
          rw [List.take_of_length_le (Nat.le_refl _)]
          refine List.mem_filter.2 ⟨h.1, ?_⟩
          show (!(E b).over now) = true
          cases hov : (E b).over now
          · rfl
          · exfalso
            refine h.2.2 ?_
            unfold ovs
            refine List.mem_filter.2 ⟨?_, hov⟩
            rw [List.take_of_length_le (by rw [HNL.out]; exact Nat.le_refl _)]
            exact h.1
        · rw [← HKL.out] at hb
          have h1 : (!(E b).over now) = true := (List.mem_filter.1 hb).2
          have h2 : (E b).over now = true := (List.mem_filter.1 hx).2
          rw [h2] at h1
          cases h1
      have HY1 := hide hY1
      have HW6 := hide hW6
      have HG1 := hide hg1
      have HGM1 := hide hgm1
      have HK1 := hide hk1
      have HF1 := hide hf1
      rw [HA.out, HNL.out] at c6r HDL
      clear hY1 hW6 hg1 hgm1 hk1 hf1 hnw1 HTL hKL HI
      go_wp2_with fail
      refine Calls.mono HDL.out ?_
      rintro e w2 ⟨A2, rfl, HD⟩
      rw [← HNL.out, ← HA.out] at HD
      obtain ⟨hq2, hQ3, hk3⟩ := HEN.out w2 A2 HD.out
      obtain ⟨a2, cp2, hA2⟩ := row_form HD.out.1
      subst hA2
      have c62 := hq2.cell.2.2.2.2.2.2.1
      have f62 := hq2.free 6
      have hql2 := hq2.lt
      obtain ⟨a6, c6', h6⟩ := HW6.out.shape
      obtain ⟨m6, hm6⟩ : ∃ m6, gs1.length = m6 := ⟨_, rfl⟩
      have HM6 := hide hm6
      rw [hm6] at h6
      subst h6
      have HW3 : Hid (Wy EK (w2.setCell ⟨qb, 6, none⟩ (.slice a2 KL.length cp2)) w.heap.size (.slice a6 m6 c6') gs1) := HY1.out.way hk3 HW6.out
      have HSO := hide (sort_out HW3.out (by rw [HG1.out]; have := ovs_le E L now nL; have := HNL.out; omega))
      have HKN3 : Hid (KN wr (w2.setCell ⟨qb, 6, none⟩ (.slice a2 KL.length cp2))) := HY1.out.kn hk3
      have HQ3 := hide hQ3
      have HK3 := hide hk3
      obtain ⟨kl, hkl⟩ : ∃ kl, KL.length = kl := ⟨_, rfl⟩
      have HKl := hide hkl
      rw [hkl] at HSO HQ3 HK3 HW3 HKN3 ⊢
      clear hq2 hQ3 hk3 hm6 hkl HEN HDL HD
      go_wp2_with fail
      refine Calls.mono HSO.out ?_
      rintro e w4 ⟨rfl, HSP⟩
      obtain ⟨ks, s1, s2, s3, s4⟩ := HSP.out
      have hrow : ∀ k, (Value.slice a6 m6 c6').ownBlock = some k → ∃ cur fr, (w2.setCell ⟨qb, 6, none⟩ (.slice a2 kl cp2)).heap[k]? = some (.cells cur 37 fr) := fun k hk => by
        obtain ⟨cur, hc⟩ := HW3.out.typ hk
        exact ⟨cur, (0, 0), hc⟩
      have hin : ∀ k, inQ qb A F1 L k → inQ qb A F L k := fun k hk => by
        rcases hk with h | h | h | h
        · exact .inl h
        · exact .inr (.inl h)
        · exact .inr (.inr (.inl h))
        · exact .inr (.inr (.inr (by rw [← HF1.out]; exact h)))
      have HFIN : Hid (∃ A' F' H' gs ks, Qs w4 B qb c hi A' F' (kept L (fun b => (E b).over now) L.length) H' E D ∧ Wy EK w4 w.heap.size (.slice a6 m6 c6') ks ∧ ks.Perm gs ∧ (∀ i j (hi : i < ks.length) (hj : j < ks.length), i < j → 0 ≤ Ev.cf ks[j] ks[i]) ∧ gs.length = (ovs E L now L.length).length ∧ (∀ k x, gs[k]? = some x → Gm w.heap.size w4 x (E (hv (ovs E L now L.length) k)) (D (hv (ovs E L now L.length) k))) ∧ Kp (inQ qb A F L) w w4) := by
        refine ⟨.slice a2 kl cp2, F1, H1, gs1, ks, ?_, s3, s1, s2, ?_, ?_, ?_⟩
        · rw [HKL.out]
          exact HQ3.out.grown' s4 37 (by decide) (by decide) (by decide) (by decide) hrow
        · rw [HNL.out]
          exact HG1.out
        · rw [HNL.out]
          exact fun k x hx => (HGM1.out k x hx).kn (HKN3.out.trans (KN.grown s4 hrow))
        · exact (HK1.out.trans (HK3.out.mono hin)).grown s4 (fun j e => .inr (HW3.out.lt e).1)
      clear s1 s2 s3 s4 HSP hrow hin
      go_wp2
      go_ret
      exact ⟨_, rfl, HFIN⟩
end Go.Proofs.Ytnbhifakfehefaa
