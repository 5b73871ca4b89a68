
/- Release. -/
import Derived.Test.YtnbhifakfehefaaKBackD
import Derived.Test.YtnbhifakfehefaaKOrdC
namespace Go.Proofs.Ytnbhifakfehefaa
open Go.RowKit
set_option linter.unusedVariables false
set_option linter.unusedSimpArgs false
def IK : WK Int := ⟨fun z => [.int .i64 z], 1, 8, 3, 34⟩
theorem Try.infoInt : ∃ i z, Try.prog.info? 3 = some i ∧ i.zero = some z ∧ z.cells.size = 1 ∧ i.size = 1 ∧ i.bytes = 8 := by
  have h : (Try.prog.info? 3).map (fun i => (i.zero, i.size, i.bytes)) = some (some (.int .i64 0), 1, 8) := by kernel_rfl
  obtain ⟨i, h1, h2, h3, h4⟩ := info_parts h
  exact ⟨i, _, h1, h2, rfl, h3, h4⟩
theorem ikOk : IK.Ok := ⟨fun x => rfl, fun x u hu => by
  simp only [IK, List.mem_cons, List.not_mem_nil, or_false] at hu
  subst hu
  rfl, Try.underlying34, Try.infoInt, by decide, by decide, by decide⟩
theorem Wy.mono' {A : Type} {K : WK A} {w : World} {base base' : Nat} {v : Value} {ls : List A} (h : Wy K w base v ls) (hb : base' ≤ base) : Wy K w base' v ls := by
  rcases h with h | ⟨g, off, cap, cur, rfl, h1, h2⟩
  · exact .inl h
  · exact .inr ⟨g, off, cap, cur, rfl, Nat.le_trans hb h1, h2⟩
section
variable {w w' : World} {B qb : Nat} {c : Cf} {hi : Int} {A F : Value} {L H : List Nat} {E : Nat → It} {D : Nat → List Nat} {X : Nat → Prop}
/-- a row of another type grows -/
theorem Qy.grown {row : Option Nat} (h : Qy w B qb c hi A F L H E D X) (hg : w.grownBy w' row) (t : TypeId) (h1 : t ≠ 63) (h2 : t ≠ 70) (h3 : t ≠ 67) (h4 : t ≠ 5) (hr : ∀ g, row = some g → ∃ cur fr, w.heap[g]? = some (.cells cur t fr)) : Qy w' B qb c hi A F L H E D X := by
  have hk : ∀ k o, w.heap[k]? = some o → (∀ cur fr, o ≠ Obj.cells cur t fr) → w'.heap[k]? = w.heap[k]? := fun k o ho hn => hg.block k (Array.getElem?_eq_some_iff.1 ho).1 (fun e => by
    obtain ⟨cur, fr, h1⟩ := hr k e.symm
    rw [ho] at h1
    exact hn cur fr (by simpa using h1))
  have ki : ∀ k x, IB w k x → w'.heap[k]? = w.heap[k]? := fun k x hx => hk k _ hx (fun cur fr e => by
    simp only [Obj.cells.injEq] at e
    exact h2 e.2.1.symm)
  have kr : ∀ G m xs k, w.ownsRow B 67 1 G m xs → G.ownBlock = some k → w'.heap[k]? = w.heap[k]? := fun G m xs k hx e => by
    obtain ⟨cur', hg'⟩ := row_blk hx e
    exact hk k _ hg' (fun cur fr e => by
      simp only [Obj.cells.injEq] at e
      exact h3 e.2.1.symm)
  refine ⟨(hk qb _ h.q (fun cur fr e => by simp only [Obj.cells.injEq] at e; exact h1 e.2.1.symm)).trans h.q, rows_keep h.ra (fun k e => kr _ _ _ k h.ra e), h.lx.keep (fun k e => ?_), h.ne, fun k hkL => ?_, h.ok, h.mem, h.nd, h.srt, h.top, h.len, h.lo, fun k hkL => (h.dat k hkL).keep (fun j e => ?_), h.dl⟩
  · rcases e with e | e
    · exact kr _ _ _ k h.lx.row e
    · obtain ⟨p, hp⟩ := h.it k ((h.mem k).1 e).1
      exact ki k _ hp
  · obtain ⟨p, hp⟩ := h.it k hkL
    exact ⟨p, (ki k _ hp).trans hp⟩
  · have ho := h.dat k hkL
    rcases ho.1.2 with ⟨hv, _⟩ | ⟨g, cap, cur, hv, _, hgg, _⟩
    · rw [hv] at e
      cases e
    · rw [hv] at e
      cases e
      exact hk g _ hgg (fun cur fr e => by simp only [Obj.cells.injEq] at e; exact h4 e.2.1.symm)
theorem Qs.grown' {row : Option Nat} (h : Qs w B qb c hi A F L H E D) (hg : w.grownBy w' row) (t : TypeId) (h1 : t ≠ 63) (h2 : t ≠ 70) (h3 : t ≠ 67) (h4 : t ≠ 5) (hr : ∀ g, row = some g → ∃ cur fr, w.heap[g]? = some (.cells cur t fr)) : Qs w' B qb c hi A F L H E D :=
  (h.qy.grown hg t h1 h2 h3 h4 hr).qs (fun _ _ _ h => h)
/-- the line is shorter where one is not in it -/
theorem nodup_le : ∀ (H L : List Nat), H.Nodup → (∀ x ∈ H, x ∈ L) → H.length ≤ L.length
  | [], _, _, _ => Nat.zero_le _
  | x :: H, L, hn, hs => by
    have hx := hs x (by simp)
    have h1 := nodup_le H (L.erase x) (List.nodup_cons.1 hn).2 (fun y hy => (List.mem_erase_of_ne (fun (e : y = x) => (List.nodup_cons.1 hn).1 (by rw [← e]; exact hy))).2 (hs y (by simp [hy])))
    have h2 := List.length_erase_of_mem hx
    have h3 := List.length_pos_of_mem hx
    simp only [List.length_cons]
    omega
theorem Qy.line_lt (h : Qy w B qb c hi A F L H E D X) {b : Nat} (hb : b ∈ L) (hn : b ∉ H) : H.length < L.length := by
  have h1 := nodup_le (b :: H) L (List.nodup_cons.2 ⟨hn, h.lx.nd⟩) (fun x hx => by
    rcases List.mem_cons.1 hx with rfl | hx
    · exact hb
    · exact ((h.mem x).1 hx).1)
  simp only [List.length_cons] at h1
  omega
theorem Qy.line_le (h : Qy w B qb c hi A F L H E D X) : H.length ≤ L.length := nodup_le H L h.lx.nd (fun x hx => ((h.mem x).1 hx).1)
end
/-- the first n of those that h has are given back -/
def relE (E : Nat → It) (L : List Nat) (h : Int) (n : Nat) (b : Nat) : It := if b ∈ L.take n ∧ (E b).hol = h then (E b).held 0 else E b
def relS (E : Nat → It) (L : List Nat) (h : Int) (n : Nat) : List Int := ((L.take n).filter (fun b => decide ((E b).hol = h))).map (fun b => (E b).seq)
theorem take_mem {L : List Nat} (hn : L.Nodup) {n : Nat} (h : n < L.length) : hv L n ∉ L.take n := fun e => by
  obtain ⟨j, hj, he⟩ := List.mem_iff_getElem.1 e
  rw [List.length_take] at hj
  rw [List.getElem_take, hv_eq L n h] at he
  have := (List.getElem_inj hn).1 he
  omega
theorem take_next {L : List Nat} {n : Nat} (h : n < L.length) : L.take (n + 1) = L.take n ++ [hv L n] := by
  rw [List.take_succ_eq_append_getElem h, hv_eq L n h]
theorem rel_at {E : Nat → It} {L : List Nat} {h : Int} {n : Nat} (hn : L.Nodup) (hl : n < L.length) : relE E L h n (hv L n) = E (hv L n) := if_neg (fun e => take_mem hn hl e.1)
theorem rel_yes {E : Nat → It} {L : List Nat} {h : Int} {n : Nat} (hn : L.Nodup) (hl : n < L.length) (hh : (E (hv L n)).hol = h) : upd (relE E L h n) (hv L n) ((E (hv L n)).held 0) = relE E L h (n + 1) ∧ relS E L h (n + 1) = relS E L h n ++ [(E (hv L n)).seq] := by
  refine ⟨funext fun b => ?_, ?_⟩
  · by_cases e : b = hv L n
    · subst e
      rw [upd_at]
      exact (if_pos ⟨by rw [take_next hl]; simp, hh⟩).symm
    · rw [upd_ne _ _ _ _ e]
      unfold relE
      rw [take_next hl]
      simp [e]
  · unfold relS
    rw [take_next hl, List.filter_append, List.map_append]
    simp [hh]
theorem rel_no {E : Nat → It} {L : List Nat} {h : Int} {n : Nat} (hl : n < L.length) (hh : (E (hv L n)).hol ≠ h) : relE E L h n = relE E L h (n + 1) ∧ relS E L h (n + 1) = relS E L h n := by
  refine ⟨funext fun b => ?_, ?_⟩
  · unfold relE
    by_cases e : b = hv L n
    · subst e
      rw [if_neg (fun x => hh x.2), if_neg (fun x => hh x.2)]
    · rw [take_next hl]
      simp [e]
  · unfold relS
    rw [take_next hl, List.filter_append, List.map_append]
    simp [hh]
def RelI (w : World) (B qb : Nat) (c : Cf) (hi : Int) (A F : Value) (L : List Nat) (E : Nat → It) (D : Nat → List Nat) (h : Int) (n : Nat) (v : Value) (wr : World) : Prop :=
  ∃ F' H', Qs wr B qb c hi A F' L H' (relE E L h n) D ∧ Wy IK wr w.heap.size v (relS E L h n) ∧ Kp (inQ qb A F L) w wr ∧ ∀ g, F'.ownBlock = some g → F.ownBlock = some g ∨ w.heap.size ≤ g
theorem Wy.far {A' : Type} {K : WK A'} {w w' : World} {B qb base : Nat} {c : Cf} {hi : Int} {A F v : Value} {L H : List Nat} {E : Nat → It} {D : Nat → List Nat} {ls : List A'} {S : Nat → Prop} (h : Wy K w base v ls) (hs : Qs w B qb c hi A F L H E D) (h1 : K.t ≠ 63) (h2 : K.t ≠ 70) (h3 : K.t ≠ 67) (hk : Kp S w w') (hS : ∀ k, S k → inQ qb A F L k) : Wy K w' base v ls := h.at (fun k e => by
  obtain ⟨cur, hg⟩ := h.typ e
  exact hk.block (Array.getElem?_eq_some_iff.1 hg).1 (fun hx => hs.far hg h1 h2 h3 (hS k hx)))
theorem Wy.below {A' : Type} {K : WK A'} {w w' : World} {base : Nat} {v : Value} {ls : List A'} (h : Wy K w base v ls) (hb : Below w.heap.size w w') : Wy K w' base v ls := h.at (fun k e => hb.block k (h.lt e).2)
theorem held_push {w : World} {B qb b : Nat} {c : Cf} {hi : Int} {A F : Value} {L H : List Nat} {E : Nat → It} {D : Nat → List Nat} {p : Int} (hs : Qs w B qb c hi A F L H E D) (hbL : b ∈ L) (hib : IB w b ((E b).at p)) (h1 : (E b).hol ≠ 0) :
    Calls Try.prog 26 #[ifc qb, .iface 67 (ptr b)] (w.setCell ⟨b, 5, none⟩ (.int .i64 0)) fun e w3 => e = .returned (.tuple #[]) ∧ ∃ F3 H3, Hid (Qs w3 B qb c hi A F3 L H3 (upd E b ((E b).held 0)) D ∧ H3.length = H.length + 1 ∧ Kp (inQ qb A F L) w w3 ∧ ∀ g, F3.ownBlock = some g → F.ownBlock = some g ∨ w.heap.size ≤ g) := by
  have hbH : b ∉ H := fun e => h1 ((hs.mem b).1 e).2
  have hib2 := ib_held hib 0
  obtain ⟨W2, hW2⟩ : ∃ W2, w.setCell ⟨b, 5, none⟩ (.int .i64 0) = W2 := ⟨_, rfl⟩
  have hk2 : ∀ j, j ≠ b → W2.heap[j]? = w.heap[j]? := fun j hj => by rw [← hW2]; exact blk_set_other _ ⟨b, 5, none⟩ _ j hj
  have hz2 : W2.heap.size = w.heap.size := by rw [← hW2]; simp
  have hkp2 : Kp (inQ qb A F L) w W2 := by rw [← hW2]; exact (Kp.refl _ w).setCell (.inr (.inl hbL)) _
  rw [hW2] at hib2 ⊢
  obtain ⟨u1, u2, u3⟩ := back_pre hs hbL hbH hib2 hk2
  have hBq : B ≤ W2.heap.size := by have := hs.lo.1; have := hs.q.lt; omega
  have h4 : H.length < 4096 := by have := hs.qy.line_lt hbL hbH; have := hs.len; omega
  refine Calls.mono (heap_push B qb b c hi A F H (upd E b ((E b).held 0)) p W2 u1 u2 u3 (by rw [upd_at]; exact hib2) hbH hBq h4) ?_
  rintro e w3 ⟨rfl, F3, H3, HH⟩
  have hst := back_state (x := (E b).held 0) hs hbL hbH hib2 hk2 hz2 rfl rfl rfl HH.out
  obtain ⟨_, _, g3, _, g5, g6⟩ := HH.out
  refine ⟨rfl, F3, H3, hst, by rw [g3.length_eq]; simp, hkp2.trans (g6.mono (fun k hk => ?_)), fun g e => ?_⟩
  · rcases hk with e | e | e | e
    · exact .inl e
    · exact .inr (.inl (by rw [e]; exact hbL))
    · exact .inr (.inr (.inr e))
    · exact .inr (.inl ((hs.mem k).1 e).1)
  · rcases g5 with h | ⟨g', h, hg⟩
    · exact .inl (by rw [← h]; exact e)
    · rw [h] at e
      cases e
      exact .inr (by omega)
set_option maxRecDepth 100000 in
set_option maxHeartbeats 4000000 in
theorem release_any (B qb : Nat) (c : Cf) (hi : Int) (A F : Value) (L H : List Nat) (E : Nat → It) (D : Nat → List Nat) (h : Int) (w : World) (hs : Qs w B qb c hi A F L H E D) (h1 : 1 ≤ h) :
    Calls Try.prog 18 #[.pointer (some ⟨qb, 0, none⟩), .int .i64 h] w fun e w' => ∃ v, e = .returned v ∧ Hid (RelI w B qb c hi A F L E D h L.length v w') := by
  have c6 := hs.q.cell.2.2.2.2.2.2.1
  obtain ⟨aA, cA, hA⟩ := row_form hs.ra
  have HA := hide hA
  rw [hA] at c6
  obtain ⟨nL, hnL⟩ : ∃ nL, L.length = nL := ⟨_, rfl⟩
  have HNL := hide hnL
  have hL4 : nL ≤ 4096 := by have := hs.len; omega
  have HND := hide hs.nd
  have hql := hs.q.lt
  rw [hnL] at c6 ⊢
  have HI0 : Hid (RelI w B qb c hi A F L E D h 0 (.slice none 0 0) w) := by
    have e0 : relE E L h 0 = E := funext fun b => if_neg (fun x => by simp at x)
    exact ⟨F, H, by rw [e0]; exact hs, .inl ⟨rfl, by simp [relS]⟩, Kp.refl _ _, fun g e => .inl e⟩
  have HBW : Hid (B ≤ w.heap.size) := by show B ≤ _; have := hs.lo.1; omega
  clear hs hA hnL
  go_enter Try.func18, Try.ntmps18
  go_wp2_with fail
  go_loopw [5, 15] (fun v5 v15 wr => ∃ n : Nat, v15 = .int .i64 (n : Int) ∧ n ≤ nL ∧ Hid (RelI w B qb c hi A F L E D h n v5 wr)) (fun _ v15 _ => nL - (intOf v15).toNat)
  case atStart => exact ⟨0, rfl, Nat.zero_le _, HI0⟩
  case round =>
    rename World => wr
    clear HI0
    obtain ⟨n, rfl, hn, HI⟩ := hrel
    by_cases hnl : n < nL
    · have hnl' : (n : Int) < (nL : Int) := by omega
      have hwn : IntKind.i64.wrap ((n : Int) + 1) = (n : Int) + 1 := by rw [IntKind.wrap_i64]; omega
      obtain ⟨F1, H1, hQ, hW, hK, hF⟩ := HI.out
      have hnL2 : n < L.length := by have := HNL.out; omega
      obtain ⟨g, cap, hA, cn, hcap⟩ := row_cell hQ.ra n hnL2
      rw [HA.out, HNL.out] at hA
      cases hA
      obtain ⟨b, hb⟩ : ∃ b, hv L n = b := ⟨_, rfl⟩
      have hbL : b ∈ L := by rw [← hb]; exact hv_mem L n hnL2
      have hrb : relE E L h n b = E b := by rw [← hb]; exact rel_at HND.out hnL2
      obtain ⟨p, hib⟩ := hQ.it b hbL
      rw [hrb] at hib
      rw [hb] at cn
      unfold ptr at cn
      obtain ⟨y0, y1, y2, y3, y4, y5, y6, _⟩ := hib.cells
      have f5 := hib.free 5
      unfold It.at at y0 y5
      simp only at y0 y5
      have hbl := hib.lt
      have hgl := cell_lt cn
      have hqlr := hQ.q.lt
      have HQ := hide hQ
      have HW := hide hW
      have HK := hide hK
      have HF := hide hF
      have HIB := hide hib
      have HBE := hide hb
      obtain ⟨a5, c5, h5⟩ := hW.shape
      have H5 := hide h5
      obtain ⟨m5, hm5⟩ : ∃ m5, (relS E L h n).length = m5 := ⟨_, rfl⟩
      have HM5 := hide hm5
      have hm54 : m5 ≤ 4096 := by
        have h1 : (relS E L h n).length ≤ (L.take n).length := by
          unfold relS
          rw [List.length_map]
          exact List.length_filter_le _ _
        rw [List.length_take] at h1
        omega
      rw [hm5] at h5
      subst h5
      clear hQ hW hK hF hib hb H5 hm5 HI y1 y2 y3 y4 y6 hrb
      by_cases hh : (E b).hol = h
      · have HH := hide hh
        rw [hh] at y5
        have hrb : relE E L h n b = E b := by rw [← HBE.out]; exact rel_at HND.out hnL2
        have q := held_push (p := p) HQ.out hbL (by rw [hrb]; exact HIB.out) (by rw [hrb, hh]; omega)
        obtain ⟨hy1, hy2⟩ := rel_yes (E := E) (h := h) HND.out hnL2 (by rw [HBE.out]; exact hh)
        rw [HBE.out] at hy1 hy2
        rw [hrb, hy1] at q
        unfold ifc ptr at q
        have HPUSH := hide q
        have HY2 := hide hy2
        have HY1 := hide hy1
        clear hh q hy1 hy2 hrb
        go_wp2_with fail
        refine Calls.mono HPUSH.out ?_
        rintro e w3 ⟨rfl, F3, H3, HP3⟩
        obtain ⟨hq3, _, hk3, hf3⟩ := HP3.out
        obtain ⟨p3, hib3⟩ := hq3.it b hbL
        have hrb3 : relE E L h (n + 1) b = (E b).held 0 := by rw [← HY1.out, upd_at]
        rw [hrb3] at hib3
        have z0 : w3.cell? ⟨b, 0, none⟩ = some (.int .i64 (E b).seq) := hib3.cells.1
        have hb3 := hib3.lt
        have HQ3 := hide hq3
        have HK3 : Hid (Kp (inQ qb A F L) w w3) := HK.out.transN hk3 (fun k hk => by
          rcases hk with e | e | e | e
          · exact .inl (.inl e)
          · exact .inl (.inr (.inl e))
          · exact .inl (.inr (.inr (.inl e)))
          · exact (HF.out k e).elim (fun h => .inl (.inr (.inr (.inr h)))) .inr)
        have HF3 : Hid (∀ g, F3.ownBlock = some g → F.ownBlock = some g ∨ w.heap.size ≤ g) := fun g e => (hf3 g e).elim (HF.out g) (fun h => .inr (Nat.le_trans HK.out.size h))
        have HW3 : Hid (Wy IK w3 w.heap.size (.slice a5 m5 c5) (relS E L h n)) := by
          have h := HW.out
          exact h.far HQ.out (by decide) (by decide) (by decide) hk3 (fun k h => h)
        clear hq3 hk3 hf3 hib3 hrb3 HP3 y0 y5 f5
        go_wp2_with (at_builtin; refine wpList_append_way ikOk _ rfl (.tmp 37) (.tmp 43) rfl w.heap.size (.slice a5 m5 c5) (relS E L h n) (E b).seq rfl (HW3.out.below (bel1 (Below.refl _ _) (Nat.le_refl _) _)) w3.heap.size 1 rfl (heap_new _ _) (by have := HK3.out.size; simp; omega) (by have := HM5.out; omega) ?_; intro v' w4 hwy hgr hat; have HWY := hide hwy; have HGR := hide hgr; clear hwy hgr hat)
        go_roundw
        case rel =>
          refine ⟨n + 1, by go_num, by omega, F3, H3, ?_, by rw [HY2.out]; exact HWY.out, ?_, HF3.out⟩
          · refine (HQ3.out.below (bel1 (Below.refl _ _) (Nat.le_refl _) _)).grown' HGR.out 3 (by decide) (by decide) (by decide) (by decide) (fun g e => ?_)
            obtain ⟨cur, hc⟩ := (HW3.out.below (bel1 (Below.refl _ _) (Nat.le_refl _) (Obj.cells ⟨IK.enc (E b).seq⟩ IK.t))).typ e
            exact ⟨cur, (0, 0), hc⟩
          · exact (HK3.out.alloc _).grown HGR.out (fun j e => .inr (HW3.out.lt e).1)
        case measure => simp [intOf]; omega
      · have HH := hide hh
        have hne : ((E b).hol == h) = false := by rw [beq_eq_false_iff_ne]; exact hh
        clear hh
        go_wp2_with fail
        go_roundw
        case rel =>
          have hno := rel_no (E := E) (h := h) hnL2 (by rw [HBE.out]; exact HH.out)
          refine ⟨n + 1, by go_num, by omega, ?_⟩
          refine ⟨F1, H1, by rw [← hno.1]; exact HQ.out, by rw [hno.2]; exact HW.out, HK.out, HF.out⟩
        case measure => simp [intOf]; omega
    · obtain rfl : nL = n := by omega
      go_wp2
      go_ret
      exact ⟨_, rfl, HI⟩
end Go.Proofs.Ytnbhifakfehefaa
