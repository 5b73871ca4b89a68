/- EB, EC, ED, EE, EF, EG, EH, EI -/
import Derived.Test.YthhlpjhkeendcaaGreatDoorS40
import Derived.Test.YthhlpjhkeendcaaGreatDoorS02
import Derived.Deep.MidRow
namespace Go.Proofs.YthhlpjhkeendcaaGreatDoor
set_option linter.unusedVariables false
set_option linter.unusedSimpArgs false
namespace E
open Go.RowKit Go.Deep
def dX (inn : V → List Nat) (c : Nat) (x : V) : List Nat × Bool := rD c x.k x.n.toNat x.s x.l.length (inn x)
def uF (inn : V → List Nat) (l : List V) (c : Nat) : List Nat × Bool := ((l.map fun x => (dX inn c x).1).flatten, l.all fun x => (dX inn c x).2)
def ucs (cs : List Nat) : List Nat := cs.filter fun c => decide (widC c ≠ 0)
theorem Tryz.infoL8 : (Tryz.prog.info? 28).map (fun i => (i.zero, i.size, i.bytes)) = some (some (.slice none 0 0), 1, 24) := by kernel_rfl
theorem own_typed {w : World} {B n : Nat} {e : TypeId} {v : Value} {xs : List Value} (h : w.ownsRow B e 1 v n xs) {g : Nat} (hg : v.ownBlock = some g) : ∃ cur, w.heap[g]? = some (.cells cur e (0, 0)) := by
  rcases h.2 with ⟨rfl, _⟩ | ⟨g', cap, cur, rfl, _, h1, _⟩
  · cases hg
  · cases hg
    exact ⟨cur, h1⟩
theorem own_not {w : World} {B n : Nat} {e : TypeId} {v : Value} {xs : List Value} (h : w.ownsRow B e 1 v n xs) {k : Nat} {cs : Array Value} {t : TypeId} {fr : Nat × Nat} (hk : w.heap[k]? = some (.cells cs t fr)) (ht : t ≠ e) : some k ≠ v.ownBlock := fun e' => by
  obtain ⟨cur, h1⟩ := own_typed h e'.symm
  rw [hk] at h1
  cases h1
  exact ht rfl
structure UnI (w wr : World) (v : V) (inn : V → List Nat) (gC gB : Nat) (cs : List Nat) (bs : Bst) (ua : Option Addr) (uc : Nat) (vl : Value) (us : List Value) : Prop where
  bx : wr.heap[w.heap.size]? = some (.cells #[.int .i64 v.k, .int .u64 v.n, .string v.s, .slice v.a v.l.length v.c, .int .i64 v.e] 25 (0, 0))
  rs : FB wr (w.heap.size + 1) 0 (.slice none 0 0)
  bt : FB wr gB bs.code (.slice ua bs.data.length uc)
  it : Its wr gC cs
  ow : wr.ownsRow w.heap.size 28 1 vl us.length us
  el : ∀ i (hi : i < us.length) (hl : i < v.l.length), Rb wr us[i] (inn v.l[i]) ∧ At w.heap.size us[i] ∧ (0 < (inn v.l[i]).length → ∀ g, us[i].ownBlock = some g → vl.ownBlock ≠ some g)
  ru : Rb wr (.slice ua bs.data.length uc) bs.data
  au : At w.heap.size (.slice ua bs.data.length uc)
  rd : 0 < bs.data.length → ∀ g, (Value.slice ua bs.data.length uc).ownBlock = some g → vl.ownBlock ≠ some g
  be : Below w.heap.size w wr
section
variable {w wr w1 : World} {v : V} {inn : V → List Nat} {gC gB : Nat} {cs : List Nat} {bs : Bst} {ua : Option Addr} {uc : Nat} {vl : Value} {us : List Value}
theorem UnI.below (h : UnI w wr v inn gC gB cs bs ua uc vl us) (hb : Below wr.heap.size wr w1) : UnI w w1 v inn gC gB cs bs ua uc vl us :=
  ⟨(hb.block _ (Array.getElem?_eq_some_iff.1 h.bx).1).trans h.bx, (hb.block _ h.rs.cells.2.2).trans h.rs, (hb.block _ h.bt.cells.2.2).trans h.bt, (hb.block _ (Array.getElem?_eq_some_iff.1 h.it).1).trans h.it,
    h.ow.kept (row := none) ⟨hb.os, hb.tape, hb.output, hb.size, fun k hk _ => hb.block k hk⟩ (by cases h0 : vl.ownBlock <;> simp), fun i hi hl => ⟨(h.el i hi hl).1.below hb, (h.el i hi hl).2⟩, h.ru.below hb, h.au, h.rd, h.be.trans (hb.mono h.be.size)⟩
theorem Rb.grown {l : List Nat} {u : Value} {row : Option Nat} (h : Rb wr u l) (hg : wr.grownBy w1 row) (hne : 0 < l.length → ∀ g, u.ownBlock = some g → row ≠ some g) : Rb w1 u l := by
  obtain ⟨a', cap', e, h1, h2, h3, h4, h5⟩ := h
  subst e
  refine ⟨a', cap', rfl, h1, h2, h3, h4, fun h0 => ?_⟩
  obtain ⟨q, off, ha, hq, hc⟩ := h5 h0
  subst ha
  have := hne h0 q rfl
  exact ⟨q, off, rfl, Nat.lt_of_lt_of_le hq hg.size, fun j hj => (World.cell?_of_block (a := ⟨q, off + j, none⟩) (hg.block q hq (fun e => this e.symm))).trans (hc j hj)⟩
theorem Rb.lt {l : List Nat} {u : Value} (h : Rb wr u l) (h0 : 0 < l.length) {g : Nat} (hg : u.ownBlock = some g) : g < wr.heap.size := by
  obtain ⟨a', cap', rfl, h1, h2, h3, h4, h5⟩ := h
  obtain ⟨q, off, ha, hq, hc⟩ := h5 h0
  subst ha
  cases hg
  exact hq
theorem UnI.grow (h : UnI w wr v inn gC gB cs bs ua uc vl us) {u vl' : Value} (hl : us.length < v.l.length) (hr : Rb wr u (inn v.l[us.length])) (ha : At w.heap.size u) (hn : 0 < (inn v.l[us.length]).length → ∀ g, u.ownBlock = some g → vl.ownBlock ≠ some g)
    (r1 : w1.ownsRow w.heap.size 28 1 vl' (us.length + 1) (us ++ [u])) (r2 : wr.grownBy w1 vl.ownBlock) (r3 : vl'.ownBlock = vl.ownBlock ∨ ∃ g, vl'.ownBlock = some g ∧ wr.heap.size ≤ g) : UnI w w1 v inn gC gB cs bs ua uc vl' (us ++ [u]) := by
  have kp : ∀ {k : Nat} {c : Array Value} {t : TypeId} {fr : Nat × Nat}, wr.heap[k]? = some (.cells c t fr) → t ≠ 28 → w1.heap[k]? = some (.cells c t fr) := fun hk ht => (r2.block _ (Array.getElem?_eq_some_iff.1 hk).1 (own_not h.ow hk ht)).trans hk
  have nw : ∀ {l : List Nat} {x : Value}, Rb wr x l → 0 < l.length → (∀ g, x.ownBlock = some g → vl.ownBlock ≠ some g) → ∀ g, x.ownBlock = some g → vl'.ownBlock ≠ some g := fun hx h0 hq g hg e => by
    rcases r3 with r | ⟨g', r, hg'⟩
    · exact hq g hg (r ▸ e)
    · rw [r] at e
      cases e
      have := hx.lt h0 hg
      omega
  refine ⟨kp h.bx (by decide), kp h.rs (by decide), kp h.bt (by decide), kp h.it (by decide), by rw [List.length_append]; exact r1, fun i hi hil => ?_, h.ru.grown r2 h.rd, h.au, fun h0 => nw h.ru h0 (h.rd h0), h.be.grown r2 h.be.size (fun g hg => (h.ow.lt g hg).1)⟩
  by_cases hiu : i < us.length
  · obtain ⟨e1, e2, e3⟩ := h.el i hiu hil
    rw [List.getElem_append_left hiu]
    exact ⟨e1.grown r2 e3, e2, fun h0 => nw e1 h0 (e3 h0)⟩
  · have hie : i = us.length := by rw [List.length_append] at hi; simp at hi; omega
    subst hie
    rw [List.getElem_append_right (Nat.le_refl _)]
    simp only [Nat.sub_self, List.getElem_cons_zero]
    exact ⟨hr.grown r2 hn, ha, fun h0 => nw hr h0 (hn h0)⟩
theorem grown_put (w : World) (b : Nat) (c : Array Value) : w.grownBy (w.setRow b c) (some b) := ⟨rfl, rfl, rfl, by rw [setRow_size]; exact Nat.le_refl _, fun k _ hk => setRow_other w c (fun e => hk (by rw [e]))⟩
theorem UnI.put (h : UnI w wr v inn gC gB cs bs ua uc vl us) (hg : w.heap.size + 1 < gB) (c : Nat) (l : List Nat) (xa : Option Addr) (xc : Nat) (hr : Rb wr (.slice xa l.length xc) l) (ha : At w.heap.size (.slice xa l.length xc)) (hd : 0 < l.length → ∀ g, (Value.slice xa l.length xc).ownBlock = some g → vl.ownBlock ≠ some g) : UnI w (wr.setRow gB #[.int .i64 (c : Int), .slice xa l.length xc]) v inn gC gB cs (some (c, l)) xa xc vl us := by
  have hi : gC ≠ gB := by
    rintro rfl
    have h1 := h.it
    have h2 := h.bt
    unfold Its at h1
    unfold FB at h2
    rw [h1] at h2
    injection h2 with h3
    injection h3 with h4 h5
    exact absurd h5 (by decide)
  exact ⟨(setRow_other _ _ (by omega)).trans h.bx, (setRow_other _ _ (by omega)).trans h.rs, setRow_same h.bt _, (setRow_other _ _ hi).trans h.it,
    h.ow.kept (grown_put wr gB _) (.inr (fun e => own_not h.ow h.bt (by decide) e.symm)), fun i hi hl => ⟨(h.el i hi hl).1.put h.bt _, (h.el i hi hl).2⟩, hr.put h.bt _, ha, hd, bel_put h.be (by omega) _⟩
theorem uF_snoc (inn : V → List Nat) (l : List V) (c k : Nat) (h : k < l.length) : uF inn (l.take (k + 1)) c = ((uF inn (l.take k) c).1 ++ (dX inn c l[k]).1, (uF inn (l.take k) c).2 && (dX inn c l[k]).2) := by
  rw [List.take_succ_eq_append_getElem h]
  generalize l.take k = m
  generalize l[k] = x
  unfold uF
  simp
theorem uF_le (inn : V → List Nat) (l : List V) (c k : Nat) : (uF inn (l.take k) c).1.length ≤ (uF inn l c).1.length := by
  have e : (uF inn l c).1 = (uF inn (l.take k) c).1 ++ (uF inn (l.drop k) c).1 := by
    unfold uF
    rw [← List.flatten_append, ← List.map_append, List.take_append_drop]
  rw [e, List.length_append]
  omega
end
end E
namespace E
open Go.RowKit Go.Deep
theorem mid_run {P : Program} {e : Operand → Value} (W : World) (op : Oper) (ty : TypeId) (x : Operand) (ho : op.op = .load ty x) (b o : Nat) (cs : List Value) (hx : e x = .pointer (some ⟨b, o, none⟩)) (hb : W.rangeAt b o cs) (d : TypeDesc) (hu : P.underlying ty = some d) (hd : d.isRow = true) (hi : (P.info? ty).map (·.size) = some cs.length) :
    (execOp e op).run P W = .ok (.value (.agg cs.toArray)) W := by
  have := run_loadVar_mid (P := P) W b o ty cs d hb hu hd hi
  unfold execOp
  simp only [ho, hx, Instr.loadAt, Instr.sureAddr, Sem.run_bind, Sem.run_pure, Result.andThen_ok, this]
theorem ucs_snoc (cs : List Nat) (j : Nat) (h : j < cs.length) : ucs (cs.take (j + 1)) = if widC cs[j] = 0 then ucs (cs.take j) else ucs (cs.take j) ++ [cs[j]] := by
  unfold ucs
  rw [List.take_succ_eq_append_getElem h, List.filter_append]
  by_cases hw : widC cs[j] = 0 <;> simp [hw]
theorem bestF_app (f : Nat → List Nat × Bool) (cs : List Nat) (c : Nat) : bestF f (cs ++ [c]) = stepP (f c) (bestF f cs) c := by
  unfold bestF
  rw [List.foldl_append]
  rfl
set_option maxRecDepth 100000 in
set_option maxHeartbeats 8000000 in
theorem uniform_best (v : V) (inn : V → List Nat) (n₀ : Nat) (w : World) (hn : n₀ ≤ w.heap.size) (hx : Lies n₀ w v) (hcap : v.l.length ≤ v.c) (hrow : 0 < v.l.length → ∃ b o, v.a = some ⟨b, o, none⟩ ∧ b < n₀ ∧ Row w b o v.l) (hsub : ∀ x ∈ v.l, Lies n₀ w x)
    (hW : ∀ x ∈ v.l, WiOk x (inn x)) (he : 0 ≤ v.e ∧ v.e ≤ 24) (hk : ∀ x ∈ v.l, (0 ≤ x.k ∧ x.k ≤ 24) ∧ (0 ≤ x.n ∧ x.n < 18446744073709551616) ∧ x.s.size ≤ 1099511627776 ∧ x.l.length ≤ 1099511627776 ∧ (inn x).length ≤ 1099511627776) (hA : ∀ c ∈ codesK v.e, (uF inn v.l c).1.length ≤ 1099511627776) (hvl : v.l.length ≤ 1000000000) :
    Calls Tryz.prog 46 #[.agg #[.int .i64 v.k, .int .u64 v.n, .string v.s, .slice v.a v.l.length v.c, .int .i64 v.e]] w fun e w' => ∃ r, e = .returned r ∧ ∃ u, r = .agg #[.int .i64 (Bst.code (bestF (uF inn v.l) (ucs (codesK v.e)))), u] ∧ Rb w' u (Bst.data (bestF (uF inn v.l) (ucs (codesK v.e)))) ∧ Below w.heap.size w w' ∧ At w.heap.size u := by
  have HDa : Hid (∀ (B : Nat) (w1 : World) (c : Nat) (x : V) (ia : Option Addr) (ic : Nat), x ∈ v.l → c ∈ allC → B ≤ w1.heap.size → Rb w1 (.slice ia (inn x).length ic) (inn x) → At B (.slice ia (inn x).length ic) → Calls Tryz.prog 34 #[.int .i64 (c : Int), .agg #[.int .i64 x.k, .int .u64 x.n, .string x.s, .slice x.a x.l.length x.c, .int .i64 x.e], .slice ia (inn x).length ic] w1 fun e w' => ∃ u, e = .returned u ∧ TwoB B w1 w' (dX inn c x).1 (dX inn c x).2 u) := fun B w1 c x ia ic hxm hc hb hr hat => by
    obtain ⟨k1, k2, k3, k4, k5⟩ := hk x hxm
    exact data_any B c x (inn x) ia ic w1 hc hb hr hat k1 x.n.toNat (by omega) (by omega) k3 k4 k5
  obtain ⟨V2, hV2⟩ : ∃ V2, (w.alloc (.cells #[.int .i64 v.k, .int .u64 v.n, .string v.s, .slice v.a v.l.length v.c, .int .i64 v.e] 25)).alloc (.cells #[.int .i64 0, .slice none 0 0] 49) = V2 := ⟨_, rfl⟩
  have b0 : V2.heap[w.heap.size]? = some (.cells #[.int .i64 v.k, .int .u64 v.n, .string v.s, .slice v.a v.l.length v.c, .int .i64 v.e] 25 (0, 0)) := by
    rw [← hV2]
    have h1 := heap_lst w (.cells #[.int .i64 v.k, .int .u64 v.n, .string v.s, .slice v.a v.l.length v.c, .int .i64 v.e] 25)
    exact (Below.heap_alloc _ _ _ (Array.getElem?_eq_some_iff.1 h1).1).trans h1
  have b1 : FB V2 (w.heap.size + 1) 0 (.slice none 0 0) := by
    unfold FB
    rw [← hV2]
    have h1 := heap_lst (w.alloc (.cells #[.int .i64 v.k, .int .u64 v.n, .string v.s, .slice v.a v.l.length v.c, .int .i64 v.e] 25)) (.cells #[.int .i64 0, .slice none 0 0] 49)
    rwa [show (w.alloc (.cells #[.int .i64 v.k, .int .u64 v.n, .string v.s, .slice v.a v.l.length v.c, .int .i64 v.e] 25)).heap.size = w.heap.size + 1 by simp] at h1
  have HB2 : Hid (Below w.heap.size w V2) := hV2 ▸ bel1 (bel1 (Below.refl _ _) (Nat.le_refl _) _) (by simp) _
  have z2 : V2.heap.size = w.heap.size + 2 := by rw [← hV2]; simp
  have Hb0 := hide b0
  have Hb1 := hide b1
  have c4 : V2.cell? ⟨w.heap.size, 4, none⟩ = some (.int .i64 v.e) := by simp [World.cell?, b0]
  have cl : w.heap.size < V2.heap.size := by omega
  have HCo : Hid (∀ w1, Calls Tryz.prog 32 #[.int .i64 v.e] w1 fun e w' => e = .returned (.slice (some ⟨w1.heap.size, 0, none⟩) (codesK v.e).length (codesK v.e).length) ∧ Hid (Its w' w1.heap.size (codesK v.e)) ∧ Below w1.heap.size w1 w') := fun w1 => codes_any v.e w1 he
  have HWi : Hid (∀ w1 x, x ∈ v.l → Below w.heap.size w w1 → Calls Tryz.prog 33 #[.agg #[.int .i64 x.k, .int .u64 x.n, .string x.s, .slice x.a x.l.length x.c, .int .i64 x.e]] w1 fun e w' => ∃ u, e = .returned u ∧ Hid (Rb w' u (inn x) ∧ At w1.heap.size u) ∧ Below w1.heap.size w1 w') := fun w1 x hxm hb => by
    have := hW x hxm n₀ w1 (Nat.le_trans hn hb.size) ((hsub x hxm).keep hb hn)
    rwa [V.val_eq] at this
  have HAl := hide (code_all v.e he)
  have hcl3 := code_len v.e he
  have HV2 := hide hV2
  have HRow := hide hrow
  have HA := hide hA
  have hc1 := hcap
  clear hV2 b0 b1 hW hx hk hsub hrow hA
  go_enter Tryz.func46, Tryz.ntmps46
  go_wp2_with (first | (rw [HV2.out]; refine Shut.out ?_))
  unfold Shut
  go_wp2_with (first | (go_at_call 32; refine (HCo.out _).mono ?_; rintro e3 w3 ⟨rfl, hit, hb3⟩; refine Shut.out ?_))
  unfold Shut
  obtain ⟨gC, hgC⟩ : ∃ gC, gC = w.heap.size + 2 := ⟨_, rfl⟩
  have hit2 := hit.out
  rw [z2, ← hgC] at hit2
  rw [← hgC]
  have HgC := hide hgC
  clear hgC
  obtain ⟨V4, hV4⟩ : ∃ V4, w3.alloc (.cells #[.int .i64 (-1), .slice none 0 0] 49) = V4 := ⟨_, rfl⟩
  have hb4 : Below w3.heap.size w3 V4 := hV4 ▸ bel1 (Below.refl _ _) (Nat.le_refl _) _
  have HI4 : Hid (UnI w V4 v inn gC w3.heap.size (codesK v.e) none none 0 (.slice none 0 0) []) := by
    have h24 : Below V2.heap.size V2 V4 := hb3.trans (hb4.mono hb3.size)
    refine ⟨(h24.block _ (by omega)).trans Hb0.out, (h24.block _ (by omega)).trans Hb1.out, ?_, (hb4.block _ (Array.getElem?_eq_some_iff.1 hit2).1).trans hit2, World.ownsRow_nil _ _ _ _, fun i hi => absurd hi (by simp), Rb.nil _, At.nil _ _ _, fun h => absurd h (by decide), HB2.out.trans (h24.mono HB2.out.size)⟩
    show FB V4 w3.heap.size (-1) (.slice none 0 0)
    unfold FB
    rw [← hV4]
    exact heap_lst w3 _
  have HgB : Hid (gC < w3.heap.size) := (Array.getElem?_eq_some_iff.1 hit2).1
  obtain ⟨gB, hgB⟩ : ∃ gB, gB = w3.heap.size := ⟨_, rfl⟩
  have HV4 := hide hV4
  clear hit hit2 hb3 hb4 Hb0 Hb1 HB2 z2 c4 cl HCo HV2 hV4
  obtain ⟨cs, hcs⟩ : ∃ cs, codesK v.e = cs := ⟨_, rfl⟩
  rw [hcs] at HI4 HAl hcl3 HA
  rw [hcs]
  have HCs := hide hcs
  clear hcs
  go_wp2_with (first | (rw [HV4.out]; refine Shut.out ?_))
  unfold Shut
  rw [← hgB] at HI4 HgB
  rw [← hgB]
  clear hgB HV4
  go_wp2
  go_loopw [5, 6] (fun vl i wr => ∃ us : List Value, i = .int .i64 (us.length : Int) ∧ us.length ≤ v.l.length ∧ Hid (UnI w wr v inn gC gB cs none none 0 vl us)) (fun _ i _ => v.l.length + 1 - (intOf i).toNat)
  case atStart => exact ⟨[], rfl, Nat.zero_le _, HI4⟩
  case round =>
    clear HI4
    obtain ⟨us, rfl, hj, HS⟩ := hrel
    obtain ⟨j, hjd⟩ : ∃ j, us.length = j := ⟨_, rfl⟩
    have HJ := hide hjd
    rw [hjd] at hj ⊢
    clear hjd
    have hbx := HS.out.bx
    have c3 : wr.cell? ⟨w.heap.size, 3, none⟩ = some (.slice v.a v.l.length v.c) := by simp [World.cell?, hbx]
    have cl : w.heap.size < wr.heap.size := (Array.getElem?_eq_some_iff.1 hbx).1
    clear hbx
    by_cases hjl : j < v.l.length
    · obtain ⟨b, o, hva, hlt, hr⟩ := HRow.out (by omega)
      obtain ⟨x0, x1, x2, x3, x4⟩ := (hr.below HS.out.be (by omega)) j hjl
      obtain ⟨x, hxd⟩ : ∃ x, v.l[j] = x := ⟨_, rfl⟩
      have hxm : x ∈ v.l := hxd ▸ List.getElem_mem hjl
      have HWx := hide (HWi.out wr x hxm HS.out.be)
      rw [hxd] at x0 x1 x2 x3 x4
      have hbr : b < wr.heap.size := Nat.lt_of_lt_of_le hlt (Nat.le_trans hn HS.out.be.size)
      rw [hva] at c3
      have HXd := hide hxd
      clear hr hxm hxd hva
      go_wp2_with (first | (go_at_call 33; refine HWx.out.mono ?_; rintro e5 w5 ⟨y, rfl, hri, hb5⟩; refine Shut.out ?_))
      unfold Shut
      obtain ⟨hri1, hri2⟩ := hri.out
      obtain ⟨ya, yc, rfl⟩ := hri1.sl
      obtain ⟨W6, hW6⟩ : ∃ W6, w5.alloc (.cells #[.slice ya (inn x).length yc] 28) = W6 := ⟨_, rfl⟩
      have hb6 : Below w5.heap.size w5 W6 := hW6 ▸ bel1 (Below.refl _ _) (Nat.le_refl _) _
      have HU6 := hide ((HS.out.below hb5).below hb6)
      have HR6 := hide (hri1.below hb6)
      have HN6 : Hid (W6.cell? ⟨w5.heap.size, 0, none⟩ = some (.slice ya (inn x).length yc)) := hW6 ▸ cell_new1 w5 _ _
      have HA6 : Hid (At wr.heap.size (.slice ya (inn x).length yc)) := hri2
      obtain ⟨i0, hi0, hz0, hz1, hz2⟩ := info_parts Tryz.infoL8
      have HI0 := hide hi0
      have HZ0 := hide hz0
      have HZ1 := hide hz1
      have HZ2 := hide hz2
      have HW6 := hide hW6
      clear hri hri1 hri2 hb5 hb6 hW6 x0 x1 x2 x3 x4 c3 cl HWx hi0 hz0 hz1 hz2
      go_wp2_with (first | (rw [HW6.out]; refine Shut.out ?_))
      unfold Shut
      go_wp2_with (first | (at_builtin; go_loud (refine wpList_append_new _ rfl (.tmp 24) (.tmp 31) 36 rfl w.heap.size 28 i0 (.slice none 0 0) 24 Tryz.underlying36 HI0.out HZ0.out HZ1.out HZ2.out rfl _ us.length us rfl HU6.out.ow ⟨w5.heap.size, 0, none⟩ 1 (.slice ya (inn x).length yc) rfl HN6.out rfl (by have := HJ.out; unfold maxLen; omega) (by have := HJ.out; omega) (by exact HU6.out.be.size) ?_; intro vl' w7 r1 r2 r3; refine Shut.out ?_)))
      unfold Shut
      have HU7 : Hid (UnI w w7 v inn gC gB cs none none 0 vl' (us ++ [.slice ya (inn x).length yc])) := by
        have hj' := HJ.out
        subst hj'
        have hx' := HXd.out
        subst hx'
        exact HU6.out.grow hjl HR6.out (HA6.out.mono HS.out.be.size) (fun h0 g hg e => by
          have h1 := (HS.out.ow.lt g e).2
          have h2 := HA6.out g hg
          omega) r1 r2 r3
      have hul : (us ++ [Value.slice ya (inn x).length yc]).length = j + 1 := by rw [List.length_append, HJ.out]; rfl
      have HUl := hide hul
      clear r1 r2 r3 hul HU6 HR6 HN6 HA6 HS
      go_wp2
      go_roundw
      case rel => exact ⟨_, by rw [HUl.out]; go_num, by rw [HUl.out]; omega, HU7⟩
      case measure => simp [intOf]; omega
    · have hje : j = v.l.length := by omega
      obtain ⟨wo, hwo⟩ : ∃ wo, wo = wr := ⟨_, rfl⟩
      subst hwo
      have HUl : Hid (us.length = v.l.length) := by show _ = _; rw [HJ.out, hje]
      have HS5 : Hid (∃ ua uc, UnI w wo v inn gC gB cs (bestF (uF inn v.l) (ucs (cs.take 0))) ua uc u5 us) := ⟨none, 0, HS.out⟩
      have hcm : (cs.length : Int) ≤ 3 := by omega
      clear HJ hje HS HWi
      go_wp2
      clear hj hjl
      go_loopw [7] (fun i wr2 => ∃ j : Nat, i = .int .i64 j ∧ j ≤ cs.length ∧ Hid (∃ ua uc, UnI w wr2 v inn gC gB cs (bestF (uF inn v.l) (ucs (cs.take j))) ua uc u5 us)) (fun i _ => cs.length + 1 - (intOf i).toNat)
      case atStart => exact ⟨0, rfl, Nat.zero_le _, HS5⟩
      case round =>
        clear HS5 c3 cl
        obtain ⟨j, rfl, hj, HS⟩ := hrel
        obtain ⟨bs, hbs⟩ : ∃ bs, bestF (uF inn v.l) (ucs (cs.take j)) = bs := ⟨_, rfl⟩
        rw [hbs] at HS
        have HBs := hide hbs
        clear hbs
        obtain ⟨ua, uc, hI⟩ := HS.out
        have HI := hide hI
        clear hI HS
        by_cases hjl : j < cs.length
        · obtain ⟨c, hc⟩ : ∃ c, cs[j] = c := ⟨_, rfl⟩
          have HUc := hide (ucs_snoc cs j hjl)
          rw [hc] at HUc
          have hca := HAl.out c (hc ▸ List.getElem_mem hjl)
          have HAc := hide (HA.out c (hc ▸ List.getElem_mem hjl))
          have hIt := HI.out.it
          have hcc : wr.cell? ⟨gC, j, none⟩ = some (.int .i64 (c : Int)) := by
            unfold Its at hIt
            simp [World.cell?, hIt, hjl, hc]
          have hgl : gC < wr.heap.size := (Array.getElem?_eq_some_iff.1 hIt).1
          have HWd := hide (width_any c hca wr)
          have HCa := hide hca
          have hjb : (j : Int) ≤ 3 := by omega
          have HCc : Hid (∀ W, Its W gC cs → W.cell? ⟨gC, j, none⟩ = some (.int .i64 (c : Int))) := fun W hW => by
            unfold Its at hW
            simp [World.cell?, hW, hjl, hc]
          clear hc hIt hca
          by_cases hw0 : widC c = 0
          · rw [hw0] at HWd
            have HUc2 : Hid (ucs (cs.take (j + 1)) = ucs (cs.take j)) := by show _ = _; rw [HUc.out, if_pos hw0]
            clear hw0
            go_wp2_with (first | (go_at_call 78; refine HWd.out.mono ?_; rintro e6 w6 ⟨rfl, rfl⟩))
            go_roundw
            case rel => exact ⟨j + 1, by go_num, by omega, by rw [HUc2.out, HBs.out]; exact ⟨ua, uc, HI.out⟩⟩
            case measure => simp [intOf]; omega
          · have hwb : (widC c == 0) = false := by rw [beq_eq_false_iff_ne]; exact hw0
            have HUc2 : Hid (bestF (uF inn v.l) (ucs (cs.take (j + 1))) = stepP (uF inn v.l c) bs c) := by show _ = _; rw [HUc.out, if_neg hw0, bestF_app, HBs.out]
            obtain ⟨wd, hwd⟩ : ∃ wd, widC c = wd := ⟨_, rfl⟩
            rw [hwd] at HWd hwb
            clear hw0 hwd
            go_wp2_with (first | (go_at_call 78; refine HWd.out.mono ?_; rintro e6 w6 ⟨rfl, rfl⟩; refine Shut.out ?_))
            unfold Shut
            clear HWd
            go_wp2
            obtain ⟨wq, hwq⟩ : ∃ wq, wq = wr := ⟨_, rfl⟩
            subst hwq
            have HgW : Hid (w.heap.size ≤ wq.heap.size) := HI.out.be.size
            go_loopw [8, 9, 10] (fun al fi i wr3 => ∃ (k : Nat) (ok : Bool), i = .int .i64 k ∧ fi = .bool ok ∧ k ≤ v.l.length ∧ Hid (Ob wq.heap.size wr3 al (uF inn (v.l.take k) c).1 ∧ ok = (uF inn (v.l.take k) c).2) ∧ Below wq.heap.size wq wr3) (fun _ _ i _ => v.l.length + 1 - (intOf i).toNat)
            case atStart => exact ⟨0, true, rfl, rfl, Nat.zero_le _, ⟨Ob.nil _ _, rfl⟩, Below.refl _ _⟩
            case round =>
              clear hcc hgl
              obtain ⟨k, ok, rfl, rfl, hk, HO, hb⟩ := hrel
              have HB := hide hb
              clear hb
              have HIw := hide (HI.out.below HB.out)
              have hbx := HIw.out.bx
              have c3 : wr.cell? ⟨w.heap.size, 3, none⟩ = some (.slice v.a v.l.length v.c) := by simp [World.cell?, hbx]
              have cl : w.heap.size < wr.heap.size := (Array.getElem?_eq_some_iff.1 hbx).1
              by_cases hkl : k < v.l.length
              · obtain ⟨b, o, hva, hlt, hr⟩ := HRow.out (by omega)
                obtain ⟨x0, x1, x2, x3, x4⟩ := (hr.below HIw.out.be (by omega)) k hkl
                obtain ⟨x, hxd⟩ : ∃ x, v.l[k] = x := ⟨_, rfl⟩
                have hxm : x ∈ v.l := hxd ▸ List.getElem_mem hkl
                rw [hxd] at x0 x1 x2 x3 x4
                have hus : k < us.length := by rw [HUl.out]; exact hkl
                obtain ⟨y1, y2, y3⟩ := HIw.out.el k hus hkl
                rw [hxd] at y1
                obtain ⟨ya, yc, hy⟩ := y1.sl
                have hsh : ∃ g cap, u5 = .slice (some ⟨g, 0, none⟩) us.length cap := by
                  rcases HIw.out.ow.2 with ⟨_, h0⟩ | ⟨g, cap, cur, e, _⟩
                  · omega
                  · exact ⟨g, cap, e⟩
                obtain ⟨g, cap, rfl⟩ := hsh
                have hyc : wr.cell? ⟨g, k, none⟩ = some (.slice ya (inn x).length yc) := by
                  have h1 := HIw.out.ow.cells (g := g) rfl k us[k] (by rw [List.getElem?_eq_getElem hus])
                  have e2 : (⟨g, 0, none⟩ : Addr).add k = ⟨g, k, none⟩ := by by_cases h : k = 0 <;> simp [Addr.add, h]
                  rw [e2, hy] at h1
                  exact h1
                rw [hy] at y1 y2
                have hgg := (HIw.out.ow.lt g rfl).2
                have hIt := HIw.out.it
                have hgl : gC < wr.heap.size := (Array.getElem?_eq_some_iff.1 hIt).1
                have hcc : wr.cell? ⟨gC, j, none⟩ = some (.int .i64 (c : Int)) := HCc.out wr hIt
                have hbr : b < wr.heap.size := Nat.lt_of_lt_of_le hlt (Nat.le_trans hn HIw.out.be.size)
                rw [hva] at c3
                have HRg : Hid (∀ W, Below wr.heap.size wr W → W.cell? ⟨gC, j, none⟩ = some (.int .i64 (c : Int)) ∧ W.cell? ⟨w.heap.size, 3, none⟩ = some (.slice (some ⟨b, o, none⟩) v.l.length v.c) ∧ W.rangeAt b (o + k * 5) [.int .i64 x.k, .int .u64 x.n, .string x.s, .slice x.a x.l.length x.c, .int .i64 x.e] ∧ W.cell? ⟨g, k, none⟩ = some (.slice ya (inn x).length yc)) := fun W hbW =>
                  ⟨(hbW.cell (p := ⟨gC, j, none⟩) hgl).trans hcc, (hbW.cell (p := ⟨w.heap.size, 3, none⟩) cl).trans c3, fun q u hu => by
                    match q, hu with
                    | 0, hu => cases hu; exact (hbW.cell (p := ⟨b, _, none⟩) hbr).trans x0
                    | 1, hu => cases hu; exact (hbW.cell (p := ⟨b, _, none⟩) hbr).trans x1
                    | 2, hu => cases hu; exact (hbW.cell (p := ⟨b, _, none⟩) hbr).trans x2
                    | 3, hu => cases hu; exact (hbW.cell (p := ⟨b, _, none⟩) hbr).trans x3
                    | 4, hu => cases hu; exact (hbW.cell (p := ⟨b, _, none⟩) hbr).trans x4
                    | n + 5, hu => simp at hu, (hbW.cell (p := ⟨g, k, none⟩) hgg).trans hyc⟩
                have HDc := hide (HDa.out w.heap.size wr.drew c x ya yc hxm HCa.out HIw.out.be.size (y1.below (bel_drewN wr 1)) y2)
                have HSn := hide (uF_snoc inn v.l c k hkl)
                rw [hxd] at HSn
                have HLe := hide (Nat.le_trans (uF_le inn v.l c (k + 1)) HAc.out)
                have hkb : (k : Int) ≤ 1000000000 := by omega
                have HUs : Hid (us.length = v.l.length) := HUl
                clear x0 x1 x2 x3 x4 hr hxm hxd y1 y2 y3 hy hbx hIt hva
                go_wp2
                refine wp_region_held_drew (S := fun W => W.cell? ⟨gC, j, none⟩ = some (.int .i64 (c : Int)) ∧ W.cell? ⟨w.heap.size, 3, none⟩ = some (.slice (some ⟨b, o, none⟩) v.l.length v.c) ∧ W.rangeAt b (o + k * 5) [.int .i64 x.k, .int .u64 x.n, .string x.s, .slice x.a x.l.length x.c, .int .i64 x.e] ∧ W.cell? ⟨g, k, none⟩ = some (.slice ya (inn x).length yc)) (by kernel_rfl) (HRg.out _ (bel_drewN wr 1)) (fun hHeld => ?_)
                refine take_do (i := 0) (d := 53) (v := ?_) rfl rfl (by kernel_rfl) (by kernel_rfl) (by kernel_rfl) (fun _ _ _ h => h) rfl ?_ (by assumption) ?_
                rotate_left
                · intro W hSw
                  try dsimp only at hSw
                  go_simp
                  try with_reducible rfl
                try simp only [List.setIfInBounds_toArray, List.set_cons_zero, List.set_cons_succ]
                refine take_do (i := 1) (d := 54) (v := ?_) rfl rfl (by kernel_rfl) (by kernel_rfl) (by kernel_rfl) (fun _ _ _ h => h) rfl ?_ (by assumption) ?_
                rotate_left
                · intro W hSw
                  try dsimp only at hSw
                  go_simp
                  try with_reducible rfl
                try simp only [List.setIfInBounds_toArray, List.set_cons_zero, List.set_cons_succ]
                refine take_do (i := 2) (d := 55) (v := ?_) rfl rfl (by kernel_rfl) (by kernel_rfl) (by kernel_rfl) (fun _ _ _ h => h) rfl ?_ (by assumption) ?_
                rotate_left
                · intro W hSw
                  try dsimp only at hSw
                  go_simp
                  try with_reducible rfl
                try simp only [List.setIfInBounds_toArray, List.set_cons_zero, List.set_cons_succ]
                refine take_do (i := 3) (d := 56) (v := ?_) rfl rfl (by kernel_rfl) (by kernel_rfl) (by kernel_rfl) (fun _ _ _ h => h) rfl ?_ (by assumption) ?_
                rotate_left
                · intro W hSw
                  try dsimp only at hSw
                  go_simp
                  try with_reducible rfl
                try simp only [List.setIfInBounds_toArray, List.set_cons_zero, List.set_cons_succ]
                refine take_do (i := 4) (d := 57) (v := ?_) rfl rfl (by kernel_rfl) (by kernel_rfl) (by kernel_rfl) (fun _ _ _ h => h) rfl ?_ (by assumption) ?_
                rotate_left
                · intro W hSw
                  try dsimp only at hSw
                  go_simp
                  try with_reducible rfl
                try simp only [List.setIfInBounds_toArray, List.set_cons_zero, List.set_cons_succ]
                refine take_do (i := 5) (d := 58) (v := ?_) rfl rfl (by kernel_rfl) (by kernel_rfl) (by kernel_rfl) (fun _ _ _ h => h) rfl ?_ (by assumption) ?_
                rotate_left
                · intro W hSw
                  try dsimp only at hSw
                  go_simp
                  try with_reducible rfl
                try simp only [List.setIfInBounds_toArray, List.set_cons_zero, List.set_cons_succ]
                refine take_do (i := 6) (d := 59) (v := ?_) rfl rfl (by kernel_rfl) (by kernel_rfl) (by kernel_rfl) (fun _ _ _ h => h) rfl ?_ (by assumption) ?_
                rotate_left
                · intro W hSw
                  try dsimp only at hSw
                  go_simp
                  try with_reducible rfl
                try simp only [List.setIfInBounds_toArray, List.set_cons_zero, List.set_cons_succ]
                refine take_do (i := 7) (d := 60) (v := ?_) rfl rfl (by kernel_rfl) (by kernel_rfl) (by kernel_rfl) (fun _ _ _ h => h) rfl ?_ (by assumption) ?_
                rotate_left
                · intro W hSw
                  try dsimp only at hSw
                  go_simp
                  try with_reducible rfl
                try simp only [List.setIfInBounds_toArray, List.set_cons_zero, List.set_cons_succ]
                refine take_do (i := 8) (d := 61) (v := .agg #[.int .i64 x.k, .int .u64 x.n, .string x.s, .slice x.a x.l.length x.c, .int .i64 x.e]) rfl rfl (by kernel_rfl) (by kernel_rfl) (by kernel_rfl) (fun _ _ _ h => h) rfl ?_ (by assumption) ?_
                · intro W hSw
                  exact mid_run W _ 25 (.tmp 60) rfl b (o + k * 5) [.int .i64 x.k, .int .u64 x.n, .string x.s, .slice x.a x.l.length x.c, .int .i64 x.e] rfl hSw.2.2.1 _ Tryz.underlying25 rfl Tryz.infoV5
                try simp only [List.setIfInBounds_toArray, List.set_cons_zero, List.set_cons_succ]
                refine take_do (i := 9) (d := 62) (v := ?_) rfl rfl (by kernel_rfl) (by kernel_rfl) (by kernel_rfl) (fun _ _ _ h => h) rfl ?_ (by assumption) ?_
                rotate_left
                · intro W hSw
                  try dsimp only at hSw
                  go_simp
                  try with_reducible rfl
                try simp only [List.setIfInBounds_toArray, List.set_cons_zero, List.set_cons_succ]
                refine take_do (i := 10) (d := 63) (v := ?_) rfl rfl (by kernel_rfl) (by kernel_rfl) (by kernel_rfl) (fun _ _ _ h => h) rfl ?_ (by assumption) ?_
                rotate_left
                · intro W hSw
                  try dsimp only at hSw
                  go_simp
                  try with_reducible rfl
                try simp only [List.setIfInBounds_toArray, List.set_cons_zero, List.set_cons_succ]
                refine take_do (i := 11) (d := 64) (v := ?_) rfl rfl (by kernel_rfl) (by kernel_rfl) (by kernel_rfl) (fun _ _ _ h => h) rfl ?_ (by assumption) ?_
                rotate_left
                · intro W hSw
                  try dsimp only at hSw
                  go_simp
                  try with_reducible rfl
                try simp only [List.setIfInBounds_toArray, List.set_cons_zero, List.set_cons_succ]
                refine take_do (i := 12) (d := 65) (v := ?_) rfl rfl (by kernel_rfl) (by kernel_rfl) (by kernel_rfl) (fun _ _ _ h => h) rfl ?_ (by assumption) ?_
                rotate_left
                · intro W hSw
                  try dsimp only at hSw
                  go_simp
                  try with_reducible rfl
                try simp only [List.setIfInBounds_toArray, List.set_cons_zero, List.set_cons_succ]
                refine wpAnyH_ready (rs := [13]) (by kernel_rfl) (by simp) ?_
                refine AllReadyH.cons rfl (fun K hK => ?_) AllReadyH.nil
                go_simp
                go_wp2_with (go_at_call 34; refine (HDc.out).mono ?_; rintro e7 w7 ⟨r7, rfl, u7, rfl, hr7, hb7, ha7⟩)
                refine hK.out _ _ (HRg.out w7 ((bel_drewN wr 1).trans hb7)) (fun hHeld => ?_)
                clear hK K
                try simp only [Act.put, List.setIfInBounds_toArray, List.set_cons_zero, List.set_cons_succ]
                refine take_do (i := 14) (d := 52) (v := ?_) rfl rfl (by kernel_rfl) (by kernel_rfl) (by kernel_rfl) (fun _ _ _ h => h) rfl ?_ (by assumption) ?_
                rotate_left
                · intro W hSw
                  try dsimp only at hSw
                  go_simp
                  try with_reducible rfl
                try simp only [List.setIfInBounds_toArray, List.set_cons_zero, List.set_cons_succ]
                refine take_do (i := 15) (d := 67) (v := ?_) rfl rfl (by kernel_rfl) (by kernel_rfl) (by kernel_rfl) (fun _ _ _ h => h) rfl ?_ (by assumption) ?_
                rotate_left
                · intro W hSw
                  try dsimp only at hSw
                  go_simp
                  try with_reducible rfl
                try simp only [List.setIfInBounds_toArray, List.set_cons_zero, List.set_cons_succ]
                refine take_do (i := 16) (d := 68) (v := ?_) rfl rfl (by kernel_rfl) (by kernel_rfl) (by kernel_rfl) (fun _ _ _ h => h) rfl ?_ (by assumption) ?_
                rotate_left
                · intro W hSw
                  try dsimp only at hSw
                  go_simp
                  try with_reducible rfl
                try simp only [List.setIfInBounds_toArray, List.set_cons_zero, List.set_cons_succ]
                refine take_do (i := 17) (d := 11) (v := ?_) rfl rfl (by kernel_rfl) (by kernel_rfl) (by kernel_rfl) (fun _ _ _ h => h) rfl ?_ (by assumption) ?_
                rotate_left
                · intro W hSw
                  try dsimp only at hSw
                  go_simp
                  try with_reducible rfl
                try simp only [List.setIfInBounds_toArray, List.set_cons_zero, List.set_cons_succ]
                refine take_do (i := 18) (d := 12) (v := ?_) rfl rfl (by kernel_rfl) (by kernel_rfl) (by kernel_rfl) (fun _ _ _ h => h) rfl ?_ (by assumption) ?_
                rotate_left
                · intro W hSw
                  try dsimp only at hSw
                  go_simp
                  try with_reducible rfl
                try simp only [List.setIfInBounds_toArray, List.set_cons_zero, List.set_cons_succ]
                refine wpAnyH_done (by kernel_rfl) ?_ _
                obtain ⟨⟨D, okx⟩, hp⟩ : ∃ p, dX inn c x = p := ⟨_, rfl⟩
                rw [hp] at hr7 HSn
                rw [hp]
                simp only at hr7
                have hbw7 : Below wr.heap.size wr w7 := (bel_drewN wr 1).trans hb7
                have HR7 := hide hr7
                obtain ⟨⟨E, F⟩, hE⟩ : ∃ p, uF inn (v.l.take k) c = p := ⟨_, rfl⟩
                rw [hE] at HO HSn
                have HO7 : Hid (Ob wq.heap.size w7 u8 E) := HO.out.1.below hbw7
                have hoF : ok = F := HO.out.2
                have HB7 : Hid (Below wq.heap.size wq w7) := HB.out.trans (hbw7.mono HB.out.size)
                rw [HSn.out] at HLe
                simp only at HLe
                clear hp hr7 hb7 ha7 hbw7 HO hE HDc HRg hHeld HIw c3 cl hcc hgl hyc
                try simp only
                subst hoF
                have HSn1 : Hid ((uF inn (v.l.take (k + 1)) c).1 = E ++ D) := by show _ = _; rw [HSn.out]
                have HSn2 : Hid ((uF inn (v.l.take (k + 1)) c).2 = (ok && okx)) := by show _ = _; rw [HSn.out]
                cases ok with
                | true =>
                  go_wp2_with (first | (at_builtin; go_loud (refine wpList_app _ rfl (.tmp 73) (.tmp 74) rfl wq.heap.size _ E rfl HO7.out _ D rfl HR7.out (by have := HLe.out; simp only [List.length_append] at this; omega) (by exact HB7.out.size) ?_; intro v8 w8 r1 r2; refine Shut.out ?_)))
                  unfold Shut
                  have HO8 : Hid (Ob wq.heap.size w8 v8 (E ++ D)) := r1
                  have HB8 : Hid (Below wq.heap.size wq w8) := HB7.out.grown r2 HB7.out.size (fun g hg => (HO7.out.lt g hg).1)
                  clear r1 r2
                  go_wp2
                  go_roundw
                  case rel => exact ⟨k + 1, okx, by go_num, rfl, by omega, ⟨by rw [HSn1.out]; exact HO8.out, by rw [HSn2.out]; rfl⟩, HB8.out⟩
                  case measure => simp [intOf]; omega
                | false =>
                  go_wp2_with (first | (at_builtin; go_loud (refine wpList_app _ rfl (.tmp 73) (.tmp 74) rfl wq.heap.size _ E rfl HO7.out _ D rfl HR7.out (by have := HLe.out; simp only [List.length_append] at this; omega) (by exact HB7.out.size) ?_; intro v8 w8 r1 r2; refine Shut.out ?_)))
                  unfold Shut
                  have HO8 : Hid (Ob wq.heap.size w8 v8 (E ++ D)) := r1
                  have HB8 : Hid (Below wq.heap.size wq w8) := HB7.out.grown r2 HB7.out.size (fun g hg => (HO7.out.lt g hg).1)
                  clear r1 r2
                  go_wp2
                  go_roundw
                  case rel => exact ⟨k + 1, false, by go_num, rfl, by omega, ⟨by rw [HSn1.out]; exact HO8.out, by rw [HSn2.out]; rfl⟩, HB8.out⟩
                  case measure => simp [intOf]; omega
              · have hke : k = v.l.length := by omega
                rw [hke, List.take_length] at HO
                obtain ⟨⟨D, okA⟩, hp⟩ : ∃ p, uF inn v.l c = p := ⟨_, rfl⟩
                rw [hp] at HO HUc2
                have hok : ok = okA := HO.out.2
                subst hok
                have HOb : Hid (Ob wq.heap.size wr u8 D) := HO.out.1
                obtain ⟨xa, xc, rfl⟩ := HOb.out.rb.sl
                have HBt := hide HIw.out.bt
                obtain ⟨e0, e1, el⟩ := HIw.out.bt.cells
                have hcc : wr.cell? ⟨gC, j, none⟩ = some (.int .i64 (c : Int)) := HCc.out wr HIw.out.it
                have hgl : gC < wr.heap.size := (Array.getElem?_eq_some_iff.1 HIw.out.it).1
                have HP7 : Hid (UnI w (wr.setRow gB #[.int .i64 (c : Int), .slice xa D.length xc]) v inn gC gB cs (some (c, D)) xa xc u5 us) := HIw.out.put (by have := HgB.out; have := HgC.out; omega) c D xa xc HOb.out.rb (HOb.out.at.mono HgW.out) (fun h0 g hg e => by
                  have h1 := (HI.out.ow.lt g e).2
                  have h2 := HOb.out.at g hg
                  omega)
                have HIx := HIw
                clear hke hk HO hp hbx HIw HB
                cases ok with
                | false =>
                  go_wp2
                  go_roundw
                  case rel => exact ⟨j + 1, by go_num, by omega, by rw [HUc2.out, stepP_no]; exact ⟨ua, uc, HIx.out⟩⟩
                  case measure => simp [intOf]; omega
                | true =>
                  cases bs with
                  | none =>
                    have e0' : wr.cell? ⟨gB, 0, none⟩ = some (.int .i64 (-1)) := e0
                    have e1' : wr.cell? ⟨gB, 1, none⟩ = some (.slice ua 0 uc) := e1
                    clear e0 e1
                    go_wp2_with (first | (go_loud (refine wpList_store_row rfl 49 (.tmp 4) (.tmp 95) rfl gB #[.int .i64 (c : Int), .slice xa D.length xc] rfl rfl 49 _ HBt.out Tryz.infoFm rfl (fm_one _ _ _ _) ?_; refine Shut.out ?_)))
                    unfold Shut
                    go_wp2
                    go_roundw
                    case rel => exact ⟨j + 1, by go_num, by omega, by rw [HUc2.out, stepP_none]; exact ⟨xa, xc, HP7.out⟩⟩
                    case measure => simp [intOf]; omega
                  | some p =>
                    obtain ⟨pc, pl⟩ := p
                    have e0' : wr.cell? ⟨gB, 0, none⟩ = some (.int .i64 (pc : Int)) := e0
                    have e1' : wr.cell? ⟨gB, 1, none⟩ = some (.slice ua pl.length uc) := e1
                    have hp0 : decide ((pc : Int) < 0) = false := by simp
                    clear e0 e1
                    by_cases hlt : D.length < pl.length
                    · have hd : decide ((D.length : Int) < (pl.length : Int)) = true := by simp; omega
                      go_wp2_with (first | (go_loud (refine wpList_store_row rfl 49 (.tmp 4) (.tmp 95) rfl gB #[.int .i64 (c : Int), .slice xa D.length xc] rfl rfl 49 _ HBt.out Tryz.infoFm rfl (fm_one _ _ _ _) ?_; refine Shut.out ?_)))
                      unfold Shut
                      go_wp2
                      go_roundw
                      case rel => exact ⟨j + 1, by go_num, by omega, by rw [HUc2.out, stepP_lt D pl c pc hlt]; exact ⟨xa, xc, HP7.out⟩⟩
                      case measure => simp [intOf]; omega
                    · have hd : decide ((D.length : Int) < (pl.length : Int)) = false := by simp; omega
                      go_wp2
                      go_roundw
                      case rel => exact ⟨j + 1, by go_num, by omega, by rw [HUc2.out, stepP_ge D pl c pc hlt]; exact ⟨ua, uc, HIx.out⟩⟩
                      case measure => simp [intOf]; omega
        · have hje : j = cs.length := by omega
          subst hje
          have HBe : Hid (bestF (uF inn v.l) (ucs cs) = bs) := by show _ = _; rw [← HBs.out, List.take_length]
          obtain ⟨e0, e1, el⟩ := HI.out.bt.cells
          have HRs := hide HI.out.rs
          go_wp2_with (first | (refine wpList_store_row rfl 49 (.tmp 2) (.tmp 96) rfl (w.heap.size + 1) #[.int .i64 bs.code, .slice ua bs.data.length uc] rfl rfl 49 _ HRs.out Tryz.infoFm rfl (fm_one _ _ _ _) ?_))
          exact bodyPost_ret (v := .agg #[.int .i64 bs.code, .slice ua bs.data.length uc]) (results_cell_row Tryz.results46 _ _ (w.heap.size + 1) 49 #[.int .i64 bs.code, .slice ua bs.data.length uc] (0, 0) _ rfl (setRow_same HRs.out _) Tryz.underlying49 rfl Tryz.infoFm) rfl ⟨_, rfl, _, by rw [HCs.out, HBe.out], by rw [HCs.out, HBe.out]; exact HI.out.ru.put HRs.out _, bel_put HI.out.be (by omega) _, HI.out.au⟩
end E
namespace E
open Go.RowKit Go.Deep
theorem numOk_u (k : Int) (N wd : Nat) (hk : sgK k = false) (h0 : 0 < wd) : numOk k N wd = decide (N < 256 ^ wd) := by
  unfold numOk backN
  rw [hk]
  simp only [Bool.false_eq_true, if_false, getN_digs]
  have h1 : decide (wd = 0) = false := by simp; omega
  rw [h1, Bool.false_or]
  refine decide_eq_decide.2 ⟨fun h => ?_, fun h => Nat.mod_eq_of_lt h⟩
  rw [← h]
  exact Nat.mod_lt _ (Nat.pow_pos (by decide))
theorem digs_head (N wd : Nat) (h : 0 < wd) : (digs N wd).getD 0 0 = N / 256 ^ (wd - 1) % 256 := by
  rw [digs_getD N wd 0 h]
  rfl
theorem sx_digs (N wd : Nat) (h0 : 0 < wd) (h8 : wd < 8) : sx (digs N wd) = if 128 ≤ N / 256 ^ (wd - 1) % 256 then N % 256 ^ wd + (18446744073709551616 - 256 ^ wd) else N % 256 ^ wd := by
  unfold sx
  rw [digs_length, digs_head N wd h0, getN_digs]
  by_cases h : 128 ≤ N / 256 ^ (wd - 1) % 256 <;> simp [h0, h8, h]
theorem numOk_s1 (k : Int) (N : Nat) (hk : sgK k = true) (hN : N < 18446744073709551616) : numOk k N 1 = decide (N ≤ 127 ∨ 18446744073709551488 ≤ N) := by
  unfold numOk backN
  rw [hk, if_pos rfl, sx_digs N 1 (by decide) (by decide)]
  simp only [Nat.one_ne_zero, decide_false, Bool.false_or]
  refine decide_eq_decide.2 ?_
  simp only [Nat.sub_self, Nat.pow_zero, Nat.div_one, Nat.pow_one]
  split <;> omega
theorem numOk_s2 (k : Int) (N : Nat) (hk : sgK k = true) (hN : N < 18446744073709551616) : numOk k N 2 = decide (N ≤ 32767 ∨ 18446744073709518848 ≤ N) := by
  unfold numOk backN
  rw [hk, if_pos rfl, sx_digs N 2 (by decide) (by decide)]
  have h2 : decide (2 = 0) = false := rfl
  rw [h2, Bool.false_or]
  refine decide_eq_decide.2 ?_
  simp only [show 256 ^ (2 - 1) = 256 from rfl, show 256 ^ 2 = 65536 from rfl]
  split <;> omega
theorem numOk_s4 (k : Int) (N : Nat) (hk : sgK k = true) (hN : N < 18446744073709551616) : numOk k N 4 = decide (N ≤ 2147483647 ∨ 18446744071562067968 ≤ N) := by
  unfold numOk backN
  rw [hk, if_pos rfl, sx_digs N 4 (by decide) (by decide)]
  have h2 : decide (4 = 0) = false := rfl
  rw [h2, Bool.false_or]
  refine decide_eq_decide.2 ?_
  simp only [show 256 ^ (4 - 1) = 16777216 from rfl, show 256 ^ 4 = 4294967296 from rfl]
  split <;> omega
theorem numOk_s8 (k : Int) (N : Nat) (hk : sgK k = true) (hN : N < 18446744073709551616) : numOk k N 8 = true := by
  unfold numOk backN
  rw [hk, if_pos rfl]
  have : sx (digs N 8) = N := by
    unfold sx
    rw [digs_length, if_neg (fun h => by omega), getN_digs, Nat.mod_eq_of_lt (by simpa using hN)]
  rw [this]
  simp
theorem best_num (k : Int) (N : Nat) (s : ByteArray) (len : Nat) (inn : List Nat) (body : Nat) (hk : 0 ≤ k ∧ (k < 14 ∨ k = 15 ∨ k = 16)) (hN : N < 18446744073709551616) (h0 : k = 0 → N = 0)
    (num : (k = 1 → N ≤ 1) ∧ (k = 2 → N ≤ 255) ∧ (k = 3 → N ≤ 65535) ∧ (k = 4 ∨ k = 10 ∨ k = 12 → N ≤ 4294967295) ∧ (k = 6 → N ≤ 127 ∨ 18446744073709551488 ≤ N) ∧ (k = 7 → N ≤ 32767 ∨ 18446744073709518848 ≤ N) ∧ (k = 8 → N ≤ 2147483647 ∨ 18446744071562067968 ≤ N) ∧ (k = 15 → N ≤ 1114111)) :
    bestF (fun c => rD c k N s len inn) (codesK k) = some (codeG k N len body, if codeG k N len body / 16 = 4 then [] else digs N (nwid (codeG k N len body))) := by
  obtain ⟨m1, m2, m3, m4, m6, m7, m8, m15⟩ := num
  rcases (by omega : k = 0 ∨ k = 1 ∨ k = 2 ∨ k = 3 ∨ k = 4 ∨ k = 5 ∨ k = 6 ∨ k = 7 ∨ k = 8 ∨ k = 9 ∨ k = 10 ∨ k = 11 ∨ k = 12 ∨ k = 13 ∨ k = 15 ∨ k = 16) with rfl | rfl | rfl | rfl | rfl | rfl | rfl | rfl | rfl | rfl | rfl | rfl | rfl | rfl | rfl | rfl
  · have := h0 rfl
    subst this
    have hc : codeG 0 ((0 : Nat) : Int) len body = 64 := by simp [codeG, pickC, smallC, codeS]
    rw [hc]
    rfl
  · show stepP (digs N 1, numOk 1 N 1) (stepP ([], decide (N = 0)) (stepP ([], decide (N = 1)) none 65) 66) 86 = _
    have := m1 rfl
    rcases (by omega : N = 0 ∨ N = 1) with rfl | rfl
    · have hc : codeG 1 ((0 : Nat) : Int) len body = 66 := by simp [codeG]
      rw [hc]
      rfl
    · have hc : codeG 1 ((1 : Nat) : Int) len body = 65 := by simp [codeG]
      rw [hc]
      rfl
  · have hc : codeG 2 (N : Int) len body = 80 := by simp [codeG, pickC, smallC, codeS]
    show stepP (digs N 1, numOk 2 N 1) none 80 = _
    rw [hc]
    rw [numOk_u 2 N 1 rfl (by decide), decide_eq_true (show N < 256 ^ 1 by have := m2 rfl; omega)]
    rfl
  · have hc : codeG 3 (N : Int) len body = 96 := by simp [codeG, pickC, smallC, codeS]
    show stepP (digs N 2, numOk 3 N 2) none 96 = _
    rw [hc]
    rw [numOk_u 3 N 2 rfl (by decide), decide_eq_true (show N < 256 ^ 2 by have := m3 rfl; omega)]
    rfl
  · show stepP (digs N 4, numOk 4 N 4) (stepP (digs N 1, numOk 4 N 1) (stepP ([], decide (N = 0)) none 67) 82) 112 = _
    rw [numOk_u 4 N 4 rfl (by decide), numOk_u 4 N 1 rfl (by decide), decide_eq_true (show N < 256 ^ 4 by have := m4 (.inl rfl); omega)]
    by_cases hz : N = 0
    · subst hz
      have hc : codeG 4 ((0 : Nat) : Int) len body = 67 := by simp [codeG]
      rw [hc]
      rfl
    · rw [decide_eq_false hz]
      by_cases hs : N < 256
      · have hc : codeG 4 (N : Int) len body = 82 := by
          have h1 : ¬ (N : Int) = 0 := by omega
          have h2 : (N : Int) ≤ 255 := by omega
          simp [codeG, pickC, smallC, codeS, hz, h2]
        rw [hc, decide_eq_true (show N < 256 ^ 1 by omega), stepP_no, stepP_none, stepP_ge _ _ _ _ (by rw [digs_length, digs_length]; omega)]
        rfl
      · have hc : codeG 4 (N : Int) len body = 112 := by
          have h1 : ¬ (N : Int) = 0 := by omega
          have h2 : ¬ (N : Int) ≤ 255 := by omega
          simp [codeG, pickC, smallC, codeL, hz, h2]
        rw [hc, decide_eq_false (show ¬ N < 256 ^ 1 by omega), stepP_no, stepP_no, stepP_none]
        rfl
  · show stepP (digs N 8, numOk 5 N 8) (stepP (digs N 1, numOk 5 N 1) (stepP ([], decide (N = 0)) none 68) 83) 128 = _
    rw [numOk_u 5 N 8 rfl (by decide), numOk_u 5 N 1 rfl (by decide), decide_eq_true (show N < 256 ^ 8 by omega)]
    by_cases hz : N = 0
    · subst hz
      have hc : codeG 5 ((0 : Nat) : Int) len body = 68 := by simp [codeG]
      rw [hc]
      rfl
    · rw [decide_eq_false hz]
      by_cases hs : N < 256
      · have hc : codeG 5 (N : Int) len body = 83 := by
          have h1 : ¬ (N : Int) = 0 := by omega
          have h2 : (N : Int) ≤ 255 := by omega
          simp [codeG, pickC, smallC, codeS, hz, h2]
        rw [hc, decide_eq_true (show N < 256 ^ 1 by omega), stepP_no, stepP_none, stepP_ge _ _ _ _ (by rw [digs_length, digs_length]; omega)]
        rfl
      · have hc : codeG 5 (N : Int) len body = 128 := by
          have h1 : ¬ (N : Int) = 0 := by omega
          have h2 : ¬ (N : Int) ≤ 255 := by omega
          simp [codeG, pickC, smallC, codeL, hz, h2]
        rw [hc, decide_eq_false (show ¬ N < 256 ^ 1 by omega), stepP_no, stepP_no, stepP_none]
        rfl
  · have hc : codeG 6 (N : Int) len body = 81 := by simp [codeG, pickC, smallC, codeS]
    show stepP (digs N 1, numOk 6 N 1) none 81 = _
    rw [hc]
    rw [numOk_s1 6 N rfl hN, decide_eq_true (m6 rfl)]
    rfl
  · have hc : codeG 7 (N : Int) len body = 97 := by simp [codeG, pickC, smallC, codeS]
    show stepP (digs N 2, numOk 7 N 2) none 97 = _
    rw [hc]
    rw [numOk_s2 7 N rfl hN, decide_eq_true (m7 rfl)]
    rfl
  · show stepP (digs N 4, numOk 8 N 4) (stepP (digs N 1, numOk 8 N 1) none 84) 113 = _
    rw [numOk_s4 8 N rfl hN, decide_eq_true (m8 rfl), numOk_s1 8 N rfl hN]
    by_cases hs : N ≤ 127 ∨ 18446744073709551488 ≤ N
    · have hc : codeG 8 (N : Int) len body = 84 := by
        have h2 : (N : Int) ≤ 127 ∨ 18446744073709551488 ≤ (N : Int) := by omega
        simp [codeG, pickC, smallC, codeS, h2]
      rw [hc, decide_eq_true hs, stepP_none, stepP_ge _ _ _ _ (by rw [digs_length, digs_length]; omega)]
      rfl
    · have hc : codeG 8 (N : Int) len body = 113 := by
        have h2 : ¬ ((N : Int) ≤ 127 ∨ 18446744073709551488 ≤ (N : Int)) := by omega
        simp [codeG, pickC, smallC, codeL, h2]
      rw [hc, decide_eq_false hs, stepP_no, stepP_none]
      rfl
  · show stepP (digs N 8, numOk 9 N 8) (stepP (digs N 1, numOk 9 N 1) none 85) 129 = _
    rw [numOk_s8 9 N rfl hN, numOk_s1 9 N rfl hN]
    by_cases hs : N ≤ 127 ∨ 18446744073709551488 ≤ N
    · have hc : codeG 9 (N : Int) len body = 85 := by
        have h2 : (N : Int) ≤ 127 ∨ 18446744073709551488 ≤ (N : Int) := by omega
        simp [codeG, pickC, smallC, codeS, h2]
      rw [hc, decide_eq_true hs, stepP_none, stepP_ge _ _ _ _ (by rw [digs_length, digs_length]; omega)]
      rfl
    · have hc : codeG 9 (N : Int) len body = 129 := by
        have h2 : ¬ ((N : Int) ≤ 127 ∨ 18446744073709551488 ≤ (N : Int)) := by omega
        simp [codeG, pickC, smallC, codeL, h2]
      rw [hc, decide_eq_false hs, stepP_no, stepP_none]
      rfl
  · have hc : codeG 10 (N : Int) len body = 114 := by simp [codeG, pickC, smallC, codeS]
    show stepP (digs N 4, numOk 10 N 4) none 114 = _
    rw [hc]
    rw [numOk_u 10 N 4 rfl (by decide), decide_eq_true (show N < 256 ^ 4 by have := m4 (.inr (.inl rfl)); omega)]
    rfl
  · have hc : codeG 11 (N : Int) len body = 130 := by simp [codeG, pickC, smallC, codeS]
    show stepP (digs N 8, numOk 11 N 8) none 130 = _
    rw [hc]
    rw [numOk_u 11 N 8 rfl (by decide), decide_eq_true (show N < 256 ^ 8 by omega)]
    rfl
  · have hc : codeG 12 (N : Int) len body = 116 := by simp [codeG, pickC, smallC, codeS]
    show stepP (digs N 4, numOk 12 N 4) none 116 = _
    rw [hc]
    rw [numOk_u 12 N 4 rfl (by decide), decide_eq_true (show N < 256 ^ 4 by have := m4 (.inr (.inr rfl)); omega)]
    rfl
  · have hc : codeG 13 (N : Int) len body = 132 := by simp [codeG, pickC, smallC, codeS]
    show stepP (digs N 8, numOk 13 N 8) none 132 = _
    rw [hc]
    rw [numOk_u 13 N 8 rfl (by decide), decide_eq_true (show N < 256 ^ 8 by omega)]
    rfl
  · have hc : codeG 15 (N : Int) len body = 115 := by simp [codeG, pickC, smallC, codeS]
    show stepP (digs N 4, numOk 15 N 4) none 115 = _
    rw [hc]
    rw [numOk_u 15 N 4 rfl (by decide), decide_eq_true (show N < 256 ^ 4 by have := m15 rfl; omega)]
    rfl
  · have hc : codeG 16 (N : Int) len body = 131 := by simp [codeG, pickC, smallC, codeS]
    show stepP (digs N 8, numOk 16 N 8) none 131 = _
    rw [hc]
    rw [numOk_s8 16 N rfl hN]
    rfl
end E
namespace E
open Go.RowKit Go.Deep
def innF (k : Int) (ac : Nat) (l : List V) : List Nat := if k = 21 ∨ k = 22 ∨ k = 24 then encs l else if k = 23 then ac :: datas ac l else []
section
variable (k n : Int) (s : ByteArray) (a : Option Addr) (c0 : Nat) (e : Int) (l : List V) (N : Nat) (inn : List Nat)
theorem rd_L (hk : 1 ≤ k ∧ k ≤ 23) (hn : n = (N : Int)) (hN : N < 18446744073709551616) (num : (k = 1 → N ≤ 1) ∧ (k = 2 → N ≤ 255) ∧ (k = 3 → N ≤ 65535) ∧ (k = 4 ∨ k = 10 ∨ k = 12 → N ≤ 4294967295) ∧ (k = 6 → N ≤ 127 ∨ 18446744073709551488 ≤ N) ∧ (k = 7 → N ≤ 32767 ∨ 18446744073709518848 ≤ N) ∧ (k = 8 → N ≤ 2147483647 ∨ 18446744071562067968 ≤ N) ∧ (k = 15 → N ≤ 1114111)) (hb : k = 18 ∨ k = 19 ∨ k = 20 → T.body (V.of k n s a c0 e l) = s.size) (hin : inn = innF k (T.acode (V.of k n s a c0 e l)) l) (hil : k = 21 ∨ k = 22 ∨ k = 23 → inn.length = T.body (V.of k n s a c0 e l) ∧ l.length ≤ T.body (V.of k n s a c0 e l)) : rD (pickC k.toNat false) k N s l.length inn = (T.data (V.of k n s a c0 e l) (pickC k.toNat false), true) := by
  obtain ⟨m1, m2, m3, m4, m6, m7, m8, m15⟩ := num
  rcases (by omega : k = 1 ∨ k = 2 ∨ k = 3 ∨ k = 4 ∨ k = 5 ∨ k = 6 ∨ k = 7 ∨ k = 8 ∨ k = 9 ∨ k = 10 ∨ k = 11 ∨ k = 12 ∨ k = 13 ∨ k = 14 ∨ k = 15 ∨ k = 16 ∨ k = 17 ∨ k = 18 ∨ k = 19 ∨ k = 20 ∨ k = 21 ∨ k = 22 ∨ k = 23) with rfl | rfl | rfl | rfl | rfl | rfl | rfl | rfl | rfl | rfl | rfl | rfl | rfl | rfl | rfl | rfl | rfl | rfl | rfl | rfl | rfl | rfl | rfl
  · rw [show pickC (1 : Int).toNat false = 86 from rfl, data_of]
    subst hn
    rw [Int.toNat_natCast]
    exact congrArg (Prod.mk (digs N 1)) (show numOk 1 N 1 = true from by rw [numOk_u 1 N 1 rfl (by decide), decide_eq_true (show N < 256 ^ 1 by have := m1 rfl; omega)])
  · rw [show pickC (2 : Int).toNat false = 80 from rfl, data_of]
    subst hn
    rw [Int.toNat_natCast]
    exact congrArg (Prod.mk (digs N 1)) (show numOk 2 N 1 = true from by rw [numOk_u 2 N 1 rfl (by decide), decide_eq_true (show N < 256 ^ 1 by have := m2 rfl; omega)])
  · rw [show pickC (3 : Int).toNat false = 96 from rfl, data_of]
    subst hn
    rw [Int.toNat_natCast]
    exact congrArg (Prod.mk (digs N 2)) (show numOk 3 N 2 = true from by rw [numOk_u 3 N 2 rfl (by decide), decide_eq_true (show N < 256 ^ 2 by have := m3 rfl; omega)])
  · rw [show pickC (4 : Int).toNat false = 112 from rfl, data_of]
    subst hn
    rw [Int.toNat_natCast]
    exact congrArg (Prod.mk (digs N 4)) (show numOk 4 N 4 = true from by rw [numOk_u 4 N 4 rfl (by decide), decide_eq_true (show N < 256 ^ 4 by have := m4 (.inl rfl); omega)])
  · rw [show pickC (5 : Int).toNat false = 128 from rfl, data_of]
    subst hn
    rw [Int.toNat_natCast]
    exact congrArg (Prod.mk (digs N 8)) (show numOk 5 N 8 = true from by rw [numOk_u 5 N 8 rfl (by decide), decide_eq_true (show N < 256 ^ 8 by omega)])
  · rw [show pickC (6 : Int).toNat false = 81 from rfl, data_of]
    subst hn
    rw [Int.toNat_natCast]
    exact congrArg (Prod.mk (digs N 1)) (show numOk 6 N 1 = true from by rw [numOk_s1 6 N rfl hN, decide_eq_true (m6 rfl)])
  · rw [show pickC (7 : Int).toNat false = 97 from rfl, data_of]
    subst hn
    rw [Int.toNat_natCast]
    exact congrArg (Prod.mk (digs N 2)) (show numOk 7 N 2 = true from by rw [numOk_s2 7 N rfl hN, decide_eq_true (m7 rfl)])
  · rw [show pickC (8 : Int).toNat false = 113 from rfl, data_of]
    subst hn
    rw [Int.toNat_natCast]
    exact congrArg (Prod.mk (digs N 4)) (show numOk 8 N 4 = true from by rw [numOk_s4 8 N rfl hN, decide_eq_true (m8 rfl)])
  · rw [show pickC (9 : Int).toNat false = 129 from rfl, data_of]
    subst hn
    rw [Int.toNat_natCast]
    exact congrArg (Prod.mk (digs N 8)) (numOk_s8 9 N rfl hN)
  · rw [show pickC (10 : Int).toNat false = 114 from rfl, data_of]
    subst hn
    rw [Int.toNat_natCast]
    exact congrArg (Prod.mk (digs N 4)) (show numOk 10 N 4 = true from by rw [numOk_u 10 N 4 rfl (by decide), decide_eq_true (show N < 256 ^ 4 by have := m4 (.inr (.inl rfl)); omega)])
  · rw [show pickC (11 : Int).toNat false = 130 from rfl, data_of]
    subst hn
    rw [Int.toNat_natCast]
    exact congrArg (Prod.mk (digs N 8)) (show numOk 11 N 8 = true from by rw [numOk_u 11 N 8 rfl (by decide), decide_eq_true (show N < 256 ^ 8 by omega)])
  · rw [show pickC (12 : Int).toNat false = 116 from rfl, data_of]
    subst hn
    rw [Int.toNat_natCast]
    exact congrArg (Prod.mk (digs N 4)) (show numOk 12 N 4 = true from by rw [numOk_u 12 N 4 rfl (by decide), decide_eq_true (show N < 256 ^ 4 by have := m4 (.inr (.inr rfl)); omega)])
  · rw [show pickC (13 : Int).toNat false = 132 from rfl, data_of]
    subst hn
    rw [Int.toNat_natCast]
    exact congrArg (Prod.mk (digs N 8)) (show numOk 13 N 8 = true from by rw [numOk_u 13 N 8 rfl (by decide), decide_eq_true (show N < 256 ^ 8 by omega)])
  · rw [show pickC (14 : Int).toNat false = 148 from rfl, data_of]
    rfl
  · rw [show pickC (15 : Int).toNat false = 115 from rfl, data_of]
    subst hn
    rw [Int.toNat_natCast]
    exact congrArg (Prod.mk (digs N 4)) (show numOk 15 N 4 = true from by rw [numOk_u 15 N 4 rfl (by decide), decide_eq_true (show N < 256 ^ 4 by have := m15 rfl; omega)])
  · rw [show pickC (16 : Int).toNat false = 131 from rfl, data_of]
    subst hn
    rw [Int.toNat_natCast]
    exact congrArg (Prod.mk (digs N 8)) (numOk_s8 16 N rfl hN)
  · rw [show pickC (17 : Int).toNat false = 152 from rfl, data_of]
    rfl
  · rw [show pickC (18 : Int).toNat false = 176 from rfl, data_of]
    rw [hb (by decide)]
    rfl
  · rw [show pickC (19 : Int).toNat false = 177 from rfl, data_of]
    rw [hb (by decide)]
    rfl
  · rw [show pickC (20 : Int).toNat false = 179 from rfl, data_of]
    rw [hb (by decide)]
    rfl
  · rw [show pickC (21 : Int).toNat false = 208 from rfl, data_of]
    have hl := hil (by decide)
    rw [← hl.1]
    rw [hin]
    rfl
  · rw [show pickC (22 : Int).toNat false = 209 from rfl, data_of]
    have hl := hil (by decide)
    rw [← hl.1]
    rw [hin]
    rfl
  · rw [show pickC (23 : Int).toNat false = 240 from rfl, data_of]
    have hl := hil (by decide)
    rw [← hl.1]
    rw [hin]
    rfl
theorem rd_S (hk : 1 ≤ k ∧ k ≤ 23) (hn : n = (N : Int)) (hN : N < 18446744073709551616) (num : (k = 1 → N ≤ 1) ∧ (k = 2 → N ≤ 255) ∧ (k = 3 → N ≤ 65535) ∧ (k = 4 ∨ k = 10 ∨ k = 12 → N ≤ 4294967295) ∧ (k = 6 → N ≤ 127 ∨ 18446744073709551488 ≤ N) ∧ (k = 7 → N ≤ 32767 ∨ 18446744073709518848 ≤ N) ∧ (k = 8 → N ≤ 2147483647 ∨ 18446744071562067968 ≤ N) ∧ (k = 15 → N ≤ 1114111)) (hb : k = 18 ∨ k = 19 ∨ k = 20 → T.body (V.of k n s a c0 e l) = s.size) (hin : inn = innF k (T.acode (V.of k n s a c0 e l)) l) (hil : k = 21 ∨ k = 22 ∨ k = 23 → inn.length = T.body (V.of k n s a c0 e l) ∧ l.length ≤ T.body (V.of k n s a c0 e l)) : (rD (pickC k.toNat true) k N s l.length inn).2 = smallC k n (T.body (V.of k n s a c0 e l)) ∧ (smallC k n (T.body (V.of k n s a c0 e l)) = true → (rD (pickC k.toNat true) k N s l.length inn).1 = T.data (V.of k n s a c0 e l) (pickC k.toNat true)) := by
  obtain ⟨m1, m2, m3, m4, m6, m7, m8, m15⟩ := num
  rcases (by omega : k = 1 ∨ k = 2 ∨ k = 3 ∨ k = 4 ∨ k = 5 ∨ k = 6 ∨ k = 7 ∨ k = 8 ∨ k = 9 ∨ k = 10 ∨ k = 11 ∨ k = 12 ∨ k = 13 ∨ k = 14 ∨ k = 15 ∨ k = 16 ∨ k = 17 ∨ k = 18 ∨ k = 19 ∨ k = 20 ∨ k = 21 ∨ k = 22 ∨ k = 23) with rfl | rfl | rfl | rfl | rfl | rfl | rfl | rfl | rfl | rfl | rfl | rfl | rfl | rfl | rfl | rfl | rfl | rfl | rfl | rfl | rfl | rfl | rfl
  · rw [show pickC (1 : Int).toNat true = 86 from rfl, data_of]
    subst hn
    rw [Int.toNat_natCast]
    exact ⟨show numOk 1 N 1 = true from by rw [numOk_u 1 N 1 rfl (by decide), decide_eq_true (show N < 256 ^ 1 by have := m1 rfl; omega)], fun _ => rfl⟩
  · rw [show pickC (2 : Int).toNat true = 80 from rfl, data_of]
    subst hn
    rw [Int.toNat_natCast]
    exact ⟨show numOk 2 N 1 = true from by rw [numOk_u 2 N 1 rfl (by decide), decide_eq_true (show N < 256 ^ 1 by have := m2 rfl; omega)], fun _ => rfl⟩
  · rw [show pickC (3 : Int).toNat true = 96 from rfl, data_of]
    subst hn
    rw [Int.toNat_natCast]
    exact ⟨show numOk 3 N 2 = true from by rw [numOk_u 3 N 2 rfl (by decide), decide_eq_true (show N < 256 ^ 2 by have := m3 rfl; omega)], fun _ => rfl⟩
  · rw [show pickC (4 : Int).toNat true = 82 from rfl, data_of]
    subst hn
    rw [Int.toNat_natCast]
    refine ⟨?_, fun _ => rfl⟩
    show numOk 4 N 1 = decide ((N : Int) ≤ 255)
    rw [numOk_u 4 N 1 rfl (by decide)]
    exact decide_eq_decide.2 (by omega)
  · rw [show pickC (5 : Int).toNat true = 83 from rfl, data_of]
    subst hn
    rw [Int.toNat_natCast]
    refine ⟨?_, fun _ => rfl⟩
    show numOk 5 N 1 = decide ((N : Int) ≤ 255)
    rw [numOk_u 5 N 1 rfl (by decide)]
    exact decide_eq_decide.2 (by omega)
  · rw [show pickC (6 : Int).toNat true = 81 from rfl, data_of]
    subst hn
    rw [Int.toNat_natCast]
    exact ⟨show numOk 6 N 1 = true from by rw [numOk_s1 6 N rfl hN, decide_eq_true (m6 rfl)], fun _ => rfl⟩
  · rw [show pickC (7 : Int).toNat true = 97 from rfl, data_of]
    subst hn
    rw [Int.toNat_natCast]
    exact ⟨show numOk 7 N 2 = true from by rw [numOk_s2 7 N rfl hN, decide_eq_true (m7 rfl)], fun _ => rfl⟩
  · rw [show pickC (8 : Int).toNat true = 84 from rfl, data_of]
    subst hn
    rw [Int.toNat_natCast]
    refine ⟨?_, fun _ => rfl⟩
    show numOk 8 N 1 = decide ((N : Int) ≤ 127 ∨ 18446744073709551488 ≤ (N : Int))
    rw [numOk_s1 8 N rfl hN]
    exact decide_eq_decide.2 (by omega)
  · rw [show pickC (9 : Int).toNat true = 85 from rfl, data_of]
    subst hn
    rw [Int.toNat_natCast]
    refine ⟨?_, fun _ => rfl⟩
    show numOk 9 N 1 = decide ((N : Int) ≤ 127 ∨ 18446744073709551488 ≤ (N : Int))
    rw [numOk_s1 9 N rfl hN]
    exact decide_eq_decide.2 (by omega)
  · rw [show pickC (10 : Int).toNat true = 114 from rfl, data_of]
    subst hn
    rw [Int.toNat_natCast]
    exact ⟨show numOk 10 N 4 = true from by rw [numOk_u 10 N 4 rfl (by decide), decide_eq_true (show N < 256 ^ 4 by have := m4 (.inr (.inl rfl)); omega)], fun _ => rfl⟩
  · rw [show pickC (11 : Int).toNat true = 130 from rfl, data_of]
    subst hn
    rw [Int.toNat_natCast]
    exact ⟨show numOk 11 N 8 = true from by rw [numOk_u 11 N 8 rfl (by decide), decide_eq_true (show N < 256 ^ 8 by omega)], fun _ => rfl⟩
  · rw [show pickC (12 : Int).toNat true = 116 from rfl, data_of]
    subst hn
    rw [Int.toNat_natCast]
    exact ⟨show numOk 12 N 4 = true from by rw [numOk_u 12 N 4 rfl (by decide), decide_eq_true (show N < 256 ^ 4 by have := m4 (.inr (.inr rfl)); omega)], fun _ => rfl⟩
  · rw [show pickC (13 : Int).toNat true = 132 from rfl, data_of]
    subst hn
    rw [Int.toNat_natCast]
    exact ⟨show numOk 13 N 8 = true from by rw [numOk_u 13 N 8 rfl (by decide), decide_eq_true (show N < 256 ^ 8 by omega)], fun _ => rfl⟩
  · rw [show pickC (14 : Int).toNat true = 148 from rfl, data_of]
    exact ⟨rfl, fun _ => rfl⟩
  · rw [show pickC (15 : Int).toNat true = 115 from rfl, data_of]
    subst hn
    rw [Int.toNat_natCast]
    exact ⟨show numOk 15 N 4 = true from by rw [numOk_u 15 N 4 rfl (by decide), decide_eq_true (show N < 256 ^ 4 by have := m15 rfl; omega)], fun _ => rfl⟩
  · rw [show pickC (16 : Int).toNat true = 131 from rfl, data_of]
    subst hn
    rw [Int.toNat_natCast]
    exact ⟨numOk_s8 16 N rfl hN, fun _ => rfl⟩
  · rw [show pickC (17 : Int).toNat true = 152 from rfl, data_of]
    exact ⟨rfl, fun _ => rfl⟩
  · rw [show pickC (18 : Int).toNat true = 160 from rfl, data_of]
    rw [hb (by decide)]
    exact ⟨rfl, fun _ => rfl⟩
  · rw [show pickC (19 : Int).toNat true = 161 from rfl, data_of]
    rw [hb (by decide)]
    exact ⟨rfl, fun _ => rfl⟩
  · rw [show pickC (20 : Int).toNat true = 163 from rfl, data_of]
    rw [hb (by decide)]
    exact ⟨rfl, fun _ => rfl⟩
  · rw [show pickC (21 : Int).toNat true = 192 from rfl, data_of]
    have hl := hil (by decide)
    have hsm : smallC 21 n (T.body (V.of 21 n s a c0 e l)) = decide (1 + T.body (V.of 21 n s a c0 e l) ≤ 255) := rfl
    rw [hsm, ← hl.1]
    refine ⟨?_, fun _ => by rw [hin]; rfl⟩
    show (decide (l.length ≤ 255) && decide (1 + inn.length ≤ 255)) = _
    have h2 := hl.2
    rw [← hl.1] at h2
    by_cases h : 1 + inn.length ≤ 255
    · rw [decide_eq_true h, decide_eq_true (show l.length ≤ 255 by omega)]; rfl
    · rw [decide_eq_false h, Bool.and_false]
  · rw [show pickC (22 : Int).toNat true = 193 from rfl, data_of]
    have hl := hil (by decide)
    have hsm : smallC 22 n (T.body (V.of 22 n s a c0 e l)) = decide (1 + T.body (V.of 22 n s a c0 e l) ≤ 255) := rfl
    rw [hsm, ← hl.1]
    refine ⟨?_, fun _ => by rw [hin]; rfl⟩
    show (decide (l.length ≤ 255) && decide (1 + inn.length ≤ 255)) = _
    have h2 := hl.2
    rw [← hl.1] at h2
    by_cases h : 1 + inn.length ≤ 255
    · rw [decide_eq_true h, decide_eq_true (show l.length ≤ 255 by omega)]; rfl
    · rw [decide_eq_false h, Bool.and_false]
  · rw [show pickC (23 : Int).toNat true = 224 from rfl, data_of]
    have hl := hil (by decide)
    have hsm : smallC 23 n (T.body (V.of 23 n s a c0 e l)) = decide (1 + T.body (V.of 23 n s a c0 e l) ≤ 255) := rfl
    rw [hsm, ← hl.1]
    refine ⟨?_, fun _ => by rw [hin]; rfl⟩
    show (decide (l.length ≤ 255) && decide (1 + inn.length ≤ 255)) = _
    have h2 := hl.2
    rw [← hl.1] at h2
    by_cases h : 1 + inn.length ≤ 255
    · rw [decide_eq_true h, decide_eq_true (show l.length ≤ 255 by omega)]; rfl
    · rw [decide_eq_false h, Bool.and_false]
end
end E
namespace E
open Go.RowKit Go.Deep
theorem best_two (f : Nat → List Nat × Bool) (S L : Nat) (D1 D2 : List Nat) (sm : Bool) (h1 : (f S).2 = sm) (h1' : sm = true → (f S).1 = D1) (h2 : f L = (D2, true)) (hle : sm = true → D1.length ≤ D2.length) : stepP (f L) (stepP (f S) none S) L = some (if sm then (S, D1) else (L, D2)) := by
  obtain ⟨⟨E, b⟩, hE⟩ : ∃ p, f S = p := ⟨_, rfl⟩
  rw [hE] at h1 h1' ⊢
  rw [h2]
  simp only at h1 h1'
  subst h1
  cases b with
  | false => rw [stepP_no, stepP_none]; rfl
  | true =>
    rw [h1' rfl, stepP_none, stepP_ge _ _ _ _ (by have := hle rfl; omega)]
    rfl
theorem codeG_num (k n : Int) (len body : Nat) (hk : 0 ≤ k ∧ (k < 14 ∨ k = 15 ∨ k = 16)) : 4 ≤ codeG k n len body / 16 ∧ codeG k n len body / 16 ≤ 8 := by
  rcases codeG_cases k n len body with ⟨_, _, h⟩ | ⟨_, _, h⟩ | ⟨_, _, h⟩ | ⟨_, _, h⟩ | ⟨_, _, h⟩ | h
  all_goals rw [h]
  all_goals try decide
  generalize smallC k n body = b
  rcases (by omega : k = 0 ∨ k = 1 ∨ k = 2 ∨ k = 3 ∨ k = 4 ∨ k = 5 ∨ k = 6 ∨ k = 7 ∨ k = 8 ∨ k = 9 ∨ k = 10 ∨ k = 11 ∨ k = 12 ∨ k = 13 ∨ k = 15 ∨ k = 16) with rfl | rfl | rfl | rfl | rfl | rfl | rfl | rfl | rfl | rfl | rfl | rfl | rfl | rfl | rfl | rfl <;> cases b <;> decide
theorem data_num (k n : Int) (s : ByteArray) (a : Option Addr) (c0 : Nat) (e : Int) (l : List V) (c : Nat) (hc : 4 ≤ c / 16 ∧ c / 16 ≤ 8) : T.data (V.of k n s a c0 e l) c = if c / 16 = 4 then [] else digs n.toNat (nwid c) := by
  rw [data_of]
  have h1 : ¬ c / 16 = 10 := by omega
  have h2 : ¬ c / 16 = 11 := by omega
  have h3 : ¬ c / 16 = 9 := by omega
  have h4 : ¬ c / 16 = 14 := by omega
  have h5 : ¬ c / 16 = 15 := by omega
  have h6 : ¬ c / 16 = 12 := by omega
  have h7 : ¬ c / 16 = 13 := by omega
  have h8 : ¬ c / 16 = 0 := by omega
  simp only [h1, h2, h3, h4, h5, h6, h7, h8, if_false]
theorem code_of (k n : Int) (s : ByteArray) (a : Option Addr) (c0 : Nat) (e : Int) (l : List V) : T.code (V.of k n s a c0 e l) = codeG k n l.length (T.body (V.of k n s a c0 e l)) := by
  unfold T.code
  rw [V.k_of, V.n_of, V.l_of]
theorem best_of (B : Nat → ByteArray → Int) (W : List T → Bool) (k n : Int) (s : ByteArray) (a : Option Addr) (c0 : Nat) (e : Int) (l : List V) (N : Nat) (inn : List Nat) (hn : n = (N : Int)) (hg : OwnG B W k n s e l) (hb : k = 18 ∨ k = 19 ∨ k = 20 → T.body (V.of k n s a c0 e l) = s.size) (hin : inn = innF k (T.acode (V.of k n s a c0 e l)) l) (hil : k = 21 ∨ k = 22 ∨ k = 23 → inn.length = T.body (V.of k n s a c0 e l) ∧ l.length ≤ T.body (V.of k n s a c0 e l)) :
    bestF (fun c => rD c k N s l.length inn) (codesK k) = some (T.code (V.of k n s a c0 e l), T.data (V.of k n s a c0 e l) (T.code (V.of k n s a c0 e l))) := by
  have hN : N < 18446744073709551616 := by have := hg.n1; omega
  have hnum : (k = 1 → N ≤ 1) ∧ (k = 2 → N ≤ 255) ∧ (k = 3 → N ≤ 65535) ∧ (k = 4 ∨ k = 10 ∨ k = 12 → N ≤ 4294967295) ∧ (k = 6 → N ≤ 127 ∨ 18446744073709551488 ≤ N) ∧ (k = 7 → N ≤ 32767 ∨ 18446744073709518848 ≤ N) ∧ (k = 8 → N ≤ 2147483647 ∨ 18446744071562067968 ≤ N) ∧ (k = 15 → N ≤ 1114111) := by
    obtain ⟨m1, m2, m3, m4, m6, m7, m8, m15⟩ := hg.num
    exact ⟨fun h => by have := m1 h; omega, fun h => by have := m2 h; omega, fun h => by have := m3 h; omega, fun h => by have := m4 h; omega, fun h => by have := m6 h; omega, fun h => by have := m7 h; omega, fun h => by have := m8 h; omega, fun h => by have := m15 h; omega⟩
  by_cases hk : k < 14 ∨ k = 15 ∨ k = 16
  · have h1 := best_num k N s l.length inn (T.body (V.of k n s a c0 e l)) ⟨hg.k0, hk⟩ hN (fun h => by have := hg.isNull h; omega) hnum
    rw [h1, code_of, ← hn, data_num k n s a c0 e l _ (codeG_num k n _ _ ⟨hg.k0, hk⟩), hn, Int.toNat_natCast]
  · have hk0 := hg.k0
    have hk1 := hg.k1
    have hrS := fun h => rd_S k n s a c0 e l N inn h hn hN hnum hb hin hil
    have hrL := fun h => rd_L k n s a c0 e l N inn h hn hN hnum hb hin hil
    rw [code_of]
    obtain ⟨bd, hbd⟩ : ∃ bd, T.body (V.of k n s a c0 e l) = bd := ⟨_, rfl⟩
    obtain ⟨sm, hsm⟩ : ∃ sm, smallC k n bd = sm := ⟨_, rfl⟩
    rw [hbd] at hrS hb hil ⊢
    rw [hsm] at hrS
    have hD : ∀ c, T.data (V.of k n s a c0 e l) c = T.data (V.of k n s a c0 e l) c := fun _ => rfl
    rcases (by omega : k = 14 ∨ k = 17 ∨ k = 18 ∨ k = 19 ∨ k = 20 ∨ k = 21 ∨ k = 22 ∨ k = 23 ∨ k = 24) with rfl | rfl | rfl | rfl | rfl | rfl | rfl | rfl | rfl
    · rw [show codeG 14 n l.length bd = 148 by simp [codeG, pickC, smallC, codeS], data_of]
      rfl
    · rw [show codeG 17 n l.length bd = 152 by simp [codeG, pickC, smallC, codeS], data_of]
      rfl
    · show stepP (rD 176 18 N s l.length inn) (stepP (rD 160 18 N s l.length inn) none 160) 176 = _
      rw [best_two (fun c => rD c 18 N s l.length inn) 160 176 _ _ sm (hrS (by decide)).1 (hrS (by decide)).2 (hrL (by decide)) (fun _ => by show (T.data (V.of 18 n s a c0 e l) 160).length ≤ (T.data (V.of 18 n s a c0 e l) 176).length; rw [data_of, data_of]; simp [digs_length]; try omega)]
      rw [show codeG 18 n l.length bd = pickC 18 sm by rw [← hsm]; simp [codeG]]
      cases sm <;> rfl
    · show stepP (rD 177 19 N s l.length inn) (stepP (rD 161 19 N s l.length inn) none 161) 177 = _
      rw [best_two (fun c => rD c 19 N s l.length inn) 161 177 _ _ sm (hrS (by decide)).1 (hrS (by decide)).2 (hrL (by decide)) (fun _ => by show (T.data (V.of 19 n s a c0 e l) 161).length ≤ (T.data (V.of 19 n s a c0 e l) 177).length; rw [data_of, data_of]; simp [digs_length]; try omega)]
      rw [show codeG 19 n l.length bd = pickC 19 sm by rw [← hsm]; simp [codeG]]
      cases sm <;> rfl
    · show stepP (rD 179 20 N s l.length inn) (stepP (rD 163 20 N s l.length inn) none 163) 179 = _
      rw [best_two (fun c => rD c 20 N s l.length inn) 163 179 _ _ sm (hrS (by decide)).1 (hrS (by decide)).2 (hrL (by decide)) (fun _ => by show (T.data (V.of 20 n s a c0 e l) 163).length ≤ (T.data (V.of 20 n s a c0 e l) 179).length; rw [data_of, data_of]; simp [digs_length]; try omega)]
      rw [show codeG 20 n l.length bd = pickC 20 sm by rw [← hsm]; simp [codeG]]
      cases sm <;> rfl
    · by_cases hl0 : l.length = 0
      · rw [show codeG 21 n l.length bd = 69 by simp [codeG, hl0], data_of]
        show stepP (spanB 4 l.length inn, true) (stepP (spanB 1 l.length inn, decide (l.length ≤ 255) && decide (1 + inn.length ≤ 255)) (stepP ([], decide (l.length = 0)) none 69) 192) 208 = _
        rw [decide_eq_true hl0, stepP_none]
        generalize (decide (l.length ≤ 255) && decide (1 + inn.length ≤ 255)) = b
        cases b
        · rw [stepP_no, stepP_ge _ _ _ _ (by simp)]
          rfl
        · rw [stepP_ge _ _ _ _ (by simp), stepP_ge _ _ _ _ (by simp)]
          rfl
      · show stepP (rD 208 21 N s l.length inn) (stepP (rD 192 21 N s l.length inn) (stepP ([], decide (l.length = 0)) none 69) 192) 208 = _
        rw [decide_eq_false hl0, stepP_no]
        rw [best_two (fun c => rD c 21 N s l.length inn) 192 208 _ _ sm (hrS (by decide)).1 (hrS (by decide)).2 (hrL (by decide)) (fun _ => by show (T.data (V.of 21 n s a c0 e l) 192).length ≤ (T.data (V.of 21 n s a c0 e l) 208).length; rw [data_of, data_of]; simp [digs_length]; try omega)]
        rw [show codeG 21 n l.length bd = pickC 21 sm by rw [← hsm]; simp [codeG, hl0]]
        cases sm <;> rfl
    · show stepP (rD 209 22 N s l.length inn) (stepP (rD 193 22 N s l.length inn) none 193) 209 = _
      rw [best_two (fun c => rD c 22 N s l.length inn) 193 209 _ _ sm (hrS (by decide)).1 (hrS (by decide)).2 (hrL (by decide)) (fun _ => by show (T.data (V.of 22 n s a c0 e l) 193).length ≤ (T.data (V.of 22 n s a c0 e l) 209).length; rw [data_of, data_of]; simp [digs_length]; try omega)]
      rw [show codeG 22 n l.length bd = pickC 22 sm by rw [← hsm]; simp [codeG]]
      cases sm <;> rfl
    · show stepP (rD 240 23 N s l.length inn) (stepP (rD 224 23 N s l.length inn) none 224) 240 = _
      rw [best_two (fun c => rD c 23 N s l.length inn) 224 240 _ _ sm (hrS (by decide)).1 (hrS (by decide)).2 (hrL (by decide)) (fun _ => by show (T.data (V.of 23 n s a c0 e l) 224).length ≤ (T.data (V.of 23 n s a c0 e l) 240).length; rw [data_of, data_of]; simp [digs_length]; try omega)]
      rw [show codeG 23 n l.length bd = pickC 23 sm by rw [← hsm]; simp [codeG]]
      cases sm <;> rfl
    · rw [show codeG 24 n l.length bd = 0 by simp [codeG, pickC, smallC, codeS], data_of, hin]
      rfl
end E
namespace E
open Go.RowKit Go.Deep
theorem encs_ge (l : List V) : l.length ≤ (encs l).length := by
  induction l with
  | nil => simp
  | cons x l ih =>
    have : encs (x :: l) = T.enc x ++ encs l := by unfold encs; simp
    rw [this, List.length_append]
    unfold T.enc
    simp only [List.length_cons]
    omega
theorem datas_cons (c : Nat) (x : V) (l : List V) : datas c (x :: l) = T.data x c ++ datas c l := by unfold datas; simp
theorem head_pos (e : Int) (b : Bool) (he : 1 ≤ e ∧ e ≤ 23) : 1 ≤ headC (pickC e.toNat b) ∧ headC (pickC e.toNat true) ≤ headC (pickC e.toNat false) := by
  rcases (by omega : e = 1 ∨ e = 2 ∨ e = 3 ∨ e = 4 ∨ e = 5 ∨ e = 6 ∨ e = 7 ∨ e = 8 ∨ e = 9 ∨ e = 10 ∨ e = 11 ∨ e = 12 ∨ e = 13 ∨ e = 14 ∨ e = 15 ∨ e = 16 ∨ e = 17 ∨ e = 18 ∨ e = 19 ∨ e = 20 ∨ e = 21 ∨ e = 22 ∨ e = 23) with rfl | rfl | rfl | rfl | rfl | rfl | rfl | rfl | rfl | rfl | rfl | rfl | rfl | rfl | rfl | rfl | rfl | rfl | rfl | rfl | rfl | rfl | rfl <;> cases b <;> decide
theorem acode_of (n : Int) (s : ByteArray) (a : Option Addr) (c0 : Nat) (e : Int) (l : List V) : T.acode (V.of 23 n s a c0 e l) = pickC e.toNat (l.all fun x => smallC x.k x.n (T.body x)) := by
  unfold T.acode acodeG
  rw [V.e_of, V.l_of, List.all_map]
  rfl
section
variable {B : Nat → ByteArray → Int} {W : List T → Bool}
theorem datas_ge (c : Nat) (l : List V) (hp : 1 ≤ headC c) (f : Nat) (hg : ∀ x ∈ l, Gd B W x f) (hf : ∀ x ∈ l, FitsC x c) : l.length ≤ (datas c l).length := by
  induction l with
  | nil => simp
  | cons x l ih =>
    rw [datas_cons, List.length_append, data_len B W x f c (hg x (by simp)) (hf x (by simp))]
    have := ih (fun y hy => hg y (by simp [hy])) (fun y hy => hf y (by simp [hy]))
    simp only [List.length_cons]
    omega
theorem datas_mono (c d : Nat) (l : List V) (hp : headC c ≤ headC d) (f : Nat) (hg : ∀ x ∈ l, Gd B W x f) (hf : ∀ x ∈ l, FitsC x c) (hf2 : ∀ x ∈ l, FitsC x d) : (datas c l).length ≤ (datas d l).length := by
  induction l with
  | nil => exact Nat.le_refl _
  | cons x l ih =>
    rw [datas_cons, datas_cons, List.length_append, List.length_append, data_len B W x f c (hg x (by simp)) (hf x (by simp)), data_len B W x f d (hg x (by simp)) (hf2 x (by simp))]
    have := ih (fun y hy => hg y (by simp [hy])) (fun y hy => hf y (by simp [hy])) (fun y hy => hf2 y (by simp [hy]))
    omega
theorem body_facts (k n : Int) (s : ByteArray) (a : Option Addr) (c0 : Nat) (e : Int) (l : List V) (f : Nat) (hg : Gd B W (V.of k n s a c0 e l) f) :
    (k = 18 ∨ k = 19 ∨ k = 20 → T.body (V.of k n s a c0 e l) = s.size) ∧ (k = 21 ∨ k = 22 ∨ k = 23 → (innF k (T.acode (V.of k n s a c0 e l)) l).length = T.body (V.of k n s a c0 e l) ∧ l.length ≤ T.body (V.of k n s a c0 e l)) := by
  refine ⟨fun h => ?_, fun h => ?_⟩
  · rw [body_of]
    unfold bodyG
    rw [if_pos h]
  · obtain ⟨hf0, ho, hs⟩ := (Gd_of B W k n s a c0 e l f).1 hg
    have hL := data_len B W _ f (pickC k.toNat false) hg (.inr (.inl (by rw [V.k_of])))
    rw [data_of] at hL
    rcases h with rfl | rfl | rfl
    · have e1 : (digs (4 + T.body (V.of 21 n s a c0 e l)) 4 ++ (digs l.length 4 ++ encs l)).length = 8 + T.body (V.of 21 n s a c0 e l) := hL
      simp only [List.length_append, digs_length] at e1
      have e2 : (encs l).length = T.body (V.of 21 n s a c0 e l) := by omega
      exact ⟨e2, e2 ▸ encs_ge l⟩
    · have e1 : (digs (4 + T.body (V.of 22 n s a c0 e l)) 4 ++ (digs l.length 4 ++ encs l)).length = 8 + T.body (V.of 22 n s a c0 e l) := hL
      simp only [List.length_append, digs_length] at e1
      have e2 : (encs l).length = T.body (V.of 22 n s a c0 e l) := by omega
      exact ⟨e2, e2 ▸ encs_ge l⟩
    · have e1 : (digs (4 + T.body (V.of 23 n s a c0 e l)) 4 ++ (digs l.length 4 ++ (T.acode (V.of 23 n s a c0 e l) :: datas (T.acode (V.of 23 n s a c0 e l)) l))).length = 8 + T.body (V.of 23 n s a c0 e l) := hL
      simp only [List.length_append, digs_length, List.length_cons] at e1
      have e2 : (T.acode (V.of 23 n s a c0 e l) :: datas (T.acode (V.of 23 n s a c0 e l)) l).length = T.body (V.of 23 n s a c0 e l) := by rw [List.length_cons]; omega
      obtain ⟨_, _, h1, h2, h3⟩ := ho.isArr rfl
      have h4 := datas_ge (B := B) (W := W) (T.acode (V.of 23 n s a c0 e l)) l (by rw [acode_of]; exact (head_pos e _ (by omega)).1) (f - 1) hs (fits_acode h3)
      exact ⟨e2, by rw [← e2, List.length_cons]; omega⟩
def innV (x : V) : List Nat := innF x.k (T.acode x) x.l
theorem elem_S (x : V) (f : Nat) (hg : Gd B W x f) (hk : 1 ≤ x.k ∧ x.k ≤ 23) : (dX innV (pickC x.k.toNat true) x).2 = smallC x.k x.n (T.body x) ∧ (smallC x.k x.n (T.body x) = true → (dX innV (pickC x.k.toNat true) x).1 = T.data x (pickC x.k.toNat true)) ∧ dX innV (pickC x.k.toNat false) x = (T.data x (pickC x.k.toNat false), true) := by
  obtain ⟨k, n, s, a, c, e, l, rfl⟩ := V.ex x
  obtain ⟨b1, b2⟩ := body_facts k n s a c e l f hg
  obtain ⟨_, ho, _⟩ := (Gd_of B W k n s a c e l f).1 hg
  unfold dX innV
  rw [V.k_of] at hk ⊢
  rw [V.n_of, V.s_of, V.l_of]
  have hn : n = ((n.toNat : Nat) : Int) := by have := ho.n0; omega
  have hN : n.toNat < 18446744073709551616 := by have := ho.n1; have := ho.n0; omega
  have hnum : (k = 1 → n.toNat ≤ 1) ∧ (k = 2 → n.toNat ≤ 255) ∧ (k = 3 → n.toNat ≤ 65535) ∧ (k = 4 ∨ k = 10 ∨ k = 12 → n.toNat ≤ 4294967295) ∧ (k = 6 → n.toNat ≤ 127 ∨ 18446744073709551488 ≤ n.toNat) ∧ (k = 7 → n.toNat ≤ 32767 ∨ 18446744073709518848 ≤ n.toNat) ∧ (k = 8 → n.toNat ≤ 2147483647 ∨ 18446744071562067968 ≤ n.toNat) ∧ (k = 15 → n.toNat ≤ 1114111) := by
    obtain ⟨m1, m2, m3, m4, m6, m7, m8, m15⟩ := ho.num
    have := ho.n0
    exact ⟨fun h => by have := m1 h; omega, fun h => by have := m2 h; omega, fun h => by have := m3 h; omega, fun h => by have := m4 h; omega, fun h => by have := m6 h; omega, fun h => by have := m7 h; omega, fun h => by have := m8 h; omega, fun h => by have := m15 h; omega⟩
  have hS := rd_S k n s a c e l n.toNat _ hk hn hN hnum b1 rfl b2
  exact ⟨hS.1, hS.2, rd_L k n s a c e l n.toNat _ hk hn hN hnum b1 rfl b2⟩
theorem flat_congr (g h : V → List Nat) (l : List V) (e : ∀ x ∈ l, g x = h x) : (l.map g).flatten = (l.map h).flatten := by rw [List.map_congr_left e]
theorem unif_of (e : Int) (l : List V) (n : Int) (s : ByteArray) (a : Option Addr) (c0 : Nat) (f : Nat) (he : 1 ≤ e ∧ e ≤ 23) (hk : ∀ x ∈ l, x.k = e) (hg : ∀ x ∈ l, Gd B W x f) :
    bestF (uF innV l) (ucs (codesK e)) = some (T.acode (V.of 23 n s a c0 e l), datas (T.acode (V.of 23 n s a c0 e l)) l) := by
  have hS : (uF innV l (pickC e.toNat true)).2 = l.all fun x => smallC x.k x.n (T.body x) := by
    unfold uF
    show (l.all fun x => (dX innV (pickC e.toNat true) x).2) = _
    rw [Bool.eq_iff_iff, List.all_eq_true, List.all_eq_true]
    constructor
    · intro h x hx
      have h1 := (elem_S x f (hg x hx) (by rw [hk x hx]; exact he)).1
      rw [hk x hx] at h1
      rw [hk x hx, ← h1]
      exact h x hx
    · intro h x hx
      have h1 := (elem_S x f (hg x hx) (by rw [hk x hx]; exact he)).1
      rw [hk x hx] at h1
      rw [h1]
      have := h x hx
      rwa [hk x hx] at this
  have hS1 : (l.all fun x => smallC x.k x.n (T.body x)) = true → (uF innV l (pickC e.toNat true)).1 = datas (pickC e.toNat true) l := fun h => by
    unfold uF datas
    refine flat_congr _ _ l fun x hx => ?_
    have h1 := (elem_S x f (hg x hx) (by rw [hk x hx]; exact he)).2.1 (List.all_eq_true.1 h x hx)
    rwa [hk x hx] at h1
  have hL : uF innV l (pickC e.toNat false) = (datas (pickC e.toNat false) l, true) := by
    unfold uF datas
    have h1 : ∀ x ∈ l, dX innV (pickC e.toNat false) x = (T.data x (pickC e.toNat false), true) := fun x hx => by
      have h1 := (elem_S x f (hg x hx) (by rw [hk x hx]; exact he)).2.2
      rwa [hk x hx] at h1
    rw [flat_congr _ (fun x => T.data x (pickC e.toNat false)) l (fun x hx => by rw [h1 x hx])]
    rw [show (l.all fun x => (dX innV (pickC e.toNat false) x).2) = true from List.all_eq_true.2 (fun x hx => by rw [h1 x hx])]
  have hlen : (l.all fun x => smallC x.k x.n (T.body x)) = true → (datas (pickC e.toNat true) l).length ≤ (datas (pickC e.toNat false) l).length := fun h =>
    datas_mono _ _ l (head_pos e true he).2 f hg (fun x hx => .inr (.inr ⟨by rw [hk x hx], List.all_eq_true.1 h x hx⟩)) (fun x hx => .inr (.inl (by rw [hk x hx])))
  have hone : pickC e.toNat true = pickC e.toNat false → (l.all fun x => smallC x.k x.n (T.body x)) = true ∨ True := fun _ => .inr trivial
  rw [acode_of]
  generalize (l.all fun x => smallC x.k x.n (T.body x)) = sm at *
  have two : ∀ S L, pickC e.toNat true = S → pickC e.toNat false = L → bestF (uF innV l) [S, L] = some (pickC e.toNat sm, datas (pickC e.toNat sm) l) := fun S L h1 h2 => by
    show stepP (uF innV l L) (stepP (uF innV l S) none S) L = _
    rw [h1] at hS hS1 hlen
    rw [h2] at hL hlen
    rw [best_two (uF innV l) S L (datas S l) (datas L l) sm hS hS1 hL hlen]
    cases sm
    · rw [h2]; rfl
    · rw [h1]; rfl
  have one : ∀ L, pickC e.toNat true = L → pickC e.toNat false = L → bestF (uF innV l) [L] = some (pickC e.toNat sm, datas (pickC e.toNat sm) l) := fun L h1 h2 => by
    show stepP (uF innV l L) none L = _
    rw [h2] at hL
    rw [hL, stepP_none]
    cases sm
    · rw [h2]
    · rw [h1]
  rcases (by omega : e = 1 ∨ e = 2 ∨ e = 3 ∨ e = 4 ∨ e = 5 ∨ e = 6 ∨ e = 7 ∨ e = 8 ∨ e = 9 ∨ e = 10 ∨ e = 11 ∨ e = 12 ∨ e = 13 ∨ e = 14 ∨ e = 15 ∨ e = 16 ∨ e = 17 ∨ e = 18 ∨ e = 19 ∨ e = 20 ∨ e = 21 ∨ e = 22 ∨ e = 23) with rfl | rfl | rfl | rfl | rfl | rfl | rfl | rfl | rfl | rfl | rfl | rfl | rfl | rfl | rfl | rfl | rfl | rfl | rfl | rfl | rfl | rfl | rfl
  · exact one 86 rfl rfl
  · exact one 80 rfl rfl
  · exact one 96 rfl rfl
  · exact two 82 112 rfl rfl
  · exact two 83 128 rfl rfl
  · exact one 81 rfl rfl
  · exact one 97 rfl rfl
  · exact two 84 113 rfl rfl
  · exact two 85 129 rfl rfl
  · exact one 114 rfl rfl
  · exact one 130 rfl rfl
  · exact one 116 rfl rfl
  · exact one 132 rfl rfl
  · exact one 148 rfl rfl
  · exact one 115 rfl rfl
  · exact one 131 rfl rfl
  · exact one 152 rfl rfl
  · exact two 160 176 rfl rfl
  · exact two 161 177 rfl rfl
  · exact two 163 179 rfl rfl
  · exact two 192 208 rfl rfl
  · exact two 193 209 rfl rfl
  · exact two 224 240 rfl rfl
end
end E
namespace E
open Go.RowKit Go.Deep
theorem mem_sum {A : Type} (g : A → Nat) (l : List A) {x : A} (h : x ∈ l) : g x ≤ (l.map g).sum := by
  induction l with
  | nil => cases h
  | cons y l ih =>
    rw [List.map_cons, List.sum_cons]
    rcases List.mem_cons.1 h with rfl | h
    · omega
    · have := ih h; omega
theorem rD_len (c : Nat) (k : Int) (N : Nat) (s : ByteArray) (len : Nat) (inn : List Nat) : (rD c k N s len inn).1.length ≤ 16 + s.size + inn.length := by
  have hw : (widC c).toNat ≤ 16 := by
    unfold widC
    repeat' split
    all_goals decide
  unfold rD
  repeat' split
  all_goals simp [spanB, digs_length, txt_len]
  all_goals omega
theorem pick_lt (e : Int) (b : Bool) (he : 1 ≤ e ∧ e ≤ 23) : pickC e.toNat b < 256 := by
  rcases (by omega : e = 1 ∨ e = 2 ∨ e = 3 ∨ e = 4 ∨ e = 5 ∨ e = 6 ∨ e = 7 ∨ e = 8 ∨ e = 9 ∨ e = 10 ∨ e = 11 ∨ e = 12 ∨ e = 13 ∨ e = 14 ∨ e = 15 ∨ e = 16 ∨ e = 17 ∨ e = 18 ∨ e = 19 ∨ e = 20 ∨ e = 21 ∨ e = 22 ∨ e = 23) with rfl | rfl | rfl | rfl | rfl | rfl | rfl | rfl | rfl | rfl | rfl | rfl | rfl | rfl | rfl | rfl | rfl | rfl | rfl | rfl | rfl | rfl | rfl <;> cases b <;> decide
section
variable {B : Nat → ByteArray → Int} {W : List T → Bool}
theorem body_part (k n : Int) (s : ByteArray) (a : Option Addr) (c0 : Nat) (e : Int) (l : List V) (f : Nat) (hg : Gd B W (V.of k n s a c0 e l) f) (x : V) (hx : x ∈ l) : T.body x ≤ T.body (V.of k n s a c0 e l) := by
  obtain ⟨_, ho, _⟩ := (Gd_of B W k n s a c0 e l f).1 hg
  rw [body_of]
  unfold bodyG
  by_cases h1 : k = 18 ∨ k = 19 ∨ k = 20
  · obtain ⟨_, h2, _⟩ := ho.isText (by omega)
    rw [h2] at hx
    cases hx
  · rw [if_neg h1]
    split
    · refine Nat.le_trans (mem_sum (fun x : V => T.body x) l hx) ?_
      rw [List.map_map]
      exact Nat.le_trans (Nat.le_add_right _ _) (Nat.le_add_left _ _)
    · rw [List.map_map]
      exact Nat.le_trans (Nat.le_add_left _ _) (mem_sum (fun x : V => 1 + headC (codeG x.k x.n x.l.length (T.body x)) + T.body x) l hx)
theorem own_small (x : V) (f : Nat) (hg : Gd B W x f) : x.s.size ≤ 16 + T.body x ∧ x.l.length ≤ 16 + T.body x ∧ (innV x).length ≤ T.body x ∧ x.s.size + (innV x).length ≤ 16 + T.body x := by
  obtain ⟨k, n, s, a, c, e, l, rfl⟩ := V.ex x
  obtain ⟨b1, b2⟩ := body_facts k n s a c e l f hg
  obtain ⟨_, ho, _⟩ := (Gd_of B W k n s a c e l f).1 hg
  unfold innV
  rw [V.k_of, V.s_of, V.l_of]
  have hk0 := ho.k0
  have hk1 := ho.k1
  have he0 : (e0 : ByteArray).size = 0 := rfl
  by_cases h1 : k = 18 ∨ k = 19 ∨ k = 20
  · have := b1 h1
    obtain ⟨_, h2, _⟩ := ho.isText (by omega)
    have hi : (innF k (T.acode (V.of k n s a c e l)) l).length = 0 := by unfold innF; rw [if_neg (by omega), if_neg (by omega)]; rfl
    have hl0 : l.length = 0 := by rw [h2]; rfl
    omega
  by_cases h2 : k = 21 ∨ k = 22 ∨ k = 23
  · obtain ⟨b3, b4⟩ := b2 h2
    have hs : s.size = 0 := by
      rcases h2 with h | h | h
      · rw [(ho.isList (by omega)).2.1]; rfl
      · rw [(ho.isList (by omega)).2.1]; rfl
      · rw [(ho.isArr h).2.1]; rfl
    omega
  by_cases h3 : k = 24
  · subst h3
    have hL := data_len B W _ f 0 hg (.inr (.inl (by rw [V.k_of]; rfl)))
    rw [data_of] at hL
    have e1 : (encs l).length = 0 + T.body (V.of 24 n s a c e l) := hL
    have hi : (innF 24 (T.acode (V.of 24 n s a c e l)) l).length = (encs l).length := rfl
    have h4 := ho.desc rfl
    have hs : s.size = 0 := by rw [(ho.isList (by omega)).2.1]; rfl
    omega
  · have hi : (innF k (T.acode (V.of k n s a c e l)) l).length = 0 := by unfold innF; rw [if_neg (by omega), if_neg (by omega)]; rfl
    by_cases h4 : k = 14 ∨ k = 17
    · have := ho.six h4
      obtain ⟨_, h5, _⟩ := ho.isText (by omega)
      have hl0 : l.length = 0 := by rw [h5]; rfl
      omega
    · obtain ⟨h5, h6, _⟩ := ho.isNum (by omega)
      have hl0 : l.length = 0 := by rw [h6]; rfl
      have hs0 : s.size = 0 := by rw [h5]; rfl
      omega
end
end E
namespace E
open Go.RowKit Go.Deep
theorem t_words (x : V) : x.t.k = x.k ∧ x.t.n = x.n ∧ x.t.s = x.s ∧ x.t.l.length = x.l.length := by
  obtain ⟨k, n, s, a, c, e, l, rfl⟩ := V.ex x
  rw [V.t_of]
  unfold T.of
  rw [V.k_of, V.k_of, V.n_of, V.n_of, V.s_of, V.s_of, V.l_of, V.l_of, V.ts_length]
  exact ⟨rfl, rfl, rfl, rfl⟩
theorem dX_t (c : Nat) (x : V) : dX (fun x => innV x.t) c x = dX innV c x.t := by
  obtain ⟨h1, h2, h3, h4⟩ := t_words x
  unfold dX
  rw [h1, h2, h3, h4]
theorem uF_t (l : List V) : uF (fun x => innV x.t) l = uF innV (V.ts l) := by
  funext c
  unfold uF
  rw [V.ts_map, List.map_map, List.all_map]
  simp only [dX_t]
  rfl
theorem sum_le {A : Type} (g h : A → Nat) (l : List A) (e : ∀ x ∈ l, g x ≤ h x) : (l.map g).sum ≤ (l.map h).sum := by
  induction l with
  | nil => exact Nat.le_refl _
  | cons y l ih =>
    rw [List.map_cons, List.map_cons, List.sum_cons, List.sum_cons]
    have := e y (by simp)
    have := ih (fun x hx => e x (by simp [hx]))
    omega
theorem flat_len (g : V → List Nat) (l : List V) : (l.map g).flatten.length = (l.map fun x => (g x).length).sum := by
  rw [List.length_flatten, List.map_map]
  rfl
section
variable {B : Nat → ByteArray → Int} {W : List T → Bool}
theorem uF_len (n : Int) (s : ByteArray) (e : Int) (l : List V) (f : Nat) (hg : Gd B W (V.of 23 n s none 0 e l) f) (c : Nat) : (uF innV l c).1.length ≤ 33 * T.body (V.of 23 n s none 0 e l) := by
  obtain ⟨_, ho, hs⟩ := (Gd_of B W 23 n s none 0 e l f).1 hg
  obtain ⟨_, b2⟩ := body_facts 23 n s none 0 e l f hg
  have h1 := (b2 (by decide)).2
  have h2 : (l.map fun x : V => T.body x).sum ≤ T.body (V.of 23 n s none 0 e l) := by
    rw [body_of]
    unfold bodyG
    rw [if_neg (show ¬ ((23 : Int) = 18 ∨ (23 : Int) = 19 ∨ (23 : Int) = 20) by decide), if_pos rfl, List.map_map]
    exact Nat.le_trans (Nat.le_add_right _ _) (Nat.le_add_left _ _)
  show ((l.map fun x => (dX innV c x).1).flatten).length ≤ _
  rw [flat_len]
  have h3 := sum_le (fun x : V => (dX innV c x).1.length) (fun x : V => 32 + T.body x) l (fun x hx => by
    have h4 := own_small x (f - 1) (hs x hx)
    have h5 := rD_len c x.k x.n.toNat x.s x.l.length (innV x)
    show (rD c x.k x.n.toNat x.s x.l.length (innV x)).1.length ≤ _
    omega)
  have h6 := sum_plus l (fun x : V => T.body x) 32
  omega
end
def EnOk (v : V) : Prop := ∀ f, Gd badB twiceW v.t f → T.body v.t ≤ 1000000000 → WiOk v (innV v.t) ∧ ShOk v
theorem enc_ok : ∀ v : V, EnOk v := by
  refine V.ind ?_
  intro k n s a c e l ih f hg hb
  rw [V.t_of] at hg hb
  unfold T.of at hg hb
  obtain ⟨hf0, ho, hs⟩ := (Gd_of badB twiceW k n s none 0 e (V.ts l) f).1 hg
  have hpart : ∀ x ∈ l, Gd badB twiceW x.t (f - 1) ∧ T.body x.t ≤ 1000000000 := fun x hx => ⟨hs _ (mem_ts hx), Nat.le_trans (body_part k n s none 0 e (V.ts l) f hg x.t (mem_ts hx)) hb⟩
  have ihx : ∀ x ∈ l, WiOk x (innV x.t) ∧ ShOk x := fun x hx => ih x hx (f - 1) (hpart x hx).1 (hpart x hx).2
  have hown := own_small _ f hg
  rw [V.s_of, V.l_of, V.ts_length] at hown
  have hinn : innV (V.of k n s none 0 e (V.ts l)) = innF k (T.acode (V.of k n s none 0 e (V.ts l))) (V.ts l) := by unfold innV; rw [V.k_of, V.l_of]
  have hW : WiOk (V.of k n s a c e l) (innV (V.of k n s a c e l).t) := by
    intro n₀ w hn hx
    rw [V.t_of]
    unfold T.of
    by_cases h1 : k = 21 ∨ k = 22 ∨ k = 24
    · have hi : innV (V.of k n s none 0 e (V.ts l)) = encs (V.ts l) := by rw [hinn]; unfold innF; rw [if_pos h1]
      rw [hi] at hown ⊢
      refine within_list _ w _ (by rw [V.k_of]; exact h1) (fun w1 hb1 => ?_)
      rw [V.a_of, V.l_of, V.c_of]
      refine elements_any a c n₀ l w1 (Nat.le_trans hn hb1.size) (fun h0 => ?_) (fun x hxm => (hx.sub x hxm).keep hb1 hn) (fun x hxm => (ihx x hxm).2) (fun x hxm => ?_) hx.ok.l hx.ok.c (by omega)
      · obtain ⟨b, o, h2, h3, h4⟩ := hx.row h0
        exact ⟨b, o, h2, h3, h4.below hb1 (by omega)⟩
      · obtain ⟨k', n', s', a', c', e', l', hxe⟩ := V.ex x.t
        have hgx := (hpart x hxm).1
        have hgx2 := hgx
        rw [hxe] at hgx2
        obtain ⟨_, ho', _⟩ := (Gd_of badB twiceW k' n' s' a' c' e' l' (f - 1)).1 hgx2
        exact (kind_code (t := x.t) (.inl rfl) (by rw [hxe, V.k_of]; exact ho'.k0) (by rw [hxe, V.k_of]; exact ho'.k1)).2
    · by_cases h2 : k = 23
      · subst h2
        obtain ⟨_, _, he0, he1, hke⟩ := ho.isArr rfl
        have hi : innV (V.of 23 n s none 0 e (V.ts l)) = T.acode (V.of 23 n s none 0 e (V.ts l)) :: datas (T.acode (V.of 23 n s none 0 e (V.ts l))) (V.ts l) := hinn
        rw [hi] at hown ⊢
        have hac : T.acode (V.of 23 n s none 0 e (V.ts l)) < 256 := by rw [acode_of]; exact pick_lt e _ (by omega)
        refine within_arr _ w _ _ (by rw [V.k_of]) hac (by simp only [List.length_cons] at hown; omega) (fun w1 hb1 => ?_)
        have hu := uniform_best (V.of 23 n s a c e l) (fun x => innV x.t) n₀ w1 (Nat.le_trans hn hb1.size) (hx.keep hb1 hn) (by rw [V.l_of, V.c_of]; exact hx.ok.l) (by
            rw [V.l_of, V.a_of]
            intro h0
            obtain ⟨b, o, h2, h3, h4⟩ := hx.row h0
            exact ⟨b, o, h2, h3, h4.below hb1 (by omega)⟩) (by rw [V.l_of]; exact fun x hxm => (hx.sub x hxm).keep hb1 hn) (by rw [V.l_of]; exact fun x hxm => (ihx x hxm).1) (by rw [V.e_of]; omega) (by
            rw [V.l_of]
            intro x hxm
            obtain ⟨w1', w2', w3', w4'⟩ := t_words x
            have hgx := (hpart x hxm).1
            have hbx := (hpart x hxm).2
            have hos := own_small x.t (f - 1) hgx
            obtain ⟨k', n', s', a', c', e', l', hxe⟩ := V.ex x.t
            rw [hxe] at hgx
            obtain ⟨_, ho', _⟩ := (Gd_of badB twiceW k' n' s' a' c' e' l' (f - 1)).1 hgx
            have e1 : x.k = k' := by rw [← w1', hxe, V.k_of]
            have e2 : x.n = n' := by rw [← w2', hxe, V.n_of]
            rw [← w3', ← w4']
            have := ho'.k0
            have := ho'.k1
            have := ho'.n0
            have := ho'.n1
            exact ⟨by omega, by omega, by omega, by omega, by omega⟩) (by
            rw [V.l_of, V.e_of, uF_t]
            intro c' _
            have := uF_len n s e (V.ts l) f hg c'
            omega) (by
            rw [V.l_of]
            have h9 := ((body_facts 23 n s none 0 e (V.ts l) f hg).2 (by decide)).2
            rw [V.ts_length] at h9
            omega)
        rw [V.l_of, V.e_of, uF_t, unif_of (B := badB) (W := twiceW) e (V.ts l) n s none 0 (f - 1) (by omega) hke hs] at hu
        rw [V.k_of, V.n_of, V.s_of, V.a_of, V.l_of, V.c_of, V.e_of] at *
        exact hu
      · have hi : innV (V.of k n s none 0 e (V.ts l)) = [] := by rw [hinn]; unfold innF; rw [if_neg h1, if_neg h2]
        rw [hi]
        refine within_none _ w ?_
        rw [V.k_of]
        exact ⟨⟨beq_eq_false_iff_ne.2 (by omega), beq_eq_false_iff_ne.2 (by omega)⟩, beq_eq_false_iff_ne.2 (by omega), beq_eq_false_iff_ne.2 h2⟩
  refine ⟨hW, fun n₀ w hn hx => ?_⟩
  have hN : n = ((n.toNat : Nat) : Int) := by have := ho.n0; omega
  obtain ⟨b1, b2⟩ := body_facts k n s none 0 e (V.ts l) f hg
  have hbest := best_of badB twiceW k n s none 0 e (V.ts l) n.toNat (innV (V.of k n s none 0 e (V.ts l))) hN ho b1 hinn (by rw [hinn]; exact b2)
  have hsh := shortest_best (V.of k n s a c e l) (innV (V.of k n s a c e l).t) n₀ w hn hx hW (by rw [V.k_of]; exact ⟨ho.k0, ho.k1⟩) n.toNat (by rw [V.n_of]; exact hN) (by have := ho.n1; have := ho.n0; omega) (by rw [V.s_of]; omega) (by rw [V.l_of]; omega) (by rw [V.t_of]; unfold T.of; omega) _ rfl
  rw [V.t_of] at hsh ⊢
  unfold T.of at hsh ⊢
  rw [V.k_of, V.s_of, V.l_of] at hsh
  rw [V.ts_length] at hbest
  rw [hbest] at hsh
  exact hsh
end E
end Go.Proofs.YthhlpjhkeendcaaGreatDoor
