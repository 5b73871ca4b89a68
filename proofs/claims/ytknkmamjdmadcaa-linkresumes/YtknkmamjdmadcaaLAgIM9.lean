import Derived.Test.YtknkmamjdmadcaaLPairM9

/- LinkAgree: what stands between two turns. -/
namespace Go.Proofs.Ytknkmamjdmadcaa
open Go.RowKit Go.Maps
set_option linter.unusedVariables false
set_option linter.unusedSimpArgs false

/-- a load of a struct within a block -/
theorem mid_run {P : Program} {e : Operand → Value} (W : World) (op : Oper) (ty : TypeId) (x : Operand) (ho : op.op = .load ty x) (b o : Nat) (cs : List Value) (hx : e x = .pointer (some ⟨b, o, none⟩)) (hb : W.rangeAt b o cs) (d : TypeDesc) (hu : P.underlying ty = some d) (hd : d.isRow = true) (hi : (P.info? ty).map (·.size) = some cs.length) :
    (execOp e op).run P W = .ok (.value (.agg cs.toArray)) W := by
  have := run_loadVar_mid (P := P) W b o ty cs d hb hu hd hi
  unfold execOp
  simp only [ho, hx, Instr.loadAt, Instr.sureAddr, Sem.run_bind, Sem.run_pure, Result.andThen_ok, this]
theorem range_row {W : World} {b : Nat} {cs : List Value} {t : TypeId} {fr : Nat × Nat} (h : W.heap[b]? = some (.cells ⟨cs⟩ t fr)) (pre mid post : List Value) (e : cs = pre ++ mid ++ post) : W.rangeAt b pre.length mid := fun j v hv => by
  refine cellOf h _ _ ?_
  have hj : j < mid.length := (List.getElem?_eq_some_iff.1 hv).1
  rw [List.getElem?_toArray, e, List.getElem?_append_left (by simp; omega), List.getElem?_append_right (by omega), Nat.add_sub_cancel_left]
  exact hv
theorem it_range {W : World} {b : Nat} {x : Itm} {t : TypeId} {fr : Nat × Nat} (h : W.heap[b]? = some (.cells ⟨x.enc⟩ t fr)) : W.rangeAt b 1 x.fA.toList :=
  range_row h [.int .i64 x.k] x.fA.toList [.string x.tg, .bool x.fg] (by simp [Itm.enc])
theorem fA_size (x : Itm) : x.fA.size = 128 := by
  obtain ⟨k, fl, hd, tg, fg⟩ := x
  cases fl <;> kernel_rfl
theorem fA_len (x : Itm) : (Try.prog.info? 57).map (·.size) = some x.fA.toList.length := by
  rw [Try.infoPf, Array.length_toList, fA_size]
theorem it_cells {W : World} {b : Nat} {x : Itm} {t : TypeId} (h : W.heap[b]? = some (.cells ⟨x.enc⟩ t (0, 0))) : W.cell? ⟨b, 0, none⟩ = some (.int .i64 x.k) ∧ W.cell? ⟨b, 129, none⟩ = some (.string x.tg) ∧ W.cell? ⟨b, 130, none⟩ = some (.bool x.fg) ∧ b < W.heap.size := by
  refine ⟨cellOf h 0 _ rfl, cellOf h 129 _ ?_, cellOf h 130 _ ?_, (Array.getElem?_eq_some_iff.1 h).1⟩
  all_goals
    obtain ⟨k, fl, hd, tg, fg⟩ := x
    cases fl <;> kernel_rfl
/-- the first is cut off -/
theorem Wy.cut {A : Type} {K : WK A} (hK : K.Ok) {w : World} {base : Nat} {v : Value} {x : A} {W : List A} (h : Wy K w base v (x :: W)) : ∃ g off cap av cv, v = .slice (some ⟨g, off, none⟩) (W.length + 1) cap ∧ W.length + 1 ≤ cap ∧ g < w.heap.size ∧ w.rangeAt g off (K.enc x) ∧ (∀ u, (Instr.slice K.ts v (some (.int .i64 1)) none none).run Try.prog u = .ok (.slice av W.length cv) u) ∧ Wy K w base (.slice av W.length cv) W ∧ (Value.slice av W.length cv).ownBlock = v.ownBlock := by
  obtain ⟨i, z, hi, hz, hzs, his, hib⟩ := hK.info
  obtain ⟨g, off, cap, rfl, h1, h2, h3, h4, h5, h6⟩ := h.head hK
  by_cases hc : cap - 1 = 0
  · refine ⟨g, off, cap, some ⟨g, off, none⟩, 0, rfl, h1, h3, h4, fun u => ?_, h6 hc, rfl⟩
    have e1 : cap = 1 := by omega
    subst e1
    have hW : W.length = 0 := by omega
    simp [Instr.slice, run_underlying hK.und, Instr.sliceBounds, Instr.sliceBound, asIntOf, sizeOf, typeInfo, hi, his, hW, go_sem]
  · refine ⟨g, off, cap, some ⟨g, off + K.n, none⟩, cap - 1, rfl, h1, h3, h4, fun u => ?_, h5, rfl⟩
    have e2 : ¬ cap = 1 := by omega
    simp [Instr.slice, run_underlying hK.und, Instr.sliceBounds, Instr.sliceBound, asIntOf, sizeOf, typeInfo, hi, his, e2, go_sem, Addr.add]
    rw [if_pos (by omega), if_neg (by have := hK.pos; omega)]
structure Lf (sec : Bool) (md : Int) (s r : Lk) : Prop where
  sr : s.rc = false
  sa : s.av = 0
  sm : s.sm = md
  sq : s.rm = if sec then 1 else 0
  rr : r.rc = true
  ra : r.av = 0
  rm : r.sm = md
  rq : r.rm = if sec then 1 else 0
section
variable {n0 e p L a b : Int} {s r f : Lk} {O B : List Li} {sec : Bool} {md : Int}
theorem Ag.scb (h : Ag n0 e p L a b s r O B) : 0 ≤ s.cr ∧ s.cr ≤ 4294967295 := by
  have h1 := h.scr
  have h2 := h.le
  have h3 := h.bp
  have h4 := h.eb
  rw [h1]
  unfold greater
  split <;> omega
theorem Ag.rcb (h : Ag n0 e p L a b s r O B) : 0 ≤ r.cr ∧ r.cr ≤ 4294967295 := by
  have h1 := h.rcr
  have h2 := h.Lb
  have h3 := h.bp
  rw [h1]
  unfold greater
  split <;> omega
theorem Ag.congr {s' r' : Lk} (h : Ag n0 e p L a b s r O B) (h1 : s'.ct = s.ct) (h2 : s'.cr = s.cr) (h3 : r'.ct = r.ct) (h4 : r'.cr = r.cr) (h5 : r'.bd = r.bd) : Ag n0 e p L a b s' r' O B :=
  ⟨h1.trans h.sc, h3.trans h.rc, h5.trans h.rb, h2.trans h.scr, h4.trans h.rcr, h.p0, h.eb, h.bp, h.Lb, h.ox, h.bx⟩
theorem Ag.grants (h : Ag n0 e p L a b s r O (some f :: B)) : 0 ≤ f.ct ∧ 0 ≤ f.cr ∧ f.cr ≤ 2147483647 := by
  obtain ⟨m, m1, m2, x, q, a1, a2, a3, a4, a5, a6, a7, a8⟩ := h.bx
  omega
theorem Ag.flows (h : Ag n0 e p L a b s r (some f :: O) B) : 0 ≤ f.ct := by
  obtain ⟨q, q1, q2, q3⟩ := h.ox
  omega
theorem Lf.oneS (h : Lf sec md s r) : Lf sec md s.one r := ⟨h.sr, by show greater 0 (s.av - 1) = 0; rw [h.sa]; rfl, h.sm, h.sq, h.rr, h.ra, h.rm, h.rq⟩
theorem Lf.oneR (h : Lf sec md s r) : Lf sec md s r.one := ⟨h.sr, h.sa, h.sm, h.sq, h.rr, by show greater 0 (r.av - 1) = 0; rw [h.ra]; rfl, h.rm, h.rq⟩
theorem Lf.onS (h : Lf sec md s r) (n : Int) : Lf sec md (s.on n) r := ⟨h.sr, h.sa, h.sm, h.sq, h.rr, h.ra, h.rm, h.rq⟩
theorem Lf.onR (h : Lf sec md s r) (n : Int) {v : Int} (hv : v = 0) : Lf sec md s (({ r with av := v } : Lk).on n) := ⟨h.sr, h.sa, h.sm, h.sq, h.rr, hv, h.rm, h.rq⟩
theorem Lf.hear (h : Lf sec md s r) (c d : Int) (t : Bool) : Lf sec md (s.hearR c d t) r := ⟨h.sr, h.sa, h.sm, h.sq, h.rr, h.ra, h.rm, h.rq⟩
theorem Lf.grant (h : Lf sec md s r) (c : Int) (t : Bool) : Lf sec md s (r.grant c t) := ⟨h.sr, h.sa, h.sm, h.sq, h.rr, h.ra, h.rm, h.rq⟩
end
def fls (O : List Itm) : List Li := O.map (·.fl)
/-- all that stands -/
structure Al (sec : Bool) (md : Int) (N M : Nat) (n0 e p L a b : Int) (s r : Lk) (Ts Tr : List (ByteArray × Dv)) (O B : List Itm) (G : List ByteArray) : Prop where
  ag : Ag n0 e p L a b s r (fls O) (fls B)
  tg : Tg sec N md Ts Tr O B G
  lf : Lf sec md s r
  lo : O.length + G.length ≤ M
  lb : B.length ≤ M
  ln : N ≤ M
def InvR (z : Nat) (w0 : World) (k gs gr N M : Nat) (sec : Bool) (md : Int) (s : Lk) (Ts : List (ByteArray × Dv)) (vB : Value) (B : List Itm) (n0 e L a b : Int) (w : World) (m : Nat) : Prop := ∃ r Tr vO vG O G p, O.length = m ∧ Pm z w0 w k gs gr N s r Ts Tr vO vB vG O B G ∧ Al sec md N M n0 e p L a b s r Ts Tr O B G
def InvS (z : Nat) (w0 : World) (k gs gr N M : Nat) (sec : Bool) (md : Int) (r : Lk) (Tr : List (ByteArray × Dv)) (vO vG : Value) (O : List Itm) (G : List ByteArray) (n0 e p L b : Int) (w : World) (m : Nat) : Prop := ∃ s Ts vB B a, B.length = m ∧ Pm z w0 w k gs gr N s r Ts Tr vO vB vG O B G ∧ Al sec md N M n0 e p L a b s r Ts Tr O B G
def wlenC (w : World) (k c : Nat) : Nat := match w.cell? ⟨k, c, none⟩ with
  | some (.slice _ n _) => n
  | _ => 0
section
variable {z : Nat} {w0 w : World} {k gs gr N M m : Nat} {sec : Bool} {md n0 e p L a b : Int} {s r : Lk} {Ts Tr : List (ByteArray × Dv)} {vO vB vG : Value} {O B : List Itm} {G : List ByteArray}
theorem InvR.len (h : InvR z w0 k gs gr N M sec md s Ts vB B n0 e L a b w m) : wlenC w k 2 = m := by
  obtain ⟨r, Tr, vO, vG, O, G, p, hm, h1, _⟩ := h
  obtain ⟨x, c, rfl⟩ := h1.wo.shape
  unfold wlenC
  rw [h1.facts.2.2.1]
  exact hm
theorem InvS.len (h : InvS z w0 k gs gr N M sec md r Tr vO vG O G n0 e p L b w m) : wlenC w k 3 = m := by
  obtain ⟨s, Ts, vB, B, a, hm, h1, _⟩ := h
  obtain ⟨x, c, rfl⟩ := h1.wb.shape
  unfold wlenC
  rw [h1.facts.2.2.2.1]
  exact hm
/-- a Flow of the sender comes -/
theorem Al.drained {x : Itm} (h : Al sec md N M n0 e p L a b s r Ts Tr (x :: O) B G) (hk : x.k = 2) : ∃ f, x.fl = some f ∧ x.hd = 5 ∧ f.rc = false ∧ f.av = 0 ∧ 0 ≤ f.ct ∧ 0 < gapZ r.ct f.ct ∧ gapZ r.ct f.ct ≤ gapZ r.ct r.bd ∧ ∃ q, Al sec md N M n0 e q L a b s (({ r with av := 0 % 4294967296 } : Lk).on (gapZ r.ct f.ct)) Ts Tr O B G := by
  rcases h.tg.oW x (by simp) with ⟨h1, _⟩ | ⟨_, f, h2, h3, h4, h5⟩
  · omega
  have hag : Ag n0 e p L a b s r (some f :: fls O) (fls B) := by have := h.ag; unfold fls at this; rw [List.map_cons, h2] at this; exact this
  obtain ⟨g1, g2, q, g3⟩ := hag.drained (0 % 4294967296)
  have := h.lo
  exact ⟨f, h2, h3, h4, h5, hag.flows, g1, g2, q, g3, h.tg.drained hk, h.lf.onR _ rfl, by simp at this; omega, h.lb, h.ln⟩
/-- a delivery comes -/
theorem Al.gotS {x : Itm} (h : Al sec md N M n0 e p L a b s r Ts Tr (x :: O) B G) (hk : x.k = 1) (hf : x.fg = true) : hasK Tr x.tg = false ∧ x.tg.size = 5 ∧ md ≠ 0 ∧ r.ct ≠ r.bd ∧ Al sec md N M n0 e (p + 1) L a b s r.one Ts Tr O B G := by
  obtain ⟨g1, g2, g3⟩ := h.tg.gotS hk hf
  rcases h.tg.oW x (by simp) with ⟨_, h2, h3, h4⟩ | ⟨h1, _⟩
  · have hag : Ag n0 e p L a b s r (none :: fls O) (fls B) := by have := h.ag; unfold fls at this; rw [List.map_cons, h2] at this; exact this
    obtain ⟨q1, q2⟩ := hag.got
    have := h.lo
    exact ⟨g1, g2, h3 hf, q1, q2.congr rfl rfl rfl rfl rfl, g3, h.lf.oneR, by simp at this; omega, h.lb, h.ln⟩
  · omega
theorem Al.gotO {x : Itm} (h : Al sec md N M n0 e p L a b s r Ts Tr (x :: O) B G) (hS : (keys Ts).Nodup) (hk : x.k = 1) (hf : x.fg = false) : hasK Tr x.tg = false ∧ x.tg.size = 5 ∧ md ≠ 1 ∧ r.ct ≠ r.bd ∧ Al sec md N M n0 e (p + 1) L a b s r.one Ts ((x.tg, dv0) :: Tr) O B (G ++ [x.tg]) := by
  obtain ⟨g1, g2, g3⟩ := h.tg.gotO hS hk hf
  rcases h.tg.oW x (by simp) with ⟨_, h2, h3, h4⟩ | ⟨h1, _⟩
  · have hag : Ag n0 e p L a b s r (none :: fls O) (fls B) := by have := h.ag; unfold fls at this; rw [List.map_cons, h2] at this; exact this
    obtain ⟨q1, q2⟩ := hag.got
    have := h.lo
    exact ⟨g1, g2, h4 hf, q1, q2.congr rfl rfl rfl rfl rfl, g3, h.lf.oneR, by simp at *; omega, h.lb, h.ln⟩
  · omega
/-- a grant comes -/
theorem Al.heard {x : Itm} (h : Al sec md N M n0 e p L a b s r Ts Tr O (x :: B) G) (hk : x.k = 0) : ∃ f, x.fl = some f ∧ x.hd = 3 ∧ 0 ≤ f.ct ∧ 0 ≤ f.cr ∧ ∃ a', Al sec md N M n0 e p L a' b (s.hearR f.ct f.cr f.dr) r Ts Tr O B G := by
  rcases h.tg.bW x (by simp) with ⟨h1, _⟩ | ⟨_, f, h2, h3⟩
  · omega
  have hag : Ag n0 e p L a b s r (fls O) (some f :: fls B) := by have := h.ag; unfold fls at this; rw [List.map_cons, h2] at this; exact this
  obtain ⟨f1, f2, f3⟩ := hag.grants
  obtain ⟨a', g⟩ := hag.heard f.dr f3
  have := h.lb
  exact ⟨f, h2, h3, f1, f2, a', g, h.tg.granted hk, h.lf.hear _ _ _, h.lo, by simp at this; omega, h.ln⟩
/-- what is said of a delivery comes -/
theorem Al.said {x : Itm} (h : Al sec md N M n0 e p L a b s r Ts Tr O (x :: B) G) (hS : (keys Ts).Nodup) (hk : x.k = 5) : x.fl = none ∧ x.fg = !sec ∧ x.tg.size = 5 ∧ hasK Ts x.tg = true ∧ (∃ q, lu dv0 Ts x.tg = (q, 0)) ∧ (sec = false → Al sec md N M n0 e p L a b s r (del Ts x.tg) Tr O B G) ∧ (sec = true → ∀ t, Al sec md N M n0 e p L a b s r ((x.tg, t) :: del Ts x.tg) Tr O B G) := by
  obtain ⟨g1, g2, g3⟩ := h.tg.said hS hk
  rcases h.tg.bW x (by simp) with ⟨_, h2, h3⟩ | ⟨h1, _⟩
  · have hag : Ag n0 e p L a b s r (fls O) (none :: fls B) := by have := h.ag; unfold fls at this; rw [List.map_cons, h2] at this; exact this
    have hlb := h.lb
    refine ⟨h2, h3, g1, g2, g3, fun hs => ?_, fun hs t => ?_⟩
    · subst hs
      exact ⟨hag.said, h.tg.saidS hS hk, h.lf, h.lo, by simp at hlb; omega, h.ln⟩
    · subst hs
      exact ⟨hag.said, h.tg.saidO hS hk, h.lf, h.lo, by simp at hlb; omega, h.ln⟩
  · omega
end
end Go.Proofs.Ytknkmamjdmadcaa
