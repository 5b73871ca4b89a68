import Derived.Test.YtknkmamjdmadcaaLUnsWM9
import Derived.Test.YtknkmamjdmadcaaLAwkM9

/- LinkAgree: the pair in memory. -/
namespace Go.Proofs.Ytknkmamjdmadcaa
open Go.RowKit Go.Maps
set_option linter.unusedVariables false
set_option linter.unusedSimpArgs false

def pf0 : Array Value := pfA 0 0 0 0 0 0 0 0 0 0 0 false
def flA : Option Lk → Int → Array Value
  | none, _ => pf0
  | some l, hd => l.flow hd
def Itm.fA (x : Itm) : Array Value := flA x.fl x.hd
def Itm.enc (x : Itm) : List Value := .int .i64 x.k :: (x.fA.toList ++ [.string x.tg, .bool x.fg])
theorem it_len (x : Itm) : x.enc.length = 131 := by
  obtain ⟨k, fl, hd, tg, fg⟩ := x
  cases fl <;> kernel_rfl
theorem it_all (x : Itm) : x.enc.all (·.oneCell') = true := by
  obtain ⟨k, fl, hd, tg, fg⟩ := x
  cases fl <;> kernel_rfl
theorem it_one (x : Itm) : ∀ u ∈ x.enc, u.oneCell' = true := fun u hu => List.all_eq_true.1 (it_all x) u hu
theorem it_size (x : Itm) : (⟨x.enc⟩ : Array Value).size = 131 := it_len x
theorem itA_all (x : Itm) : (⟨x.enc⟩ : Array Value).all (·.oneCell') = true := by
  obtain ⟨k, fl, hd, tg, fg⟩ := x
  cases fl <;> kernel_rfl
theorem Try.infoIt : (Try.prog.info? 86).map (fun i => (i.zero.map (·.cells.size), i.size, i.bytes)) = some (some 131, 131, 1456) := by kernel_rfl
theorem Try.infoIs : (Try.prog.info? 86).map (·.size) = some 131 := by kernel_rfl
theorem Try.infoSs : (Try.prog.info? 9).map (fun i => (i.zero.map (·.cells.size), i.size, i.bytes)) = some (some 1, 1, 16) := by kernel_rfl
def itK : WK Itm := ⟨Itm.enc, 131, 1456, 86, 29⟩
theorem itOk : itK.Ok := ⟨it_len, it_one, Try.underlying29, info3 Try.infoIt, by decide, by decide, by decide⟩
def stK : WK ByteArray := ⟨fun s => [.string s], 1, 16, 9, 30⟩
theorem stOk : stK.Ok := ⟨fun _ => rfl, fun x u hu => by rw [List.mem_singleton.1 hu]; rfl, Try.underlying30, info3 Try.infoSs, by decide, by decide, by decide⟩
/-- the kind of a block -/
def tyB (w : World) (j : Nat) : Option TypeId := match w.heap[j]? with
  | some (.cells _ t _) => some t
  | _ => none
theorem ty_cells {w : World} {j : Nat} {c : Array Value} {t : TypeId} {f : Nat × Nat} (h : w.heap[j]? = some (.cells c t f)) : tyB w j = some t := by unfold tyB; rw [h]
theorem TbD.ty {w : World} {b : Nat} {T : List (ByteArray × Dv)} (h : TbD w b T) : tyB w b = none := by
  obtain ⟨D, ⟨es, c, h1, _⟩, _⟩ := h
  unfold tyB
  rw [h1]
theorem Lnk.ty {w : World} {g j : Nat} {l : Lk} {T : List (ByteArray × Dv)} (h : Lnk w g l T) (hj : inL g l j) : tyB w j = some 84 ∨ tyB w j = none := by
  rcases hj with rfl | rfl
  · exact .inl (ty_cells h.lb)
  · exact .inr h.tb.ty
theorem Wy.ty {A : Type} {K : WK A} {w : World} {base j : Nat} {v : Value} {W : List A} (h : Wy K w base v W) (e : v.ownBlock = some j) : tyB w j = some K.t := by
  obtain ⟨cur, hc⟩ := h.typ e
  exact ty_cells hc
def pmA (gs gr N : Nat) (vO vB vG : Value) : Array Value := #[.pointer (some ⟨gs, 0, none⟩), .pointer (some ⟨gr, 0, none⟩), vO, vB, .int .i64 (N : Int), vG]
/-- the pair: two links, what is under way, what has come -/
structure Pm (z : Nat) (w0 w : World) (k gs gr N : Nat) (s r : Lk) (Ts Tr : List (ByteArray × Dv)) (vO vB vG : Value) (O B : List Itm) (G : List ByteArray) : Prop where
  b : w.heap[k]? = some (.cells (pmA gs gr N vO vB vG) 32 (0, 0))
  ls : Lnk w gs s Ts
  lr : Lnk w gr r Tr
  ap : ∀ j, inL gs s j → ¬ inL gr r j
  wo : Wy itK w z vO O
  wb : Wy itK w z vB B
  wg : Wy stK w z vG G
  vv : ∀ j, vO.ownBlock = some j → vB.ownBlock ≠ some j
  zk : z ≤ k
  zs : ∀ j, inL gs s j → z ≤ j
  zr : ∀ j, inL gr r j → z ≤ j
  bel : Below z w0 w
  zz : z ≤ w.heap.size
section
variable {z : Nat} {w0 w w' w1 : World} {k gs gr N : Nat} {s r s' r' : Lk} {Ts Tr Ts' Tr' : List (ByteArray × Dv)} {vO vB vG v' : Value} {O B O' B' : List Itm} {G G' : List ByteArray}
theorem Pm.lt (h : Pm z w0 w k gs gr N s r Ts Tr vO vB vG O B G) : k < w.heap.size := (Array.getElem?_eq_some_iff.1 h.b).1
theorem Pm.ty (h : Pm z w0 w k gs gr N s r Ts Tr vO vB vG O B G) : tyB w k = some 32 := ty_cells h.b
theorem Pm.facts (h : Pm z w0 w k gs gr N s r Ts Tr vO vB vG O B G) : w.cell? ⟨k, 0, none⟩ = some (.pointer (some ⟨gs, 0, none⟩)) ∧ w.cell? ⟨k, 1, none⟩ = some (.pointer (some ⟨gr, 0, none⟩)) ∧ w.cell? ⟨k, 2, none⟩ = some vO ∧ w.cell? ⟨k, 3, none⟩ = some vB ∧ w.cell? ⟨k, 4, none⟩ = some (.int .i64 (N : Int)) ∧ w.cell? ⟨k, 5, none⟩ = some vG ∧ (∀ o, w.frozen? ⟨k, o, none⟩ = false) ∧ k < w.heap.size :=
  ⟨cellOf h.b 0 _ rfl, cellOf h.b 1 _ rfl, cellOf h.b 2 _ rfl, cellOf h.b 3 _ rfl, cellOf h.b 4 _ rfl, cellOf h.b 5 _ rfl, fun o => by simp [World.frozen?, h.b], h.lt⟩
theorem Pm.go (h : Pm z w0 w k gs gr N s r Ts Tr vO vB vG O B G) (hb : Below w.heap.size w w') : Pm z w0 w' k gs gr N s r Ts Tr vO vB vG O B G :=
  ⟨(hb.block _ h.lt).trans h.b, h.ls.below hb, h.lr.below hb, h.ap, h.wo.at fun j e => hb.block _ (h.wo.lt e).2, h.wb.at fun j e => hb.block _ (h.wb.lt e).2, h.wg.at fun j e => hb.block _ (h.wg.lt e).2, h.vv, h.zk, h.zs, h.zr, h.bel.trans (hb.mono h.zz), Nat.le_trans h.zz hb.size⟩
theorem ne_ty {a b : Nat} {t u : Option TypeId} (h1 : tyB w a = t) (h2 : tyB w b = u) (h : t ≠ u) : a ≠ b := fun e => h (h1.symm.trans ((congrArg (tyB w) e).trans h2))
/-- a link's block is none of the others' -/
theorem Pm.linkK (h : Pm z w0 w k gs gr N s r Ts Tr vO vB vG O B G) {j : Nat} (hj : tyB w j = some 84 ∨ tyB w j = none) : j ≠ k ∧ vO.ownBlock ≠ some j ∧ vB.ownBlock ≠ some j ∧ vG.ownBlock ≠ some j := by
  refine ⟨?_, fun e => ?_, fun e => ?_, fun e => ?_⟩
  · rcases hj with hj | hj <;> exact ne_ty hj h.ty (by decide)
  · have := h.wo.ty e
    rcases hj with hj | hj <;> exact ne_ty hj this (by decide) rfl
  · have := h.wb.ty e
    rcases hj with hj | hj <;> exact ne_ty hj this (by decide) rfl
  · have := h.wg.ty e
    rcases hj with hj | hj <;> exact ne_ty hj this (by decide) rfl
theorem Pm.sender (h : Pm z w0 w k gs gr N s r Ts Tr vO vB vG O B G) (hl : Lnk w' gs s' Ts') (hm : s'.dm = s.dm) (hk : Kp (inL gs s) w w') : Pm z w0 w' k gs gr N s' r Ts' Tr vO vB vG O B G := by
  have far := fun j (hj : inL gs s j) => h.linkK (h.ls.ty hj)
  have em : ∀ j, inL gs s' j → inL gs s j := fun j hj => by unfold inL at *; rw [hm] at hj; exact hj
  exact ⟨(hk.block h.lt fun e => (far _ e).1 rfl).trans h.b, hl, h.lr.kp hk fun j h1 h2 => h.ap j h2 h1, fun j hj => h.ap j (em j hj), h.wo.at fun j e => hk.block (h.wo.lt e).2 fun e' => (far j e').2.1 e, h.wb.at fun j e => hk.block (h.wb.lt e).2 fun e' => (far j e').2.2.1 e, h.wg.at fun j e => hk.block (h.wg.lt e).2 fun e' => (far j e').2.2.2 e, h.vv, h.zk, fun j hj => h.zs j (em j hj), h.zr, h.bel.trans (hk.toBelow h.zz fun j hj e => by have := h.zs j e; omega), Nat.le_trans h.zz hk.size⟩
theorem Pm.recv (h : Pm z w0 w k gs gr N s r Ts Tr vO vB vG O B G) (hl : Lnk w' gr r' Tr') (hm : r'.dm = r.dm) (hk : Kp (inL gr r) w w') : Pm z w0 w' k gs gr N s r' Ts Tr' vO vB vG O B G := by
  have far := fun j (hj : inL gr r j) => h.linkK (h.lr.ty hj)
  have em : ∀ j, inL gr r' j → inL gr r j := fun j hj => by unfold inL at *; rw [hm] at hj; exact hj
  exact ⟨(hk.block h.lt fun e => (far _ e).1 rfl).trans h.b, h.ls.kp hk fun j h1 h2 => h.ap j h1 h2, hl, fun j hj hj' => h.ap j hj (em j hj'), h.wo.at fun j e => hk.block (h.wo.lt e).2 fun e' => (far j e').2.1 e, h.wb.at fun j e => hk.block (h.wb.lt e).2 fun e' => (far j e').2.2.1 e, h.wg.at fun j e => hk.block (h.wg.lt e).2 fun e' => (far j e').2.2.2 e, h.vv, h.zk, h.zs, fun j hj => h.zr j (em j hj), h.bel.trans (hk.toBelow h.zz fun j hj e => by have := h.zr j e; omega), Nat.le_trans h.zz hk.size⟩
theorem Pm.num (h : Pm z w0 w k gs gr N s r Ts Tr vO vB vG O B G) (M : Nat) : Pm z w0 (w.setCell ⟨k, 4, none⟩ (.int .i64 (M : Int))) k gs gr M s r Ts Tr vO vB vG O B G := by
  have kp : Kp (fun j => j = k) w (w.setCell ⟨k, 4, none⟩ (.int .i64 (M : Int))) := kp_self (Kp.refl _ w) _ _
  have fs := fun j (hj : inL gs s j) => h.linkK (h.ls.ty hj)
  have fr := fun j (hj : inL gr r j) => h.linkK (h.lr.ty hj)
  refine ⟨?_, h.ls.kp kp fun j hj e => (fs j hj).1 e, h.lr.kp kp fun j hj e => (fr j hj).1 e, h.ap, h.wo.at fun j e => kp.block (h.wo.lt e).2 fun e' => ne_ty (h.wo.ty e) h.ty (by decide) e', h.wb.at fun j e => kp.block (h.wb.lt e).2 fun e' => ne_ty (h.wb.ty e) h.ty (by decide) e', h.wg.at fun j e => kp.block (h.wg.lt e).2 fun e' => ne_ty (h.wg.ty e) h.ty (by decide) e', h.vv, h.zk, h.zs, h.zr, h.bel.trans (kp.toBelow h.zz fun j hj e => by have := h.zk; omega), by simpa using h.zz⟩
  have := h.b
  simp [World.setCell, Array.getElem?_modify, this, pmA]
/-- one more is put to O -/
theorem Pm.pushO (h : Pm z w0 w k gs gr N s r Ts Tr vO vB vG O B G) {o : Obj} {x : Itm} (ho : Wy itK w1 z v' (O ++ [x])) (hg : (w.alloc o).grownBy w1 vO.ownBlock) (hat : ∀ j, v'.ownBlock = some j → vO.ownBlock = some j ∨ (w.alloc o).heap.size ≤ j) :
    Pm z w0 (w1.setCell ⟨k, 2, none⟩ v') k gs gr N s r Ts Tr v' vB vG (O ++ [x]) (B) (G) ∧ w1.heap[k]? = w.heap[k]? ∧ w.heap.size < w1.heap.size := by
  have hs1 : (w.alloc o).heap.size = w.heap.size + 1 := by simp
  rw [hs1] at hat
  have kp : Kp (fun j => j = k ∨ vO.ownBlock = some j) w (w1.setCell ⟨k, 2, none⟩ v') := (((Kp.refl _ w).alloc o).grown hg fun j e => .inl (.inr e)).setCell (.inl rfl) _
  have fs := fun j (hj : inL gs s j) => h.linkK (h.ls.ty hj)
  have fr := fun j (hj : inL gr r j) => h.linkK (h.lr.ty hj)
  have hko : vO.ownBlock ≠ some k := fun e => ne_ty (h.wo.ty e) h.ty (by decide) rfl
  have hv' : v'.ownBlock ≠ some k := fun e => (hat k e).elim hko (fun e => by have := h.lt; omega)
  have old : w1.heap[k]? = w.heap[k]? := (hg.block k (by have := h.lt; omega) (fun e => hko e.symm)).trans ((bel1 (Below.refl w.heap.size w) (Nat.le_refl _) o).block k h.lt)
  refine ⟨⟨?_, h.ls.kp kp fun j hj e => e.elim (fs j hj).1 (fs j hj).2.1, h.lr.kp kp fun j hj e => e.elim (fr j hj).1 (fr j hj).2.1, h.ap, ho.at fun j e => blk_set_other _ _ _ _ (fun (e' : j = k) => hv' (e' ▸ e)), h.wb.at fun j e => kp.block (h.wb.lt e).2 fun e' => e'.elim (fun e' => ne_ty (h.wb.ty e) h.ty (by decide) e') (fun e' => h.vv j e' e), h.wg.at fun j e => kp.block (h.wg.lt e).2 fun e' => e'.elim (fun e' => ne_ty (h.wg.ty e) h.ty (by decide) e') (fun e' => ne_ty (h.wg.ty e) (h.wo.ty e') (by decide) rfl), fun j e1 e2 => (hat j e1).elim (fun e => h.vv j e e2) (fun e => by have := (h.wb.lt e2).2; omega), h.zk, h.zs, h.zr, h.bel.trans (kp.toBelow h.zz fun j hj e => ?_), ?_⟩, old, by have := hg.size; omega⟩
  · have := old.trans h.b
    simp [World.setCell, Array.getElem?_modify, this, pmA]
  · rcases e with e | e
    · have := h.zk
      omega
    · have := (h.wo.lt e).1
      omega
  · have h1 := hg.size
    have h2 := h.zz
    have h3 : (w1.setCell ⟨k, 2, none⟩ v').heap.size = w1.heap.size := by simp
    omega
/-- the first of O is taken -/
theorem Pm.popO (h : Pm z w0 w k gs gr N s r Ts Tr vO vB vG O B G) (ho : Wy itK w z v' O') (he : v'.ownBlock = vO.ownBlock) : Pm z w0 (w.setCell ⟨k, 2, none⟩ v') k gs gr N s r Ts Tr v' vB vG (O') (B) (G) := by
  have kp : Kp (fun j => j = k) w (w.setCell ⟨k, 2, none⟩ v') := kp_self (Kp.refl _ w) _ _
  have fs := fun j (hj : inL gs s j) => h.linkK (h.ls.ty hj)
  have fr := fun j (hj : inL gr r j) => h.linkK (h.lr.ty hj)
  have hko : vO.ownBlock ≠ some k := fun e => ne_ty (h.wo.ty e) h.ty (by decide) rfl
  refine ⟨?_, h.ls.kp kp fun j hj e => (fs j hj).1 e, h.lr.kp kp fun j hj e => (fr j hj).1 e, h.ap, ho.at fun j e => blk_set_other _ _ _ _ (fun (e' : j = k) => hko (he ▸ e' ▸ e)), h.wb.at fun j e => kp.block (h.wb.lt e).2 fun e' => ne_ty (h.wb.ty e) h.ty (by decide) e', h.wg.at fun j e => kp.block (h.wg.lt e).2 fun e' => ne_ty (h.wg.ty e) h.ty (by decide) e', fun j e1 e2 => h.vv j (he ▸ e1) e2, h.zk, h.zs, h.zr, h.bel.trans (kp.toBelow h.zz fun j hj e => by have := h.zk; omega), by simpa using h.zz⟩
  have := h.b
  simp [World.setCell, Array.getElem?_modify, this, pmA]
/-- one more is put to B -/
theorem Pm.pushB (h : Pm z w0 w k gs gr N s r Ts Tr vO vB vG O B G) {o : Obj} {x : Itm} (ho : Wy itK w1 z v' (B ++ [x])) (hg : (w.alloc o).grownBy w1 vB.ownBlock) (hat : ∀ j, v'.ownBlock = some j → vB.ownBlock = some j ∨ (w.alloc o).heap.size ≤ j) :
    Pm z w0 (w1.setCell ⟨k, 3, none⟩ v') k gs gr N s r Ts Tr vO v' vG (O) (B ++ [x]) (G) ∧ w1.heap[k]? = w.heap[k]? ∧ w.heap.size < w1.heap.size := by
  have hs1 : (w.alloc o).heap.size = w.heap.size + 1 := by simp
  rw [hs1] at hat
  have kp : Kp (fun j => j = k ∨ vB.ownBlock = some j) w (w1.setCell ⟨k, 3, none⟩ v') := (((Kp.refl _ w).alloc o).grown hg fun j e => .inl (.inr e)).setCell (.inl rfl) _
  have fs := fun j (hj : inL gs s j) => h.linkK (h.ls.ty hj)
  have fr := fun j (hj : inL gr r j) => h.linkK (h.lr.ty hj)
  have hko : vB.ownBlock ≠ some k := fun e => ne_ty (h.wb.ty e) h.ty (by decide) rfl
  have hv' : v'.ownBlock ≠ some k := fun e => (hat k e).elim hko (fun e => by have := h.lt; omega)
  have old : w1.heap[k]? = w.heap[k]? := (hg.block k (by have := h.lt; omega) (fun e => hko e.symm)).trans ((bel1 (Below.refl w.heap.size w) (Nat.le_refl _) o).block k h.lt)
  refine ⟨⟨?_, h.ls.kp kp fun j hj e => e.elim (fs j hj).1 (fs j hj).2.2.1, h.lr.kp kp fun j hj e => e.elim (fr j hj).1 (fr j hj).2.2.1, h.ap, h.wo.at fun j e => kp.block (h.wo.lt e).2 fun e' => e'.elim (fun e' => ne_ty (h.wo.ty e) h.ty (by decide) e') (fun e' => h.vv j e e'), ho.at fun j e => blk_set_other _ _ _ _ (fun (e' : j = k) => hv' (e' ▸ e)), h.wg.at fun j e => kp.block (h.wg.lt e).2 fun e' => e'.elim (fun e' => ne_ty (h.wg.ty e) h.ty (by decide) e') (fun e' => ne_ty (h.wg.ty e) (h.wb.ty e') (by decide) rfl), fun j e1 e2 => (hat j e2).elim (fun e => h.vv j e1 e) (fun e => by have := (h.wo.lt e1).2; omega), h.zk, h.zs, h.zr, h.bel.trans (kp.toBelow h.zz fun j hj e => ?_), ?_⟩, old, by have := hg.size; omega⟩
  · have := old.trans h.b
    simp [World.setCell, Array.getElem?_modify, this, pmA]
  · rcases e with e | e
    · have := h.zk
      omega
    · have := (h.wb.lt e).1
      omega
  · have h1 := hg.size
    have h2 := h.zz
    have h3 : (w1.setCell ⟨k, 3, none⟩ v').heap.size = w1.heap.size := by simp
    omega
/-- the first of B is taken -/
theorem Pm.popB (h : Pm z w0 w k gs gr N s r Ts Tr vO vB vG O B G) (ho : Wy itK w z v' B') (he : v'.ownBlock = vB.ownBlock) : Pm z w0 (w.setCell ⟨k, 3, none⟩ v') k gs gr N s r Ts Tr vO v' vG (O) (B') (G) := by
  have kp : Kp (fun j => j = k) w (w.setCell ⟨k, 3, none⟩ v') := kp_self (Kp.refl _ w) _ _
  have fs := fun j (hj : inL gs s j) => h.linkK (h.ls.ty hj)
  have fr := fun j (hj : inL gr r j) => h.linkK (h.lr.ty hj)
  have hko : vB.ownBlock ≠ some k := fun e => ne_ty (h.wb.ty e) h.ty (by decide) rfl
  refine ⟨?_, h.ls.kp kp fun j hj e => (fs j hj).1 e, h.lr.kp kp fun j hj e => (fr j hj).1 e, h.ap, h.wo.at fun j e => kp.block (h.wo.lt e).2 fun e' => ne_ty (h.wo.ty e) h.ty (by decide) e', ho.at fun j e => blk_set_other _ _ _ _ (fun (e' : j = k) => hko (he ▸ e' ▸ e)), h.wg.at fun j e => kp.block (h.wg.lt e).2 fun e' => ne_ty (h.wg.ty e) h.ty (by decide) e', fun j e1 e2 => h.vv j e1 (he ▸ e2), h.zk, h.zs, h.zr, h.bel.trans (kp.toBelow h.zz fun j hj e => by have := h.zk; omega), by simpa using h.zz⟩
  have := h.b
  simp [World.setCell, Array.getElem?_modify, this, pmA]
/-- one more is put to G -/
theorem Pm.pushG (h : Pm z w0 w k gs gr N s r Ts Tr vO vB vG O B G) {o : Obj} {x : ByteArray} (ho : Wy stK w1 z v' (G ++ [x])) (hg : (w.alloc o).grownBy w1 vG.ownBlock) (hat : ∀ j, v'.ownBlock = some j → vG.ownBlock = some j ∨ (w.alloc o).heap.size ≤ j) :
    Pm z w0 (w1.setCell ⟨k, 5, none⟩ v') k gs gr N s r Ts Tr vO vB v' (O) (B) (G ++ [x]) ∧ w1.heap[k]? = w.heap[k]? ∧ w.heap.size < w1.heap.size := by
  have hs1 : (w.alloc o).heap.size = w.heap.size + 1 := by simp
  rw [hs1] at hat
  have kp : Kp (fun j => j = k ∨ vG.ownBlock = some j) w (w1.setCell ⟨k, 5, none⟩ v') := (((Kp.refl _ w).alloc o).grown hg fun j e => .inl (.inr e)).setCell (.inl rfl) _
  have fs := fun j (hj : inL gs s j) => h.linkK (h.ls.ty hj)
  have fr := fun j (hj : inL gr r j) => h.linkK (h.lr.ty hj)
  have hko : vG.ownBlock ≠ some k := fun e => ne_ty (h.wg.ty e) h.ty (by decide) rfl
  have hv' : v'.ownBlock ≠ some k := fun e => (hat k e).elim hko (fun e => by have := h.lt; omega)
  have old : w1.heap[k]? = w.heap[k]? := (hg.block k (by have := h.lt; omega) (fun e => hko e.symm)).trans ((bel1 (Below.refl w.heap.size w) (Nat.le_refl _) o).block k h.lt)
  refine ⟨⟨?_, h.ls.kp kp fun j hj e => e.elim (fs j hj).1 (fs j hj).2.2.2, h.lr.kp kp fun j hj e => e.elim (fr j hj).1 (fr j hj).2.2.2, h.ap, h.wo.at fun j e => kp.block (h.wo.lt e).2 fun e' => e'.elim (fun e' => ne_ty (h.wo.ty e) h.ty (by decide) e') (fun e' => ne_ty (h.wo.ty e) (h.wg.ty e') (by decide) rfl), h.wb.at fun j e => kp.block (h.wb.lt e).2 fun e' => e'.elim (fun e' => ne_ty (h.wb.ty e) h.ty (by decide) e') (fun e' => ne_ty (h.wb.ty e) (h.wg.ty e') (by decide) rfl), ho.at fun j e => blk_set_other _ _ _ _ (fun (e' : j = k) => hv' (e' ▸ e)), h.vv, h.zk, h.zs, h.zr, h.bel.trans (kp.toBelow h.zz fun j hj e => ?_), ?_⟩, old, by have := hg.size; omega⟩
  · have := old.trans h.b
    simp [World.setCell, Array.getElem?_modify, this, pmA]
  · rcases e with e | e
    · have := h.zk
      omega
    · have := (h.wg.lt e).1
      omega
  · have h1 := hg.size
    have h2 := h.zz
    have h3 : (w1.setCell ⟨k, 5, none⟩ v').heap.size = w1.heap.size := by simp
    omega
/-- the first of G is taken -/
theorem Pm.popG (h : Pm z w0 w k gs gr N s r Ts Tr vO vB vG O B G) (ho : Wy stK w z v' G') (he : v'.ownBlock = vG.ownBlock) : Pm z w0 (w.setCell ⟨k, 5, none⟩ v') k gs gr N s r Ts Tr vO vB v' (O) (B) (G') := by
  have kp : Kp (fun j => j = k) w (w.setCell ⟨k, 5, none⟩ v') := kp_self (Kp.refl _ w) _ _
  have fs := fun j (hj : inL gs s j) => h.linkK (h.ls.ty hj)
  have fr := fun j (hj : inL gr r j) => h.linkK (h.lr.ty hj)
  have hko : vG.ownBlock ≠ some k := fun e => ne_ty (h.wg.ty e) h.ty (by decide) rfl
  refine ⟨?_, h.ls.kp kp fun j hj e => (fs j hj).1 e, h.lr.kp kp fun j hj e => (fr j hj).1 e, h.ap, h.wo.at fun j e => kp.block (h.wo.lt e).2 fun e' => ne_ty (h.wo.ty e) h.ty (by decide) e', h.wb.at fun j e => kp.block (h.wb.lt e).2 fun e' => ne_ty (h.wb.ty e) h.ty (by decide) e', ho.at fun j e => blk_set_other _ _ _ _ (fun (e' : j = k) => hko (he ▸ e' ▸ e)), h.vv, h.zk, h.zs, h.zr, h.bel.trans (kp.toBelow h.zz fun j hj e => by have := h.zk; omega), by simpa using h.zz⟩
  have := h.b
  simp [World.setCell, Array.getElem?_modify, this, pmA]
end
end Go.Proofs.Ytknkmamjdmadcaa
