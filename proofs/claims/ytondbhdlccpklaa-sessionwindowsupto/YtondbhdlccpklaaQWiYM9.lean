import Derived.Test.YtondbhdlccpklaaQWiMM9
import Derived.Test.YtondbhdlccpklaaQWnd3M9
import Derived.Test.YtondbhdlccpklaaQBkM9
import Derived.ArgAppend

/- SessionWindows: what is under way, in memory. -/
namespace Go.Proofs.Ytondbhdlccpklaa
open Go.RowKit Go.Maps
set_option linter.unusedVariables false
set_option linter.unusedSimpArgs false

def trA : Array Value := pfA 20 0 0 0 0 0 0 0 0 0 0 false
def itA : It → Array Value
  | none => trA
  | some f => f.flow
def itL (x : It) : List Value := (itA x).toList
theorem it_size (x : It) : (Try.prog.info? 39).map (·.size) = some (itA x).size := by
  cases x with
  | none => exact pfI ..
  | some f => exact sflow_size f
theorem it_one (x : It) : (itA x).all (·.oneCell') = true := by
  cases x with
  | none => exact pfA_one ..
  | some f => exact sflow_one f
theorem it_zero (x : It) : Try.zeroCells39.size = (itA x).size := by
  cases x with
  | none => exact pfZ ..
  | some f => exact sflow_zero f
theorem it_128 (x : It) : (itA x).size = 128 := by
  cases x with
  | none => exact pfA_size ..
  | some f => exact pfA_size ..
theorem it_len (x : It) : (itL x).length = 128 := by
  unfold itL
  rw [Array.length_toList]
  exact it_128 x
theorem it_ones (x : It) : ∀ u ∈ itL x, u.oneCell' = true := fun u hu => by
  have := it_one x
  rw [Array.all_eq_true'] at this
  exact this u (Array.mem_toList_iff.1 hu)
theorem its_len (W : List It) : (W.flatMap itL).length = W.length * 128 := by
  induction W with
  | nil => rfl
  | cons x W ih => rw [List.flatMap_cons, List.length_append, ih, it_len, List.length_cons]; omega
theorem Try.infoPe : (Try.prog.info? 39).map (fun i => (i.zero.map (·.cells.size), i.size, i.bytes)) = some (some 128, 128, 1424) := by kernel_rfl
theorem info_pe : ∃ i z, Try.prog.info? 39 = some i ∧ i.zero = some z ∧ z.cells.size = 128 ∧ i.size = 128 ∧ i.bytes = 1424 := by
  have h := Try.infoPe
  cases hi : Try.prog.info? 39 with
  | none => rw [hi] at h; cases h
  | some i =>
    rw [hi] at h
    simp only [Option.map_some, Option.some.injEq, Prod.mk.injEq] at h
    obtain ⟨h1, h2, h3⟩ := h
    cases hz : i.zero with
    | none => rw [hz] at h1; cases h1
    | some z =>
      rw [hz] at h1
      simp only [Option.map_some, Option.some.injEq] at h1
      exact ⟨i, z, rfl, hz, h1, h2, h3⟩
/-- a row of what is under way, wherever it begins in its block -/
def Wy (w : World) (base : Nat) (v : Value) (W : List It) : Prop := (v = .slice none 0 0 ∧ W = []) ∨ ∃ g off cap cur, v = .slice (some ⟨g, off, none⟩) W.length cap ∧ base ≤ g ∧ W.length ≤ cap ∧ cap ≤ maxLen ∧ w.heap[g]? = some (.cells cur 39 (0, 0)) ∧ off + cap * 128 ≤ cur.size ∧ w.rangeAt g off (W.flatMap itL)
section
variable {w w' : World} {base : Nat} {v : Value} {W : List It}
theorem Wy.lt (h : Wy w base v W) {k : Nat} (e : v.ownBlock = some k) : base ≤ k ∧ k < w.heap.size := by
  rcases h with ⟨rfl, _⟩ | ⟨g, off, cap, cur, rfl, h1, h2, h3, h4, h5, h6⟩
  · cases e
  · cases e
    exact ⟨h1, (Array.getElem?_eq_some_iff.1 h4).1⟩
theorem Wy.at (h : Wy w base v W) (hb : ∀ k, v.ownBlock = some k → w'.heap[k]? = w.heap[k]?) : Wy w' base v W := by
  rcases h with h | ⟨g, off, cap, cur, rfl, h1, h2, h3, h4, h5, h6⟩
  · exact .inl h
  · have := hb g rfl
    exact .inr ⟨g, off, cap, cur, rfl, h1, h2, h3, this.trans h4, h5, fun j u hu => (World.cell?_of_block (a := ⟨g, off + j, none⟩) this).trans (h6 j u hu)⟩
theorem Wy.shape (h : Wy w base v W) : ∃ a c, v = .slice a W.length c := by
  rcases h with ⟨rfl, rfl⟩ | ⟨g, off, cap, cur, rfl, _⟩
  · exact ⟨none, 0, rfl⟩
  · exact ⟨_, cap, rfl⟩
theorem Wy.head {x : It} (h : Wy w base v (x :: W)) : ∃ g off cap, v = .slice (some ⟨g, off, none⟩) (W.length + 1) cap ∧ W.length + 1 ≤ cap ∧ cap ≤ maxLen ∧ g < w.heap.size ∧ w.rangeAt g off (itL x) ∧ Wy w base (.slice (some ⟨g, off + 128, none⟩) W.length (cap - 1)) W ∧ (cap - 1 = 0 → Wy w base (.slice (some ⟨g, off, none⟩) W.length 0) W) := by
  rcases h with ⟨rfl, e⟩ | ⟨g, off, cap, cur, rfl, h1, h2, h3, h4, h5, h6⟩
  · cases e
  · rw [List.length_cons] at h2
    rw [List.flatMap_cons] at h6
    refine ⟨g, off, cap, rfl, h2, h3, (Array.getElem?_eq_some_iff.1 h4).1, fun j u hu => h6 j u (by rw [List.getElem?_append_left (List.getElem?_eq_some_iff.1 hu).1]; exact hu), .inr ⟨g, off + 128, cap - 1, cur, rfl, h1, by omega, by omega, h4, by omega, fun j u hu => ?_⟩, fun hc => ?_⟩
    rotate_left
    · have hW : W = [] := List.length_eq_zero_iff.1 (by omega)
      subst hW
      exact .inr ⟨g, off, 0, cur, rfl, h1, Nat.le_refl _, by unfold maxLen; omega, h4, by omega, fun j u hu => by simp at hu⟩
    have := h6 (128 + j) u (by rw [List.getElem?_append_right (by rw [it_len]; omega), it_len, Nat.add_sub_cancel_left]; exact hu)
    rw [Nat.add_assoc]
    exact this
theorem setCs_keeps (b : Nat) : ∀ (vs : List Value) (o : Nat) (w : World) (cur : Array Value) (t : TypeId) (fr : Nat × Nat), w.heap[b]? = some (.cells cur t fr) → ∃ cur', (w.setCells b o vs).heap[b]? = some (.cells cur' t fr) ∧ cur'.size = cur.size := by
  intro vs
  induction vs with
  | nil => intro o w cur t fr h; exact ⟨cur, h, rfl⟩
  | cons v vs ih =>
    intro o w cur t fr h
    rw [World.setCells]
    obtain ⟨cur', h1, h2⟩ := ih (o + 1) (w.setCell ⟨b, o, none⟩ v) (cur.setIfInBounds o v) t fr (by simp [World.setCell, Array.getElem?_modify, h])
    exact ⟨cur', h1, by rw [h2]; simp⟩
theorem setCs_grown (b : Nat) : ∀ (vs : List Value) (o : Nat) (w : World), w.grownBy (w.setCells b o vs) (some b) := by
  intro vs
  induction vs with
  | nil => intro o w; exact ⟨rfl, rfl, rfl, Nat.le_refl _, fun _ _ _ => rfl⟩
  | cons v vs ih =>
    intro o w
    rw [World.setCells]
    have h := ih (o + 1) (w.setCell ⟨b, o, none⟩ v)
    exact ⟨h.os, h.tape, h.output, by have := h.size; simpa using this, fun k hk hne => (h.block k (by simpa using hk) hne).trans (blk_set_other _ _ _ _ (fun e => hne (by rw [e])))⟩
theorem range_app {g off : Nat} {xs ys : List Value} (h1 : w.rangeAt g off xs) (h2 : w.rangeAt g (off + xs.length) ys) : w.rangeAt g off (xs ++ ys) := fun j u hu => by
  by_cases hj : j < xs.length
  · rw [List.getElem?_append_left hj] at hu
    exact h1 j u hu
  · rw [List.getElem?_append_right (by omega)] at hu
    have := h2 (j - xs.length) u hu
    rw [Nat.add_assoc, Nat.add_sub_cancel' (by omega)] at this
    exact this
/-- one more is put behind -/
theorem run_append_way (w : World) (ty : TypeId) (base : Nat) (v : Value) (W : List It) (x : It) (hw : Wy w base v W) (B c : Nat) (hB : w.heap[B]? = some (.cells (itA x) 39 (0, 0))) (hb : base ≤ w.heap.size) (hn : W.length ≤ 1000000000) :
    ∃ v' w', (Builtin.append_ #[60, 60] ty #[v, .slice (some ⟨B, 0, none⟩) 1 c]).run Try.prog w = .ok v' w' ∧ Wy w' base v' (W ++ [x]) ∧ w.grownBy w' v.ownBlock ∧ ∀ k, v'.ownBlock = some k → v.ownBlock = some k ∨ w.heap.size ≤ k := by
  obtain ⟨i, z, hi, hz, hzs, his, hib⟩ := info_pe
  have hnews : ∀ j u, (itL x)[j]? = some u → w.cell? ((⟨B, 0, none⟩ : Addr).add j) = some u := fun j u hu => by
    rw [Addr.add_mid, Nat.zero_add]
    exact cellOf hB j u (by simpa [itL] using hu)
  have hfl : (W ++ [x]).flatMap itL = W.flatMap itL ++ itL x := by simp
  have hlen : (W ++ [x]).length = W.length + 1 := by simp
  rcases hw with ⟨rfl, rfl⟩ | ⟨g, off, cap, cur, rfl, h1, h2, h3, h4, h5, h6⟩
  · obtain ⟨v', w', hr, ho, hg, _, hat⟩ := run_append_own_at (P := Try.prog) w base 60 ty 39 i z 128 1424 Try.underlying60 hi hz his hib hzs (by decide) (.slice none 0 0) 0 [] (World.ownsRow_nil _ _ _ _) ⟨B, 0, none⟩ 1 c (itL x) (by rw [it_len]) hnews (it_ones x) (by unfold maxLen; omega) (by omega) hb
    refine ⟨v', w', hr, ?_, hg, fun k e => ?_⟩
    rotate_left
    · rcases hat with h | h
      · exact .inl (h ▸ e)
      · rw [h] at e
        cases e
        exact .inr (Nat.le_refl _)
    rcases ho.2 with ⟨_, h0⟩ | ⟨g, cap, cur, rfl, r1, r2, r3, r4, r5, r6⟩
    · omega
    · refine .inr ⟨g, 0, cap, cur, by simp, r1, by simpa using r3, r4, r2, by omega, fun j u hu => ?_⟩
      have := ho.cells (g := g) rfl j u (by simpa using hu)
      rw [Addr.add_mid] at this
      exact this
  · by_cases hroom : W.length + 1 ≤ cap
    · have hcell : ∀ j, j < 128 → (w.cell? ⟨g, off + W.length * 128 + j, none⟩).isSome = true ∧ w.frozen? ⟨g, off + W.length * 128 + j, none⟩ = false := fun j hj => by
        have hlt : off + W.length * 128 + j < cur.size := by
          have : (W.length + 1) * 128 ≤ cap * 128 := Nat.mul_le_mul_right _ hroom
          omega
        refine ⟨?_, by simp [World.frozen?, h4]⟩
        rw [cellOf h4 _ _ (Array.getElem?_eq_getElem hlt)]
        rfl
      have hr := run_append_room_cells (P := Try.prog) w 60 ty 39 i Try.underlying60 hi g off W.length cap ⟨B, 0, none⟩ 1 c (itL x) (by rw [it_len, his]) hnews (it_ones x) hroom (fun j hj => by rw [his]; exact (hcell j (by rw [it_len] at hj; exact hj)).1) (fun j hj => by rw [his]; exact (hcell j (by rw [it_len] at hj; exact hj)).2)
      rw [his] at hr
      refine ⟨_, _, hr, ?_, setCs_grown g _ _ w, fun k e => .inl e⟩
      obtain ⟨cur', k1, k2⟩ := setCs_keeps g (itL x) (off + W.length * 128) w cur _ _ h4
      refine .inr ⟨g, off, cap, cur', by rw [hlen], h1, by omega, h3, k1, by omega, ?_⟩
      rw [hfl]
      refine range_app (World.rangeAt_setCells_apart h6 _ _ _ (.inr (.inl (by rw [its_len]; omega)))) ?_
      rw [its_len]
      exact World.rangeAt_setCells_same _ _ _ _ (fun j hj => hcell j (by rw [it_len] at hj; exact hj))
    · obtain ⟨v', w', hr, ho, hg⟩ := run_append_arg_grows (P := Try.prog) w 60 ty 39 i z 128 1424 Try.underlying60 hi hz his hib hzs (by decide) ⟨g, off, none⟩ W.length cap (W.flatMap itL) (its_len W) (fun j u hu => by rw [Addr.add_mid]; exact h6 j u hu) ⟨B, 0, none⟩ 1 c (itL x) (by rw [it_len]) hnews (by omega) (by unfold maxLen; omega) (by omega)
      rcases ho.2 with ⟨_, h0⟩ | ⟨g', cap', cur', rfl, r1, r2, r3, r4, r5, r6⟩
      · omega
      · refine ⟨_, w', hr, .inr ⟨g', 0, cap', cur', by rw [hlen], by omega, by omega, r4, r2, by omega, fun j u hu => ?_⟩, ⟨hg.os, hg.tape, hg.output, hg.size, fun k hk _ => hg.block k hk (by simp)⟩, fun k e => .inr ?_⟩
        · have := ho.cells (g := g') rfl j u (by rw [← hfl]; exact hu)
          rw [Addr.add_mid] at this
          exact this
        · cases e
          exact r1
theorem wp_append_way {o : Oper} {a : Act} {K : Act → World → Prop} {Q : Exit → Act → World → Prop} (w : World) (s y : Operand) (ho : o.op = .call { callee := .builtin .append, args := #[s, y], argTypes := #[60, 60] }) (base : Nat) (v : Value) (W : List It) (x : It) (hs : a.eval s = v) (hw : Wy w base v W) (B c : Nat) (hy : a.eval y = .slice (some ⟨B, 0, none⟩) 1 c) (hB : w.heap[B]? = some (.cells (itA x) 39 (0, 0))) (hb : base ≤ w.heap.size) (hn : W.length ≤ 1000000000)
    (h : ∀ v' w', Wy w' base v' (W ++ [x]) → w.grownBy w' v.ownBlock → (∀ k, v'.ownBlock = some k → v.ownBlock = some k ∨ w.heap.size ≤ k) → K (a.put o.dst v') w') : o.wp Try.prog a w K Q := by
  obtain ⟨v', w', hr, h2, h3, h4⟩ := run_append_way w o.type base v W x hw B c hB hb hn
  unfold Oper.wp execOp
  simp only [ho, resolve, invoke, builtin, Sem.run_bind, Sem.run_pure, Result.andThen_ok, List.map_toArray, List.map_cons, List.map_nil, hs, hy, hr]
  exact h v' w' h2 h3 h4
theorem wpList_append_way {ops : Array Oper} {rest : List Oper} {o : Oper} {a : Act} {Q : Exit → Act → World → Prop} (w : World) (hg : o.guard = none) (s y : Operand) (ho : o.op = .call { callee := .builtin .append, args := #[s, y], argTypes := #[60, 60] }) (base : Nat) (v : Value) (W : List It) (x : It) (hs : a.eval s = v) (hw : Wy w base v W) (B c : Nat) (hy : a.eval y = .slice (some ⟨B, 0, none⟩) 1 c) (hB : w.heap[B]? = some (.cells (itA x) 39 (0, 0))) (hb : base ≤ w.heap.size) (hn : W.length ≤ 1000000000)
    (h : ∀ v' w', Wy w' base v' (W ++ [x]) → w.grownBy w' v.ownBlock → (∀ k, v'.ownBlock = some k → v.ownBlock = some k ∨ w.heap.size ≤ k) → wpList Try.prog ops Q rest (a.put o.dst v') w') : wpList Try.prog ops Q (o :: rest) a w :=
  wpList_plain hg fun _ hK => wp_append_way w s y ho base v W x hs hw B c hy hB hb hn fun v' w' h2 h3 h4 => hK _ _ (h v' w' h2 h3 h4)
end
/-- a side: its block, its session, what is under way to it; all that is written lies at z or beyond -/
structure Sde (z : Nat) (w : World) (k g : Nat) (s : Sn) (v : Value) (W : List It) : Prop where
  b : w.heap[k]? = some (.cells #[.pointer (some ⟨g, 0, none⟩), v, .int .i64 0, .int .i64 0] 62 (0, 0))
  sb : SB w g s
  ts : TbP w s.bs []
  tc : TbP w s.bc []
  wy : Wy w z v W
  zk : z ≤ k
  zg : z ≤ g
section
variable {z : Nat} {w w' w1 : World} {k g j : Nat} {s s' : Sn} {v v' : Value} {W W' : List It}
theorem Sde.lt (h : Sde z w k g s v W) : k < w.heap.size := (Array.getElem?_eq_some_iff.1 h.b).1
/-- blocks of unlike kinds are apart -/
theorem Sde.apart (h : Sde z w k g s v W) : k ≠ g ∧ v.ownBlock ≠ some k ∧ v.ownBlock ≠ some g ∧ s.bs ≠ k ∧ s.bs ≠ g ∧ s.bc ≠ k ∧ s.bc ≠ g ∧ v.ownBlock ≠ some s.bs ∧ v.ownBlock ≠ some s.bc := by
  have hsb : w.heap[g]? = some (.cells s.cells 92 (0, 0)) := h.sb
  have hv : ∀ q, v.ownBlock = some q → ∃ cur, w.heap[q]? = some (.cells cur 39 (0, 0)) := fun q e => by
    rcases h.wy with ⟨rfl, _⟩ | ⟨g', off, cap, cur, rfl, _, _, _, h4, _⟩
    · cases e
    · cases e
      exact ⟨cur, h4⟩
  refine ⟨?_, fun e => ?_, fun e => ?_, h.ts.ne h.b, h.ts.ne hsb, h.tc.ne h.b, h.tc.ne hsb, fun e => ?_, fun e => ?_⟩
  · rintro rfl
    have := h.b.symm.trans hsb
    simp at this
  · obtain ⟨cur, hc⟩ := hv k e
    have := h.b.symm.trans hc
    simp at this
  · obtain ⟨cur, hc⟩ := hv g e
    have := hsb.symm.trans hc
    simp at this
  · obtain ⟨cur, hc⟩ := hv _ e
    exact h.ts.ne hc rfl
  · obtain ⟨cur, hc⟩ := hv _ e
    exact h.tc.ne hc rfl
theorem Sde.at (h : Sde z w k g s v W) (hk : w'.heap[k]? = w.heap[k]?) (hg : w'.heap[g]? = w.heap[g]?) (hs : w'.heap[s.bs]? = w.heap[s.bs]?) (hc : w'.heap[s.bc]? = w.heap[s.bc]?) (hv : ∀ j, v.ownBlock = some j → w'.heap[j]? = w.heap[j]?) : Sde z w' k g s v W :=
  ⟨hk.trans h.b, h.sb.at hg, h.ts.at hs, h.tc.at hc, h.wy.at hv, h.zk, h.zg⟩
theorem Sde.below (h : Sde z w k g s v W) (hb : Below w.heap.size w w') : Sde z w' k g s v W :=
  h.at (hb.block _ h.lt) (hb.block _ h.sb.lt) (hb.block _ h.ts.lt) (hb.block _ h.tc.lt) fun j e => hb.block _ (h.wy.lt e).2
/-- its session is turned -/
theorem Sde.turn (h : Sde z w k g s v W) (h1 : SB w' g s') (hk : Kp (fun k => k = g) w w') (hs : s'.bs = s.bs) (hc : s'.bc = s.bc) : Sde z w' k g s' v W := by
  obtain ⟨a1, a2, a3, a4, a5, a6, a7, a8, a9⟩ := h.apart
  exact ⟨(hk.block h.lt a1).trans h.b, h1, by rw [hs]; exact h.ts.at (hk.block h.ts.lt a5), by rw [hc]; exact h.tc.at (hk.block h.tc.lt a7), h.wy.at fun j e => hk.block (h.wy.lt e).2 (fun e' => a3 (e' ▸ e)), h.zk, h.zg⟩
end
/-- the blocks of a side that are written -/
def SdB (k g : Nat) (v : Value) (j : Nat) : Prop := j = k ∨ j = g ∨ v.ownBlock = some j
/-- both -/
structure Wn (z : Nat) (w : World) (kx gx ky gy : Nat) (N : Nat) (sx sy : Sn) (vx vy : Value) (X Y : List It) : Prop where
  x : Sde z w kx gx sx vx X
  y : Sde z w ky gy sy vy Y
  gg : gx ≠ gy
  kk : kx ≠ ky
  vv : apartV vx vy
  lx : X.length ≤ N
  ly : Y.length ≤ N
section
variable {z : Nat} {w w' w1 : World} {kx gx ky gy N M : Nat} {sx sy s' : Sn} {vx vy v' : Value} {X Y X' Y' : List It}
theorem Wn.swap (h : Wn z w kx gx ky gy N sx sy vx vy X Y) : Wn z w ky gy kx gx N sy sx vy vx Y X := ⟨h.y, h.x, fun e => h.gg e.symm, fun e => h.kk e.symm, fun k e1 e2 => h.vv k e2 e1, h.ly, h.lx⟩
/-- no block of one is the other's -/
theorem Wn.far (h : Wn z w kx gx ky gy N sx sy vx vy X Y) {j : Nat} (hj : SdB kx gx vx j) : j ≠ ky ∧ j ≠ gy ∧ vy.ownBlock ≠ some j ∧ j ≠ sy.bs ∧ j ≠ sy.bc := by
  have hx : w.heap[gx]? = some (.cells sx.cells 92 (0, 0)) := h.x.sb
  have hy : w.heap[gy]? = some (.cells sy.cells 92 (0, 0)) := h.y.sb
  have hv : ∀ {v : Value} {W : List It}, Wy w z v W → ∀ q, v.ownBlock = some q → ∃ cur, w.heap[q]? = some (.cells cur 39 (0, 0)) := fun hw q e => by
    rcases hw with ⟨rfl, _⟩ | ⟨g', off, cap, cur, rfl, _, _, _, h4, _⟩
    · cases e
    · cases e
      exact ⟨cur, h4⟩
  have clash : ∀ {q : Nat} {c1 c2 : Array Value} {t1 t2 : TypeId}, w.heap[q]? = some (.cells c1 t1 (0, 0)) → w.heap[q]? = some (.cells c2 t2 (0, 0)) → t1 = t2 := fun h1 h2 => by
    have := h1.symm.trans h2
    simp at this
    exact this.2
  have cl2 : ∀ {q : Nat} {c1 : Array Value} {t1 : TypeId}, w.heap[q]? = some (.cells c1 t1 (0, 0)) → q ≠ sy.bs ∧ q ≠ sy.bc := fun h1 => ⟨fun e => h.y.ts.ne (g := sy.bs) (e ▸ h1) rfl, fun e => h.y.tc.ne (g := sy.bc) (e ▸ h1) rfl⟩
  rcases hj with rfl | rfl | e
  · refine ⟨h.kk, fun e => ?_, fun e => ?_, cl2 h.x.b⟩
    · exact absurd (clash (e ▸ h.x.b) hy) (by decide)
    · obtain ⟨cur, hc⟩ := hv h.y.wy _ e
      exact absurd (clash h.x.b hc) (by decide)
  · refine ⟨fun e => ?_, h.gg, fun e => ?_, cl2 hx⟩
    · exact absurd (clash (e ▸ hx) h.y.b) (by decide)
    · obtain ⟨cur, hc⟩ := hv h.y.wy _ e
      exact absurd (clash hx hc) (by decide)
  · obtain ⟨cur, hc⟩ := hv h.x.wy _ e
    refine ⟨fun e' => ?_, fun e' => ?_, h.vv j e, cl2 hc⟩
    · exact absurd (clash (e' ▸ hc) h.y.b) (by decide)
    · exact absurd (clash (e' ▸ hc) hy) (by decide)
/-- what is done to x alone leaves y -/
theorem Wn.keepY (h : Wn z w kx gx ky gy N sx sy vx vy X Y) (hk : Kp (SdB kx gx vx) w w') : Sde z w' ky gy sy vy Y :=
  h.y.at (hk.block h.y.lt fun e => (h.far e).1 rfl) (hk.block h.y.sb.lt fun e => (h.far e).2.1 rfl) (hk.block h.y.ts.lt fun e => (h.far e).2.2.2.1 rfl) (hk.block h.y.tc.lt fun e => (h.far e).2.2.2.2 rfl) fun j e => hk.block (h.y.wy.lt e).2 fun e' => (h.far e').2.2.1 e
theorem Wn.below (h : Wn z w kx gx ky gy N sx sy vx vy X Y) (hb : Below w.heap.size w w') : Wn z w' kx gx ky gy N sx sy vx vy X Y := ⟨h.x.below hb, h.y.below hb, h.gg, h.kk, h.vv, h.lx, h.ly⟩
/-- x's session is turned -/
theorem Wn.turn (h : Wn z w kx gx ky gy N sx sy vx vy X Y) (h1 : SB w' gx s') (hk : Kp (fun k => k = gx) w w') (hs : s'.bs = sx.bs) (hc : s'.bc = sx.bc) : Wn z w' kx gx ky gy N s' sy vx vy X Y ∧ ∀ w0, Below z w0 w → z ≤ w.heap.size → Below z w0 w' :=
  ⟨⟨h.x.turn h1 hk hs hc, h.keepY (hk.mono fun k e => .inr (.inl e)), h.gg, h.kk, h.vv, h.lx, h.ly⟩, fun w0 hb hz => hb.trans (hk.toBelow hz fun j hj e => by have := h.x.zg; omega)⟩
theorem Wn.more (h : Wn z w kx gx ky gy N sx sy vx vy X Y) (hN : N ≤ M) : Wn z w kx gx ky gy M sx sy vx vy X Y := ⟨h.x, h.y, h.gg, h.kk, h.vv, Nat.le_trans h.lx hN, Nat.le_trans h.ly hN⟩
/-- something is put behind what is under way to x -/
theorem Wn.push (h : Wn z w kx gx ky gy N sx sy vx vy X Y) {o : Obj} {x : It} (ho : Wy w1 z v' (X ++ [x])) (hg : (w.alloc o).grownBy w1 vx.ownBlock) (hat : ∀ k, v'.ownBlock = some k → vx.ownBlock = some k ∨ (w.alloc o).heap.size ≤ k) (hN : N + 1 ≤ M) :
    Wn z (w1.setCell ⟨kx, 1, none⟩ v') kx gx ky gy M sx sy v' vy (X ++ [x]) Y ∧ (∀ w0, Below z w0 w → z ≤ w.heap.size → Below z w0 (w1.setCell ⟨kx, 1, none⟩ v')) ∧ w1.heap[kx]? = w.heap[kx]? ∧ w.heap.size < w1.heap.size := by
  obtain ⟨a1, a2, a3, a4, a5, a6, a7, a8, a9⟩ := h.x.apart
  have hs1 : (w.alloc o).heap.size = w.heap.size + 1 := by simp
  have old1 : ∀ k, k < w.heap.size → vx.ownBlock ≠ some k → w1.heap[k]? = w.heap[k]? := fun k hk hne => (hg.block k (by omega) (fun e => hne e.symm)).trans ((bel1 (Below.refl w.heap.size w) (Nat.le_refl _) o).block k hk)
  have old : ∀ k, k < w.heap.size → vx.ownBlock ≠ some k → k ≠ kx → (w1.setCell ⟨kx, 1, none⟩ v').heap[k]? = w.heap[k]? := fun k hk hne hkk => (blk_set_other _ _ _ _ hkk).trans (old1 k hk hne)
  have hv' : v'.ownBlock ≠ some kx := fun e => by
    rcases hat kx e with e | e
    · exact a2 e
    · have := h.x.lt
      omega
  have kp : Kp (SdB kx gx vx) w (w1.setCell ⟨kx, 1, none⟩ v') := (((Kp.refl _ w).alloc o).grown hg fun j e => .inl (.inr (.inr e))).setCell (.inl rfl) _
  refine ⟨⟨⟨?_, h.x.sb.at (old gx h.x.sb.lt a3 (fun e => a1 e.symm)), h.x.ts.at (old _ h.x.ts.lt a8 a4), h.x.tc.at (old _ h.x.tc.lt a9 a6), ho.at fun j e => blk_set_other _ _ _ _ (fun (e' : j = kx) => hv' (e' ▸ e)), h.x.zk, h.x.zg⟩, h.keepY kp, h.gg, h.kk, fun j e1 e2 => ?_, ?_, Nat.le_trans h.ly (by omega)⟩, fun w0 hb hz => hb.trans (kp.toBelow hz fun j hj e => ?_), old1 kx h.x.lt a2, by have := hg.size; omega⟩
  · have := (old1 kx h.x.lt a2).trans h.x.b
    simp [World.setCell, Array.getElem?_modify, this]
  · rcases hat j e1 with e | e
    · exact h.vv j e e2
    · have := (h.y.wy.lt e2).2
      omega
  · rw [List.length_append]
    have := h.lx
    simp
    omega
  · rcases e with e | e | e
    · have := h.x.zk
      omega
    · have := h.x.zg
      omega
    · have := (h.x.wy.lt e).1
      omega
/-- the first of what is under way to x is taken -/
theorem Wn.pop (h : Wn z w kx gx ky gy N sx sy vx vy X Y) (ho : Wy w z v' X') (he : v'.ownBlock = vx.ownBlock) (hl : X'.length ≤ X.length) : Wn z (w.setCell ⟨kx, 1, none⟩ v') kx gx ky gy N sx sy v' vy X' Y ∧ ∀ w0, Below z w0 w → z ≤ w.heap.size → Below z w0 (w.setCell ⟨kx, 1, none⟩ v') := by
  obtain ⟨a1, a2, a3, a4, a5, a6, a7, a8, a9⟩ := h.x.apart
  have kp : Kp (SdB kx gx vx) w (w.setCell ⟨kx, 1, none⟩ v') := (Kp.refl _ w).setCell (.inl rfl) _
  refine ⟨⟨⟨?_, h.x.sb.at (blk_set_other _ _ _ _ (fun e => a1 e.symm)), h.x.ts.at (blk_set_other _ _ _ _ a4), h.x.tc.at (blk_set_other _ _ _ _ a6), ho.at fun j e => blk_set_other _ _ _ _ (fun (e' : j = kx) => a2 (by rw [← he]; exact e' ▸ e)), h.x.zk, h.x.zg⟩, h.keepY kp, h.gg, h.kk, fun j e => h.vv j (by rw [← he]; exact e), Nat.le_trans hl h.lx, h.ly⟩, fun w0 hb hz => hb.trans (((Kp.refl (fun j => j = kx) w).setCell rfl _).toBelow hz fun j hj e => by have := h.x.zk; omega)⟩
  have := h.x.b
  simp [World.setCell, Array.getElem?_modify, this]
end
end Go.Proofs.Ytondbhdlccpklaa
