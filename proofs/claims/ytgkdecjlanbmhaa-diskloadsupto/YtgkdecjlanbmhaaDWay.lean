
/- Rows of any kind, up to what can be. -/
import Derived.Test.YtgkdecjlanbmhaaDByte
import Derived.ArgAppend
import Derived.Maps.AppendAt
import Derived.Great.BuildSlice
namespace Go.Proofs.Ytgkdecjlanbmhaa
open Go.RowKit Go.Maps
set_option linter.unusedVariables false
set_option linter.unusedSimpArgs false

/-- a kind of elements: its cells, how many, how many bytes, its type, its row's type -/
structure WK (A : Type) where
  enc : A → List Value
  n : Nat
  bs : Nat
  t : TypeId
  ts : TypeId
structure WK.Ok {A : Type} (K : WK A) : Prop where
  len : ∀ x, (K.enc x).length = K.n
  ones : ∀ x, ∀ u ∈ K.enc x, u.oneCell' = true
  und : Try.prog.underlying K.ts = some (.slice K.t)
  info : ∃ i z, Try.prog.info? K.t = some i ∧ i.zero = some z ∧ z.cells.size = K.n ∧ i.size = K.n ∧ i.bytes = K.bs
  pos : 0 < K.n
  sml : K.bs ≤ 2000
  nml : K.n ≤ 2000
  posb : 0 < K.bs
section
variable {A : Type} {K : WK A} {w w' : World} {base : Nat} {v : Value} {W : List A}
theorem WK.Ok.all (h : K.Ok) (W : List A) : (W.flatMap K.enc).length = W.length * K.n := by
  induction W with
  | nil => simp
  | cons x W ih => rw [List.flatMap_cons, List.length_append, ih, h.len, List.length_cons, Nat.succ_mul]; omega
/-- a row, wherever it begins in its block -/
def Wy (K : WK A) (w : World) (base : Nat) (v : Value) (W : List A) : Prop := (v = .slice none 0 0 ∧ W = []) ∨ ∃ g off cap cur, v = .slice (some ⟨g, off, none⟩) W.length cap ∧ base ≤ g ∧ W.length ≤ cap ∧ cap ≤ maxLen ∧ w.heap[g]? = some (.cells cur K.t (0, 0)) ∧ off + cap * K.n ≤ cur.size ∧ w.rangeAt g off (W.flatMap K.enc)
theorem Wy.lt (h : Wy K w base v W) {k : Nat} (e : v.ownBlock = some k) : base ≤ k ∧ k < w.heap.size := by
  rcases h with ⟨rfl, _⟩ | ⟨g, off, cap, cur, rfl, h1, h2, h3, h4, h5, h6⟩
  · cases e
  · cases e
    exact ⟨h1, (Array.getElem?_eq_some_iff.1 h4).1⟩
theorem Wy.typ (h : Wy K w base v W) {k : Nat} (e : v.ownBlock = some k) : ∃ cur, w.heap[k]? = some (.cells cur K.t (0, 0)) := by
  rcases h with ⟨rfl, _⟩ | ⟨g, off, cap, cur, rfl, h1, h2, h3, h4, h5, h6⟩
  · cases e
  · cases e
    exact ⟨cur, h4⟩
theorem Wy.at (h : Wy K w base v W) (hb : ∀ k, v.ownBlock = some k → w'.heap[k]? = w.heap[k]?) : Wy K w' base v W := by
  rcases h with h | ⟨g, off, cap, cur, rfl, h1, h2, h3, h4, h5, h6⟩
  · exact .inl h
  · have := hb g rfl
    exact .inr ⟨g, off, cap, cur, rfl, h1, h2, h3, this.trans h4, h5, fun j u hu => (World.cell?_of_block (a := ⟨g, off + j, none⟩) this).trans (h6 j u hu)⟩
theorem Wy.shape (h : Wy K w base v W) : ∃ a c, v = .slice a W.length c := by
  rcases h with ⟨rfl, rfl⟩ | ⟨g, off, cap, cur, rfl, _⟩
  · exact ⟨none, 0, rfl⟩
  · exact ⟨_, cap, rfl⟩
theorem Wy.head {x : A} (hK : K.Ok) (h : Wy K w base v (x :: W)) : ∃ g off cap, v = .slice (some ⟨g, off, none⟩) (W.length + 1) cap ∧ W.length + 1 ≤ cap ∧ cap ≤ maxLen ∧ g < w.heap.size ∧ w.rangeAt g off (K.enc x) ∧ Wy K w base (.slice (some ⟨g, off + K.n, none⟩) W.length (cap - 1)) W ∧ (cap - 1 = 0 → Wy K w base (.slice (some ⟨g, off, none⟩) W.length 0) W) := by
  rcases h with ⟨rfl, e⟩ | ⟨g, off, cap, cur, rfl, h1, h2, h3, h4, h5, h6⟩
  · cases e
  · rw [List.length_cons] at h2
    rw [List.flatMap_cons] at h6
    have hcap : K.n + (cap - 1) * K.n = cap * K.n := by
      obtain ⟨c, rfl⟩ : ∃ c, cap = c + 1 := ⟨cap - 1, by omega⟩
      rw [Nat.add_sub_cancel, Nat.succ_mul]
      omega
    refine ⟨g, off, cap, rfl, h2, h3, (Array.getElem?_eq_some_iff.1 h4).1, fun j u hu => h6 j u (by rw [List.getElem?_append_left (List.getElem?_eq_some_iff.1 hu).1]; exact hu), .inr ⟨g, off + K.n, cap - 1, cur, rfl, h1, by omega, by omega, h4, by omega, fun j u hu => ?_⟩, fun hc => ?_⟩
    rotate_left
    · have hW : W = [] := List.length_eq_zero_iff.1 (by omega)
      subst hW
      exact .inr ⟨g, off, 0, cur, rfl, h1, Nat.le_refl _, by unfold maxLen; omega, h4, by omega, fun j u hu => by simp at hu⟩
    have := h6 (K.n + j) u (by rw [List.getElem?_append_right (by rw [hK.len]; omega), hK.len, Nat.add_sub_cancel_left]; exact hu)
    rw [Nat.add_assoc]
    exact this
theorem setCs_keeps (b : Nat) : ∀ (vs : List Value) (o : Nat) (w : World) (cur : Array Value) (t : TypeId) (fr : Nat × Nat), w.heap[b]? = some (.cells cur t fr) → ∃ cur', (w.setCells b o vs).heap[b]? = some (.cells cur' t fr) ∧ cur'.size = cur.size := by
  intro vs
  induction vs with
  | nil => intro o w cur t fr h; exact ⟨cur, h, rfl⟩
  | cons v vs ih =>
    intro o w cur t fr h
    rw [World.setCells]
    obtain ⟨cur', h1, h2⟩ := ih (o + 1) (w.setCell ⟨b, o, none⟩ v) (cur.setIfInBounds o v) t fr (by simp [World.setCell, Array.getElem?_modify, h])
    exact ⟨cur', h1, by rw [h2]; simp⟩
theorem setCs_grown (b : Nat) : ∀ (vs : List Value) (o : Nat) (w : World), w.grownBy (w.setCells b o vs) (some b) := by
  intro vs
  induction vs with
  | nil => intro o w; exact ⟨rfl, rfl, rfl, Nat.le_refl _, fun _ _ _ => rfl⟩
  | cons v vs ih =>
    intro o w
    rw [World.setCells]
    have h := ih (o + 1) (w.setCell ⟨b, o, none⟩ v)
    exact ⟨h.os, h.tape, h.output, by have := h.size; simpa using this, fun k hk hne => (h.block k (by simpa using hk) hne).trans (blk_set_other _ _ _ _ (fun e => hne (by rw [e])))⟩
theorem range_app {g off : Nat} {xs ys : List Value} (h1 : w.rangeAt g off xs) (h2 : w.rangeAt g (off + xs.length) ys) : w.rangeAt g off (xs ++ ys) := fun j u hu => by
  by_cases hj : j < xs.length
  · rw [List.getElem?_append_left hj] at hu
    exact h1 j u hu
  · rw [List.getElem?_append_right (by omega)] at hu
    have := h2 (j - xs.length) u hu
    rw [Nat.add_assoc, Nat.add_sub_cancel' (by omega)] at this
    exact this
theorem one_fits (hK : K.Ok) {n : Nat} (h : (n + 1) * K.bs ≤ 140737488355328) : n + 1 ≤ 140737488355328 := Nat.le_trans (Nat.le_mul_of_pos_right _ hK.posb) h
/-- one more is put behind -/
theorem run_append_way (hK : K.Ok) (w : World) (ty : TypeId) (base : Nat) (v : Value) (W : List A) (x : A) (hw : Wy K w base v W) (B c : Nat) (hB : w.heap[B]? = some (.cells ⟨K.enc x⟩ K.t (0, 0))) (hb : base ≤ w.heap.size) (hn : (W.length + 1) * K.bs ≤ 140737488355328) :
    ∃ v' w', (Builtin.append_ #[K.ts, K.ts] ty #[v, .slice (some ⟨B, 0, none⟩) 1 c]).run Try.prog w = .ok v' w' ∧ Wy K w' base v' (W ++ [x]) ∧ w.grownBy w' v.ownBlock ∧ ((∃ g off cap, v = .slice (some ⟨g, off, none⟩) W.length cap ∧ v' = .slice (some ⟨g, off, none⟩) (W.length + 1) cap) ∨ ((∀ k, v'.ownBlock = some k → w.heap.size ≤ k) ∧ w.grownBy w' none)) := by
  have hn1 := one_fits hK hn
  obtain ⟨i, z, hi, hz, hzs, his, hib⟩ := hK.info
  have hit := hK.len x
  have hone : (K.enc x).length = 1 * K.n := by rw [hit]; omega
  have hnews : ∀ j u, (K.enc x)[j]? = some u → w.cell? ((⟨B, 0, none⟩ : Addr).add j) = some u := fun j u hu => by
    rw [Addr.add_mid, Nat.zero_add]
    exact cellOf hB j u (by simpa using hu)
  have hfl : (W ++ [x]).flatMap K.enc = W.flatMap K.enc ++ K.enc x := by simp
  have hlen : (W ++ [x]).length = W.length + 1 := by simp
  rcases hw with ⟨rfl, rfl⟩ | ⟨g, off, cap, cur, rfl, h1, h2, h3, h4, h5, h6⟩
  · obtain ⟨v', w', hr, ho, hg, _, hat⟩ := run_append_own_at (P := Try.prog) w base K.ts ty K.t i z K.n K.bs hK.und hi hz his hib hzs hK.pos (.slice none 0 0) 0 [] (World.ownsRow_nil _ _ _ _) ⟨B, 0, none⟩ 1 c (K.enc x) hone hnews (hK.ones x) (by unfold maxLen; omega) (by simpa using hn) hb
    refine ⟨v', w', hr, ?_, hg, .inr ⟨fun k e => ?_, hg⟩⟩
    rotate_left
    · rcases hat with h | h
      · rw [h] at e
        cases e
      · rw [h] at e
        cases e
        exact Nat.le_refl _
    rcases ho.2 with ⟨_, h0⟩ | ⟨g, cap, cur, rfl, r1, r2, r3, r4, r5, r6⟩
    · omega
    · refine .inr ⟨g, 0, cap, cur, by simp, r1, by simpa using r3, r4, r2, by omega, fun j u hu => ?_⟩
      have := ho.cells (g := g) rfl j u (by simpa using hu)
      rw [Addr.add_mid] at this
      exact this
  · by_cases hroom : W.length + 1 ≤ cap
    · have hmul : (W.length + 1) * K.n ≤ cap * K.n := Nat.mul_le_mul_right _ hroom
      rw [Nat.succ_mul] at hmul
      have hcell : ∀ j, j < K.n → (w.cell? ⟨g, off + W.length * K.n + j, none⟩).isSome = true ∧ w.frozen? ⟨g, off + W.length * K.n + j, none⟩ = false := fun j hj => by
        have hlt : off + W.length * K.n + j < cur.size := by omega
        refine ⟨?_, by simp [World.frozen?, h4]⟩
        rw [cellOf h4 _ _ (Array.getElem?_eq_getElem hlt)]
        rfl
      have hr := run_append_room_cells (P := Try.prog) w K.ts ty K.t i hK.und hi g off W.length cap ⟨B, 0, none⟩ 1 c (K.enc x) (by rw [hit, his]; omega) hnews (hK.ones x) hroom (fun j hj => by rw [his]; exact (hcell j (by rw [hit] at hj; exact hj)).1) (fun j hj => by rw [his]; exact (hcell j (by rw [hit] at hj; exact hj)).2)
      rw [his] at hr
      refine ⟨_, _, hr, ?_, setCs_grown g _ _ w, .inl ⟨g, off, cap, rfl, rfl⟩⟩
      obtain ⟨cur', k1, k2⟩ := setCs_keeps g (K.enc x) (off + W.length * K.n) w cur _ _ h4
      refine .inr ⟨g, off, cap, cur', by rw [hlen], h1, by omega, h3, k1, by omega, ?_⟩
      rw [hfl]
      refine range_app (World.rangeAt_setCells_apart h6 _ _ _ (.inr (.inl (by rw [hK.all]; omega)))) ?_
      rw [hK.all]
      exact World.rangeAt_setCells_same _ _ _ _ (fun j hj => hcell j (by rw [hit] at hj; exact hj))
    · obtain ⟨v', w', hr, ho, hg⟩ := run_append_arg_grows (P := Try.prog) w K.ts ty K.t i z K.n K.bs hK.und hi hz his hib hzs hK.pos ⟨g, off, none⟩ W.length cap (W.flatMap K.enc) (hK.all W) (fun j u hu => by rw [Addr.add_mid]; exact h6 j u hu) ⟨B, 0, none⟩ 1 c (K.enc x) hone hnews (by omega) (by unfold maxLen; omega) hn
      rcases ho.2 with ⟨_, h0⟩ | ⟨g', cap', cur', rfl, r1, r2, r3, r4, r5, r6⟩
      · omega
      · refine ⟨_, w', hr, .inr ⟨g', 0, cap', cur', by rw [hlen], by omega, by omega, r4, r2, by omega, fun j u hu => ?_⟩, ⟨hg.os, hg.tape, hg.output, hg.size, fun k hk _ => hg.block k hk (by simp)⟩, .inr ⟨fun k e => ?_, hg⟩⟩
        · have := ho.cells (g := g') rfl j u (by rw [← hfl]; exact hu)
          rw [Addr.add_mid] at this
          exact this
        · cases e
          exact r1
theorem wp_append_way (hK : K.Ok) {o : Oper} {a : Act} {C : Act → World → Prop} {Q : Exit → Act → World → Prop} (w : World) (s y : Operand) (ho : o.op = .call { callee := .builtin .append, args := #[s, y], argTypes := #[K.ts, K.ts] }) (base : Nat) (v : Value) (W : List A) (x : A) (hs : a.eval s = v) (hw : Wy K w base v W) (B c : Nat) (hy : a.eval y = .slice (some ⟨B, 0, none⟩) 1 c) (hB : w.heap[B]? = some (.cells ⟨K.enc x⟩ K.t (0, 0))) (hb : base ≤ w.heap.size) (hn : (W.length + 1) * K.bs ≤ 140737488355328)
    (h : ∀ v' w', Wy K w' base v' (W ++ [x]) → w.grownBy w' v.ownBlock → ((∃ g off cap, v = .slice (some ⟨g, off, none⟩) W.length cap ∧ v' = .slice (some ⟨g, off, none⟩) (W.length + 1) cap) ∨ ((∀ k, v'.ownBlock = some k → w.heap.size ≤ k) ∧ w.grownBy w' none)) → C (a.put o.dst v') w') : o.wp Try.prog a w C Q := by
  obtain ⟨v', w', hr, h2, h3, h4⟩ := run_append_way hK w o.type base v W x hw B c hB hb hn
  unfold Oper.wp execOp
  simp only [ho, resolve, invoke, builtin, Sem.run_bind, Sem.run_pure, Result.andThen_ok, List.map_toArray, List.map_cons, List.map_nil, hs, hy, hr]
  exact h v' w' h2 h3 h4
theorem wpList_append_way (hK : K.Ok) {ops : Array Oper} {rest : List Oper} {o : Oper} {a : Act} {Q : Exit → Act → World → Prop} (w : World) (hg : o.guard = none) (s y : Operand) (ho : o.op = .call { callee := .builtin .append, args := #[s, y], argTypes := #[K.ts, K.ts] }) (base : Nat) (v : Value) (W : List A) (x : A) (hs : a.eval s = v) (hw : Wy K w base v W) (B c : Nat) (hy : a.eval y = .slice (some ⟨B, 0, none⟩) 1 c) (hB : w.heap[B]? = some (.cells ⟨K.enc x⟩ K.t (0, 0))) (hb : base ≤ w.heap.size) (hn : (W.length + 1) * K.bs ≤ 140737488355328)
    (h : ∀ v' w', Wy K w' base v' (W ++ [x]) → w.grownBy w' v.ownBlock → ((∃ g off cap, v = .slice (some ⟨g, off, none⟩) W.length cap ∧ v' = .slice (some ⟨g, off, none⟩) (W.length + 1) cap) ∨ ((∀ k, v'.ownBlock = some k → w.heap.size ≤ k) ∧ w.grownBy w' none)) → wpList Try.prog ops Q rest (a.put o.dst v') w') : wpList Try.prog ops Q (o :: rest) a w :=
  wpList_plain hg fun _ hC => wp_append_way hK w s y ho base v W x hs hw B c hy hB hb hn fun v' w' h2 h3 h4 => hC _ _ (h v' w' h2 h3 h4)
/-- a row of one is laid -/
theorem one_fill (hK : K.Ok) (x : A) (z : Value) (hz : z.cells.size = K.n) : Instr.fill (fun i => some (i * K.n, K.n)) ((Array.range (1 * K.n)).map (z.cells[· % z.cells.size]!)) [(0, .agg ⟨K.enc x⟩)] = some ⟨K.enc x⟩ := by
  have := Great.fill_whole (s := K.n) hK.pos [.agg ⟨K.enc x⟩] ((Array.range (1 * K.n)).map (z.cells[· % z.cells.size]!)) (fun v hv => by rw [List.mem_singleton] at hv; subst hv; exact hK.len x) (by simp)
  simpa [Value.cells] using this
theorem wp_build_one (hK : K.Ok) {o : Oper} {a : Act} {w : World} {C : Act → World → Prop} {Q : Exit → Act → World → Prop} (y : Operand) (ho : o.op = .buildSlice K.ts 1 #[(0, y)]) (x : A) (hx : a.eval y = .agg ⟨K.enc x⟩) (h : C (a.put o.dst (.slice (some ⟨w.heap.size, 0, none⟩) 1 1)) (w.alloc (.cells ⟨K.enc x⟩ K.t))) : o.wp Try.prog a w C Q := by
  obtain ⟨i, z, hi, hz, hzs, his, hib⟩ := hK.info
  refine wp_buildSlice K.ts K.t 1 #[(0, y)] ho ⟨K.enc x⟩ i z hK.und hi hz (by rw [his]; have := hK.nml; omega) (by rw [his]; have := hK.pos; omega) ?_ h
  rw [his]
  simp only [List.map_toArray, List.map_cons, List.map_nil, hx]
  exact one_fill hK x z hzs
theorem wpList_build_one (hK : K.Ok) {ops : Array Oper} {rest : List Oper} {o : Oper} {a : Act} {w : World} {Q : Exit → Act → World → Prop} (hg : o.guard = none) (y : Operand) (ho : o.op = .buildSlice K.ts 1 #[(0, y)]) (x : A) (hx : a.eval y = .agg ⟨K.enc x⟩) (h : wpList Try.prog ops Q rest (a.put o.dst (.slice (some ⟨w.heap.size, 0, none⟩) 1 1)) (w.alloc (.cells ⟨K.enc x⟩ K.t))) : wpList Try.prog ops Q (o :: rest) a w :=
  wpList_plain hg fun _ hC => wp_build_one hK y ho x hx (hC _ _ h)
end
theorem wpList_wanted {P : Program} {ops : Array Oper} {rest : List Oper} {o : Oper} {a : Act} {w : World} {Q : Exit → Act → World → Prop} (hw : Region.wanted o (yielded ops a.tmps) = true)
    (h : ∀ K : Act → World → Prop, (∀ a w, wpList P ops Q rest a w → K a w) → o.wp P a w K Q) : wpList P ops Q (o :: rest) a w :=
  wpList_step fun K hK => by rw [if_pos hw]; exact h K hK
end Go.Proofs.Ytgkdecjlanbmhaa
