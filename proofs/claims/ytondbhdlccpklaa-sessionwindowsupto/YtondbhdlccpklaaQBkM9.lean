import Derived.Test.YtondbhdlccpklaaQRSM9
import Derived.Test.YtondbhdlccpklaaQRgWM9
import Derived.Test.YtondbhdlccpklaaQSameM9
import Derived.Deep.DeepAppendWide
import Derived.Deep.MidRow

/- Stage 13: the law's book: lists that came out. -/
namespace Go.Proofs.Ytondbhdlccpklaa
open Go.RowKit Go.Maps
set_option linter.unusedVariables false
set_option linter.unusedSimpArgs false

theorem cell_new (w : World) (C : Array Value) (t : TypeId) : ∀ j u, C.toList[j]? = some u → (w.alloc (.cells C t)).cell? ((⟨w.heap.size, 0, none⟩ : Addr).add j) = some u := by
  intro j u h
  rw [Addr.add_mid, Nat.zero_add]
  exact cellOf (heap_alloc_last w _) j u (by simpa using h)
theorem own_there {w : World} {base g n cap : Nat} {e : TypeId} {xs : List Value} (h : w.ownsRow base e 3 (.slice (some ⟨g, 0, none⟩) n cap) n xs) {j : Nat} (hj : j < n) : w.there g (j * 3) 3 := fun q hq => by
  refine ⟨?_, h.frozenAt _⟩
  rw [h.cellAt (j * 3 + q) (by omega), List.getElem?_eq_getElem (by rw [h.1]; omega)]
  rfl
theorem own_three {w : World} {base g n cap : Nat} {e : TypeId} {xs : List Value} (h : w.ownsRow base e 3 (.slice (some ⟨g, 0, none⟩) n cap) n xs) (j : Nat) (a b c : Value) : (w.setCells g j [a, b, c]).ownsRow base e 3 (.slice (some ⟨g, 0, none⟩) n cap) n (((xs.set j a).set (j + 1) b).set (j + 1 + 1) c) :=
  (((h.stored j a).1.stored (j + 1) b).1.stored (j + 1 + 1) c).1
theorem kp_three {S : Nat → Prop} {w w' : World} {g : Nat} (h : Kp S w w') (hg : S g) (j : Nat) (a b c : Value) : Kp S w (w'.setCells g j [a, b, c]) := ((h.setCell hg a).setCell hg b).setCell hg c
/-- the book -/
structure Bk (w : World) (kb N : Nat) (S T : List Value) (vl vw : Value) : Prop where
  b : w.heap[kb]? = some (.cells #[.int .i64 (N : Int), vl, vw] 54 (0, 0))
  ol : w.ownsRow (kb + 1) 72 1 vl S.length S
  ow : w.ownsRow (kb + 1) 72 1 vw T.length T
  is : ∀ v ∈ S, ∃ ps, OwnP w (kb + 1) v ps ∧ ps.length ≤ 4294967296
  iu : ∀ v ∈ T, ∃ ps, OwnP w (kb + 1) v ps ∧ ps.length ≤ 4294967296
  it : ∀ (i : Nat) v u, S[i]? = some v → T[i]? = some u → ∃ ps, OwnP w (kb + 1) v ps ∧ OwnP w (kb + 1) u ps ∧ ps.length ≤ 4294967296
  lw : apartV vl vw
  la : ∀ v, v ∈ S ∨ v ∈ T → apartV vl v ∧ apartV vw v
  nd : S.Pairwise apartV
def BkB (kb : Nat) (S T : List Value) (vl vw : Value) (k : Nat) : Prop := k = kb ∨ vl.ownBlock = some k ∨ vw.ownBlock = some k ∨ ∃ v, (v ∈ S ∨ v ∈ T) ∧ v.ownBlock = some k
def Bok (w : World) (kb N : Nat) (D : Nat → Prop) : Prop := ∃ S T vl vw, Bk w kb N S T vl vw ∧ T.length = S.length ∧ 2 * S.length ≤ N ∧ (∀ k, BkB kb S T vl vw k → D k) ∧ ∀ k, D k → k < w.heap.size
section
variable {w w' w1 : World} {kb N : Nat} {S T : List Value} {vl vw v u : Value} {ps : List Pd}
theorem Bk.low (h : Bk w kb N S T vl vw) {k : Nat} (hk : BkB kb S T vl vw k) : k < w.heap.size ∧ (k = kb ∨ kb + 1 ≤ k) := by
  rcases hk with rfl | e | e | ⟨v, hv, e⟩
  · exact ⟨(Array.getElem?_eq_some_iff.1 h.b).1, .inl rfl⟩
  · have := h.ol.lt k e
    exact ⟨this.2, .inr this.1⟩
  · have := h.ow.lt k e
    exact ⟨this.2, .inr this.1⟩
  · rcases hv with hv | hv
    · obtain ⟨ps, o, _⟩ := h.is v hv
      have := World.ownsRow.lt o k e
      exact ⟨this.2, .inr this.1⟩
    · obtain ⟨ps, o, _⟩ := h.iu v hv
      have := World.ownsRow.lt o k e
      exact ⟨this.2, .inr this.1⟩
theorem Bk.at (h : Bk w kb N S T vl vw) (hk : ∀ k, BkB kb S T vl vw k → w'.heap[k]? = w.heap[k]?) : Bk w' kb N S T vl vw := by
  have hs : ∀ {v : Value} {ps : List Pd}, (v ∈ S ∨ v ∈ T) → OwnP w (kb + 1) v ps → OwnP w' (kb + 1) v ps := fun hv o => own_at o fun k e => hk k (.inr (.inr (.inr ⟨_, hv, e⟩)))
  refine ⟨(hk kb (.inl rfl)).trans h.b, own_at h.ol fun k e => hk k (.inr (.inl e)), own_at h.ow fun k e => hk k (.inr (.inr (.inl e))), fun v hv => ?_, fun v hv => ?_, fun i v u e1 e2 => ?_, h.lw, h.la, h.nd⟩
  · obtain ⟨ps, o, hl⟩ := h.is v hv
    exact ⟨ps, hs (.inl hv) o, hl⟩
  · obtain ⟨ps, o, hl⟩ := h.iu v hv
    exact ⟨ps, hs (.inr hv) o, hl⟩
  · obtain ⟨ps, o1, o2, hl⟩ := h.it i v u e1 e2
    exact ⟨ps, hs (.inl (List.mem_of_getElem? e1)) o1, hs (.inr (List.mem_of_getElem? e2)) o2, hl⟩
theorem Bok.keep {D X : Nat → Prop} (h : Bok w kb N D) (hk : Kp X w w') (hx : ∀ k, D k → ¬ X k) : Bok w' kb N D := by
  obtain ⟨S, T, vl, vw, h1, h2, h3, h4, h5⟩ := h
  exact ⟨S, T, vl, vw, h1.at fun k e => hk.block (h1.low e).1 (hx k (h4 k e)), h2, h3, h4, fun k e => Nat.lt_of_lt_of_le (h5 k e) hk.size⟩
theorem Bok.out {D : Nat → Prop} (h : Bok w kb N D) {k : Nat} (hk : D k) : k < w.heap.size := by
  obtain ⟨S, T, vl, vw, h1, h2, h3, h4, h5⟩ := h
  exact h5 k hk
/-- the count alone is turned -/
theorem Bk.setN (h : Bk w kb N S T vl vw) (M : Nat) : Bk (w.setCell ⟨kb, 0, none⟩ (.int .i64 (M : Int))) kb M S T vl vw := by
  have hne : ∀ k, BkB kb S T vl vw k → k ≠ kb → (w.setCell ⟨kb, 0, none⟩ (.int .i64 (M : Int))).heap[k]? = w.heap[k]? := fun k _ hn => blk_set_other _ _ _ _ hn
  have hk1 : ∀ {v : Value}, (∀ k, v.ownBlock = some k → kb + 1 ≤ k) → ∀ k, v.ownBlock = some k → (w.setCell ⟨kb, 0, none⟩ (.int .i64 (M : Int))).heap[k]? = w.heap[k]? := fun hv k e => blk_set_other _ _ _ _ (by show k ≠ kb; have := hv k e; omega)
  have hs : ∀ {v : Value} {ps : List Pd}, OwnP w (kb + 1) v ps → OwnP (w.setCell ⟨kb, 0, none⟩ (.int .i64 (M : Int))) (kb + 1) v ps := fun o => own_at o (hk1 fun k e => (World.ownsRow.lt o k e).1)
  refine ⟨?_, own_at h.ol (hk1 fun k e => (h.ol.lt k e).1), own_at h.ow (hk1 fun k e => (h.ow.lt k e).1), fun v hv => ?_, fun v hv => ?_, fun i v u e1 e2 => ?_, h.lw, h.la, h.nd⟩
  · have := h.b
    simp [World.setCell, Array.getElem?_modify, this]
  · obtain ⟨ps, o, hl⟩ := h.is v hv
    exact ⟨ps, hs o, hl⟩
  · obtain ⟨ps, o, hl⟩ := h.iu v hv
    exact ⟨ps, hs o, hl⟩
  · obtain ⟨ps, o1, o2, hl⟩ := h.it i v u e1 e2
    exact ⟨ps, hs o1, hs o2, hl⟩
/-- a list is put behind the lists -/
theorem Bk.pushL (h : Bk w kb N S T vl vw) (hT : T.length = S.length) (hv : OwnP w (kb + 1) v ps) (hp : ps.length ≤ 4294967296) (hd : ∀ k, v.ownBlock = some k → ¬ BkB kb S T vl vw k) {v' : Value} {o : Obj} (ho : w1.ownsRow (kb + 1) 72 1 v' (S.length + 1) (S ++ [v])) (hg : (w.alloc o).grownBy w1 vl.ownBlock) (hat : v'.ownBlock = vl.ownBlock ∨ v'.ownBlock = some (w.alloc o).heap.size) :
    Bk (w1.setCell ⟨kb, 1, none⟩ v') kb N (S ++ [v]) T v' vw := by
  have hs1 : (w.alloc o).heap.size = w.heap.size + 1 := by simp
  have hkb := (Array.getElem?_eq_some_iff.1 h.b).1
  have old1 : ∀ k, k < w.heap.size → vl.ownBlock ≠ some k → w1.heap[k]? = w.heap[k]? := fun k hk hne => by
    rw [hg.block k (by omega) (fun e => hne e.symm)]
    exact (bel1 (Below.refl w.heap.size w) (Nat.le_refl _) o).block k hk
  have old : ∀ k, k < w.heap.size → vl.ownBlock ≠ some k → k ≠ kb → (w1.setCell ⟨kb, 1, none⟩ v').heap[k]? = w.heap[k]? := fun k hk hne hkk => (blk_set_other _ _ _ _ hkk).trans (old1 k hk hne)
  have hv' : ∀ k, v'.ownBlock = some k → vl.ownBlock = some k ∨ w.heap.size ≤ k := fun k e => by
    rcases hat with e' | e'
    · exact .inl (e' ▸ e)
    · rw [e'] at e
      cases e
      exact .inr (by omega)
  have hap : ∀ {x : Value}, apartV vl x → (∀ k, x.ownBlock = some k → k < w.heap.size) → apartV v' x := fun ha hl k e1 e2 => by
    rcases hv' k e1 with e | e
    · exact ha k e e2
    · have := hl k e2
      omega
  have hs : ∀ {x : Value} {ps : List Pd}, apartV vl x → OwnP w (kb + 1) x ps → OwnP (w1.setCell ⟨kb, 1, none⟩ v') (kb + 1) x ps := fun ha oo => own_at oo fun k e => old k (World.ownsRow.lt oo k e).2 (fun e' => ha k e' e) (by have := (World.ownsRow.lt oo k e).1; omega)
  have hvl : apartV vl v := fun k e1 e2 => hd k e2 (.inr (.inl e1))
  have hvw : apartV vw v := fun k e1 e2 => hd k e2 (.inr (.inr (.inl e1)))
  refine ⟨?_, by rw [List.length_append]; exact own_at ho fun k e => blk_set_other _ _ _ _ (by show k ≠ kb; have := (ho.lt k e).1; omega), own_at h.ow fun k e => old k (h.ow.lt k e).2 (fun e' => h.lw k e' e) (by have := (h.ow.lt k e).1; omega), fun x hx => ?_, fun x hx => ?_, fun i x y e1 e2 => ?_, hap h.lw fun k e => (h.ow.lt k e).2, fun x hx => ?_, ?_⟩
  · have := (old1 kb hkb (fun e => by have := (h.ol.lt kb e).1; omega)).trans h.b
    simp [World.setCell, Array.getElem?_modify, this]
  · rcases List.mem_append.1 hx with hx | hx
    · obtain ⟨ps, o, hl⟩ := h.is x hx
      exact ⟨ps, hs (h.la x (.inl hx)).1 o, hl⟩
    · rw [List.mem_singleton] at hx
      subst hx
      exact ⟨ps, hs hvl hv, hp⟩
  · obtain ⟨ps, o, hl⟩ := h.iu x hx
    exact ⟨ps, hs (h.la x (.inr hx)).1 o, hl⟩
  · have hi : i < T.length := (List.getElem?_eq_some_iff.1 e2).1
    rw [List.getElem?_append_left (by omega)] at e1
    obtain ⟨ps, o1, o2, hl⟩ := h.it i x y e1 e2
    exact ⟨ps, hs (h.la x (.inl (List.mem_of_getElem? e1))).1 o1, hs (h.la y (.inr (List.mem_of_getElem? e2))).1 o2, hl⟩
  · have hx' : (x ∈ S ∨ x ∈ T) ∨ x = v := by
      rcases hx with hx | hx
      · rcases List.mem_append.1 hx with hx | hx
        · exact .inl (.inl hx)
        · exact .inr (List.mem_singleton.1 hx)
      · exact .inl (.inr hx)
    rcases hx' with hx' | rfl
    · exact ⟨hap (h.la x hx').1 fun k e => (h.low (.inr (.inr (.inr ⟨x, hx', e⟩)))).1, (h.la x hx').2⟩
    · exact ⟨hap hvl fun k e => (World.ownsRow.lt hv k e).2, hvw⟩
  · rw [List.pairwise_append]
    refine ⟨h.nd, List.pairwise_singleton _ _, fun x hx y hy k e1 e2 => ?_⟩
    rw [List.mem_singleton] at hy
    subst hy
    exact hd k e2 (.inr (.inr (.inr ⟨x, .inl hx, e1⟩)))
/-- what it was, put behind what they were -/
theorem Bk.pushW (h : Bk w kb N S T vl vw) (hlast : ∀ (i : Nat) x, i = T.length → S[i]? = some x → ∃ ps, OwnP w (kb + 1) x ps ∧ OwnP w (kb + 1) u ps ∧ ps.length ≤ 4294967296) (hu : OwnP w (kb + 1) u ps) (hp : ps.length ≤ 4294967296) (hd : ∀ k, u.ownBlock = some k → ¬ BkB kb S T vl vw k) {v' : Value} {o : Obj} (ho : w1.ownsRow (kb + 1) 72 1 v' (T.length + 1) (T ++ [u])) (hg : (w.alloc o).grownBy w1 vw.ownBlock) (hat : v'.ownBlock = vw.ownBlock ∨ v'.ownBlock = some (w.alloc o).heap.size) :
    Bk (w1.setCell ⟨kb, 2, none⟩ v') kb N S (T ++ [u]) vl v' := by
  have hs1 : (w.alloc o).heap.size = w.heap.size + 1 := by simp
  have hkb := (Array.getElem?_eq_some_iff.1 h.b).1
  have old1 : ∀ k, k < w.heap.size → vw.ownBlock ≠ some k → w1.heap[k]? = w.heap[k]? := fun k hk hne => by
    rw [hg.block k (by omega) (fun e => hne e.symm)]
    exact (bel1 (Below.refl w.heap.size w) (Nat.le_refl _) o).block k hk
  have old : ∀ k, k < w.heap.size → vw.ownBlock ≠ some k → k ≠ kb → (w1.setCell ⟨kb, 2, none⟩ v').heap[k]? = w.heap[k]? := fun k hk hne hkk => (blk_set_other _ _ _ _ hkk).trans (old1 k hk hne)
  have hv' : ∀ k, v'.ownBlock = some k → vw.ownBlock = some k ∨ w.heap.size ≤ k := fun k e => by
    rcases hat with e' | e'
    · exact .inl (e' ▸ e)
    · rw [e'] at e
      cases e
      exact .inr (by omega)
  have hap : ∀ {x : Value}, apartV vw x → (∀ k, x.ownBlock = some k → k < w.heap.size) → apartV v' x := fun ha hl k e1 e2 => by
    rcases hv' k e1 with e | e
    · exact ha k e e2
    · have := hl k e2
      omega
  have hs : ∀ {x : Value} {ps : List Pd}, apartV vw x → OwnP w (kb + 1) x ps → OwnP (w1.setCell ⟨kb, 2, none⟩ v') (kb + 1) x ps := fun ha oo => own_at oo fun k e => old k (World.ownsRow.lt oo k e).2 (fun e' => ha k e' e) (by have := (World.ownsRow.lt oo k e).1; omega)
  have hvl : apartV vl u := fun k e1 e2 => hd k e2 (.inr (.inl e1))
  have hvw : apartV vw u := fun k e1 e2 => hd k e2 (.inr (.inr (.inl e1)))
  have hlw : apartV vw vl := fun k e1 e2 => h.lw k e2 e1
  refine ⟨?_, own_at h.ol fun k e => old k (h.ol.lt k e).2 (fun e' => hlw k e' e) (by have := (h.ol.lt k e).1; omega), by rw [List.length_append]; exact own_at ho fun k e => blk_set_other _ _ _ _ (by show k ≠ kb; have := (ho.lt k e).1; omega), fun x hx => ?_, fun x hx => ?_, fun i x y e1 e2 => ?_, fun k e1 e2 => hap hlw (fun k e => (h.ol.lt k e).2) k e2 e1, fun x hx => ?_, h.nd⟩
  · have := (old1 kb hkb (fun e => by have := (h.ow.lt kb e).1; omega)).trans h.b
    simp [World.setCell, Array.getElem?_modify, this]
  · obtain ⟨ps, o, hl⟩ := h.is x hx
    exact ⟨ps, hs (h.la x (.inl hx)).2 o, hl⟩
  · rcases List.mem_append.1 hx with hx | hx
    · obtain ⟨ps, o, hl⟩ := h.iu x hx
      exact ⟨ps, hs (h.la x (.inr hx)).2 o, hl⟩
    · rw [List.mem_singleton] at hx
      subst hx
      exact ⟨ps, hs hvw hu, hp⟩
  · by_cases hi : i < T.length
    · rw [List.getElem?_append_left hi] at e2
      obtain ⟨ps, o1, o2, hl⟩ := h.it i x y e1 e2
      exact ⟨ps, hs (h.la x (.inl (List.mem_of_getElem? e1))).2 o1, hs (h.la y (.inr (List.mem_of_getElem? e2))).2 o2, hl⟩
    · have hi' : i = T.length := by
        have := (List.getElem?_eq_some_iff.1 e2).1
        rw [List.length_append, List.length_singleton] at this
        omega
      obtain ⟨ps, o1, o2, hl⟩ := hlast i x hi' e1
      rw [hi', List.getElem?_append_right (Nat.le_refl _), Nat.sub_self] at e2
      cases e2
      exact ⟨ps, hs (h.la x (.inl (List.mem_of_getElem? e1))).2 o1, hs hvw o2, hl⟩
  · have hx' : (x ∈ S ∨ x ∈ T) ∨ x = u := by
      rcases hx with hx | hx
      · exact .inl (.inl hx)
      · rcases List.mem_append.1 hx with hx | hx
        · exact .inl (.inr hx)
        · exact .inr (List.mem_singleton.1 hx)
    rcases hx' with hx' | rfl
    · exact ⟨(h.la x hx').1, hap (h.la x hx').2 fun k e => (h.low (.inr (.inr (.inr ⟨x, hx', e⟩)))).1⟩
    · exact ⟨hvl, hap hvw fun k e => (World.ownsRow.lt hu k e).2⟩
end
end Go.Proofs.Ytondbhdlccpklaa
