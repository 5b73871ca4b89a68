import Derived.Deep.RegionHeld
import Derived.Test.YtgpimajdcfoigabDoorD24
import Derived.Test.YtgpimajdcfoigabDoorD17
import Derived.Test.YtgpimajdcfoigabDoorD18

/- A region that draws its order: what a load reads may be written later in the region by an operation that waits for the load. -/
namespace Go.Proofs.YtgpimajdcfoigabDoor
set_option linter.unusedVariables false
section
variable {P : Program} {ops : Array Oper} {Q : Exit → Act → World → Prop} {md : Region.Mode} {S : World → Prop} {C : Nat → World → Prop}
/-- S holds, and so does C z, till operation z has come up -/
def Kept (S : World → Prop) (C : Nat → World → Prop) (listed : Array Bool) (w : World) : Prop := S w ∧ ∀ z, listed.getD z true = false → C z w
def wpAnyZ (P : Program) (md : Region.Mode) (ops : Array Oper) (Q : Exit → Act → World → Prop) (S : World → Prop) (C : Nat → World → Prop) : Nat → Array Bool → Act → World → Prop
  | 0, listed, a, w => Region.ready md ops listed = [] ∧ Q .normal a w
  | fuel + 1, listed, a, w =>
    (Region.ready md ops listed = [] → Q .normal a w) ∧
    ∀ i ∈ Region.ready md ops listed, wpOp P ops Q i (fun a' w' => Kept S C (listed.setIfInBounds i true) w' ∧ wpAnyZ P md ops Q S C fuel (listed.setIfInBounds i true) a' w') a w
theorem wpAny_of_Z : ∀ (fuel : Nat) (listed : Array Bool) (a : Act) (w : World), wpAnyZ P md ops Q S C fuel listed a w → wpAny P md ops Q fuel listed a w
  | 0, _, _, _, h => h
  | fuel + 1, _, _, _, h => ⟨h.1, fun i hi => wpOp_mono (fun a' w' h' => wpAny_of_Z fuel _ a' w' h'.2) (h.2 i hi)⟩
/-- z waits for i -/
def waitsFor (md : Region.Mode) (ops : Array Oper) (i z : Nat) : Bool := match ops[z]? with | some oz => oz.after.any (fun e => Region.binds md e && decide (e.on = i)) | none => false
theorem waits_spec {i z : Nat} (h : waitsFor md ops i z = true) {listed : Array Bool} (hi : listed.getD i true = false) : z ∉ Region.ready md ops listed := by
  intro hz
  obtain ⟨_, oz, hoz, hall⟩ := mem_ready.1 hz
  unfold waitsFor at h
  rw [hoz] at h
  simp only [Array.any_eq_true, Bool.and_eq_true, decide_eq_true_eq] at h
  obtain ⟨k, hk, hb, he⟩ := h
  have h1 := hall _ (Array.getElem_mem hk) hb
  rw [he] at h1
  rcases Nat.lt_or_ge i listed.size with h' | h'
  · simp [h'] at hi h1; rw [hi] at h1; cases h1
  · simp [Array.getElem?_eq_none h'] at h1
theorem wpAnyZ_first {i : Nat} {oi : Oper} {v : Value} {Zs : List Nat} (hi : ops[i]? = some oi) (hsel : ∀ (j : Nat) (o : Oper) cs b, ops[j]? = some o → o.op ≠ .select cs b)
    (hQ : ∀ c a w, Q (.panic c) (a.put oi.dst v) w → Q (.panic c) a w) (hCi : ∀ w, C i w) (hz : ∀ z ∈ Zs, waitsFor md ops i z = true) :
    ∀ (fuel : Nat) (listed : Array Bool) (a : Act) (w : World),
      (∀ j oj, ops[j]? = some oj → j ≠ i → listed.getD j true = false → (∀ e ∈ oj.after, Region.binds md e = true → e.on ≠ i) → oi.apart ops oj = true) →
      i ∈ Region.ready md ops listed → YieldsIf P ops (fun w => S w ∧ ∀ z ∈ Zs, C z w) oi v a → (∀ z ∈ Zs, listed.getD z true = false) → Kept S C listed w →
      wpAnyZ P md ops Q S C fuel (listed.setIfInBounds i true) (a.put oi.dst v) w → wpAnyZ P md ops Q S C (fuel + 1) listed a w := by
  intro fuel
  induction fuel with
  | zero =>
    intro listed a w _ hr hy hun hS H
    refine ⟨fun h => (by rw [h] at hr; cases hr), fun j hj => ?_⟩
    by_cases hji : j = i
    · subst hji
      refine hy.wpOp hi ⟨hS.1, fun z hz' => hS.2 z (hun z hz')⟩ ⟨⟨hS.1, fun z hzz => ?_⟩, H⟩
      by_cases e : j = z
      · subst e; exact hCi w
      · rw [getD_set_ne true e] at hzz; exact hS.2 z hzz
    · have := ready_mono hj hji
      rw [H.1] at this
      cases this
  | succ fuel ih =>
    intro listed a w hfree hr hy hun hS H
    refine ⟨fun h => (by rw [h] at hr; cases hr), fun j hj => ?_⟩
    by_cases hji : j = i
    · subst hji
      refine hy.wpOp hi ⟨hS.1, fun z hz' => hS.2 z (hun z hz')⟩ ⟨⟨hS.1, fun z hzz => ?_⟩, H⟩
      by_cases e : j = z
      · subst e; exact hCi w
      · rw [getD_set_ne true e] at hzz; exact hS.2 z hzz
    · have h1 := H.2 j (ready_mono hj hji)
      obtain ⟨hjun, oj, hoj, hall⟩ := mem_ready.1 hj
      have hiun := (mem_ready.1 hr).1
      have hnot : ∀ e ∈ oj.after, Region.binds md e = true → e.on ≠ i := fun e he hb heq => by
        have h1 := hall e he hb
        have h0 := hiun
        rw [heq] at h1
        rcases Nat.lt_or_ge i listed.size with h' | h'
        · simp [h'] at h0 h1; rw [h0] at h1; cases h1
        · simp [Array.getElem?_eq_none h'] at h1
      have h2 := wpOp_putIf hoj (hfree j oj hoj hji hjun hnot) (fun cs b => hsel i oi cs b hi) (fun cs b => hsel j oj cs b hoj) hQ hy h1
      have hfree' : ∀ k ok, ops[k]? = some ok → k ≠ i → (listed.setIfInBounds j true).getD k true = false →
          (∀ e ∈ ok.after, Region.binds md e = true → e.on ≠ i) → oi.apart ops ok = true := fun k ok hk hki hun hno => by
        refine hfree k ok hk hki ?_ hno
        by_cases hjk : j = k
        · subst hjk; exact hjun
        · rw [getD_set_ne true hjk] at hun; exact hun
      have hun' : ∀ z ∈ Zs, (listed.setIfInBounds j true).getD z true = false := fun z hzz => by
        have hjz : j ≠ z := fun e => by
          subst e
          exact waits_spec (hz j hzz) hiun hj
        rw [getD_set_ne true hjz]
        exact hun z hzz
      refine wpOp_mono (fun a' w' h3 => ?_) h2
      have hK : Kept S C (listed.setIfInBounds j true) w' := ⟨h3.2.1.1, fun z hzz => by
        by_cases e : i = z
        · subst e; exact hCi w'
        · refine h3.2.1.2 z ?_
          rw [Array.setIfInBounds_comm _ _ (Ne.symm hji), getD_set_ne true e]
          exact hzz⟩
      refine ⟨hK, ih (listed.setIfInBounds j true) a' w' hfree' (ready_mono hr (Ne.symm hji)) h3.1 hun' hK ?_⟩
      rw [Array.setIfInBounds_comm _ _ hji]
      exact h3.2.2
theorem Z_take {i d : Nat} {v : Value} {oi : Oper} {Zs : List Nat} {fuel : Nat} {listed : Array Bool} {tmps : Array Value} {df : List Deferred} {w : World} (hi : ops[i]? = some oi) (hd : oi.dst = some d)
    (hs : Region.noSelect ops = true) (hf : Region.free md ops listed i = true) (hr : (Region.ready md ops listed).contains i = true)
    (hQ : ∀ c a w, Q (.panic c) (a.put (some d) v) w → Q (.panic c) a w) (hCi : ∀ w, C i w) (hz : (Zs.all fun z => waitsFor md ops i z && !listed.getD z true) = true) (hg : oi.guard = none)
    (hy : ∀ w, S w → (∀ z ∈ Zs, C z w) → (execOp (Act.eval ⟨tmps, df⟩) oi).run P w = .ok (.value v) w) (hS : Kept S C listed w)
    (h : wpAnyZ P md ops Q S C fuel (listed.setIfInBounds i true) ⟨tmps.setIfInBounds d v, df⟩ w) : wpAnyZ P md ops Q S C (fuel + 1) listed ⟨tmps, df⟩ w := by
  rw [List.all_eq_true] at hz
  refine wpAnyZ_first (Zs := Zs) hi (Region.noSelect_spec hs) (by rw [hd]; exact hQ) hCi (fun z hzz => by have := hz z hzz; simp at this; exact this.1) fuel listed ⟨tmps, df⟩ w (Region.free_spec hi hf) (by simpa using hr) (.inl ⟨by unfold Region.wanted; rw [hg], fun w hw => hy w hw.1 hw.2⟩) (fun z hzz => by have := hz z hzz; simp only [Bool.and_eq_true, Bool.not_eq_true'] at this; exact this.2) hS (by rw [hd]; exact h)
def AllReadyZ (P : Program) (md : Region.Mode) (ops : Array Oper) (Q : Exit → Act → World → Prop) (S : World → Prop) (C : Nat → World → Prop) (fuel : Nat) (listed : Array Bool) (a : Act) (w : World) (rs : List Nat) : Prop :=
  ∀ i ∈ rs, wpOp P ops Q i (fun a' w' => Kept S C (listed.setIfInBounds i true) w' ∧ wpAnyZ P md ops Q S C fuel (listed.setIfInBounds i true) a' w') a w
theorem AllReadyZ.nil {fuel : Nat} {listed : Array Bool} {a : Act} {w : World} : AllReadyZ P md ops Q S C fuel listed a w [] := fun _ h => by cases h
theorem AllReadyZ.cons {fuel : Nat} {listed : Array Bool} {a : Act} {w : World} {i : Nat} {o : Oper} {rs : List Nat} (ho : ops[i]? = some o)
    (h : ∀ K' : Act → World → Prop, Shut (∀ a w, Kept S C (listed.setIfInBounds i true) w → (Kept S C (listed.setIfInBounds i true) w → wpAnyZ P md ops Q S C fuel (listed.setIfInBounds i true) a w) → K' a w) → if Region.wanted o (yielded ops a.tmps) = true then Oper.wp P o a w K' Q else K' (a.put o.dst undef) w)
    (hs : AllReadyZ P md ops Q S C fuel listed a w rs) : AllReadyZ P md ops Q S C fuel listed a w (i :: rs) := fun j hj => by
  rcases List.mem_cons.1 hj with rfl | hj
  · exact wpOp_step ho (fun K' hK => h K' (fun a w hS hW => hK a w ⟨hS, hW hS⟩))
  · exact hs j hj
theorem wpAnyZ_ready {rs : List Nat} {fuel : Nat} {listed : Array Bool} {a : Act} {w : World} (hr : Region.ready md ops listed = rs) (hne : rs ≠ [])
    (h : AllReadyZ P md ops Q S C fuel listed a w rs) : wpAnyZ P md ops Q S C (fuel + 1) listed a w := ⟨fun h0 => absurd (hr ▸ h0) hne, hr ▸ h⟩
theorem wpAnyZ_done {listed : Array Bool} {a : Act} {w : World} (hr : Region.ready md ops listed = []) (h : Q .normal a w) : ∀ fuel, wpAnyZ P md ops Q S C fuel listed a w
  | 0 => ⟨hr, h⟩
  | _ + 1 => ⟨fun _ => h, by rw [hr]; simp⟩
theorem wp_region_Z {id : Nat} {a : Act} {w : World} (hm : P.follows .mixedOrders = true) (hS : Kept S C (Array.replicate ops.size false) w.drew)
    (h : Kept S C (Array.replicate ops.size false) w.drew → wpAnyZ P .any ops Q S C ops.size (Array.replicate ops.size false) a w.drew) : (Code.region id ops true).wp P Q a w :=
  wp_region_any hm (wpAny_of_Z _ _ _ _ (h hS))
end
end Go.Proofs.YtgpimajdcfoigabDoor


/- A list of values that is gathered in a variable's box. -/
namespace Go.Proofs.YtgpimajdcfoigabDoor
open Go.RowKit
set_option linter.unusedVariables false
set_option linter.unusedSimpArgs false
def zeroW : List Value := [.int .i64 0, .int .u64 0, .string ⟨#[]⟩, .slice none 0 0, .int .i64 0]
theorem heap_far0 {W : World} {b b' : Nat} (hne : b' ≠ b) {o : Nat} {u : Value} : (W.setCell ⟨b, o, none⟩ u).heap[b']? = W.heap[b']? := Below.heap_setCell _ _ _ _ (by exact hne)
/-- the last of a row is written -/
theorem own_put5 {w : World} {base : Nat} {t : TypeId} {i g c : Nat} {xs zs : List Value} (y : V) (h : w.ownsRow base t 5 (.slice (some ⟨g, 0, none⟩) (i + 1) c) (i + 1) (xs ++ zs)) (hx : xs.length = i * 5) (hz : zs.length = 5) :
    (put5 w g (i * 5) y).ownsRow base t 5 (.slice (some ⟨g, 0, none⟩) (i + 1) c) (i + 1) (xs ++ words y) := by
  obtain ⟨h1, h2⟩ := h
  refine ⟨by simp [words, hx]; omega, ?_⟩
  rcases h2 with ⟨h2, h3⟩ | ⟨g', cap, cur, e, hb, hh, hle, hmx, hsz, htk⟩
  · omega
  simp only [Value.slice.injEq, Option.some.injEq, Addr.mk.injEq] at e
  obtain ⟨⟨rfl, _⟩, _, rfl⟩ := e
  refine .inr ⟨g, c, ((((cur.setIfInBounds (i * 5) (.int .i64 y.k)).setIfInBounds (i * 5 + 1) (.int .u64 y.n)).setIfInBounds (i * 5 + 2) (.string y.s)).setIfInBounds (i * 5 + 3) (.slice y.a y.l.length y.c)).setIfInBounds (i * 5 + 4) (.int .i64 y.e), rfl, hb, ?_, hle, hmx, by simpa using hsz, ?_⟩
  · rw [← put5_eq]
    simp [World.setCell, Array.getElem?_modify, hh]
  · apply List.ext_getElem?
    intro j
    have hsz' : (i + 1) * 5 ≤ cur.size := by rw [hsz]; exact Nat.mul_le_mul_right 5 hle
    have hcur : ∀ j, j < i * 5 → cur.toList[j]? = xs[j]? := fun j hj => by
      have : (cur.toList.take ((i + 1) * 5))[j]? = (xs ++ zs)[j]? := by rw [htk]
      rw [List.getElem?_take_of_lt (by omega), List.getElem?_append_left (by omega)] at this
      exact this
    by_cases hj : j < (i + 1) * 5
    · rw [List.getElem?_take_of_lt hj]
      simp only [Array.toList_setIfInBounds]
      by_cases hj2 : j < i * 5
      · rw [List.getElem?_append_left (by omega), ← hcur j hj2]
        simp only [List.getElem?_set]
        rw [if_neg (by omega), if_neg (by omega), if_neg (by omega), if_neg (by omega), if_neg (by omega)]
      · rw [List.getElem?_append_right (by omega), hx]
        have hl : cur.toList.length = cur.size := rfl
        obtain ⟨k, rfl, hk⟩ : ∃ k, j = i * 5 + k ∧ k < 5 := ⟨j - i * 5, by omega, by omega⟩
        rw [Nat.add_sub_cancel_left]
        simp only [List.getElem?_set, List.length_set, hl]
        match k, hk with
        | 0, _ => simp [words]; omega
        | 1, _ => simp [words]; omega
        | 2, _ => simp [words]; omega
        | 3, _ => simp [words]; omega
        | 4, _ => simp [words]; omega
    · rw [List.getElem?_eq_none (by rw [List.length_take]; omega), List.getElem?_eq_none (by simp [words, hx]; omega)]
/-- a list of values stands in the variable lb, in a row of its own from M on -/
structure Gat (M lb : Nat) (ys : List V) (lv : Value) (W : World) : Prop where
  box : W.heap[lb]? = some (.cells #[lv] 23)
  row : W.ownsRow M 25 5 lv ys.length (flat ys)
  lies : ∀ y ∈ ys, LiesIn (fun b => M ≤ b ∧ b < W.heap.size ∧ lv.ownBlock ≠ some b) W y
theorem Gat.gro {M lb R : Nat} {ys : List V} {lv : Value} {W W' : World} (h : Gat M lb ys lv W) (hg : Gro R W W') (hl : lb ≠ R) (hM : R < M) : Gat M lb ys lv W' := by
  have hlt := (Array.getElem?_eq_some_iff.1 h.box).1
  refine ⟨(hg.block lb hlt (by simp; exact hl)).trans h.box, ownsRow_keep h.row (fun g hg' => ?_), fun y hy => (h.lies y hy).keep (fun b hb o => ?_) (fun b hb => ⟨hb.1, by have := hg.size; omega, hb.2.2⟩)⟩
  · have := ownsRow_lt h.row hg'
    exact hg.block g this.2 (by simp; omega)
  · exact World.cell?_of_block (hg.block b hb.2.1 (by simp; omega))
theorem Gat.slice {M lb : Nat} {ys : List V} {lv : Value} {W : World} (h : Gat M lb ys lv W) : ∃ la lc, lv = .slice la ys.length lc ∧ (la = none → ys = [] ∧ lc = 0) ∧ ys.length ≤ lc := by
  rcases h.row.2 with ⟨h1, h2⟩ | ⟨g, cap, cur, e, _, _, h3, _⟩
  · have : ys = [] := List.eq_nil_of_length_eq_zero h2
    subst this
    exact ⟨none, 0, h1, fun _ => ⟨rfl, rfl⟩, Nat.le_refl _⟩
  · exact ⟨some ⟨g, 0, none⟩, cap, e, fun h => (by cases h), h3⟩
/-- a world behind the two stores -/
structure Fin2 (w5 wf : World) (g lb i : Nat) (y : V) (v' : Value) : Prop where
  os : wf.os = w5.os
  tape : wf.tape = w5.tape
  output : wf.output = w5.output
  size : wf.heap.size = w5.heap.size
  box : wf.heap[lb]? = some (.cells #[v'] 23)
  row : wf.heap[g]? = (put5 w5 g (i * 5) y).heap[g]?
  rest : ∀ b, b ≠ lb → b ≠ g → wf.heap[b]? = w5.heap[b]?
theorem sc3 (W : World) (a : Addr) (u : Value) : (W.setCell a u).os = W.os ∧ (W.setCell a u).tape = W.tape ∧ (W.setCell a u).output = W.output := by
  unfold World.setCell
  exact ⟨rfl, rfl, rfl⟩
theorem put5_3 (w : World) (g o : Nat) (y : V) : (put5 w g o y).os = w.os ∧ (put5 w g o y).tape = w.tape ∧ (put5 w g o y).output = w.output := by
  rw [← put5_eq]
  simp only [sc3]
  exact ⟨trivial, trivial, trivial⟩
theorem put5_far {w : World} {g o b : Nat} {y : V} (h : b ≠ g) : (put5 w g o y).heap[b]? = w.heap[b]? := by
  rw [← put5_eq, heap_far0 h, heap_far0 h, heap_far0 h, heap_far0 h, heap_far0 h]
theorem fin_a {w5 : World} {g lb i : Nat} {y : V} {v' lv : Value} (hb : w5.heap[lb]? = some (.cells #[lv] 23)) (hne : lb ≠ g) : Fin2 w5 ((put5 w5 g (i * 5) y).setCell ⟨lb, 0, none⟩ v') g lb i y v' := by
  refine ⟨(sc3 _ _ _).1.trans (put5_3 _ _ _ _).1, (sc3 _ _ _).2.1.trans (put5_3 _ _ _ _).2.1, (sc3 _ _ _).2.2.trans (put5_3 _ _ _ _).2.2, by rw [← put5_eq]; simp, ?_, heap_far0 (Ne.symm hne) .., fun b h1 h2 => (heap_far0 h1).trans (put5_far h2)⟩
  have : (put5 w5 g (i * 5) y).heap[lb]? = some (.cells #[lv] 23) := (put5_far hne).trans hb
  simp [World.setCell, Array.getElem?_modify, this]
theorem fin_b {w5 : World} {g lb i : Nat} {y : V} {v' lv : Value} (hb : w5.heap[lb]? = some (.cells #[lv] 23)) (hne : lb ≠ g) : Fin2 w5 (put5 (w5.setCell ⟨lb, 0, none⟩ v') g (i * 5) y) g lb i y v' := by
  refine ⟨(put5_3 _ _ _ _).1.trans (sc3 _ _ _).1, (put5_3 _ _ _ _).2.1.trans (sc3 _ _ _).2.1, (put5_3 _ _ _ _).2.2.trans (sc3 _ _ _).2.2, by rw [← put5_eq]; simp, ?_, ?_, fun b h1 h2 => (put5_far h2).trans (heap_far0 h1)⟩
  · rw [put5_far hne]
    simp [World.setCell, Array.getElem?_modify, hb]
  · rw [← put5_eq, ← put5_eq]
    have e : (w5.setCell ⟨lb, 0, none⟩ v').heap[g]? = w5.heap[g]? := heap_far0 (Ne.symm hne)
    cases hh : w5.heap[g]? with
    | none => simp [World.setCell, Array.getElem?_modify, hh, hne]
    | some o => cases o <;> simp [World.setCell, Array.getElem?_modify, hh, hne]
/-- one value more -/
theorem Gat.push {M lb R : Nat} {ys : List V} {lv v' : Value} {wr W4 w5 wf : World} {y : V} {g c : Nat} {zs : List Value} (h : Gat M lb ys lv wr) (hl : lb ≠ R) (hlM : lb < M) (hM : R < M) (hMw : M ≤ wr.heap.size) (hg : Gro R wr W4)
    (hy : LiesIn (fun b => wr.heap.size ≤ b ∧ b < W4.heap.size) W4 y) (hz : zs.length = 5) (hv : v' = .slice (some ⟨g, 0, none⟩) (ys.length + 1) c)
    (h5 : w5.ownsRow M 25 5 v' (ys.length + 1) (flat ys ++ zs)) (h6 : W4.grownBy w5 lv.ownBlock) (h7 : v'.ownBlock = lv.ownBlock ∨ v'.ownBlock = some W4.heap.size) (hf : Fin2 w5 wf g lb ys.length y v') :
    Gat M lb (ys ++ [y]) v' wf ∧ (∀ w0, Gro R w0 wr → w0.heap.size ≤ lb → w0.heap.size ≤ M → Gro R w0 wf) ∧ (∀ b, b < M → b ≠ lb → wf.heap[b]? = W4.heap[b]?) ∧ wr.heap.size ≤ wf.heap.size := by
  have h4 := h.gro hg hl hM
  have hg4 := hg.size
  have hs5 := h6.size
  have hsf := hf.size
  have hgo : v'.ownBlock = some g := by rw [hv]; rfl
  have hgM : M ≤ g := by
    rcases h5.2 with ⟨e, _⟩ | ⟨g', _, _, e, hb, _⟩
    · rw [hv] at e; cases e
    · rw [hv] at e; cases e; exact hb
  have hkeep : ∀ b, b < W4.heap.size → lv.ownBlock ≠ some b → b ≠ g → b ≠ lb → wf.heap[b]? = W4.heap[b]? := fun b h1 h2 h3 h4 => (hf.rest b h4 h3).trans (h6.block b h1 (fun e => h2 e.symm))
  have hgn : ∀ b, b < W4.heap.size → lv.ownBlock ≠ some b → b ≠ g := fun b h1 h2 e => by
    subst e
    rcases h7 with h7 | h7
    · exact h2 (h7.symm.trans hgo)
    · rw [hgo] at h7; cases h7; omega
  have hlow : ∀ b, b < M → lv.ownBlock ≠ some b := fun b hb e => by have := (ownsRow_lt h.row e).1; omega
  refine ⟨⟨hf.box, ?_, fun x hx => ?_⟩, fun w0 hw0 hl0 hM0 => ?_, fun b hb hne => hkeep b (by omega) (hlow b hb) (by omega) hne, by omega⟩
  · rw [List.length_append, flat_append]
    have e : flat [y] = words y := by simp [flat]
    rw [e]
    rw [hv] at h5 ⊢
    refine ownsRow_keep (own_put5 y h5 (flat_length ys) hz) (fun g' hg' => ?_)
    cases hg'
    exact hf.row
  · rw [hgo]
    rcases List.mem_append.1 hx with hx | hx
    · refine (h4.lies x hx).keep (fun b hb o => World.cell?_of_block (hkeep b hb.2.1 hb.2.2 (hgn b hb.2.1 hb.2.2) (by omega))) (fun b hb => ⟨hb.1, by omega, fun e => hgn b hb.2.1 hb.2.2 (by cases e; rfl)⟩)
    · obtain rfl : x = y := by simpa using hx
      have hnl : ∀ b, wr.heap.size ≤ b → lv.ownBlock ≠ some b := fun b hb e => by have := (ownsRow_lt h.row e).2; omega
      refine hy.keep (fun b hb o => World.cell?_of_block (hkeep b hb.2 (hnl b hb.1) (hgn b hb.2 (hnl b hb.1)) (by omega))) (fun b hb => ⟨by omega, by omega, fun e => hgn b hb.2 (hnl b hb.1) (by cases e; rfl)⟩)
  · refine ⟨hf.os.trans (h6.os.trans (hg.os.trans hw0.os)), hf.tape.trans (h6.tape.trans (hg.tape.trans hw0.tape)), hf.output.trans (h6.output.trans (hg.output.trans hw0.output)), by have := hw0.size; omega, fun b hb hne => ?_⟩
    have := hw0.size
    rw [hkeep b (by omega) (hlow b (by omega)) (by omega) (by omega)]
    exact (hg.block b (by omega) hne).trans (hw0.block b hb hne)
end Go.Proofs.YtgpimajdcfoigabDoor
