
/- A region that draws its order: what a load reads may be written later in the region by an operation that waits for the load. -/
import Derived.Deep.RegionHeld
namespace Go.Proofs.Ytnbhifakfehefaa
set_option linter.unusedVariables false
section
variable {P : Program} {ops : Array Oper} {Q : Exit → Act → World → Prop} {md : Region.Mode} {S : World → Prop} {C : Nat → World → Prop}
/-- S holds, and so does C z, till operation z has come up -/
def Kept (S : World → Prop) (C : Nat → World → Prop) (listed : Array Bool) (w : World) : Prop := S w ∧ ∀ z, listed.getD z true = false → C z w
def wpAnyZ (P : Program) (md : Region.Mode) (ops : Array Oper) (Q : Exit → Act → World → Prop) (S : World → Prop) (C : Nat → World → Prop) : Nat → Array Bool → Act → World → Prop
  | 0, listed, a, w => Region.ready md ops listed = [] ∧ Q .normal a w
  | fuel + 1, listed, a, w =>
    (Region.ready md ops listed = [] → Q .normal a w) ∧
    ∀ i ∈ Region.ready md ops listed, wpOp P ops Q i (fun a' w' => Kept S C (listed.setIfInBounds i true) w' ∧ wpAnyZ P md ops Q S C fuel (listed.setIfInBounds i true) a' w') a w
theorem wpAny_of_Z : ∀ (fuel : Nat) (listed : Array Bool) (a : Act) (w : World), wpAnyZ P md ops Q S C fuel listed a w → wpAny P md ops Q fuel listed a w
  | 0, _, _, _, h => h
  | fuel + 1, _, _, _, h => ⟨h.1, fun i hi => wpOp_mono (fun a' w' h' => wpAny_of_Z fuel _ a' w' h'.2) (h.2 i hi)⟩
/-- z waits for i -/
def waitsFor (md : Region.Mode) (ops : Array Oper) (i z : Nat) : Bool := match ops[z]? with | some oz => oz.after.any (fun e => Region.binds md e && decide (e.on = i)) | none => false
theorem waits_spec {i z : Nat} (h : waitsFor md ops i z = true) {listed : Array Bool} (hi : listed.getD i true = false) : z ∉ Region.ready md ops listed := by
  intro hz
  obtain ⟨_, oz, hoz, hall⟩ := mem_ready.1 hz
  unfold waitsFor at h
  rw [hoz] at h
  simp only [Array.any_eq_true, Bool.and_eq_true, decide_eq_true_eq] at h
  obtain ⟨k, hk, hb, he⟩ := h
  have h1 := hall _ (Array.getElem_mem hk) hb
  rw [he] at h1
  rcases Nat.lt_or_ge i listed.size with h' | h'
  · simp [h'] at hi h1; rw [hi] at h1; cases h1
  · simp [Array.getElem?_eq_none h'] at h1
theorem wpAnyZ_first {i : Nat} {oi : Oper} {v : Value} {Zs : List Nat} (hi : ops[i]? = some oi) (hsel : ∀ (j : Nat) (o : Oper) cs b, ops[j]? = some o → o.op ≠ .select cs b)
    (hQ : ∀ c a w, Q (.panic c) (a.put oi.dst v) w → Q (.panic c) a w) (hCi : ∀ w, C i w) (hz : ∀ z ∈ Zs, waitsFor md ops i z = true) :
    ∀ (fuel : Nat) (listed : Array Bool) (a : Act) (w : World),
      (∀ j oj, ops[j]? = some oj → j ≠ i → listed.getD j true = false → (∀ e ∈ oj.after, Region.binds md e = true → e.on ≠ i) → oi.apart ops oj = true) →
      i ∈ Region.ready md ops listed → YieldsIf P ops (fun w => S w ∧ ∀ z ∈ Zs, C z w) oi v a → (∀ z ∈ Zs, listed.getD z true = false) → Kept S C listed w →
      wpAnyZ P md ops Q S C fuel (listed.setIfInBounds i true) (a.put oi.dst v) w → wpAnyZ P md ops Q S C (fuel + 1) listed a w := by
  intro fuel
  induction fuel with
  | zero =>
    intro listed a w _ hr hy hun hS H
    refine ⟨fun h => (by rw [h] at hr; cases hr), fun j hj => ?_⟩
    by_cases hji : j = i
    · subst hji
      refine hy.wpOp hi ⟨hS.1, fun z hz' => hS.2 z (hun z hz')⟩ ⟨⟨hS.1, fun z hzz => ?_⟩, H⟩
      by_cases e : j = z
      · subst e; exact hCi w
      · rw [getD_set_ne true e] at hzz; exact hS.2 z hzz
    · have := ready_mono hj hji
      rw [H.1] at this
      cases this
  | succ fuel ih =>
    intro listed a w hfree hr hy hun hS H
    refine ⟨fun h => (by rw [h] at hr; cases hr), fun j hj => ?_⟩
    by_cases hji : j = i
    · subst hji
      refine hy.wpOp hi ⟨hS.1, fun z hz' => hS.2 z (hun z hz')⟩ ⟨⟨hS.1, fun z hzz => ?_⟩, H⟩
      by_cases e : j = z
      · subst e; exact hCi w
      · rw [getD_set_ne true e] at hzz; exact hS.2 z hzz
    · have h1 := H.2 j (ready_mono hj hji)
      obtain ⟨hjun, oj, hoj, hall⟩ := mem_ready.1 hj
      have hiun := (mem_ready.1 hr).1
      have hnot : ∀ e ∈ oj.after, Region.binds md e = true → e.on ≠ i := fun e he hb heq => by
        have h1 := hall e he hb
        have h0 := hiun
        rw [heq] at h1
        rcases Nat.lt_or_ge i listed.size with h' | h'
        · simp [h'] at h0 h1; rw [h0] at h1; cases h1
        · simp [Array.getElem?_eq_none h'] at h1
      have h2 := wpOp_putIf hoj (hfree j oj hoj hji hjun hnot) (fun cs b => hsel i oi cs b hi) (fun cs b => hsel j oj cs b hoj) hQ hy h1
      have hfree' : ∀ k ok, ops[k]? = some ok → k ≠ i → (listed.setIfInBounds j true).getD k true = false →
          (∀ e ∈ ok.after, Region.binds md e = true → e.on ≠ i) → oi.apart ops ok = true := fun k ok hk hki hun hno => by
        refine hfree k ok hk hki ?_ hno
        by_cases hjk : j = k
        · subst hjk; exact hjun
        · rw [getD_set_ne true hjk] at hun; exact hun
      have hun' : ∀ z ∈ Zs, (listed.setIfInBounds j true).getD z true = false := fun z hzz => by
        have hjz : j ≠ z := fun e => by
          subst e
          exact waits_spec (hz j hzz) hiun hj
        rw [getD_set_ne true hjz]
        exact hun z hzz
      refine wpOp_mono (fun a' w' h3 => ?_) h2
      have hK : Kept S C (listed.setIfInBounds j true) w' := ⟨h3.2.1.1, fun z hzz => by
        by_cases e : i = z
        · subst e; exact hCi w'
        · refine h3.2.1.2 z ?_
          rw [Array.setIfInBounds_comm _ _ (Ne.symm hji), getD_set_ne true e]
          exact hzz⟩
      refine ⟨hK, ih (listed.setIfInBounds j true) a' w' hfree' (ready_mono hr (Ne.symm hji)) h3.1 hun' hK ?_⟩
      rw [Array.setIfInBounds_comm _ _ hji]
      exact h3.2.2
theorem Z_take {i d : Nat} {v : Value} {oi : Oper} {Zs : List Nat} {fuel : Nat} {listed : Array Bool} {tmps : Array Value} {df : List Deferred} {w : World} (hi : ops[i]? = some oi) (hd : oi.dst = some d)
    (hs : Region.noSelect ops = true) (hf : Region.free md ops listed i = true) (hr : (Region.ready md ops listed).contains i = true)
    (hQ : ∀ c a w, Q (.panic c) (a.put (some d) v) w → Q (.panic c) a w) (hCi : ∀ w, C i w) (hz : (Zs.all fun z => waitsFor md ops i z && !listed.getD z true) = true) (hg : oi.guard = none)
    (hy : ∀ w, S w → (∀ z ∈ Zs, C z w) → (execOp (Act.eval ⟨tmps, df⟩) oi).run P w = .ok (.value v) w) (hS : Kept S C listed w)
    (h : wpAnyZ P md ops Q S C fuel (listed.setIfInBounds i true) ⟨tmps.setIfInBounds d v, df⟩ w) : wpAnyZ P md ops Q S C (fuel + 1) listed ⟨tmps, df⟩ w := by
  rw [List.all_eq_true] at hz
  refine wpAnyZ_first (Zs := Zs) hi (Region.noSelect_spec hs) (by rw [hd]; exact hQ) hCi (fun z hzz => by have := hz z hzz; simp at this; exact this.1) fuel listed ⟨tmps, df⟩ w (Region.free_spec hi hf) (by simpa using hr) (.inl ⟨by unfold Region.wanted; rw [hg], fun w hw => hy w hw.1 hw.2⟩) (fun z hzz => by have := hz z hzz; simp only [Bool.and_eq_true, Bool.not_eq_true'] at this; exact this.2) hS (by rw [hd]; exact h)
def AllReadyZ (P : Program) (md : Region.Mode) (ops : Array Oper) (Q : Exit → Act → World → Prop) (S : World → Prop) (C : Nat → World → Prop) (fuel : Nat) (listed : Array Bool) (a : Act) (w : World) (rs : List Nat) : Prop :=
  ∀ i ∈ rs, wpOp P ops Q i (fun a' w' => Kept S C (listed.setIfInBounds i true) w' ∧ wpAnyZ P md ops Q S C fuel (listed.setIfInBounds i true) a' w') a w
theorem AllReadyZ.nil {fuel : Nat} {listed : Array Bool} {a : Act} {w : World} : AllReadyZ P md ops Q S C fuel listed a w [] := fun _ h => by cases h
theorem AllReadyZ.cons {fuel : Nat} {listed : Array Bool} {a : Act} {w : World} {i : Nat} {o : Oper} {rs : List Nat} (ho : ops[i]? = some o)
    (h : ∀ K' : Act → World → Prop, Shut (∀ a w, Kept S C (listed.setIfInBounds i true) w → (Kept S C (listed.setIfInBounds i true) w → wpAnyZ P md ops Q S C fuel (listed.setIfInBounds i true) a w) → K' a w) → if Region.wanted o (yielded ops a.tmps) = true then Oper.wp P o a w K' Q else K' (a.put o.dst undef) w)
    (hs : AllReadyZ P md ops Q S C fuel listed a w rs) : AllReadyZ P md ops Q S C fuel listed a w (i :: rs) := fun j hj => by
  rcases List.mem_cons.1 hj with rfl | hj
  · exact wpOp_step ho (fun K' hK => h K' (fun a w hS hW => hK a w ⟨hS, hW hS⟩))
  · exact hs j hj
theorem wpAnyZ_ready {rs : List Nat} {fuel : Nat} {listed : Array Bool} {a : Act} {w : World} (hr : Region.ready md ops listed = rs) (hne : rs ≠ [])
    (h : AllReadyZ P md ops Q S C fuel listed a w rs) : wpAnyZ P md ops Q S C (fuel + 1) listed a w := ⟨fun h0 => absurd (hr ▸ h0) hne, hr ▸ h⟩
theorem wpAnyZ_done {listed : Array Bool} {a : Act} {w : World} (hr : Region.ready md ops listed = []) (h : Q .normal a w) : ∀ fuel, wpAnyZ P md ops Q S C fuel listed a w
  | 0 => ⟨hr, h⟩
  | _ + 1 => ⟨fun _ => h, by rw [hr]; simp⟩
theorem wp_region_Z {id : Nat} {a : Act} {w : World} (hm : P.follows .mixedOrders = true) (hS : Kept S C (Array.replicate ops.size false) w.drew)
    (h : Kept S C (Array.replicate ops.size false) w.drew → wpAnyZ P .any ops Q S C ops.size (Array.replicate ops.size false) a w.drew) : (Code.region id ops true).wp P Q a w :=
  wp_region_any hm (wpAny_of_Z _ _ _ _ (h hS))
end
end Go.Proofs.Ytnbhifakfehefaa
