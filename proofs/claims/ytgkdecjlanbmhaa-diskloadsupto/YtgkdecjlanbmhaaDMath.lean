
/- Stage 19: what the acts do, as plain data: what may be stays so; what a fall leaves. -/
import Derived.Test.YtgkdecjlanbmhaaDRen
namespace Go.Proofs.Ytgkdecjlanbmhaa
open Go.RowKit
set_option linter.unusedVariables false
set_option linter.unusedSimpArgs false
theorem DOk.perm {x : Dx} {F G : List Fi} (h : DOk x F) (hp : F.Perm G) : DOk x G :=
  ⟨by rw [← usd_perm hp]; exact h.used, by rw [← usd_perm hp]; exact h.room, h.most, fun f hf => h.safe f (hp.mem_iff.2 hf), h.left0, h.left1, h.keep0, h.keep1⟩
theorem actX_left {x : Dx} {F : List Fi} (hO : DOk x F) (hl : x.left ≠ 0) : -1 ≤ (actX x F).left ∧ (actX x F).left < 9223372036854775808 := by
  have h := hO.act
  exact ⟨h.left0, h.left1⟩
theorem actF_ne {x : Dx} {F : List Fi} (hl : x.left ≠ 0) : actF x F = F := if_neg hl
theorem app_ok {x : Dx} {F : List Fi} (hO : DOk x F) (hn : (F.map (·.1)).Nodup) (k : ByteArray) (t : List Nat) : DOk (dApp x F k t).2.1 (dApp x F k t).2.2 := by
  unfold dApp
  by_cases h1 : refE x.down [k] = 0
  · rw [if_neg (by rw [h1]; simp)]
    by_cases h2 : x.room - x.used < (t.length : Int)
    · rw [if_pos h2]; exact hO
    · rw [if_neg h2]
      have hr : (usd F : Int) + t.length ≤ x.room := by have := hO.used; omega
      exact (hO.add hn (k := k) hr).act
  · rw [if_pos h1]; exact hO
theorem sync_ok {x : Dx} {F : List Fi} (hO : DOk x F) (hn : (F.map (·.1)).Nodup) (k : ByteArray) : DOk (dSync x F k).2.1 (dSync x F k).2.2 := by
  unfold dSync
  by_cases h1 : findE x.down (F.map (·.1)) k [] = 0
  · rw [if_neg (by rw [h1]; simp)]
    by_cases h2 : x.left = 0
    · rw [if_pos h2]; exact hO.act
    · rw [if_neg h2]
      have ha := hO.act
      rw [actF_ne h2] at ha
      have hu := usd_wo (k := k) hn
      rw [lenOf_dat] at hu
      have e : usd ((k, (dat k F).1, (dat k F).1.length) :: woF k F) = usd F := by rw [usd_cons]; show (dat k F).1.length + _ = _; omega
      refine ⟨by rw [e]; exact ha.used, by rw [e]; exact ha.room, ha.most, fun f hf => ?_, ha.left0, ha.left1, ha.keep0, ha.keep1⟩
      rcases List.mem_cons.1 hf with rfl | hf
      · exact Nat.le_refl _
      · exact hO.safe f (wo_sub hf)
  · rw [if_pos h1]; exact hO
theorem del_ok {x : Dx} {F : List Fi} (hO : DOk x F) (hn : (F.map (·.1)).Nodup) (k : ByteArray) : DOk (dDel x F k).2.1 (dDel x F k).2.2 := by
  unfold dDel
  by_cases h1 : findE x.down (F.map (·.1)) k [] = 0
  · rw [if_neg (by rw [h1]; simp)]
    by_cases h2 : x.left = 0
    · rw [if_pos h2]; exact hO.act
    · rw [if_neg h2]
      have ha := hO.act
      rw [actF_ne h2] at ha
      have hu := usd_wo (k := k) hn
      have hr := ha.room
      exact ⟨by show x.used - (lenOf k F : Int) = ((usd (woF k F) : Nat) : Int); have := hO.used; omega, by show ((usd (woF k F) : Nat) : Int) ≤ (actX x F).room; omega, ha.most, fun f hf => hO.safe f (wo_sub hf), ha.left0, ha.left1, ha.keep0, ha.keep1⟩
  · rw [if_pos h1]; exact hO
theorem wo_names {k : ByteArray} {F : List Fi} (hn : (F.map (·.1)).Nodup) : ((woF k F).map (·.1)).Nodup := (List.filter_sublist.map _).nodup hn
theorem dat_wo {a b : ByteArray} {F : List Fi} (h : a ≠ b) : dat a (woF b F) = dat a F := by
  unfold dat woF
  rw [List.find?_filter]
  congr 1
  induction F with
  | nil => rfl
  | cons f F ih =>
    rw [List.find?_cons, List.find?_cons]
    by_cases e : f.1 = a
    · have : ¬ f.1 = b := fun e2 => h (e.symm.trans e2)
      simp [e, h]
    · simp only [e, decide_false, Bool.and_false, Bool.false_eq_true, and_false]
      simpa using ih
theorem ren_ok {x : Dx} {F : List Fi} (hO : DOk x F) (hn : (F.map (·.1)).Nodup) (a b : ByteArray) : DOk (dRen x F a b).2.1 (dRen x F a b).2.2 := by
  unfold dRen
  by_cases h1 : findE x.down (F.map (·.1)) a [b] = 0
  · rw [if_neg (by rw [h1]; simp)]
    by_cases h0 : (dat a F).2 < (dat a F).1.length
    · rw [if_pos h0]; exact hO
    rw [if_neg h0]
    by_cases h2 : x.left = 0
    · rw [if_pos h2]; exact hO.act
    · rw [if_neg h2]
      have ha := hO.act
      rw [actF_ne h2] at ha
      by_cases h3 : a = b
      · rw [if_pos h3]; exact ha
      · rw [if_neg h3]
        have hu := usd_wo (k := b) hn
        have hu2 := usd_wo (k := a) (wo_names (k := b) hn)
        rw [lenOf_dat, dat_wo h3] at hu2
        have hr := ha.room
        have e : usd ((b, dat a F) :: woF a (woF b F)) + lenOf b F = usd F := by rw [usd_cons]; show (dat a F).1.length + _ + _ = _; omega
        refine ⟨by show x.used - (lenOf b F : Int) = ((usd ((b, dat a F) :: woF a (woF b F)) : Nat) : Int); have := hO.used; omega, by show ((usd ((b, dat a F) :: woF a (woF b F)) : Nat) : Int) ≤ (actX x F).room; omega, ha.most, fun f hf => ?_, ha.left0, ha.left1, ha.keep0, ha.keep1⟩
        rcases List.mem_cons.1 hf with rfl | hf
        · exact dat_safe hO.safe
        · exact hO.safe f (wo_sub (wo_sub hf))
  · rw [if_pos h1]; exact hO
/-- an operation: what it is, its names, its bytes -/
structure Oq where
  k : Int
  on : Int
  n : Int
  m : Int
  s : ByteArray
  t : ByteArray
  a : Option Addr
  l : List Nat
  c : Nat
def Oq.cells (o : Oq) : Array Value := #[.int .i64 o.k, .int .i64 o.on, .int .i64 o.n, .int .i64 o.m, .string o.s, .string o.t, .slice o.a o.l.length o.c]
def dOp (x : Dx) (F : List Fi) (o : Oq) : Int × Dx × List Fi := if o.k = 2 then dSync x F o.s else if o.k = 3 then dRen x F o.s o.t else if o.k = 4 then dDel x F o.s else dApp x F o.s o.l
theorem op_ok {x : Dx} {F : List Fi} (hO : DOk x F) (hn : (F.map (·.1)).Nodup) (o : Oq) : DOk (dOp x F o).2.1 (dOp x F o).2.2 := by
  unfold dOp
  split
  · exact sync_ok hO hn _
  · split
    · exact ren_ok hO hn _ _
    · split
      · exact del_ok hO hn _
      · exact app_ok hO hn _ _
theorem find_lt {dn : Bool} {N : List ByteArray} {k : ByteArray} {L : List ByteArray} (h : findE dn N k L = 3) : dn = true := by
  unfold findE at h
  cases dn
  · revert h
    cases nm k && L.all nm <;> cases hasN N k <;> simp
  · rfl
theorem ref_three {dn : Bool} {L : List ByteArray} (h : refE dn L = 3) : dn = true := by
  unfold refE at h
  cases dn
  · revert h
    cases L.all nm <;> simp
  · rfl
/-- the files that fall -/
def dfF (F : List Fi) (o : Oq) : List Fi := if o.k = 2 ∨ o.k = 3 ∨ o.k = 4 then F else addF o.s o.l F
/-- an act in which the power fails -/
theorem op_fell {x : Dx} {F : List Fi} (hO : DOk x F) {o : Oq} (hd : x.down = false) (h : (dOp x F o).1 = 3) : (dOp x F o).2.1.down = true ∧ (dOp x F o).2.2 = (dfF F o).map (fl x.keep) ∧ ((¬ (o.k = 2 ∨ o.k = 3 ∨ o.k = 4)) → (o.l.length : Int) ≤ x.room - x.used) := by
  unfold dOp at h ⊢
  unfold dfF
  by_cases h2 : o.k = 2
  · rw [if_pos h2] at h ⊢
    rw [if_pos (.inl h2)]
    unfold dSync at h ⊢
    by_cases h1 : findE x.down (F.map (·.1)) o.s [] = 0
    · rw [if_neg (by rw [h1]; simp)] at h ⊢
      by_cases h3 : x.left = 0
      · rw [if_pos h3]
        refine ⟨?_, if_pos h3, fun h => absurd (.inl h2) h⟩
        show (actX x F).down = true
        unfold actX
        rw [if_neg (by omega), if_pos h3]
      · rw [if_neg h3] at h
        simp at h
    · rw [if_pos h1] at h
      have := find_lt h
      rw [hd] at this
      cases this
  rw [if_neg h2] at h ⊢
  by_cases h3 : o.k = 3
  · rw [if_pos h3] at h ⊢
    rw [if_pos (.inr (.inl h3))]
    unfold dRen at h ⊢
    by_cases h1 : findE x.down (F.map (·.1)) o.s [o.t] = 0
    · rw [if_neg (by rw [h1]; simp)] at h ⊢
      by_cases h4 : (dat o.s F).2 < (dat o.s F).1.length
      · rw [if_pos h4] at h
        simp at h
      rw [if_neg h4] at h ⊢
      by_cases h5 : x.left = 0
      · rw [if_pos h5]
        refine ⟨?_, if_pos h5, fun h => absurd (.inr (.inl h3)) h⟩
        show (actX x F).down = true
        unfold actX
        rw [if_neg (by omega), if_pos h5]
      · rw [if_neg h5] at h
        by_cases h6 : o.s = o.t
        · rw [if_pos h6] at h; simp at h
        · rw [if_neg h6] at h; simp at h
    · rw [if_pos h1] at h
      have := find_lt h
      rw [hd] at this
      cases this
  rw [if_neg h3] at h ⊢
  by_cases h4 : o.k = 4
  · rw [if_pos h4] at h ⊢
    rw [if_pos (.inr (.inr h4))]
    unfold dDel at h ⊢
    by_cases h1 : findE x.down (F.map (·.1)) o.s [] = 0
    · rw [if_neg (by rw [h1]; simp)] at h ⊢
      by_cases h5 : x.left = 0
      · rw [if_pos h5]
        refine ⟨?_, if_pos h5, fun h => absurd (.inr (.inr h4)) h⟩
        show (actX x F).down = true
        unfold actX
        rw [if_neg (by omega), if_pos h5]
      · rw [if_neg h5] at h
        simp at h
    · rw [if_pos h1] at h
      have := find_lt h
      rw [hd] at this
      cases this
  rw [if_neg h4] at h ⊢
  rw [if_neg (by simp [h2, h3, h4])]
  unfold dApp at h ⊢
  by_cases h1 : refE x.down [o.s] = 0
  · rw [if_neg (by rw [h1]; simp)] at h ⊢
    by_cases h5 : x.room - x.used < (o.l.length : Int)
    · rw [if_pos h5] at h
      simp at h
    · rw [if_neg h5] at h ⊢
      have h6 : x.left = 0 := by
        by_cases h7 : x.left = 0
        · exact h7
        · have e : actE x = 0 := if_neg h7
          dsimp only at h
          rw [e] at h
          omega
      refine ⟨?_, if_pos h6, fun _ => by omega⟩
      show (actX { x with used := _ } _).down = true
      unfold actX
      rw [if_neg (by show ¬ x.left = -1; omega), if_pos h6]
  · rw [if_pos h1] at h
    have := ref_three h
    rw [hd] at this
    cases this
/-- what stands for a file behind the fall -/
def whl (f : Fi) (o : Oq) : List Nat := if (o.k ≠ 2 ∧ o.k ≠ 3 ∧ o.k ≠ 4) ∧ o.s = f.1 then f.2.1 ++ o.l else f.2.1
theorem fell_one {x : Dx} {F : List Fi} (hO : DOk x F) (hn : (F.map (·.1)).Nodup) {o : Oq} {f : Fi} (hf : f ∈ F) :
    ∃ f', f' ∈ (dfF F o).map (fl x.keep) ∧ f'.1 = f.1 ∧ f.2.2 ≤ f'.2.2 ∧ f'.2.2 ≤ (whl f o).length ∧ f'.2.1 = (whl f o).take f'.2.2 ∧ f.2.2 ≤ f.2.1.length := by
  have hs := hO.safe f hf
  have key : ∀ g : Fi, g ∈ dfF F o → g.1 = f.1 → g.2.1 = whl f o → g.2.2 = f.2.2 → f.2.2 ≤ (whl f o).length → ∃ f', f' ∈ (dfF F o).map (fl x.keep) ∧ f'.1 = f.1 ∧ f.2.2 ≤ f'.2.2 ∧ f'.2.2 ≤ (whl f o).length ∧ f'.2.1 = (whl f o).take f'.2.2 ∧ f.2.2 ≤ f.2.1.length := fun g h1 h2 h3 h4 h5 => by
    refine ⟨fl x.keep g, List.mem_map_of_mem h1, h2, ?_, ?_, ?_, hs⟩
    · show f.2.2 ≤ stay _ _ _
      unfold stay
      omega
    · show stay _ _ _ ≤ _
      rw [h3, h4]
      exact stay_le h5 _
    · show g.2.1.take (stay g.2.1.length g.2.2 x.keep) = (whl f o).take (stay g.2.1.length g.2.2 x.keep)
      rw [h3]
  by_cases hk : o.k = 2 ∨ o.k = 3 ∨ o.k = 4
  · have e1 : dfF F o = F := if_pos hk
    have e2 : whl f o = f.2.1 := if_neg (by rintro ⟨⟨q1, q2, q3⟩, _⟩; omega)
    rw [e1, e2] at key
    rw [e1, e2]
    exact key f hf rfl rfl rfl hs
  · have e1 : dfF F o = addF o.s o.l F := if_neg hk
    by_cases he : o.s = f.1
    · have e2 : whl f o = f.2.1 ++ o.l := if_pos ⟨⟨by omega, by omega, by omega⟩, he⟩
      have hd := dat_mem hn hf he.symm
      rw [e1, e2] at key
      rw [e1, e2]
      refine key (o.s, f.2.1 ++ o.l, f.2.2) ?_ he rfl rfl (by rw [List.length_append]; omega)
      unfold addF
      rw [hd]
      exact List.mem_cons_self
    · have e2 : whl f o = f.2.1 := if_neg (fun h => he h.2)
      rw [e1, e2] at key
      rw [e1, e2]
      refine key f (List.mem_cons_of_mem _ (List.mem_filter.2 ⟨hf, by simp; exact fun e => he e.symm⟩)) rfl rfl rfl hs
theorem fell_len (F : List Fi) (o : Oq) (k : Int) : ((dfF F o).map (fl k)).length ≤ F.length + 1 := by
  rw [List.length_map]
  unfold dfF
  split
  · omega
  · unfold addF
    have : (woF o.s F).length ≤ F.length := List.length_filter_le _ _
    simp
    omega
theorem op_len (x : Dx) (F : List Fi) (o : Oq) : (dOp x F o).2.2.length ≤ F.length + 1 := by
  have w1 : ∀ k (G : List Fi), (woF k G).length ≤ G.length := fun k G => List.length_filter_le _ _
  have a1 : ∀ (y : Dx) (G : List Fi), (actF y G).length = G.length := fun y G => by unfold actF; split <;> simp
  unfold dOp
  split
  · unfold dSync
    have := w1 o.s F
    have := a1 x F
    split
    · simp
    · split <;> simp <;> omega
  · split
    · unfold dRen
      have := w1 o.t F
      have := w1 o.s (woF o.t F)
      have := a1 x F
      split
      · simp
      · split
        · simp
        · split
          · simp; omega
          · split <;> simp <;> omega
    · split
      · unfold dDel
        have := w1 o.s F
        have := a1 x F
        split
        · simp
        · split <;> simp <;> omega
      · unfold dApp
        have := w1 o.s F
        have := a1 x (addF o.s o.l F)
        split
        · simp
        · split
          · simp
          · show (actF x (addF o.s o.l F)).length ≤ _
            rw [this]
            unfold addF
            simp
            omega
theorem op_lk {x : Dx} {F : List Fi} (o : Oq) (h : x.lk = 0) : (dOp x F o).2.1.lk = 0 := by
  have a1 : ∀ (y : Dx) (G : List Fi), y.lk = 0 → (actX y G).lk = 0 := fun y G hy => (actX_fields y G).1.trans hy
  unfold dOp dSync dRen dDel dApp
  repeat' split
  all_goals first | exact h | exact a1 _ _ h
theorem op_down {x : Dx} {F : List Fi} (o : Oq) (hd : x.down = false) (h : (dOp x F o).1 ≠ 3) : (dOp x F o).2.1.down = false := by
  have a1 : ∀ (y : Dx) (G : List Fi), y.down = false → y.left ≠ 0 → (actX y G).down = false := fun y G hy hl => (actX_used hl G).2.trans hy
  revert h
  unfold dOp dSync dRen dDel dApp
  repeat' split
  all_goals first | (intro _; exact hd) | (intro h; exact absurd rfl h) | (intro _; refine a1 _ _ hd ?_; assumption) | skip
  all_goals
    intro h
    refine a1 _ _ hd ?_
    intro hl
    exact h (if_pos hl)
end Go.Proofs.Ytgkdecjlanbmhaa
