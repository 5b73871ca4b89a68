import Derived.Test.YtondbhdlccpklaaQFreeM9
import Derived.Test.YtondbhdlccpklaaQRgWM9
import Derived.Test.YtondbhdlccpklaaQRRgM9
import Derived.Test.YtondbhdlccpklaaQRgMM9
import Derived.Test.YtondbhdlccpklaaQRemNM9

/- SessionHandles: the mathematics. -/
namespace Go.Proofs.Ytondbhdlccpklaa
open Go.RowKit Go.Maps
set_option linter.unusedVariables false
set_option linter.unusedSimpArgs false

section
variable {w w' : World} {g : Nat} {s : Sn} {H R H' R' : List (Int × Int)} {S C C' : List (Int × Pd)}
theorem Ses.handled (h : Ses w g s H R S C) (ht : TbI w' s.bh H') (hk : Kp (fun q => q = s.bh) w w') : Ses w' g s H' R S C :=
  ⟨h.sb.at (hk.block h.sb.lt (fun e => h.th.ne h.sb e.symm)), ht, h.tr.at (hk.block h.tr.lt (fun e => h.hr e.symm)), h.ts.at (hk.block h.ts.lt (fun e => h.hs e.symm)), h.tc.at (hk.block h.tc.lt (fun e => h.hc e.symm)), h.hr, h.hs, h.hc, h.rs, h.rc, h.sc⟩
theorem Ses.remoted (h : Ses w g s H R S C) (h1 : TbI w' s.bh H') (h2 : TbI w' s.br R') (hk : Kp (fun q => q = s.bh ∨ q = s.br) w w') : Ses w' g s H' R' S C :=
  ⟨h.sb.at (hk.block h.sb.lt (fun e => e.elim (fun e => h.th.ne h.sb e.symm) (fun e => h.tr.ne h.sb e.symm))), h1, h2, h.ts.at (hk.block h.ts.lt (fun e => e.elim (fun e => h.hs e.symm) (fun e => h.rs e.symm))), h.tc.at (hk.block h.tc.lt (fun e => e.elim (fun e => h.hc e.symm) (fun e => h.rc e.symm))), h.hr, h.hs, h.hc, h.rs, h.rc, h.sc⟩
theorem Ses.arrived (h : Ses w g s H R S C) (ht : TbP w' s.bc C') (hk : Kp (fun q => q = s.bc) w w') : Ses w' g s H R S C' :=
  ⟨h.sb.at (hk.block h.sb.lt (fun e => h.tc.ne h.sb e.symm)), h.th.at (hk.block h.th.lt h.hc), h.tr.at (hk.block h.tr.lt h.rc), h.ts.at (hk.block h.ts.lt h.sc), ht, h.hr, h.hs, h.hc, h.rs, h.rc, h.sc⟩
end
/-- handles, the peer's, and the deliveries that came -/
structure HD (H R : List (Int × Int)) (C : List (Int × Pd)) (i : Nat) : Prop where
  hv : ∀ p ∈ H, (0 ≤ p.1 ∧ p.1 ≤ 63) ∧ p.2 = p.1 + 10
  hn : (H.map (·.1)).Nodup
  rr : ∀ r h : Int, (r, h) ∈ R ↔ (h, r) ∈ H
  ch : ∀ q ∈ C, hasK H q.2.2.1 = true ∧ q.2.1 = q.1 ∧ 0 ≤ q.1 ∧ q.1 < (i : Int)
  lh : H.length ≤ i
  lr : R.length ≤ i
  lc : C.length ≤ i
theorem HD.start : HD [] [] [] 0 := ⟨fun p hp => (by cases hp), by simp, fun r h => by simp, fun q hq => (by cases hq), Nat.le_refl _, Nat.le_refl _, Nat.le_refl _⟩
section
variable {H R : List (Int × Int)} {C : List (Int × Pd)} {i : Nat}
theorem hasK_mem {A : Type} {l : List (Int × A)} {k : Int} : hasK l k = true ↔ ∃ x, (k, x) ∈ l := by
  unfold hasK
  rw [List.any_eq_true]
  constructor
  · rintro ⟨p, hp, he⟩
    simp at he
    exact ⟨p.2, by rw [← he]; exact hp⟩
  · rintro ⟨x, hx⟩
    exact ⟨_, hx, by simp⟩
theorem HD.step (h : HD H R C i) : HD H R C (i + 1) := ⟨h.hv, h.hn, h.rr, fun q hq => by have := h.ch q hq; exact ⟨this.1, this.2.1, this.2.2.1, by omega⟩, by have := h.lh; omega, by have := h.lr; omega, by have := h.lc; omega⟩
theorem HD.val (h : HD H R C i) {k : Int} (hk : hasK H k = true) : lu 0 H k = k + 10 ∧ 0 ≤ k ∧ k ≤ 63 := by
  have hm := lu_mem (d := 0) hk
  have := h.hv _ hm
  exact ⟨this.2, this.1.1, this.1.2⟩
theorem HD.noR (h : HD H R C i) {k : Int} (hk : hasK H k = false) : hasK R (k + 10) = false := by
  rw [← Bool.not_eq_true, hasK_mem]
  rintro ⟨x, hx⟩
  have h1 := (h.rr _ _).1 hx
  have h2 := (h.hv _ h1).2
  simp at h2
  have : x = k := by omega
  subst this
  have := hasK_mem.2 ⟨_, h1⟩
  rw [hk] at this
  cases this
theorem hasK_filterI {Ci : List (Int × Int)} {id k : Int} : hasK (Ci.filter fun p => p.1 != id) k = (hasK Ci k && k != id) := by
  unfold hasK
  rw [Bool.eq_iff_iff, List.any_eq_true, Bool.and_eq_true, List.any_eq_true]
  constructor
  · rintro ⟨p, hp, he⟩
    rw [List.mem_filter] at hp
    simp at he hp
    exact ⟨⟨p, hp.1, by simp [he]⟩, by simp [← he, hp.2]⟩
  · rintro ⟨⟨p, hp, he⟩, hk⟩
    simp at he hk
    exact ⟨p, List.mem_filter.2 ⟨hp, by simp [he, hk]⟩, by simp [he]⟩
theorem HD.free (h : HD H R C i) {k : Int} (hk : hasK H k = true) : HD (H.filter fun p => p.1 != k) (R.filter fun p => p.1 != lu 0 H k) (C.filter fun p => p.2.2.1 != k) (i + 1) := by
  rw [(h.val hk).1]
  refine ⟨fun p hp => h.hv p (List.mem_filter.1 hp).1, nodup_filter h.hn _, fun r x => ?_, fun q hq => ?_, ?_, ?_, ?_⟩
  · rw [List.mem_filter, List.mem_filter, h.rr]
    constructor
    · rintro ⟨h1, h2⟩
      have := (h.hv _ h1).2
      simp at this h2
      exact ⟨h1, by simp; omega⟩
    · rintro ⟨h1, h2⟩
      have := (h.hv _ h1).2
      simp at this h2
      exact ⟨h1, by simp; omega⟩
  · rw [List.mem_filter] at hq
    have := h.ch q hq.1
    refine ⟨?_, this.2.1, this.2.2.1, by omega⟩
    rw [hasK_filterI, this.1]
    simpa using hq.2
  · exact Nat.le_trans (List.length_filter_le _ _) (by have := h.lh; omega)
  · exact Nat.le_trans (List.length_filter_le _ _) (by have := h.lr; omega)
  · exact Nat.le_trans (List.length_filter_le _ _) (by have := h.lc; omega)
theorem HD.take (h : HD H R C i) {k : Nat} (hk : hasK H k = false) (h64 : k < 64) (t : ByteArray) : HD (((k : Int), (k : Int) + 10) :: H) (((k : Int) + 10, (k : Int)) :: R) (((i : Int), ((i : Int), (k : Int), t)) :: C) (i + 1) := by
  refine ⟨fun p hp => ?_, ?_, fun r x => ?_, fun q hq => ?_, ?_, ?_, ?_⟩
  · rcases List.mem_cons.1 hp with rfl | hp
    · exact ⟨⟨by simp, by simp; omega⟩, rfl⟩
    · exact h.hv p hp
  · simp only [List.map_cons, List.nodup_cons]
    exact ⟨any_not.1 hk, h.hn⟩
  · rw [List.mem_cons, List.mem_cons, h.rr]
    constructor
    · rintro (e | e)
      · cases e
        exact .inl rfl
      · exact .inr e
    · rintro (e | e)
      · cases e
        exact .inl rfl
      · exact .inr e
  · rcases List.mem_cons.1 hq with rfl | hq
    · refine ⟨?_, rfl, by simp, by simp; omega⟩
      exact hasK_mem.2 ⟨_, List.mem_cons_self ..⟩
    · have := h.ch q hq
      refine ⟨?_, this.2.1, this.2.2.1, by omega⟩
      obtain ⟨x, hx⟩ := hasK_mem.1 this.1
      exact hasK_mem.2 ⟨x, List.mem_cons_of_mem _ hx⟩
  · have := h.lh; simp; omega
  · have := h.lr; simp; omega
  · have := h.lc; simp; omega
theorem filter_lenI {Ci : List (Int × Int)} {id : Int} (hn : (Ci.map (·.1)).Nodup) (h : hasK Ci id = true) : (Ci.filter fun p => p.1 != id).length + 1 = Ci.length := by
  induction Ci with
  | nil => cases h
  | cons p t ih =>
    simp only [List.map_cons, List.nodup_cons] at hn
    by_cases e : p.1 = id
    · have : id ∉ t.map (·.1) := e ▸ hn.1
      rw [List.filter_cons_of_neg (by simp [e]), filter_none this]
      rfl
    · have h' : hasK t id = true := by
        unfold hasK at h ⊢
        rw [List.any_cons] at h
        simpa [e] using h
      rw [List.filter_cons_of_pos (by simp [e]), List.length_cons, List.length_cons, ih hn.2 h']
theorem many : ∀ (m : Nat) {H : List (Int × Int)}, (H.map (·.1)).Nodup → (∀ j : Nat, j < m → hasK H j = true) → m ≤ H.length
  | 0, H, _, _ => Nat.zero_le _
  | m + 1, H, hn, hj => by
    have h1 := filter_lenI hn (hj m (Nat.lt_succ_self _))
    have h2 := many m (H := H.filter fun p => p.1 != (m : Int)) (nodup_filter hn _) (fun j hjm => by
      rw [hasK_filterI, hj j (by omega)]
      simp
      omega)
    omega
theorem HD.full (h : HD H R C i) {m : Int} (hm : 0 ≤ m) (hall : ∀ j : Nat, j < 64 → (j : Int) ≤ m → hasK H j = true) : ¬ ((H.length : Int) < 64 ∧ (H.length : Int) ≤ m) := by
  rintro ⟨h1, h2⟩
  by_cases hb : 63 ≤ m
  · have := many 64 h.hn (fun j hj => hall j hj (by omega))
    omega
  · have := many (m.toNat + 1) h.hn (fun j hj => hall j (by omega) (by omega))
    omega
/-- full, or the least one that is free -/
theorem least (H : List (Int × Int)) (m : Int) : (∀ j : Nat, j < 64 → (j : Int) ≤ m → hasK H j = true) ∨ ∃ h : Nat, h < 64 ∧ (h : Int) ≤ m ∧ (∀ j : Nat, j < h → hasK H j = true) ∧ hasK H h = false := by
  have : ∀ n : Nat, n ≤ 64 → (∀ j : Nat, j < n → (j : Int) ≤ m → hasK H j = true) ∨ ∃ h : Nat, h < 64 ∧ (h : Int) ≤ m ∧ (∀ j : Nat, j < h → hasK H j = true) ∧ hasK H h = false := by
    intro n
    induction n with
    | zero => intro _; exact .inl (fun j hj => by omega)
    | succ n ih =>
      intro hn
      rcases ih (by omega) with h | h
      · by_cases hm : (n : Int) ≤ m
        · cases hx : hasK H n
          · exact .inr ⟨n, by omega, hm, fun j hj => h j hj (by omega), hx⟩
          · refine .inl (fun j hj hjm => ?_)
            by_cases e : j = n
            · rw [e]; exact hx
            · exact h j (by omega) hjm
        · refine .inl (fun j hj hjm => h j (by omega) hjm)
      · exact .inr h
  exact this 64 (Nat.le_refl _)
/-- none of what is told is of a handle that is not in use -/
theorem HD.told (h : HD H R C i) (hw : Words C) {k : Int} (hk : hasK H k = false) {f l : Int} (hf : 0 ≤ f ∧ f ≤ 4294967295) : ∀ p ∈ rangeL C f l, p.2.1 ≠ k := by
  intro p hp
  unfold rangeL at hp
  split at hp
  · unfold rgL at hp
    obtain ⟨e, he, rfl⟩ := List.mem_map.1 hp
    have hkey := gs_key hw hf he
    have hm := lu_mem (d := pd0) hkey
    have := (h.ch _ hm).1
    intro e'
    unfold thing at e'
    simp only at this
    rw [e', hk] at this
    cases this
  · cases hp
end
end Go.Proofs.Ytondbhdlccpklaa


/- Stage 13: the program's tables and the document's lists: one and the same. -/
namespace Go.Proofs.Ytondbhdlccpklaa
open Go.RowKit Go.Maps
set_option linter.unusedVariables false
set_option linter.unusedSimpArgs false

theorem lu_at {A : Type} {d : A} {l : List (Int × A)} (hn : (l.map (·.1)).Nodup) {k : Int} {x : A} (h : (k, x) ∈ l) : lu d l k = x := by
  induction l with
  | nil => cases h
  | cons p t ih =>
    rw [List.map_cons, List.nodup_cons] at hn
    unfold lu
    rw [List.find?_cons]
    rcases List.mem_cons.1 h with e | e
    · subst e
      simp
    · have hne : (p.1 == k) = false := by
        simp
        intro e'
        exact hn.1 (by rw [e']; exact List.mem_map.2 ⟨_, e, rfl⟩)
      rw [hne]
      exact ih hn.2 e
/-- handles in use: a table's keys, a list -/
theorem hasH_perm {hs : List Int} {H : List (Int × Int)} (hp : hs.Perm (H.map (·.1))) (h : Int) : hasH hs h = hasK H h := by
  unfold hasH hasK
  rw [Bool.eq_iff_iff, List.any_eq_true, List.any_eq_true]
  constructor
  · rintro ⟨x, hx, e⟩
    obtain ⟨p, hp', rfl⟩ := List.mem_map.1 (hp.mem_iff.1 hx)
    exact ⟨p, hp', e⟩
  · rintro ⟨p, hp', e⟩
    exact ⟨p.1, hp.mem_iff.2 (List.mem_map.2 ⟨p, hp', rfl⟩), e⟩
/-- deliveries: a table whose keys are the numbers, a list -/
theorem hasN_perm {l : List Pd} {C : List (Int × Pd)} (hp : l.Perm (C.map (·.2))) (hr : Reg C) (id : Int) : hasN l id = hasK C id := by
  unfold hasN hasK
  rw [Bool.eq_iff_iff, List.any_eq_true, List.any_eq_true]
  constructor
  · rintro ⟨x, hx, e⟩
    obtain ⟨p, hp', rfl⟩ := List.mem_map.1 (hp.mem_iff.1 hx)
    exact ⟨p, hp', by rw [← hr p hp']; exact e⟩
  · rintro ⟨p, hp', e⟩
    exact ⟨p.2, hp.mem_iff.2 (List.mem_map.2 ⟨p, hp', rfl⟩), by rw [hr p hp']; exact e⟩
theorem note_same {hs : List Int} {H : List (Int × Int)} {l : List Pd} {C : List (Int × Pd)} (h1 : hs.Perm (H.map (·.1))) (h2 : l.Perm (C.map (·.2))) (hr : Reg C) (id h : Int) : noteR hs l id h = noteE H C id h := by
  unfold noteR noteE
  rw [hasH_perm h1, hasN_perm h2 hr]
/-- what Range tells, at both -/
theorem sel_range {C : List (Int × Pd)} {l out : List Pd} {first last : Int} (hp : l.Perm (C.map (·.2))) (hr : Reg C) (hn : (C.map (·.1)).Nodup) (hw : Words C) (hf : 0 ≤ first ∧ first ≤ 4294967295) (hs : SelA l out first (gapZ first last)) : out = rgL C first last := by
  have mem : ∀ p ∈ out, (p.1, p) ∈ C := fun p h => by
    obtain ⟨q, hq, rfl⟩ := List.mem_map.1 (hp.mem_iff.1 (hs.mem p h).1)
    rw [hr q hq]
    exact hq
  have hgap : (out.map fun p => gapZ first p.1) = gsL C first (gapZ first last) := by
    refine sorted_eq (hs.inc.imp (fun h => by omega)) (gsL_sorted _ _ _) ?_
    rw [List.perm_ext_iff_of_nodup (hs.inc.imp (fun h => by omega)) (gsL_nodup hn hw hf)]
    intro x
    rw [mem_gsL]
    constructor
    · intro hx
      obtain ⟨p, h, rfl⟩ := List.mem_map.1 hx
      exact ⟨⟨_, mem p h, rfl⟩, (hs.mem p h).2⟩
    · rintro ⟨⟨q, hq, rfl⟩, h0, h1⟩
      have e := hr q hq
      obtain ⟨r, hr', e'⟩ := hs.all q.2 (hp.mem_iff.2 (List.mem_map.2 ⟨q, hq, rfl⟩)) (by rw [e]; exact h0) (by rw [e]; exact h1)
      exact List.mem_map.2 ⟨r, hr', by rw [e', e]⟩
  unfold rgL
  rw [← hgap, List.map_map]
  conv => lhs; rw [← List.map_id out]
  apply List.map_congr_left
  intro p h
  have hm := mem p h
  show p = thing C first (gapZ first p.1)
  unfold thing
  rw [gap_add hf (hw _ hm)]
  exact (lu_at hn hm).symm
end Go.Proofs.Ytondbhdlccpklaa
