import Derived.Test.YtdcoafpenkofoaaGreatDoorJTpM9
import Derived.Test.YtdcoafpenkofoaaGreatDoorJAddM9
import Derived.Test.YtdcoafpenkofoaaGreatDoorJTakM9
import Derived.Test.YtdcoafpenkofoaaGreatDoorJOptM9

/- Stage 20: what the acts of a journal leave of its log, also where the power fails: plain data. -/
namespace Go.Proofs.YtdcoafpenkofoaaGreatDoor
open Go.RowKit
set_option linter.unusedVariables false
set_option linter.unusedSimpArgs false
/-- a log's bytes and how many are safe, behind a fall -/
def fln (keep : Int) (p : List Nat × Nat) : List Nat × Nat := (p.1.take (stay p.1.length p.2 keep), stay p.1.length p.2 keep)
def Nmz (F : List Fi) : Prop := ∀ f ∈ F, f.1 = kG ∨ f.1 = kN
def Nog (F : List Fi) : Prop := ∀ f ∈ F, f.1 = kG
theorem Nog.nmz {F : List Fi} (h : Nog F) : Nmz F := fun f hf => .inl (h f hf)
theorem Nmz.fall {F : List Fi} (h : Nmz F) (keep : Int) : Nmz (F.map (fl keep)) := fun f hf => by
  obtain ⟨g, hg, rfl⟩ := List.mem_map.1 hf
  exact h g hg
theorem Nmz.wo {F : List Fi} (h : Nmz F) : Nog (woF kN F) := fun f hf => by
  have h1 := List.mem_filter.1 hf
  rcases h f h1.1 with h2 | h2
  · exact h2
  · have := h1.2; simp [h2] at this
theorem Nmz.sub {F : List Fi} (h : Nmz F) (k : ByteArray) : Nmz (woF k F) := fun f hf => h f (List.mem_filter.1 hf).1
theorem Nmz.cons {F : List Fi} (h : Nmz F) {k : ByteArray} (hk : k = kG ∨ k = kN) (p : List Nat × Nat) : Nmz ((k, p) :: F) := fun f hf => by
  rcases List.mem_cons.1 hf with rfl | hf
  · exact hk
  · exact h f hf
theorem dat_cons {k : ByteArray} {p : List Nat × Nat} {F : List Fi} : dat k ((k, p) :: F) = p := by simp [Go.Proofs.YtdcoafpenkofoaaGreatDoor.dat]
theorem dat_other {k a : ByteArray} (h : ¬ a = k) {p : List Nat × Nat} {F : List Fi} : dat k ((a, p) :: F) = dat k F := by simp [Go.Proofs.YtdcoafpenkofoaaGreatDoor.dat, h]
theorem dat_fl (k : ByteArray) (keep : Int) : ∀ (F : List Fi), dat k (F.map (fl keep)) = fln keep (dat k F)
  | [] => by
    show (([], 0) : List Nat × Nat) = fln keep ([], 0)
    unfold fln stay
    simp
  | (a, p) :: F => by
    by_cases h : a = k
    · subst h
      show dat a ((a, _) :: _) = _
      rw [dat_cons, dat_cons]
      rfl
    · show dat k ((a, _) :: _) = _
      rw [dat_other h, dat_other h]
      exact dat_fl k keep F
theorem dat_no9 {k : ByteArray} {F : List Fi} (h : ∀ f ∈ F, ¬ f.1 = k) : dat k F = ([], 0) := by
  unfold Go.Proofs.YtdcoafpenkofoaaGreatDoor.dat
  rw [List.find?_eq_none.2 (fun f hf => by simpa using h f hf)]
theorem hasE_iff {F : List Fi} {k : ByteArray} : hasN (F.map (·.1)) k = true ↔ ∃ f ∈ F, f.1 = k := by
  unfold hasN
  rw [List.any_eq_true]
  constructor
  · rintro ⟨z, hz, h⟩
    obtain ⟨f, hf, rfl⟩ := List.mem_map.1 hz
    exact ⟨f, hf, of_decide_eq_true h⟩
  · rintro ⟨f, hf, h⟩
    exact ⟨f.1, List.mem_map_of_mem hf, decide_eq_true h⟩
theorem find_has {F : List Fi} {k : ByteArray} (hk : nm k = true) {L : List ByteArray} (hL : L.all nm = true) (h : ∃ f ∈ F, f.1 = k) : findE false (F.map (·.1)) k L = 0 := by
  unfold findE
  rw [hasE_iff.2 h, hk, hL]
  rfl
theorem find_not {F : List Fi} {k : ByteArray} (hk : nm k = true) (h : ¬ ∃ f ∈ F, f.1 = k) : findE false (F.map (·.1)) k [] = 191 := by
  unfold findE
  have : hasN (F.map (·.1)) k = false := by
    cases hh : hasN (F.map (·.1)) k
    · rfl
    · exact absurd (hasE_iff.1 hh) h
  rw [this, hk]
  rfl
/-- the power has failed: what stands of the log -/
def Fel (x : Dx) (p : List Nat × Nat) (R : Int × Dx × List Fi) : Prop := R.1 = 3 ∧ x.left ≠ -1 ∧ R.2.1.down = true ∧ Nmz R.2.2 ∧ ∃ keep, dat kG R.2.2 = fln keep p
/-- it has not -/
def Liv (x : Dx) (R : Int × Dx × List Fi) : Prop := R.2.1.down = false ∧ (x.left = -1 → R.2.1.left = -1)
theorem actX_liv {x : Dx} {F : List Fi} (hd : x.down = false) (hl : x.left ≠ 0) : (actX x F).down = false ∧ (x.left = -1 → (actX x F).left = -1) := by
  unfold actX
  by_cases h1 : x.left = -1
  · rw [if_pos h1]; exact ⟨hd, fun _ => h1⟩
  · rw [if_neg h1, if_neg hl]; exact ⟨hd, fun h => absurd h h1⟩
theorem actX_fel {x : Dx} {F : List Fi} (hl : x.left = 0) : (actX x F).down = true := by
  unfold actX
  rw [if_neg (by omega), if_pos hl]
theorem Fel.of {x y : Dx} {F : List Fi} {p q : List Nat × Nat} (hl : x.left = 0) (hy : y.left ≠ -1) (hn : Nmz F) (hp : dat kG F = p) : Fel y p (3, actX x F, actF x F) :=
  ⟨rfl, hy, actX_fel hl, by show Nmz (actF x F); unfold actF; rw [if_pos hl]; exact hn.fall _, x.keep, by show dat kG (actF x F) = _; unfold actF; rw [if_pos hl, dat_fl, hp]⟩
theorem Fel.from {x y : Dx} {p : List Nat × Nat} {R : Int × Dx × List Fi} (h : Fel x p R) (hx : y.left = -1 → x.left = -1) : Fel y p R := ⟨h.1, fun e => h.2.1 (hx e), h.2.2⟩
theorem cl_math {x : Dx} {F : List Fi} (hd : x.down = false) (hn : Nmz F) : Fel x (dat kG F) (jCl x F) ∨ ((jCl x F).1 = 0 ∧ Liv x (jCl x F) ∧ Nog (jCl x F).2.2 ∧ dat kG (jCl x F).2.2 = dat kG F) := by
  by_cases h : ∃ f ∈ F, f.1 = kN
  · have hf : findE x.down (F.map (·.1)) kN [] = 0 := by rw [hd]; exact find_has kN_nm rfl h
    by_cases hl : x.left = 0
    · have e : dDel x F kN = (3, actX x F, actF x F) := by unfold dDel; rw [if_neg (by rw [hf]; simp), if_pos hl]
      have e2 : jCl x F = (3, actX x F, actF x F) := by unfold jCl; rw [e]; rfl
      rw [e2]
      exact .inl (Fel.of (q := ([], 0)) hl (by omega) hn rfl)
    · have e : dDel x F kN = (0, { actX x F with used := x.used - (lenOf kN F : Int) }, woF kN F) := by unfold dDel; rw [if_neg (by rw [hf]; simp), if_neg hl]
      have e2 : jCl x F = (0, { actX x F with used := x.used - (lenOf kN F : Int) }, woF kN F) := by unfold jCl; rw [e]; rfl
      rw [e2]
      exact .inr ⟨rfl, actX_liv hd hl, hn.wo, dat_wo kG_ne⟩
  · have hf : findE x.down (F.map (·.1)) kN [] = 191 := by rw [hd]; exact find_not kN_nm h
    have e : dDel x F kN = (191, x, F) := by unfold dDel; rw [hf, if_pos (by decide)]
    have e2 : jCl x F = (0, x, F) := by unfold jCl; rw [e]; rfl
    rw [e2]
    exact .inr ⟨rfl, ⟨hd, id⟩, fun f hf => (hn f hf).resolve_right (fun h2 => h ⟨f, hf, h2⟩), rfl⟩
theorem Nog.cl {x : Dx} {F : List Fi} (hd : x.down = false) (hn : Nog F) : jCl x F = (0, x, F) := by
  have hf : findE x.down (F.map (·.1)) kN [] = 191 := by rw [hd]; exact find_not kN_nm (fun ⟨f, hf, h⟩ => kG_ne ((hn f hf).symm.trans h))
  have e : dDel x F kN = (191, x, F) := by unfold dDel; rw [hf, if_pos (by decide)]
  unfold jCl
  rw [e]
  rfl
theorem add_nmz {F : List Fi} (hn : Nmz F) {k : ByteArray} (hk : k = kG ∨ k = kN) (t : List Nat) : Nmz (addF k t F) := (hn.sub k).cons hk _
/-- write to a file: what it leaves of it -/
theorem wr_math {x : Dx} {F : List Fi} (hd : x.down = false) (hn : Nmz F) {k : ByteArray} (hk : k = kG ∨ k = kN) (hm : nm k = true) (t : List Nat) :
    ((jWr x F k t).1 = 3 ∧ x.left ≠ -1 ∧ (jWr x F k t).2.1.down = true ∧ Nmz (jWr x F k t).2.2 ∧ (∃ keep, dat kG (jWr x F k t).2.2 = fln keep (dat kG (addF k t F))) ∧ (t.length : Int) ≤ x.room - x.used) ∨
    (jWr x F k t = (190, x, F) ∧ x.room - x.used < (t.length : Int)) ∨
    ((jWr x F k t).1 = 0 ∧ Liv x (jWr x F k t) ∧ (jWr x F k t).2.2 = (k, (dat k F).1 ++ t, ((dat k F).1 ++ t).length) :: woF k (woF k F) ∧ (t.length : Int) ≤ x.room - x.used) := by
  have hr : refE x.down [k] = 0 := by unfold refE; rw [hd]; simp [hm]
  by_cases hu : x.room - x.used < (t.length : Int)
  · have e : dApp x F k t = (190, x, F) := by unfold dApp; rw [if_neg (by rw [hr]; simp), if_pos hu]
    refine .inr (.inl ⟨?_, hu⟩)
    unfold jWr
    rw [e]
    exact if_pos (by simp)
  · have e : dApp x F k t = (actE x, actX { x with used := x.used + (t.length : Int) } (addF k t F), actF x (addF k t F)) := by
      unfold dApp
      rw [if_neg (by rw [hr]; simp), if_neg hu]
    by_cases hl : x.left = 0
    · have e1 : jWr x F k t = (3, actX { x with used := x.used + (t.length : Int) } (addF k t F), (addF k t F).map (fl x.keep)) := by
        unfold jWr
        rw [e]
        have h3 : actE x = 3 := if_pos hl
        have h4 : actF x (addF k t F) = (addF k t F).map (fl x.keep) := if_pos hl
        rw [h3, h4]
        exact if_pos (by simp)
      rw [e1]
      refine .inl ⟨rfl, by omega, actX_fel (x := { x with used := x.used + (t.length : Int) }) hl, (add_nmz hn hk t).fall _, ⟨x.keep, dat_fl _ _ _⟩, by omega⟩
    · have h0 : actE x = 0 := if_neg hl
      have h4 : actF x (addF k t F) = addF k t F := if_neg hl
      have hA := actX_liv (x := { x with used := x.used + (t.length : Int) }) (F := addF k t F) hd hl
      obtain ⟨y, hy⟩ : ∃ y, actX { x with used := x.used + (t.length : Int) } (addF k t F) = y := ⟨_, rfl⟩
      rw [hy] at hA
      have e1 : jWr x F k t = dSync y (addF k t F) k := by
        unfold jWr
        rw [e, h0, h4, hy]
        exact if_neg (by simp)
      have hf : findE y.down ((addF k t F).map (·.1)) k [] = 0 := by rw [hA.1]; exact find_has hm rfl ⟨_, List.mem_cons_self, rfl⟩
      have hdk : dat k (addF k t F) = ((dat k F).1 ++ t, (dat k F).2) := by unfold addF; exact dat_cons
      by_cases hl2 : y.left = 0
      · have e2 : dSync y (addF k t F) k = (3, actX y (addF k t F), actF y (addF k t F)) := by unfold dSync; rw [if_neg (by rw [hf]; simp), if_pos hl2]
        rw [e1, e2]
        have h5 : actF y (addF k t F) = (addF k t F).map (fl y.keep) := if_pos hl2
        refine .inl ⟨rfl, fun h => ?_, actX_fel hl2, ?_, ⟨y.keep, ?_⟩, by omega⟩
        · have := hA.2 h; omega
        · show Nmz (actF y (addF k t F)); rw [h5]; exact (add_nmz hn hk t).fall _
        · show dat kG (actF y (addF k t F)) = _; rw [h5]; exact dat_fl _ _ _
      · have e2 : dSync y (addF k t F) k = (0, actX y (addF k t F), (k, (dat k (addF k t F)).1, (dat k (addF k t F)).1.length) :: woF k (addF k t F)) := by unfold dSync; rw [if_neg (by rw [hf]; simp), if_neg hl2]
        have hw : woF k (addF k t F) = woF k (woF k F) := by unfold addF woF; simp
        rw [hdk, hw] at e2
        rw [e1, e2]
        have hB := actX_liv (F := addF k t F) hA.1 hl2
        exact .inr (.inr ⟨rfl, ⟨hB.1, fun h => hB.2 (hA.2 h)⟩, rfl, by omega⟩)
theorem wo_no {k : ByteArray} {F : List Fi} (h : ∀ f ∈ F, ¬ f.1 = k) : woF k F = F := List.filter_eq_self.2 (fun f hf => by simpa using h f hf)
theorem wo_all {k : ByteArray} {F : List Fi} (h : ∀ f ∈ F, f.1 = k) : woF k F = [] := List.filter_eq_nil_iff.2 (fun f hf => by simpa using h f hf)
/-- replace -/
theorem rp_math {x : Dx} {F : List Fi} (hd : x.down = false) (hn : Nmz F) (t : List Nat) :
    Fel x (dat kG F) (jRp x F t) ∨ ((jRp x F t).1 = 190 ∧ Liv x (jRp x F t) ∧ Nog (jRp x F t).2.2 ∧ dat kG (jRp x F t).2.2 = dat kG F) ∨ ((jRp x F t).1 = 0 ∧ Liv x (jRp x F t) ∧ (jRp x F t).2.2 = [(kG, t, t.length)]) := by
  unfold jRp
  rcases cl_math hd hn with h | ⟨h0, h1, h2, h3⟩
  · rw [if_pos (by rw [h.1]; simp)]
    exact .inl h
  · rw [if_neg (by rw [h0]; simp)]
    obtain ⟨C, hC⟩ : ∃ C, jCl x F = C := ⟨_, rfl⟩
    rw [hC] at h0 h1 h2 h3 ⊢
    have hkn : ∀ f ∈ C.2.2, ¬ f.1 = kN := fun f hf e => kG_ne ((h2 f hf).symm.trans e)
    have hdn : dat kN C.2.2 = ([], 0) := dat_no9 hkn
    rcases wr_math h1.1 h2.nmz (.inr rfl : kN = kG ∨ kN = kN) kN_nm t with ⟨a1, a2, a3, a4, ⟨kp, a5⟩, _⟩ | ⟨e, _⟩ | ⟨a1, a2, a3, _⟩
    · rw [if_pos (by rw [a1]; simp)]
      refine .inl ⟨a1, fun h => a2 (h1.2 h), a3, a4, kp, ?_⟩
      rw [a5]
      unfold addF
      rw [dat_other kN_ne, dat_wo kG_ne, h3]
    · rw [e, if_pos (by simp)]
      exact .inr (.inl ⟨rfl, h1, h2, h3⟩)
    · rw [if_neg (by rw [a1]; simp)]
      obtain ⟨V, hV⟩ : ∃ V, jWr C.2.1 C.2.2 kN t = V := ⟨_, rfl⟩
      rw [hV] at a1 a2 a3 ⊢
      rw [hdn, wo_no hkn, wo_no hkn, List.nil_append] at a3
      have hf : findE V.2.1.down (V.2.2.map (·.1)) kN [kG] = 0 := by rw [a2.1, a3]; exact find_has kN_nm (by simp [kG_nm]) ⟨_, List.mem_cons_self, rfl⟩
      have hdt : dat kN V.2.2 = (t, t.length) := by rw [a3]; exact dat_cons
      have hdg : dat kG V.2.2 = dat kG F := by rw [a3, dat_other kN_ne, h3]
      have hnz : Nmz V.2.2 := by rw [a3]; exact h2.nmz.cons (.inr rfl) _
      by_cases hl : V.2.1.left = 0
      · have e : dRen V.2.1 V.2.2 kN kG = (3, actX V.2.1 V.2.2, actF V.2.1 V.2.2) := by
          unfold dRen
          rw [if_neg (by rw [hf]; simp), hdt, if_neg (by simp), if_pos hl]
        rw [e]
        exact .inl (Fel.of (q := ([], 0)) hl (fun h => by have := a2.2 (h1.2 h); omega) hnz hdg)
      · have e : dRen V.2.1 V.2.2 kN kG = (0, { actX V.2.1 V.2.2 with used := V.2.1.used - (lenOf kG V.2.2 : Int) }, (kG, dat kN V.2.2) :: woF kN (woF kG V.2.2)) := by
          unfold dRen
          rw [if_neg (by rw [hf]; simp), hdt, if_neg (by simp), if_neg hl, if_neg kN_ne]
        have hw : woF kN (woF kG V.2.2) = [] := by
          rw [a3]
          have h5 : woF kG ((kN, t, t.length) :: C.2.2) = [(kN, t, t.length)] := by
            have h6 := wo_all h2
            unfold woF at h6 ⊢
            rw [List.filter_cons, if_pos (by simp [kN_ne]), h6]
          rw [h5]
          unfold woF
          simp
        rw [hdt, hw] at e
        rw [e]
        have hB := actX_liv (F := V.2.2) a2.1 hl
        exact .inr (.inr ⟨rfl, ⟨hB.1, fun h => hB.2 (a2.2 (h1.2 h))⟩, rfl⟩)
theorem sf_math {x : Dx} {F : List Fi} (hd : x.down = false) (hn : Nog F) {l : List Nat} {z : Nat} (hp : dat kG F = (l, z)) (hz : z ≤ l.length) (n : Int) :
    Fel x (l, z) (jSf (n, x, F) l.length z) ∨ ((jSf (n, x, F) l.length z).1 = 0 ∧ Liv x (jSf (n, x, F) l.length z) ∧ Nog (jSf (n, x, F) l.length z).2.2 ∧ dat kG (jSf (n, x, F) l.length z).2.2 = (l, l.length)) := by
  unfold jSf
  by_cases h : z = l.length
  · rw [if_pos h]
    exact .inr ⟨rfl, ⟨hd, id⟩, hn, by rw [← h]; exact hp⟩
  · rw [if_neg h]
    dsimp only
    have hex : ∃ f ∈ F, f.1 = kG := by
      rcases F with _ | ⟨f, F⟩
      · have e : (([], 0) : List Nat × Nat) = (l, z) := hp
        simp only [Prod.mk.injEq] at e
        obtain ⟨rfl, rfl⟩ := e
        exact absurd rfl h
      · exact ⟨f, List.mem_cons_self, hn f List.mem_cons_self⟩
    have hf : findE x.down (F.map (·.1)) kG [] = 0 := by rw [hd]; exact find_has kG_nm rfl hex
    by_cases hl : x.left = 0
    · have e : dSync x F kG = (3, actX x F, actF x F) := by unfold dSync; rw [if_neg (by rw [hf]; simp), if_pos hl]
      rw [e]
      exact .inl (Fel.of (q := ([], 0)) hl (by omega) hn.nmz hp)
    · have e : dSync x F kG = (0, actX x F, (kG, (dat kG F).1, (dat kG F).1.length) :: woF kG F) := by unfold dSync; rw [if_neg (by rw [hf]; simp), if_neg hl]
      rw [e, hp, wo_all hn]
      refine .inr ⟨rfl, actX_liv hd hl, fun f hf => ?_, dat_cons⟩
      rw [List.mem_singleton.1 hf]
/-- takeUp, no tail -/
theorem tk_math {x : Dx} {F : List Fi} (hd : x.down = false) (hn : Nmz F) {l : List Nat} {z : Nat} (hp : dat kG F = (l, z)) (hz : z ≤ l.length) :
    Fel x (l, z) (jTk x F l.length z) ∨ ((jTk x F l.length z).1 = 0 ∧ Liv x (jTk x F l.length z) ∧ Nog (jTk x F l.length z).2.2 ∧ dat kG (jTk x F l.length z).2.2 = (l, l.length)) := by
  have hc := cl_math hd hn
  rw [hp] at hc
  rcases hc with h | ⟨h0, h1, h2, h3⟩
  · have e : jTk x F l.length z = jCl x F := if_pos (by rw [h.1]; simp)
    rw [e]
    exact .inl h
  · have e : jTk x F l.length z = jSf (jCl x F) l.length z := by unfold jTk jSf; rw [if_neg (by rw [h0]; simp)]
    rw [e]
    obtain ⟨C, hC⟩ : ∃ C, jCl x F = C := ⟨_, rfl⟩
    rw [hC] at h0 h1 h2 h3 ⊢
    rcases sf_math h1.1 h2 h3 hz C.1 with h | ⟨k1, k2, k3, k4⟩
    · exact .inl (h.from h1.2)
    · exact .inr ⟨k1, ⟨k2.1, fun h => k2.2 (h1.2 h)⟩, k3, k4⟩
/-- takeUp, bytes behind the batches -/
theorem tu_math {x : Dx} {F : List Fi} (hd : x.down = false) (hn : Nmz F) {l : List Nat} {z : Nat} (hp : dat kG F = (l, z)) (hz : z ≤ l.length) (t : List Nat) :
    Fel x (l, z) (jTu x F t l.length z) ∨ ((jTu x F t l.length z).1 = 0 ∧ Liv x (jTu x F t l.length z) ∧ ((jTt x F t = false ∧ (jTu x F t l.length z).2.2 = [(kG, t, t.length)]) ∨ (jTt x F t = true ∧ Nog (jTu x F t l.length z).2.2 ∧ dat kG (jTu x F t l.length z).2.2 = (l, l.length)))) := by
  have hc := cl_math hd hn
  rw [hp] at hc
  rcases hc with h | ⟨h0, h1, h2, h3⟩
  · have e : jTu x F t l.length z = jCl x F := if_pos (by rw [h.1]; simp)
    rw [e]
    exact .inl h
  · unfold jTu jTt
    have h00 : ¬ (jCl x F).1 ≠ 0 := by rw [h0]; simp
    rw [if_neg h00, if_neg h00]
    obtain ⟨C, hC⟩ : ∃ C, jCl x F = C := ⟨_, rfl⟩
    rw [hC] at h0 h1 h2 h3 ⊢
    have hr := rp_math h1.1 h2.nmz t
    rw [h3] at hr
    obtain ⟨R, hR⟩ : ∃ R, jRp C.2.1 C.2.2 t = R := ⟨_, rfl⟩
    rw [hR] at hr ⊢
    rcases hr with h | ⟨k1, k2, k3, k4⟩ | ⟨k1, k2, k3⟩
    · rw [if_pos (by rw [h.1]; decide)]
      exact .inl (h.from h1.2)
    · rw [if_neg (by rw [k1]; simp)]
      have ht : jTl R.1 true = true := by rw [k1]; rfl
      rw [ht]
      rcases sf_math k2.1 k3 k4 hz R.1 with h | ⟨m1, m2, m3, m4⟩
      · exact .inl (h.from (fun h => k2.2 (h1.2 h)))
      · exact .inr ⟨m1, ⟨m2.1, fun h => m2.2 (k2.2 (h1.2 h))⟩, .inr ⟨rfl, m3, m4⟩⟩
    · rw [if_pos (by rw [k1]; decide)]
      have ht : jTl R.1 true = false := by rw [k1]; rfl
      rw [ht]
      exact .inr ⟨k1, ⟨k2.1, fun h => k2.2 (h1.2 h)⟩, .inl ⟨rfl, k3⟩⟩
/-- a log that may be told as Now, or as Then -/
def LgD (p : List Nat × Nat) (Now Then : List (List (List Nat))) (Two : Bool) : Prop := ∃ K k, GdB K ∧ k ≤ batN K ∧ p.1 = logB Now ++ (batB K).take k ∧ logN Now ≤ p.2 ∧ p.2 ≤ p.1.length ∧ (k = batN K → Two = true ∧ Then = Now ++ [K])
theorem LgD.fall {p : List Nat × Nat} {Now Then : List (List (List Nat))} {Two : Bool} (h : LgD p Now Then Two) (keep : Int) : LgD (fln keep p) Now Then Two := by
  obtain ⟨K, k, h1, h2, h3, h4, h5, h6⟩ := h
  have hm1 : p.2 ≤ stay p.1.length p.2 keep := by unfold stay; omega
  have hm2 : stay p.1.length p.2 keep ≤ p.1.length := stay_le h5 _
  obtain ⟨m, hm⟩ : ∃ m, stay p.1.length p.2 keep = m := ⟨_, rfl⟩
  unfold fln
  rw [hm] at hm1 hm2 ⊢
  refine ⟨K, min (m - logN Now) k, h1, by omega, ?_, by show logN Now ≤ m; omega, by show m ≤ (p.1.take m).length; rw [List.length_take]; omega, fun e => h6 (by omega)⟩
  show p.1.take m = _
  rw [h3, List.take_append, logB_len, List.take_take, List.take_of_length_le (by rw [logB_len]; omega)]
def Dn (F : List Fi) (Now Then : List (List (List Nat))) (Two : Bool) : Prop := Nmz F ∧ (∀ m ∈ Now, GdB m) ∧ LgD (dat kG F) Now Then Two
theorem Dn.fel {x : Dx} {Now Then : List (List (List Nat))} {Two : Bool} {p : List Nat × Nat} {R : Int × Dx × List Fi} (hM : ∀ m ∈ Now, GdB m) (hp : LgD p Now Then Two) (h : Fel x p R) : Dn R.2.2 Now Then Two := by
  obtain ⟨_, _, _, h4, keep, h5⟩ := h
  exact ⟨h4, hM, by rw [h5]; exact hp.fall keep⟩
theorem Dn.crash {F : List Fi} {Now Then : List (List (List Nat))} {Two : Bool} (h : Dn F Now Then Two) (keep : Int) : Dn (F.map (fl keep)) Now Then Two := ⟨h.1.fall keep, h.2.1, by rw [dat_fl]; exact h.2.2.fall keep⟩
/-- a log that is safe: batches, and what stands behind them -/
def LgU (l : List Nat) (M : List (List (List Nat))) (tl : Bool) : Prop := ∃ K k, GdB K ∧ k < batN K ∧ l = logB M ++ (batB K).take k ∧ (tl = false → k = 0)
theorem LgU.dn {l : List Nat} {M : List (List (List Nat))} {tl : Bool} (h : LgU l M tl) (Then : List (List (List Nat))) (Two : Bool) : LgD (l, l.length) M Then Two := by
  obtain ⟨K, k, h1, h2, h3, h4⟩ := h
  refine ⟨K, k, h1, by omega, h3, ?_, Nat.le_refl _, fun e => absurd e (by omega)⟩
  show logN M ≤ l.length
  rw [h3, List.length_append, logB_len]
  omega
theorem LgU.whole (M : List (List (List Nat))) (tl : Bool) : LgU (logB M) M tl := ⟨[[7]], 0, gd7, by decide, by simp, fun _ => rfl⟩
/-- what Open tells of such a log -/
theorem LgD.wl {p : List Nat × Nat} {Now Then : List (List (List Nat))} {Two : Bool} (h : LgD p Now Then Two) (hM : ∀ m ∈ Now, GdB m) :
    ∃ M n q, wl p.1 = (M, n, q) ∧ n = logN M ∧ q < 2 ∧ n ≤ p.1.length ∧ (n = p.1.length ↔ q = 0) ∧ (M = Now ∨ (Two = true ∧ M = Then)) ∧ (∀ m ∈ M, GdB m) ∧ p.1.take n = logB M ∧ LgU p.1 M (decide (n < p.1.length)) := by
  obtain ⟨K, k, h1, h2, h3, h4, h5, h6⟩ := h
  by_cases hk : k = batN K
  · obtain ⟨h7, h8⟩ := h6 hk
    have hM2 : ∀ m ∈ Then, GdB m := by
      rw [h8]
      intro m hm
      rcases List.mem_append.1 hm with hm | hm
      · exact hM m hm
      · rw [List.mem_singleton.1 hm]; exact h1
    have e : p.1 = logB Then := by rw [h3, h8, logB_snoc, hk, List.take_of_length_le (by rw [batB_len]; omega)]
    have hl : p.1.length = logN Then := by rw [e, logB_len]
    refine ⟨Then, logN Then, 0, by rw [e]; exact wl_all Then hM2, rfl, by omega, by omega, by omega, .inr ⟨h7, rfl⟩, hM2, by rw [← hl, List.take_length, e], ?_⟩
    rw [e]
    exact LgU.whole _ _
  · have hk' : k < batN K := by omega
    obtain ⟨q, q1, q2, q3⟩ := wl_front Now K k hM h1 hk'
    have hl : p.1.length = logN Now + k := by rw [h3, List.length_append, logB_len, List.length_take, batB_len]; omega
    refine ⟨Now, logN Now, q, by rw [h3]; exact q1, rfl, q2, by omega, by rw [← q3]; omega, .inl rfl, hM, ?_, K, k, h1, hk', h3, fun h => ?_⟩
    · rw [h3, List.take_append_of_le_length (by rw [logB_len]; omega), List.take_of_length_le (by rw [logB_len]; omega)]
    · have := of_decide_eq_false h
      omega
end Go.Proofs.YtdcoafpenkofoaaGreatDoor


/- Stage 20: a journal that is down; answer of ErrDown. -/
namespace Go.Proofs.YtdcoafpenkofoaaGreatDoor
open Go.RowKit Go.Maps Go.MuLone
set_option linter.unusedVariables false
set_option linter.unusedSimpArgs false
def jrN (sz : Int) (tl : Bool) : Array Value := #[.pointer none, .int .i64 sz, .bool tl]
/-- a journal that is down -/
def JN (wi : World) (j : Nat) : Prop := ∃ sz tl, wi.heap[j]? = some (.cells (jrN sz tl) 114 (0, 0))
theorem JN.lt {wi : World} {j : Nat} (h : JN wi j) : j < wi.heap.size := by
  obtain ⟨sz, tl, h⟩ := h
  exact (Array.getElem?_eq_some_iff.1 h).1
theorem JN.below {wi w' : World} {j : Nat} (h : JN wi j) (hb : Below wi.heap.size wi w') : JN w' j := by
  have hl := h.lt
  obtain ⟨sz, tl, h⟩ := h
  exact ⟨sz, tl, (hb.block j hl).trans h⟩
theorem JN.kp {S : Nat → Prop} {wi w' : World} {j : Nat} (h : JN wi j) (hb : Kp S wi w') (hs : ¬ S j) : JN w' j := by
  have hl := h.lt
  obtain ⟨sz, tl, h⟩ := h
  exact ⟨sz, tl, (hb.block hl hs).trans h⟩
section
variable {S : Nat → Prop} {w wi w' : World} {d j : Nat} {x x' : Dx} {F F' : List Fi} {sz : Int} {tl : Bool}
/-- the journal goes down -/
theorem JS.drop (h : JS S w wi d j x F sz tl) : AW S w (wi.setCell ⟨j, 0, none⟩ (.pointer none)) d x F ∧ JN (wi.setCell ⟨j, 0, none⟩ (.pointer none)) j := by
  refine ⟨h.aw.setC h.nj h.lo _, sz, tl, ?_⟩
  rw [blk_set h.blk]
  rfl
theorem refuses_nil (h : JN wi j) (v : Value) : Calls Tryz.prog 68 #[.pointer (some ⟨j, 0, none⟩), v] wi fun e w' => e = .returned (.int .i64 3) ∧ Below wi.heap.size wi w' := by
  obtain ⟨sz, tl, h⟩ := h
  have c0 : wi.cell? ⟨j, 0, none⟩ = some (.pointer none) := cellOf h 0 _ rfl
  clear h
  go_enter Tryz.func68, Tryz.ntmps68
  go_wp2
  go_ret
  exact ⟨rfl, Below.refl _ _⟩
theorem refuses_down (h : JS S w wi d j x F sz tl) (hd : x.down = true) (v : Value) : Calls Tryz.prog 68 #[.pointer (some ⟨j, 0, none⟩), v] wi fun e w' => e = .returned (.int .i64 3) ∧ ∃ S', (∀ q, S' q → S q ∨ wi.heap.size ≤ q) ∧ AW S' w w' d x F ∧ JN w' j ∧ ¬ S' j ∧ Kp (fun k => S k ∨ k = j) wi w' := by
  obtain ⟨c0, _, _, _⟩ := h.cells
  have HU := hide (aw_up h.aw)
  rw [hd] at HU
  have HJ := hide h
  clear h hd
  go_enter Tryz.func68, Tryz.ntmps68
  go_wp2_with fail
  refine HU.out.mono ?_
  rintro e w1 ⟨rfl, hN⟩
  obtain ⟨S1, hS1, hJ1, hK1⟩ := HJ.out.nx hN
  obtain ⟨c1, _, _, f1⟩ := hJ1.cells
  have f10 := f1 0
  have HD := hide hJ1.drop
  have HJ1 := hide (And.intro hS1 (And.intro hJ1.nj hK1))
  clear hS1 hJ1 hK1 hN f1
  go_wp2
  go_ret
  exact ⟨rfl, S1, HJ1.out.1, HD.out.1, HD.out.2, HJ1.out.2.1, (HJ1.out.2.2.mono (fun k h => .inl h)).setCell (.inr rfl) _⟩
theorem answer_three (h : JS S w wi d j x F sz tl) (hT : Er wi) : Calls Tryz.prog 69 #[.pointer (some ⟨j, 0, none⟩), amV 3] wi fun e w' => e = .returned (.int .i64 3) ∧ AW S w w' d x F ∧ JN w' j ∧ Kp (fun k => S k ∨ k = j) wi w' := by
  have HE := hide (errnoOf_any 3 wi hT)
  obtain ⟨v, hv⟩ : ∃ v, amV 3 = v := ⟨_, rfl⟩
  rw [hv] at HE ⊢
  have HJ := hide h
  clear hv hT h
  go_enter Tryz.func69, Tryz.ntmps69
  go_wp2_with fail
  refine HE.out.mono ?_
  rintro e w1 ⟨rfl, hb⟩
  have hJ1 := HJ.out.below hb
  obtain ⟨c1, _, _, f1⟩ := hJ1.cells
  have f10 := f1 0
  have HD := hide hJ1.drop
  have HK : Hid (Kp (fun k => S k ∨ k = j) wi w1) := Kp.ofBelow hb
  clear hJ1 hb f1
  go_wp2
  go_ret
  exact ⟨rfl, HD.out.1, HD.out.2, HK.out.setCell (.inr rfl) _⟩
theorem Add_nil (h : JN wi j) (a : Option Addr) (n c : Nat) : Calls Tryz.prog 25 #[.pointer (some ⟨j, 0, none⟩), .slice a n c] wi fun e w' => e = .returned (.int .i64 3) ∧ Below wi.heap.size wi w' := by
  obtain ⟨W1, hW1⟩ : ∃ W1, wi.alloc (.cells #[.slice a n c] 29) = W1 := ⟨_, rfl⟩
  have hb1 : Below wi.heap.size wi W1 := by rw [← hW1]; exact bel1 (Below.refl _ _) (Nat.le_refl _) _
  have HRF := hide (fun v => refuses_nil (h.below hb1) v)
  have HB1 := hide hb1
  have HW1 := hide hW1
  clear h hb1 hW1
  go_enter Tryz.func25, Tryz.ntmps25
  go_wp2_with fail
  rw [HW1.out]
  refine (HRF.out _).mono ?_
  rintro e w2 ⟨rfl, hb2⟩
  have HB2 : Hid (Below wi.heap.size wi w2) := belOn HB1.out HB1.out.size hb2
  clear hb2
  go_wp2
  go_ret
  exact ⟨rfl, HB2.out⟩
theorem Add_down (h : JS S w wi d j x F sz tl) (hd : x.down = true) (a : Option Addr) (n c : Nat) : Calls Tryz.prog 25 #[.pointer (some ⟨j, 0, none⟩), .slice a n c] wi fun e w' => e = .returned (.int .i64 3) ∧ ∃ S', (∀ q, S' q → S q ∨ wi.heap.size ≤ q) ∧ AW S' w w' d x F ∧ JN w' j ∧ ¬ S' j ∧ Kp (fun k => S k ∨ k = j) wi w' := by
  obtain ⟨W1, hW1⟩ : ∃ W1, wi.alloc (.cells #[.slice a n c] 29) = W1 := ⟨_, rfl⟩
  have hb1 : Below wi.heap.size wi W1 := by rw [← hW1]; exact bel1 (Below.refl _ _) (Nat.le_refl _) _
  have HRF := hide (fun v => refuses_down (h.below hb1) hd v)
  have HB1 := hide hb1
  have HW1 := hide hW1
  clear h hb1 hW1 hd
  go_enter Tryz.func25, Tryz.ntmps25
  go_wp2_with fail
  rw [HW1.out]
  refine (HRF.out _).mono ?_
  rintro e w2 ⟨rfl, S2, hS2, hA2, hN2, hj2, hK2⟩
  have HX := hide (And.intro hA2 (And.intro hN2 hj2))
  have HS2 : Hid (∀ q, S2 q → S q ∨ wi.heap.size ≤ q) := fun q hq => (hS2 q hq).imp id (fun h => Nat.le_trans HB1.out.size h)
  have HK2 : Hid (Kp (fun k => S k ∨ k = j) wi w2) := (Kp.ofBelow HB1.out).trans hK2
  clear hS2 hA2 hN2 hj2 hK2
  go_wp2
  go_ret
  exact ⟨rfl, S2, HS2.out, HX.out.1, HX.out.2.1, HX.out.2.2, HK2.out⟩
theorem Shorten_nil (h : JN wi j) (a : Option Addr) (n c : Nat) : Calls Tryz.prog 28 #[.pointer (some ⟨j, 0, none⟩), .slice a n c] wi fun e w' => e = .returned (.int .i64 3) ∧ Below wi.heap.size wi w' := by
  have HRF := hide (fun v => refuses_nil h v)
  clear h
  go_enter Tryz.func28, Tryz.ntmps28
  go_wp2_with fail
  refine (HRF.out _).mono ?_
  rintro e w2 ⟨rfl, hb2⟩
  have HB2 := hide hb2
  clear hb2
  go_wp2
  go_ret
  exact ⟨rfl, HB2.out⟩
end
end Go.Proofs.YtdcoafpenkofoaaGreatDoor


/- Stage 20: add, whatever cut and the power do. -/
namespace Go.Proofs.YtdcoafpenkofoaaGreatDoor
open Go.RowKit Go.Maps Go.MuLone
set_option linter.unusedVariables false
set_option linter.unusedSimpArgs false
/-- add behind cut -/
def jAg (C : Int × Dx × List Fi) (L : List (List Nat)) : Int × Dx × List Fi := if C.1 ≠ 0 then C else jAdd C.2.1 C.2.2 L
def jAgZ (sz : Int) (C : Int × Dx × List Fi) (L : List (List Nat)) : Int := if (jAg C L).1 = 0 then sz + (batN L : Int) else sz
set_option maxHeartbeats 4000000 in
theorem add_gen (S : Nat → Prop) (w wi : World) (d j : Nat) (x : Dx) (F : List Fi) (sz : Int) (tl : Bool) (h : JS S w wi d j x F sz tl) (C : Int × Dx × List Fi) (tc : Bool)
    (HCU : Calls Tryz.prog 108 #[.pointer (some ⟨j, 0, none⟩)] wi fun e w' => e = .returned (amV C.1) ∧ ∃ S', (∀ q, S' q → S q ∨ wi.heap.size ≤ q) ∧ JS S' w w' d j C.2.1 C.2.2 sz tc ∧ Kp (fun k => S k ∨ k = j) wi w')
    (a : Option Addr) (cap : Nat) (L : List (List Nat)) (hR : ∀ W', Kp (fun k => S k ∨ k = j) wi W' → RdB W' a L) (hL : L.length ≤ 4294967296) (hN : batN L ≤ 4611686018427387904) (hsz : 0 ≤ sz ∧ sz ≤ 4611686018427387904) (hn : C.2.2.length + 1 ≤ maxLen) :
    Calls Tryz.prog 70 #[.pointer (some ⟨j, 0, none⟩), .slice a L.length cap] wi fun e w' => e = .returned (amV (jAg C L).1) ∧ ∃ S', (∀ q, S' q → S q ∨ wi.heap.size ≤ q) ∧ JS S' w w' d j (jAg C L).2.1 (jAg C L).2.2 (jAgZ sz C L) tc ∧ Kp (fun k => S k ∨ k = j) wi w' := by
  have HC := hide HCU
  have HR := hide hR
  clear h hR HCU
  go_enter Tryz.func70, Tryz.ntmps70
  go_wp2_with fail
  refine HC.out.mono ?_
  rintro e w0 ⟨rfl, S0, hS0, hJ0, hK0⟩
  by_cases hc0 : C.1 = 0
  · have HAC : Hid (amV C.1 = .nilIface) := by show _ = _; rw [hc0]; rfl
    have HAG : Hid (jAg C L = jAdd C.2.1 C.2.2 L) := if_neg (by rw [hc0]; simp)
    obtain ⟨W1, hW1⟩ : ∃ W1, w0.alloc (.cells #[.slice a L.length cap] 29) = W1 := ⟨_, rfl⟩
    have hb1 : Below w0.heap.size w0 W1 := by rw [← hW1]; exact bel1 (Below.refl _ _) (Nat.le_refl _) _
    have hg : W1.cell? ⟨w0.heap.size, 0, none⟩ = some (.slice a L.length cap) := by rw [← hW1]; exact cellOf (heap_new _ _) 0 _ rfl
    have HL := hide (logOf_any (some ⟨w0.heap.size, 0, none⟩) 1 [L] W1 (RdL.one hg ((HR.out w0 hK0).below hb1)) (by simp) (by simpa using hL) (by rw [logN_one]; exact hN))
    have HJ := hide (hJ0.below hb1)
    have HK0 := hide hK0
    have HS0 := hide hS0
    have HB1 := hide hb1
    have HW1 := hide hW1
    rw [HAC.out]
    clear hg hb1 hW1 hS0 hJ0 hK0 hc0 HAC
    go_wp2_with fail
    rw [HW1.out]
    refine HL.out.mono ?_
    rintro e w2 ⟨hlo, hb2⟩
    have HB2 : Hid (Below w0.heap.size w0 w2) := belOn HB1.out HB1.out.size hb2
    have HJ2 := hide (HJ.out.below hb2)
    clear hb2
    rcases hlo with ⟨hbig, rfl⟩ | ⟨hbig, v, rfl, hv⟩
    · rw [logN_one] at hbig
      have HQ : Hid (jAdd C.2.1 C.2.2 L = (190, C.2.1, C.2.2)) := if_pos hbig
      have HZ : Hid (jAgZ sz C L = sz) := by show _ = _; unfold jAgZ; rw [HAG.out, HQ.out]; exact if_neg (by show ¬ (190 : Int) = 0; decide)
      have HA : Hid (amV 190 = .iface 82 (.int .i64 190)) := rfl
      unfold nB
      clear hbig
      go_wp2
      go_ret
      rw [HZ.out, HAG.out, HQ.out]
      exact ⟨rfl, S0, HS0.out, HJ2.out, HK0.out.below HB2.out⟩
    · rw [logN_one] at hbig
      rw [logB_one] at hv
      have HWr := hide (write_any S0 w w2 d j C.2.1 C.2.2 sz tc HJ2.out kG v (batB L) hv.rb hn)
      obtain ⟨va, vc, rfl, _⟩ := hv.slice
      have HBL : Hid ((batB L).length = batN L) := batB_len L
      have HQ : Hid (jAdd C.2.1 C.2.2 L = jWr C.2.1 C.2.2 kG (batB L)) := if_neg (by omega)
      rw [HBL.out] at HWr ⊢
      clear hv
      go_wp2_with fail
      refine HWr.out.mono ?_
      rintro e w3 ⟨rfl, S3, hS3, hJ3, hK3⟩
      obtain ⟨_, c1, _, f1⟩ := hJ3.cells
      have f1' := f1 1
      have HJ3 := hide hJ3
      have hz0 := HK0.out.size
      have hz2 := HB2.out.size
      have HS : Hid (∀ q, S3 q → S q ∨ wi.heap.size ≤ q) := fun q hq => by
        rcases hS3 q hq with h | h
        · exact HS0.out q h
        · exact .inr (by omega)
      have HK : Hid (Kp (fun k => S k ∨ k = j) wi w3) := (HK0.out.below HB2.out).transN hK3 (fun k hk => (HS0.out k hk).imp (fun h => .inl h) id)
      obtain ⟨n, hn0⟩ : ∃ n, (jWr C.2.1 C.2.2 kG (batB L)).1 = n := ⟨_, rfl⟩
      have HN0 := hide hn0
      rw [hn0]
      clear hS3 hJ3 hK3 hn0 f1 hz0 hz2
      by_cases h0 : n = 0
      · subst h0
        have HA : Hid (amV 0 = .nilIface) := rfl
        have HZ : Hid (jAgZ sz C L = sz + (batN L : Int)) := by show _ = _; unfold jAgZ; rw [HAG.out, HQ.out, HN0.out]; exact if_pos rfl
        have hwz : IntKind.i64.wrap (sz + (batN L : Int)) = sz + (batN L : Int) := by rw [IntKind.wrap_i64]; omega
        have HJS := hide (HJ3.out.setSize (sz + (batN L : Int)))
        rw [HA.out]
        go_wp2
        go_ret
        rw [HZ.out, HAG.out, HQ.out, HN0.out]
        exact ⟨rfl, S3, HS.out, HJS.out, HK.out.setCell (.inr rfl) _⟩
      · have HA : Hid (amV n = .iface 82 (.int .i64 n)) := if_neg h0
        have HZ : Hid (jAgZ sz C L = sz) := by show _ = _; unfold jAgZ; rw [HAG.out, HQ.out, HN0.out]; exact if_neg h0
        rw [HA.out]
        clear h0
        go_wp2
        go_ret
        rw [HZ.out, HAG.out, HQ.out, HN0.out, HA.out]
        exact ⟨rfl, S3, HS.out, HJ3.out, HK.out⟩
  · have HAG : Hid (jAg C L = C) := if_pos hc0
    have HZ : Hid (jAgZ sz C L = sz) := by show _ = _; unfold jAgZ; rw [HAG.out]; exact if_neg hc0
    have HA : Hid (amV C.1 = .iface 82 (.int .i64 C.1)) := if_neg hc0
    have HX := hide (And.intro hS0 (And.intro hJ0 hK0))
    rw [HA.out]
    clear hc0 hS0 hJ0 hK0
    go_wp2
    go_ret
    rw [HZ.out, HAG.out, HA.out]
    exact ⟨rfl, S0, HX.out⟩
set_option maxHeartbeats 4000000 in
/-- Add of good records, whatever add does -/
theorem Add_gen (S : Nat → Prop) (w wi : World) (d j : Nat) (x : Dx) (F : List Fi) (sz : Int) (tl : Bool) (hT : Er w) (h : JS S w wi d j x F sz tl) (hd : x.down = false) (R : Int × Dx × List Fi) (zR : Int) (tR : Bool) (a : Option Addr) (cap : Nat) (L : List (List Nat)) (hR : ∀ W', Kp S wi W' → RdB W' a L) (hb : L.any badR = false) (h0 : L ≠ []) (hL : L.length ≤ 4294967296)
    (HADD : ∀ S2 w2, JS S2 w w2 d j x F sz tl → (∀ q, S2 q → S q ∨ wi.heap.size ≤ q) → Kp S wi w2 → Calls Tryz.prog 70 #[.pointer (some ⟨j, 0, none⟩), .slice a L.length cap] w2 fun e w' => e = .returned (amV R.1) ∧ ∃ S', (∀ q, S' q → S2 q ∨ w2.heap.size ≤ q) ∧ JS S' w w' d j R.2.1 R.2.2 zR tR ∧ Kp (fun k => S2 k ∨ k = j) w2 w') :
    Calls Tryz.prog 25 #[.pointer (some ⟨j, 0, none⟩), .slice a L.length cap] wi fun e w' => e = .returned (.int .i64 R.1) ∧ ∃ S', (∀ q, S' q → S q ∨ wi.heap.size ≤ q) ∧ ¬ S' j ∧ Kp (fun k => S k ∨ k = j) wi w' ∧ ((R.1 ≠ 3 ∧ JS S' w w' d j R.2.1 R.2.2 zR tR) ∨ (R.1 = 3 ∧ AW S' w w' d R.2.1 R.2.2 ∧ JN w' j)) := by
  obtain ⟨W1, hW1⟩ : ∃ W1, wi.alloc (.cells #[.slice a L.length cap] 29) = W1 := ⟨_, rfl⟩
  have hb1 : Below wi.heap.size wi W1 := by rw [← hW1]; exact bel1 (Below.refl _ _) (Nat.le_refl _) _
  have hgb : W1.heap[wi.heap.size]? = some (.cells #[.slice a L.length cap] 29 (0, 0)) := by rw [← hW1]; exact heap_new _ _
  have hJ1 := h.below hb1
  have hSl : ¬ S wi.heap.size := fun hs => by have := (h.aw.at_ _ hs).2; omega
  have hlt1 : wi.heap.size < W1.heap.size := (Array.getElem?_eq_some_iff.1 hgb).1
  have HRF := hide (refuses_up S w W1 d j x F sz tl hJ1 hd (some ⟨wi.heap.size, 0, none⟩) 1 [L] (fun W' hk => RdL.one (cellOf ((hk.block hlt1 hSl).trans hgb) 0 _ rfl) (hR W' ((Kp.ofBelow hb1).trans hk))) (by simp) (by intro m hm; simp only [List.mem_singleton] at hm; rw [hm]; omega))
  have hrf : refN [L] = 0 := by unfold refN badL; simp [hb]
  rw [hrf] at HRF
  have hlne : ((L.length : Int) == 0) = false := beq_eq_false_iff_ne.2 (by have := List.length_pos_iff.2 h0; omega)
  have HB1 := hide hb1
  have HW1 := hide hW1
  have HT := hide hT
  have HAD := hide HADD
  clear h hgb hJ1 hb1 hW1 hrf hSl hR hb h0 hlt1 hT HADD
  go_enter Tryz.func25, Tryz.ntmps25
  go_wp2_with fail
  rw [HW1.out]
  refine HRF.out.mono ?_
  rintro e w2 ⟨rfl, S2, hS2, hJ2, hK2⟩
  have hk02 : Kp S wi w2 := (Kp.ofBelow HB1.out).trans hK2
  have HS2 : Hid (∀ q, S2 q → S q ∨ wi.heap.size ≤ q) := fun q hq => (hS2 q hq).imp id (fun h => Nat.le_trans HB1.out.size h)
  have HA := hide (HAD.out S2 w2 hJ2 HS2.out hk02)
  have HK02 := hide hk02
  clear hS2 hJ2 hK2 hk02
  go_wp2_with fail
  refine HA.out.mono ?_
  rintro e w3 ⟨rfl, S3, hS3, hJ3, hK3⟩
  have HJ3 := hide hJ3
  have HS3 : Hid (∀ q, S3 q → S q ∨ wi.heap.size ≤ q) := fun q hq => by
    rcases hS3 q hq with h | h
    · exact HS2.out q h
    · exact .inr (Nat.le_trans HK02.out.size h)
  have HK3 : Hid (Kp (fun k => S k ∨ k = j) wi w3) := (HK02.out.mono (fun k h => .inl h)).transN hK3 (fun k hk => by
    rcases hk with h | h
    · exact (HS2.out k h).imp (fun h => .inl h) id
    · exact .inl (.inr h))
  have HTW : Hid (Er w3) := HT.out.below hJ3.aw.bel
  clear hS3 hJ3 hK3
  by_cases h3 : R.1 = 3
  · have HAN := hide (answer_three HJ3.out HTW.out)
    rw [h3]
    obtain ⟨v, hv⟩ : ∃ v, amV 3 = v := ⟨_, rfl⟩
    rw [hv] at HAN ⊢
    have H3 := hide h3
    clear hv h3
    go_wp2_with fail
    refine HAN.out.mono ?_
    rintro e w4 ⟨rfl, hA4, hN4, hK4⟩
    have HX := hide (And.intro hA4 hN4)
    have HK4 : Hid (Kp (fun k => S k ∨ k = j) wi w4) := HK3.out.transN hK4 (fun k hk => by
      rcases hk with h | h
      · exact (HS3.out k h).imp (fun h => .inl h) id
      · exact .inl (.inr h))
    clear hA4 hN4 hK4
    go_wp2
    go_ret
    exact ⟨by rw [H3.out]; rfl, S3, HS3.out, HJ3.out.nj, HK4.out, .inr ⟨H3.out, HX.out⟩⟩
  · have HAN := hide (answer_ok (j := j) (wi := w3) _ h3 HTW.out)
    obtain ⟨v, hv⟩ : ∃ v, amV R.1 = v := ⟨_, rfl⟩
    rw [hv] at HAN ⊢
    have H3 := hide h3
    clear hv h3
    go_wp2_with fail
    refine HAN.out.mono ?_
    rintro e w4 ⟨rfl, hb4⟩
    have HJ4 := hide (HJ3.out.below hb4)
    have HK4 := hide (HK3.out.below hb4)
    clear hb4
    go_wp2
    go_ret
    exact ⟨rfl, S3, HS3.out, HJ3.out.nj, HK4.out, .inl ⟨H3.out, HJ4.out⟩⟩
end Go.Proofs.YtdcoafpenkofoaaGreatDoor


/- Stage 20: shorten. -/
namespace Go.Proofs.YtdcoafpenkofoaaGreatDoor
open Go.RowKit Go.Maps Go.MuLone
set_option linter.unusedVariables false
set_option linter.unusedSimpArgs false
/-- shorten: the error's number, the disk behind it; the journal's size and tail -/
def jSh (x : Dx) (F : List Fi) (M : List (List (List Nat))) : Int × Dx × List Fi := if 16777216 < logN M then (190, x, F) else jRp x F (logB M)
def jShZ (sz : Int) (x : Dx) (F : List Fi) (M : List (List (List Nat))) : Int := if (jSh x F M).1 = 0 then (logN M : Int) else sz
set_option maxHeartbeats 4000000 in
theorem shorten_any (S : Nat → Prop) (w wi : World) (d j : Nat) (x : Dx) (F : List Fi) (sz : Int) (tl : Bool) (h : JS S w wi d j x F sz tl) (a : Option Addr) (cap : Nat) (M : List (List (List Nat))) (hR : RdL wi a M) (hM : M.length ≤ 4294967296) (hm : ∀ m ∈ M, m.length ≤ 4294967296) (hn : logN M ≤ 4611686018427387904)
    (h1 : (jCl x F).2.2.length + 1 ≤ maxLen) (h2 : (jWr (jCl x F).2.1 (jCl x F).2.2 kN (logB M)).2.2.length + 1 ≤ maxLen) :
    Calls Tryz.prog 71 #[.pointer (some ⟨j, 0, none⟩), .slice a M.length cap] wi fun e w' => e = .returned (amV (jSh x F M).1) ∧ ∃ S', (∀ q, S' q → S q ∨ wi.heap.size ≤ q) ∧ JS S' w w' d j (jSh x F M).2.1 (jSh x F M).2.2 (jShZ sz x F M) (jTl (jSh x F M).1 tl) ∧ Kp (fun k => S k ∨ k = j) wi w' := by
  have HL := hide (logOf_any a cap M wi hR hM hm hn)
  have HJ := hide h
  have HSD : Hid (∀ k, S k → k < wi.heap.size) := fun k hk => (h.aw.at_ k hk).2
  have H1 := hide h1
  have H2 := hide h2
  clear h hR hm hn h1 h2 hM
  go_enter Tryz.func71, Tryz.ntmps71
  go_wp2_with fail
  refine HL.out.mono ?_
  rintro e w2 ⟨hlo, hb2⟩
  have HB2 := hide hb2
  clear hb2
  rcases hlo with ⟨hbig, rfl⟩ | ⟨hbig, v, rfl, hv⟩
  · have HQ : Hid (jSh x F M = (190, x, F)) := if_pos hbig
    have HZ : Hid (jShZ sz x F M = sz) := by show _ = _; unfold jShZ; rw [HQ.out]; exact if_neg (by show ¬ (190 : Int) = 0; decide)
    have HT : Hid (jTl (jSh x F M).1 tl = tl) := by show _ = _; rw [HQ.out]; exact if_neg (by show ¬ (190 : Int) = 0; decide)
    have HA : Hid (amV 190 = .iface 82 (.int .i64 190)) := rfl
    unfold nB
    clear hbig
    go_wp2
    go_ret
    rw [HT.out, HQ.out, HZ.out]
    exact ⟨rfl, S, fun q hq => .inl hq, HJ.out.below HB2.out, Kp.ofBelow HB2.out⟩
  · have HQ : Hid (jSh x F M = jRp x F (logB M)) := if_neg (by omega)
    have hll : (logB M).length = logN M := logB_len M
    have HRP := hide (replace_any S w w2 d j x F sz tl (HJ.out.below HB2.out) v (logB M) (fun W' hk => (hv.at_same (fun g hg => hk.block (hv.lt g hg).2 (fun hs => by have := HSD.out g hs; have := (hv.lt g hg).1; omega))).rb) H1.out H2.out)
    obtain ⟨va, vc, rfl, _⟩ := hv.slice
    rw [hll] at HRP ⊢
    obtain ⟨R, hRq⟩ : ∃ R, jRp x F (logB M) = R := ⟨_, rfl⟩
    rw [hRq] at HRP HQ
    have HLN : Hid ((logN M : Int) = (logN M : Int)) := rfl
    generalize hN : logN M = N at *
    have HNN := hide hN
    clear hv hbig hll hRq hN
    go_wp2_with fail
    refine HRP.out.mono ?_
    rintro e w3 ⟨rfl, S3, hS3, hJ3, hK3⟩
    obtain ⟨_, b1, _, f3⟩ := hJ3.cells
    have f31 := f3 1
    have HS3 : Hid (∀ q, S3 q → S q ∨ wi.heap.size ≤ q) := fun q hq => (hS3 q hq).imp id (fun h => Nat.le_trans HB2.out.size h)
    have HK3 : Hid (Kp (fun k => S k ∨ k = j) wi w3) := (Kp.ofBelow HB2.out).trans hK3
    have HJ3 := hide hJ3
    clear hS3 hJ3 hK3 f3
    by_cases h0 : R.1 = 0
    · have HA : Hid (amV R.1 = .nilIface) := by show _ = _; rw [h0]; rfl
      have HZ : Hid (jShZ sz x F M = (N : Int)) := by show _ = _; unfold jShZ; rw [HQ.out, if_pos h0, HNN.out]
      have HJN := hide (HJ3.out.setSize (N : Int))
      rw [HA.out]
      clear h0
      go_wp2
      go_ret
      rw [HQ.out, HA.out, HZ.out]
      exact ⟨rfl, S3, HS3.out, HJN.out, HK3.out.setCell (.inr rfl) _⟩
    · have HA : Hid (amV R.1 = .iface 82 (.int .i64 R.1)) := if_neg h0
      have HZ : Hid (jShZ sz x F M = sz) := by show _ = _; unfold jShZ; rw [HQ.out, if_neg h0]
      rw [HA.out]
      clear h0
      go_wp2
      go_ret
      rw [HQ.out, HA.out, HZ.out]
      exact ⟨rfl, S3, HS3.out, HJ3.out, HK3.out⟩
end Go.Proofs.YtdcoafpenkofoaaGreatDoor


/- Stage 20: Add, whatever the power does: what it leaves. -/
namespace Go.Proofs.YtdcoafpenkofoaaGreatDoor
open Go.RowKit Go.Maps Go.MuLone
set_option linter.unusedVariables false
set_option linter.unusedSimpArgs false
set_option maxHeartbeats 4000000 in
/-- Add of a record that is none, or of no record -/
theorem Add_noneT (S : Nat → Prop) (w wi : World) (d j : Nat) (x : Dx) (F : List Fi) (sz : Int) (tl : Bool) (hT : Er w) (h : JS S w wi d j x F sz tl) (hd : x.down = false) (a : Option Addr) (cap : Nat) (L : List (List Nat)) (hR : ∀ W', Kp S wi W' → RdB W' a L) (hb : L.any badR = true ∨ L = []) (hL : L.length ≤ 140737488355328) :
    Calls Tryz.prog 25 #[.pointer (some ⟨j, 0, none⟩), .slice a L.length cap] wi fun e w' => e = .returned (.int .i64 (if L.any badR then 200 else 0)) ∧ ∃ S', (∀ q, S' q → S q ∨ wi.heap.size ≤ q) ∧ JS S' w w' d j x F sz tl ∧ Kp (fun k => S k ∨ k = j) wi w' := by
  obtain ⟨W1, hW1⟩ : ∃ W1, wi.alloc (.cells #[.slice a L.length cap] 29) = W1 := ⟨_, rfl⟩
  have hb1 : Below wi.heap.size wi W1 := by rw [← hW1]; exact bel1 (Below.refl _ _) (Nat.le_refl _) _
  have hgb : W1.heap[wi.heap.size]? = some (.cells #[.slice a L.length cap] 29 (0, 0)) := by rw [← hW1]; exact heap_new _ _
  have hJ1 := h.below hb1
  have hSl : ¬ S wi.heap.size := fun hs => by have := (h.aw.at_ _ hs).2; omega
  have hlt1 : wi.heap.size < W1.heap.size := (Array.getElem?_eq_some_iff.1 hgb).1
  have HRF := hide (refuses_up S w W1 d j x F sz tl hJ1 hd (some ⟨wi.heap.size, 0, none⟩) 1 [L] (fun W' hk => RdL.one (cellOf ((hk.block hlt1 hSl).trans hgb) 0 _ rfl) (hR W' ((Kp.ofBelow hb1).trans hk))) (by simp) (by intro m hm; simp only [List.mem_singleton] at hm; rw [hm]; omega))
  have hrf : refN [L] = if L.any badR then 200 else 0 := by unfold refN badL; simp
  rw [hrf] at HRF
  have HB1 := hide hb1
  have HW1 := hide hW1
  clear h hgb hJ1 hb1 hW1 hrf hSl hR hlt1
  cases hq : L.any badR
  · rw [hq] at HRF
    have hl0 : L = [] := hb.resolve_left (by rw [hq]; simp)
    subst hl0
    go_enter Tryz.func25, Tryz.ntmps25
    go_wp2_with fail
    first | rw [HW1.out] | rw [show wi.alloc (.cells #[.slice a 0 cap] 29) = W1 from HW1.out]
    refine HRF.out.mono ?_
    rintro e w2 ⟨rfl, S2, hS2, hJ2, hK2⟩
    have HJ2 := hide (And.intro hS2 (And.intro hJ2 hK2))
    clear hS2 hJ2 hK2
    go_wp2
    go_ret
    exact ⟨rfl, S2, fun q hq => (HJ2.out.1 q hq).imp id (fun h => Nat.le_trans HB1.out.size h), HJ2.out.2.1, ((Kp.ofBelow HB1.out).trans HJ2.out.2.2).mono (fun k h => .inl h)⟩
  · rw [hq] at HRF
    clear hb hq
    go_enter Tryz.func25, Tryz.ntmps25
    go_wp2_with fail
    first | rw [HW1.out] | rw [show wi.alloc (.cells #[.slice a 0 cap] 29) = W1 from HW1.out]
    refine HRF.out.mono ?_
    rintro e w2 ⟨rfl, S2, hS2, hJ2, hK2⟩
    have HJ2 := hide (And.intro hS2 (And.intro hJ2 hK2))
    clear hS2 hJ2 hK2
    go_wp2
    go_ret
    exact ⟨rfl, S2, fun q hq => (HJ2.out.1 q hq).imp id (fun h => Nat.le_trans HB1.out.size h), HJ2.out.2.1, ((Kp.ofBelow HB1.out).trans HJ2.out.2.2).mono (fun k h => .inl h)⟩
/-- a journal that is up -/
def JL (S : Nat → Prop) (w wi : World) (d j : Nat) (M : List (List (List Nat))) (tl : Bool) : Prop := ∃ x F l, JS S w wi d j x F (logN M : Int) tl ∧ x.down = false ∧ Nog F ∧ dat kG F = (l, l.length) ∧ LgU l M tl ∧ ∀ m ∈ M, GdB m
/-- a disk that is down -/
def JD (S : Nat → Prop) (w wi : World) (d : Nat) (Now Then : List (List (List Nat))) (Two : Bool) : Prop := ∃ x F, AW S w wi d x F ∧ x.down = true ∧ Dn F Now Then Two
theorem JL.below {S : Nat → Prop} {w wi w' : World} {d j : Nat} {M : List (List (List Nat))} {tl : Bool} (h : JL S w wi d j M tl) (hb : Below wi.heap.size wi w') : JL S w w' d j M tl := by
  obtain ⟨x, F, l, h1, h2⟩ := h
  exact ⟨x, F, l, h1.below hb, h2⟩
theorem JL.bel {S : Nat → Prop} {w wi : World} {d j : Nat} {M : List (List (List Nat))} {tl : Bool} (h : JL S w wi d j M tl) : Below w.heap.size w wi := by
  obtain ⟨x, F, l, h1, h2⟩ := h
  exact h1.aw.bel
theorem JL.at {S : Nat → Prop} {w wi : World} {d j : Nat} {M : List (List (List Nat))} {tl : Bool} (h : JL S w wi d j M tl) : (∀ k, S k ∨ k = j → w.heap.size ≤ k ∧ k < wi.heap.size) := fun k hk => by
  obtain ⟨x, F, l, h1, h2⟩ := h
  rcases hk with hk | rfl
  · exact h1.aw.at_ k hk
  · exact ⟨h1.lo, h1.lt⟩
theorem JD.below {S : Nat → Prop} {w wi w' : World} {d : Nat} {Now Then : List (List (List Nat))} {Two : Bool} (h : JD S w wi d Now Then Two) (hb : Below wi.heap.size wi w') : JD S w w' d Now Then Two := by
  obtain ⟨x, F, h1, h2⟩ := h
  exact ⟨x, F, h1.below hb, h2⟩
theorem JD.bel {S : Nat → Prop} {w wi : World} {d : Nat} {Now Then : List (List (List Nat))} {Two : Bool} (h : JD S w wi d Now Then Two) : Below w.heap.size w wi ∧ ∀ k, S k → w.heap.size ≤ k ∧ k < wi.heap.size := by
  obtain ⟨x, F, h1, h2⟩ := h
  exact ⟨h1.bel, h1.at_⟩
theorem dat_usd {F : List Fi} (hn : (F.map (·.1)).Nodup) (k : ByteArray) : (dat k F).1.length ≤ usd F := by
  have := usd_wo (k := k) hn
  rw [lenOf_dat] at this
  omega
theorem AW.datl {S : Nat → Prop} {w wi : World} {d : Nat} {x : Dx} {F : List Fi} (h : AW S w wi d x F) (k : ByteArray) : (dat k F).1.length ≤ 16777216 ∧ (dat k F).2 ≤ (dat k F).1.length := by
  have h1 := dat_usd h.names k
  have h2 := h.dd.ok.room
  have h3 := h.dd.ok.most
  exact ⟨by omega, dat_safe h.dd.ok.safe⟩
theorem nmz_len {F : List Fi} (hn : (F.map (·.1)).Nodup) (h : Nmz F) : F.length ≤ 2 := by
  match F, hn, h with
  | [], _, _ => simp
  | [_], _, _ => simp
  | [_, _], _, _ => simp
  | a :: b :: c :: F, hn, h =>
    exfalso
    have ha := h a (by simp)
    have hb := h b (by simp)
    have hc := h c (by simp)
    simp only [List.map_cons, List.nodup_cons, List.mem_cons, not_or] at hn
    obtain ⟨⟨h1, h2, _⟩, ⟨h3, _⟩, _⟩ := hn
    rcases ha with ha | ha <;> rcases hb with hb | hb <;> rcases hc with hc | hc <;>
      first
      | exact h1 (ha.trans hb.symm)
      | exact h2 (ha.trans hc.symm)
      | exact h3 (hb.trans hc.symm)
theorem wo_len (k : ByteArray) (F : List Fi) : (woF k F).length ≤ F.length := List.length_filter_le _ _
theorem cl_len (x : Dx) (F : List Fi) : (jCl x F).2.2.length ≤ F.length := by
  unfold jCl dDel
  dsimp only
  split
  · exact Nat.le_refl _
  · split
    · show (actF x F).length ≤ _
      unfold actF
      split <;> simp
    · exact wo_len _ _
theorem sync_len (x : Dx) (F : List Fi) (k : ByteArray) : (dSync x F k).2.2.length ≤ F.length + 1 := by
  unfold dSync
  split
  · exact Nat.le_succ _
  · split
    · show (actF x F).length ≤ _
      unfold actF
      split <;> simp
    · have := wo_len k F
      show (_ :: woF k F).length ≤ _
      rw [List.length_cons]
      omega
theorem app_len (x : Dx) (F : List Fi) (k : ByteArray) (t : List Nat) : (dApp x F k t).2.2.length ≤ F.length + 1 := by
  have h0 : (addF k t F).length ≤ F.length + 1 := by
    unfold addF
    rw [List.length_cons]
    have := wo_len k F
    omega
  unfold dApp
  split
  · exact Nat.le_succ _
  · split
    · exact Nat.le_succ _
    · show (actF x (addF k t F)).length ≤ _
      unfold actF
      split
      · rw [List.length_map]; exact h0
      · exact h0
theorem wr_len (x : Dx) (F : List Fi) (k : ByteArray) (t : List Nat) : (jWr x F k t).2.2.length ≤ F.length + 2 := by
  unfold jWr
  have h1 := app_len x F k t
  split
  · omega
  · have := sync_len (dApp x F k t).2.1 (dApp x F k t).2.2 k
    omega
def wth (M : List (List (List Nat))) (L : List (List Nat)) : List (List (List Nat)) := M ++ if L = [] then [] else [L]
theorem wth_ne {M : List (List (List Nat))} {L : List (List Nat)} (h : L ≠ []) : wth M L = M ++ [L] := by unfold wth; rw [if_neg h]
theorem wth_nil (M : List (List (List Nat))) : wth M [] = M := by simp [wth]
/-- cut, whether bytes stand behind the batches or not: what it leaves -/
theorem cut_step (S : Nat → Prop) (w wi : World) (d j : Nat) (x : Dx) (F : List Fi) (M : List (List (List Nat))) (tl : Bool) (l : List Nat) (g : Addr) (hE : Eb w g) (hT : Er w) (h : JS S w wi d j x F (logN M : Int) tl) (hd : x.down = false) (hn : Nog F) (hp : dat kG F = (l, l.length)) (hl : LgU l M tl) (hM : ∀ m ∈ M, GdB m) :
    ∃ (C : Int × Dx × List Fi) (tc : Bool), (∀ S2 w2, JS S2 w w2 d j x F (logN M : Int) tl → Calls Tryz.prog 108 #[.pointer (some ⟨j, 0, none⟩)] w2 fun e w' => e = .returned (amV C.1) ∧ ∃ S', (∀ q, S' q → S2 q ∨ w2.heap.size ≤ q) ∧ JS S' w w' d j C.2.1 C.2.2 (logN M : Int) tc ∧ Kp (fun k => S2 k ∨ k = j) w2 w') ∧ (C.1 = 0 → tc = false) ∧ C.2.2.length ≤ 10 ∧
      (Fel x (l, l.length) C ∨ (C.1 = 190 ∧ tc = tl ∧ C.2.1.down = false ∧ Nog C.2.2 ∧ dat kG C.2.2 = (l, l.length)) ∨ (C.1 = 0 ∧ C.2.1.down = false ∧ Nog C.2.2 ∧ dat kG C.2.2 = (logB M, logN M))) := by
  have hlen := nmz_len h.aw.names hn.nmz
  have hdl := (h.aw.datl kG).1
  cases tl
  · obtain ⟨K, k, h1, h2, h3, h4⟩ := hl
    have h5 := h4 rfl
    subst h5
    rw [List.take_zero, List.append_nil] at h3
    have hp' : dat kG F = (logB M, logN M) := by rw [hp, h3, logB_len]
    refine ⟨(0, x, F), false, fun S2 w2 hJ => ?_, fun _ => rfl, by show F.length ≤ 10; omega, .inr (.inr ⟨rfl, hd, hn, hp'⟩)⟩
    refine (cut_no hJ).mono ?_
    rintro e w' ⟨rfl, rfl⟩
    exact ⟨rfl, S2, fun q hq => .inl hq, hJ, Kp.refl _ _⟩
  · obtain ⟨M', n, q, a1, a2, a3, a4, a5, a6, a7, a8, a9⟩ := LgD.wl (hl.dn M true) hM
    have hMM : M' = M := by
      rcases a6 with h | ⟨_, h⟩ <;> exact h
    subst hMM
    dsimp only at a1 a4 a5 a8
    have hcl := Nog.cl hd hn
    have hwl := wr_len x F kN (l.take n)
    have key := fun S2 w2 (hJ : JS S2 w w2 d j x F (logN M' : Int) true) => cut_tail S2 w w2 d j x F (logN M' : Int) g hE hT hJ (by omega) (by omega) (by rw [hcl]; show F.length + 1 ≤ _; unfold maxLen; omega) (by rw [hcl, hp]; dsimp only; rw [a1]; dsimp only; unfold maxLen; omega)
    rw [hp] at key
    dsimp only at key
    have hC : jCu x F l = if q = 0 then (0, x, F) else jRp x F (l.take n) := by unfold jCu; rw [a1]
    rw [a8] at hC
    refine ⟨jCu x F l, jTl (jCu x F l).1 true, key, fun h0 => by rw [h0]; rfl, ?_, ?_⟩
    · rw [hC]
      split
      · show F.length ≤ 10; omega
      · unfold jRp
        rw [hcl, if_neg (by simp)]
        dsimp only
        have hw := wr_len x F kN (logB M')
        split
        · omega
        · unfold dRen
          have e1 := fun G : List Fi => wo_len kN (woF kG G)
          have e2 := fun G : List Fi => wo_len kG G
          have e3 := e1 (jWr x F kN (logB M')).2.2
          have e4 := e2 (jWr x F kN (logB M')).2.2
          split
          · show (jWr x F kN (logB M')).2.2.length ≤ 10; omega
          · split
            · show (jWr x F kN (logB M')).2.2.length ≤ 10; omega
            · split
              · show (actF _ _).length ≤ 10
                unfold actF
                split
                · rw [List.length_map]; omega
                · omega
              · split
                · show (jWr x F kN (logB M')).2.2.length ≤ 10; omega
                · show (_ :: woF kN (woF kG (jWr x F kN (logB M')).2.2)).length ≤ 10
                  rw [List.length_cons]; omega
    · by_cases hq : q = 0
      · rw [if_pos hq] at hC
        rw [hC]
        have hll : n = l.length := a5.2 hq
        have e1 : l = logB M' := by rw [← a8, hll, List.take_length]
        refine .inr (.inr ⟨rfl, hd, hn, ?_⟩)
        show dat kG F = _
        rw [hp, ← a2, hll, ← e1]
      · rw [if_neg hq] at hC
        have hr := rp_math (x := x) (F := F) hd hn.nmz (logB M')
        rw [hp, ← hC] at hr
        rcases hr with hr | ⟨r1, r2, r3, r4⟩ | ⟨r1, r2, r3⟩
        · exact .inl hr
        · exact .inr (.inl ⟨r1, by rw [r1]; rfl, r2.1, r3, r4⟩)
        · refine .inr (.inr ⟨r1, r2.1, ?_, ?_⟩)
          · rw [r3]
            intro f hf
            rw [List.mem_singleton.1 hf]
          · rw [r3, dat_cons, logB_len]
set_option maxHeartbeats 1000000 in
/-- Add: what it answers, what it leaves -/
theorem Add_step (S : Nat → Prop) (w wi : World) (d j : Nat) (M : List (List (List Nat))) (tl : Bool) (g : Addr) (hE : Eb w g) (hT : Er w) (h : JL S w wi d j M tl) (a : Option Addr) (cap : Nat) (L : List (List Nat)) (hR : RdB w a L) (hL : L.length ≤ 4294967296) (hN : batN L ≤ 4611686018427387904) :
    Calls Tryz.prog 25 #[.pointer (some ⟨j, 0, none⟩), .slice a L.length cap] wi fun e w' => ∃ n : Int, e = .returned (.int .i64 n) ∧ ∃ S', (∀ q, S' q → S q ∨ wi.heap.size ≤ q) ∧ ¬ S' j ∧ Kp (fun k => S k ∨ k = j) wi w' ∧
      ((n = 0 ∧ ∃ tl', JL S' w w' d j (wth M L) tl') ∨ ((n = 190 ∨ n = 200) ∧ ∃ tl', JL S' w w' d j M tl') ∨ (n = 3 ∧ JD S' w w' d M (wth M L) true ∧ JN w' j)) := by
  obtain ⟨x, F, l, hJ, hd, hn, hp, hl, hM⟩ := h
  have hRR : ∀ W', Kp (fun k => S k ∨ k = j) wi W' → RdB W' a L := fun W' hk => hR.below (hJ.aw.bel.trans (hk.toBelow hJ.aw.bel.size (fun k hk' hs => by
    rcases hs with hs | hs
    · have := (hJ.aw.at_ k hs).1; omega
    · have := hJ.lo; omega)))
  have hR2 : ∀ W', Kp S wi W' → RdB W' a L := fun W' hk => hRR W' (hk.mono (fun k h => .inl h))
  by_cases hb : L.any badR = true ∨ L = []
  · refine (Add_noneT S w wi d j x F _ tl hT hJ hd a cap L hR2 hb (by omega)).mono ?_
    rintro e w' ⟨rfl, S', h1, h2, h3⟩
    refine ⟨_, rfl, S', h1, h2.nj, h3, ?_⟩
    cases hq : L.any badR
    · have hl0 : L = [] := hb.resolve_left (by rw [hq]; simp)
      subst hl0
      rw [wth_nil]
      exact .inl ⟨rfl, tl, x, F, l, h2, hd, hn, hp, hl, hM⟩
    · exact .inr (.inl ⟨.inr rfl, tl, x, F, l, h2, hd, hn, hp, hl, hM⟩)
  · have hb1 : L.any badR = false := by
      cases hq : L.any badR
      · rfl
      · exact absurd (.inl hq) hb
    have hb2 : L ≠ [] := fun e => hb (.inr e)
    obtain ⟨C, tc, c1, c2, c3, c4⟩ := cut_step S w wi d j x F M tl l g hE hT hJ hd hn hp hl hM
    have hlm : logN M ≤ 16777216 := by
      obtain ⟨K, k, _, _, h3, _⟩ := hl
      have h4 := (hJ.aw.datl kG).1
      rw [hp] at h4
      have h5 : l.length = (logB M ++ (batB K).take k).length := by rw [← h3]
      rw [List.length_append, logB_len] at h5
      dsimp only at h4
      omega
    refine (Add_gen S w wi d j x F (logN M : Int) tl hT hJ hd (jAg C L) (jAgZ (logN M : Int) C L) tc a cap L hR2 hb1 hb2 hL (fun S2 w2 hJ2 hS2 hK2 => ?_)).mono ?_
    · exact add_gen S2 w w2 d j x F (logN M : Int) tl hJ2 C tc (c1 S2 w2 hJ2) a cap L (fun W' hk => hRR W' ((hK2.mono (fun k h => .inl h)).transN hk (fun k hk => by
        rcases hk with hk | hk
        · exact (hS2 k hk).imp (fun h => .inl h) id
        · exact .inl (.inr hk)))) hL hN (by omega) (by unfold maxLen; omega)
    · rintro e w' ⟨rfl, S', h1, h2, h3, h4⟩
      refine ⟨_, rfl, S', h1, h2, h3, ?_⟩
      have key : (Fel x (l, l.length) (jAg C L) ∨ ((jAg C L).1 = 190 ∧ (jAg C L).2.1.down = false ∧ Nog (jAg C L).2.2 ∧ jAgZ (logN M : Int) C L = (logN M : Int) ∧ ((tc = tl ∧ dat kG (jAg C L).2.2 = (l, l.length)) ∨ dat kG (jAg C L).2.2 = (logB M, logN M))) ∨
          ((jAg C L).1 = 3 ∧ (jAg C L).2.1.down = true ∧ Nmz (jAg C L).2.2 ∧ batN L ≤ 16777216 ∧ ∃ keep, dat kG (jAg C L).2.2 = fln keep (logB M ++ batB L, logN M)) ∨
          ((jAg C L).1 = 0 ∧ (jAg C L).2.1.down = false ∧ Nog (jAg C L).2.2 ∧ batN L ≤ 16777216 ∧ tc = false ∧ jAgZ (logN M : Int) C L = (logN M : Int) + (batN L : Int) ∧ dat kG (jAg C L).2.2 = (logB M ++ batB L, (logB M ++ batB L).length))) := by
        rcases c4 with c4 | ⟨c5, c6, c7, c8, c9⟩ | ⟨c5, c7, c8, c9⟩
        · have e1 : jAg C L = C := if_pos (by rw [c4.1]; simp)
          rw [e1]
          exact .inl c4
        · have e1 : jAg C L = C := if_pos (by rw [c5]; simp)
          have e2 : jAgZ (logN M : Int) C L = (logN M : Int) := by unfold jAgZ; rw [e1, c5]; exact if_neg (by show ¬ (190 : Int) = 0; decide)
          rw [e1, e2]
          exact .inr (.inl ⟨c5, c7, c8, rfl, .inl ⟨c6, c9⟩⟩)
        · have e1 : jAg C L = jAdd C.2.1 C.2.2 L := if_neg (by rw [c5]; simp)
          by_cases hbig : 16777216 < batN L
          · have e3 : jAdd C.2.1 C.2.2 L = (190, C.2.1, C.2.2) := if_pos hbig
            have e2 : jAgZ (logN M : Int) C L = (logN M : Int) := by unfold jAgZ; rw [e1, e3]; exact if_neg (by show ¬ (190 : Int) = 0; decide)
            rw [e2, e1, e3]
            exact .inr (.inl ⟨rfl, c7, c8, rfl, .inr c9⟩)
          · have e3 : jAdd C.2.1 C.2.2 L = jWr C.2.1 C.2.2 kG (batB L) := if_neg hbig
            rcases wr_math c7 c8.nmz (.inl rfl : kG = kG ∨ kG = kN) kG_nm (batB L) with ⟨b1, b2, b3, b4, ⟨keep, b5⟩, _⟩ | ⟨b1, _⟩ | ⟨b1, b2, b3, _⟩
            · rw [e1, e3]
              refine .inr (.inr (.inl ⟨b1, b3, b4, by omega, keep, ?_⟩))
              rw [b5]
              unfold addF
              rw [dat_cons, c9]
            · have e2 : jAgZ (logN M : Int) C L = (logN M : Int) := by unfold jAgZ; rw [e1, e3, b1]; exact if_neg (by show ¬ (190 : Int) = 0; decide)
              rw [e2, e1, e3, b1]
              exact .inr (.inl ⟨rfl, c7, c8, rfl, .inr c9⟩)
            · have e2 : jAgZ (logN M : Int) C L = (logN M : Int) + (batN L : Int) := by unfold jAgZ; rw [e1, e3, b1]; exact if_pos rfl
              rw [e2, e1, e3]
              refine .inr (.inr (.inr ⟨b1, b2.1, ?_, by omega, c2 c5, rfl, ?_⟩))
              · rw [b3]
                intro f hf
                rcases List.mem_cons.1 hf with rfl | hf
                · rfl
                · exact c8 f ((List.mem_filter.1 (List.mem_filter.1 hf).1).1)
              · rw [b3, dat_cons, c9]
      rcases key with k | ⟨k1, k2, k3, k4, k5⟩ | ⟨k1, k2, k3, k4, keep, k5⟩ | ⟨k1, k2, k3, k4, k5, k6, k7⟩
      · rcases h4 with ⟨h5, _⟩ | ⟨_, h5, h6⟩
        · exact absurd k.1 h5
        · exact .inr (.inr ⟨k.1, ⟨_, _, h5, k.2.2.1, Dn.fel hM (hl.dn _ _) k⟩, h6⟩)
      · rcases h4 with ⟨_, h5⟩ | ⟨h5, _⟩
        · rw [k4] at h5
          refine .inr (.inl ⟨.inl k1, tc, ?_⟩)
          rcases k5 with ⟨k5, k6⟩ | k5
          · rw [k5] at h5 ⊢
            exact ⟨_, _, l, h5, k2, k3, k6, hl, hM⟩
          · exact ⟨_, _, logB M, h5, k2, k3, by rw [k5, logB_len], LgU.whole _ _, hM⟩
        · rw [k1] at h5; exact absurd h5 (by decide)
      · rcases h4 with ⟨h5, _⟩ | ⟨_, h5, h6⟩
        · exact absurd k1 h5
        · refine .inr (.inr ⟨k1, ⟨_, _, h5, k2, k3, hM, ?_⟩, h6⟩)
          rw [k5]
          refine LgD.fall ⟨L, batN L, GdB.of hR hb1 k4 hb2, Nat.le_refl _, ?_, Nat.le_refl _, ?_, fun _ => ⟨rfl, wth_ne hb2⟩⟩ keep
          · rw [List.take_of_length_le (by rw [batB_len]; omega)]
          · show logN M ≤ (logB M ++ batB L).length
            rw [List.length_append, logB_len]
            omega
      · rcases h4 with ⟨_, h5⟩ | ⟨h5, _⟩
        · rw [k6] at h5
          have e4 : (logN M : Int) + (batN L : Int) = (logN (wth M L) : Int) := by
            rw [wth_ne hb2]
            have : logN (M ++ [L]) = logN M + batN L := by rw [← logB_len, logB_snoc, List.length_append, logB_len, batB_len]
            rw [this]
            omega
          rw [e4] at h5
          refine .inl ⟨k1, tc, _, _, logB M ++ batB L, h5, k2, k3, k7, ?_, ?_⟩
          · rw [wth_ne hb2, ← logB_snoc]
            exact LgU.whole _ _
          · rw [wth_ne hb2]
            intro m hm
            rcases List.mem_append.1 hm with hm | hm
            · exact hM m hm
            · rw [List.mem_singleton.1 hm]; exact GdB.of hR hb1 k4 hb2
        · rw [k1] at h5; exact absurd h5 (by decide)
end Go.Proofs.YtdcoafpenkofoaaGreatDoor


/- Stage 20: Shorten, whatever the power does: what it leaves. -/
namespace Go.Proofs.YtdcoafpenkofoaaGreatDoor
open Go.RowKit Go.Maps Go.MuLone
set_option linter.unusedVariables false
set_option linter.unusedSimpArgs false
/-- batches but those without records -/
def wto (M : List (List (List Nat))) : List (List (List Nat)) := M.filter fun m => !m.isEmpty
theorem wto_cons_nil (M : List (List (List Nat))) : wto ([] :: M) = wto M := rfl
theorem wto_cons {m : List (List Nat)} (h : m ≠ []) (M : List (List (List Nat))) : wto (m :: M) = m :: wto M := by
  unfold wto
  rw [List.filter_cons, if_pos (by cases m <;> simp_all)]
theorem logB_wto : ∀ (M : List (List (List Nat))), logB (wto M) = logB M
  | [] => rfl
  | m :: M => by
    by_cases h : m = []
    · subst h
      rw [wto_cons_nil, logB_wto M]
      rfl
    · rw [wto_cons h]
      show batB m ++ logB (wto M) = batB m ++ logB M
      rw [logB_wto M]
theorem logN_wto (M : List (List (List Nat))) : logN (wto M) = logN M := by rw [← logB_len, logB_wto, logB_len]
theorem wto_mem {M : List (List (List Nat))} {m : List (List Nat)} (h : m ∈ wto M) : m ∈ M ∧ m ≠ [] := by
  have h1 := List.mem_filter.1 h
  exact ⟨h1.1, fun e => by rw [e] at h1; simp at h1⟩
theorem wto_snoc (M : List (List (List Nat))) (m : List (List Nat)) : wto (M ++ [m]) = wto M ++ if m = [] then [] else [m] := by
  unfold wto
  rw [List.filter_append]
  congr 1
  cases m <;> simp
theorem logN_mem {M : List (List (List Nat))} {m : List (List Nat)} (h : m ∈ M) : batN m ≤ logN M := by
  obtain ⟨l1, l2, rfl⟩ := List.append_of_mem h
  simp only [logN, List.map_append, List.map_cons, List.sum_append, List.sum_cons]
  omega
theorem RdL.mem {w : World} {a : Option Addr} {M : List (List (List Nat))} (h : RdL w a M) {m : List (List Nat)} (hm : m ∈ M) : ∃ x, RdB w x m := by
  obtain ⟨k, hk, rfl⟩ := List.getElem_of_mem hm
  obtain ⟨b, off, _, _, hc⟩ := h (by omega)
  obtain ⟨x, c, _, hr⟩ := hc k hk
  exact ⟨x, hr⟩
theorem wto_good {w : World} {a : Option Addr} {M : List (List (List Nat))} (h : RdL w a M) (hb : badL M = false) (hn : logN M ≤ 16777216) : ∀ m ∈ wto M, GdB m := fun m hm => by
  obtain ⟨h1, h2⟩ := wto_mem hm
  obtain ⟨x, hr⟩ := h.mem h1
  have hbm : m.any badR = false := by
    cases hq : m.any badR
    · rfl
    · have : badL M = true := List.any_eq_true.2 ⟨m, h1, hq⟩
      rw [hb] at this
      cases this
  exact GdB.of hr hbm (by have := logN_mem h1; omega) h2
set_option maxHeartbeats 4000000 in
/-- Shorten to good batches, whatever shorten does -/
theorem Shorten_gen (S : Nat → Prop) (w wi : World) (d j : Nat) (x : Dx) (F : List Fi) (sz : Int) (tl : Bool) (hT : Er w) (h : JS S w wi d j x F sz tl) (hd : x.down = false) (R : Int × Dx × List Fi) (zR : Int) (tR : Bool) (a : Option Addr) (cap : Nat) (M : List (List (List Nat))) (hR : ∀ W', Kp S wi W' → RdL W' a M) (hb : badL M = false) (hM : M.length ≤ 4294967296) (hm : ∀ m ∈ M, m.length ≤ 4294967296)
    (HSH : ∀ S2 w2, JS S2 w w2 d j x F sz tl → (∀ q, S2 q → S q ∨ wi.heap.size ≤ q) → Kp S wi w2 → Calls Tryz.prog 71 #[.pointer (some ⟨j, 0, none⟩), .slice a M.length cap] w2 fun e w' => e = .returned (amV R.1) ∧ ∃ S', (∀ q, S' q → S2 q ∨ w2.heap.size ≤ q) ∧ JS S' w w' d j R.2.1 R.2.2 zR tR ∧ Kp (fun k => S2 k ∨ k = j) w2 w') :
    Calls Tryz.prog 28 #[.pointer (some ⟨j, 0, none⟩), .slice a M.length cap] wi fun e w' => e = .returned (.int .i64 R.1) ∧ ∃ S', (∀ q, S' q → S q ∨ wi.heap.size ≤ q) ∧ ¬ S' j ∧ Kp (fun k => S k ∨ k = j) wi w' ∧ ((R.1 ≠ 3 ∧ JS S' w w' d j R.2.1 R.2.2 zR tR) ∨ (R.1 = 3 ∧ AW S' w w' d R.2.1 R.2.2 ∧ JN w' j)) := by
  have HRF := hide (refuses_up S w wi d j x F sz tl h hd a cap M hR (by omega) (fun m h => by have := hm m h; omega))
  have hrf : refN M = 0 := by unfold refN; rw [hb]; rfl
  rw [hrf] at HRF
  have HT := hide hT
  have HAD := hide HSH
  clear h hrf hR hb hT HSH hm
  go_enter Tryz.func28, Tryz.ntmps28
  go_wp2_with fail
  refine HRF.out.mono ?_
  rintro e w2 ⟨rfl, S2, hS2, hJ2, hK2⟩
  have HA := hide (HAD.out S2 w2 hJ2 hS2 hK2)
  have HS2 := hide hS2
  have HK02 := hide hK2
  clear hS2 hJ2 hK2
  go_wp2_with fail
  refine HA.out.mono ?_
  rintro e w3 ⟨rfl, S3, hS3, hJ3, hK3⟩
  have HJ3 := hide hJ3
  have HS3 : Hid (∀ q, S3 q → S q ∨ wi.heap.size ≤ q) := fun q hq => by
    rcases hS3 q hq with h | h
    · exact HS2.out q h
    · exact .inr (Nat.le_trans HK02.out.size h)
  have HK3 : Hid (Kp (fun k => S k ∨ k = j) wi w3) := (HK02.out.mono (fun k h => .inl h)).transN hK3 (fun k hk => by
    rcases hk with h | h
    · exact (HS2.out k h).imp (fun h => .inl h) id
    · exact .inl (.inr h))
  have HTW : Hid (Er w3) := HT.out.below hJ3.aw.bel
  clear hS3 hJ3 hK3
  by_cases h3 : R.1 = 3
  · have HAN := hide (answer_three HJ3.out HTW.out)
    rw [h3]
    obtain ⟨v, hv⟩ : ∃ v, amV 3 = v := ⟨_, rfl⟩
    rw [hv] at HAN ⊢
    have H3 := hide h3
    clear hv h3
    go_wp2_with fail
    refine HAN.out.mono ?_
    rintro e w4 ⟨rfl, hA4, hN4, hK4⟩
    have HX := hide (And.intro hA4 hN4)
    have HK4 : Hid (Kp (fun k => S k ∨ k = j) wi w4) := HK3.out.transN hK4 (fun k hk => by
      rcases hk with h | h
      · exact (HS3.out k h).imp (fun h => .inl h) id
      · exact .inl (.inr h))
    clear hA4 hN4 hK4
    go_wp2
    go_ret
    exact ⟨by rw [H3.out]; rfl, S3, HS3.out, HJ3.out.nj, HK4.out, .inr ⟨H3.out, HX.out⟩⟩
  · have HAN := hide (answer_ok (j := j) (wi := w3) _ h3 HTW.out)
    obtain ⟨v, hv⟩ : ∃ v, amV R.1 = v := ⟨_, rfl⟩
    rw [hv] at HAN ⊢
    have H3 := hide h3
    clear hv h3
    go_wp2_with fail
    refine HAN.out.mono ?_
    rintro e w4 ⟨rfl, hb4⟩
    have HJ4 := hide (HJ3.out.below hb4)
    have HK4 := hide (HK3.out.below hb4)
    clear hb4
    go_wp2
    go_ret
    exact ⟨rfl, S3, HS3.out, HJ3.out.nj, HK4.out, .inl ⟨H3.out, HJ4.out⟩⟩
set_option maxHeartbeats 4000000 in
theorem Shorten_bad (S : Nat → Prop) (w wi : World) (d j : Nat) (x : Dx) (F : List Fi) (sz : Int) (tl : Bool) (h : JS S w wi d j x F sz tl) (hd : x.down = false) (a : Option Addr) (cap : Nat) (M : List (List (List Nat))) (hR : ∀ W', Kp S wi W' → RdL W' a M) (hb : badL M = true) (hM : M.length ≤ 4294967296) (hm : ∀ m ∈ M, m.length ≤ 4294967296) :
    Calls Tryz.prog 28 #[.pointer (some ⟨j, 0, none⟩), .slice a M.length cap] wi fun e w' => e = .returned (.int .i64 200) ∧ ∃ S', (∀ q, S' q → S q ∨ wi.heap.size ≤ q) ∧ JS S' w w' d j x F sz tl ∧ Kp S wi w' := by
  have HRF := hide (refuses_up S w wi d j x F sz tl h hd a cap M hR (by omega) (fun m h => by have := hm m h; omega))
  have hrf : refN M = 200 := by unfold refN; rw [hb]; rfl
  rw [hrf] at HRF
  clear h hrf hR hb hm
  go_enter Tryz.func28, Tryz.ntmps28
  go_wp2_with fail
  refine HRF.out.mono ?_
  rintro e w2 ⟨rfl, hX⟩
  have HX := hide hX
  clear hX
  go_wp2
  go_ret
  exact ⟨rfl, HX.out⟩
set_option maxHeartbeats 1000000 in
/-- Shorten: what it answers, what it leaves -/
theorem Shorten_step (S : Nat → Prop) (w wi : World) (d j : Nat) (M : List (List (List Nat))) (tl : Bool) (hT : Er w) (h : JL S w wi d j M tl) (a : Option Addr) (cap : Nat) (M' : List (List (List Nat))) (hR : RdL w a M') (hL : M'.length ≤ 4294967296) (hm : ∀ m ∈ M', m.length ≤ 4294967296) (hN : logN M' ≤ 4611686018427387904) :
    Calls Tryz.prog 28 #[.pointer (some ⟨j, 0, none⟩), .slice a M'.length cap] wi fun e w' => ∃ n : Int, e = .returned (.int .i64 n) ∧ ∃ S', (∀ q, S' q → S q ∨ wi.heap.size ≤ q) ∧ ¬ S' j ∧ Kp (fun k => S k ∨ k = j) wi w' ∧
      ((n = 0 ∧ ∃ tl', JL S' w w' d j (wto M') tl') ∨ ((n = 190 ∨ n = 200) ∧ ∃ tl', JL S' w w' d j M tl') ∨ (n = 3 ∧ JD S' w w' d M (wto M') true ∧ JN w' j)) := by
  obtain ⟨x, F, l, hJ, hd, hn, hp, hl, hM⟩ := h
  have hRR : ∀ W', Kp S wi W' → RdL W' a M' := fun W' hk => hR.below (hJ.aw.bel.trans (hk.toBelow hJ.aw.bel.size (fun k hk' hs => by have := (hJ.aw.at_ k hs).1; omega)))
  cases hb : badL M'
  · have hlen := nmz_len hJ.aw.names hn.nmz
    have hcl := Nog.cl hd hn
    have hwl := wr_len x F kN (logB M')
    refine (Shorten_gen S w wi d j x F (logN M : Int) tl hT hJ hd (jSh x F M') (jShZ (logN M : Int) x F M') (jTl (jSh x F M').1 tl) a cap M' hRR hb hL hm (fun S2 w2 hJ2 hS2 hK2 => ?_)).mono ?_
    · exact shorten_any S2 w w2 d j x F (logN M : Int) tl hJ2 a cap M' (hRR w2 hK2) hL hm hN (by rw [hcl]; show F.length + 1 ≤ _; unfold maxLen; omega) (by rw [hcl]; dsimp only; unfold maxLen; omega)
    · rintro e w' ⟨rfl, S', h1, h2, h3, h4⟩
      refine ⟨_, rfl, S', h1, h2, h3, ?_⟩
      by_cases hbig : 16777216 < logN M'
      · have e1 : jSh x F M' = (190, x, F) := if_pos hbig
        have e2 : jShZ (logN M : Int) x F M' = (logN M : Int) := by unfold jShZ; rw [e1]; exact if_neg (by show ¬ (190 : Int) = 0; decide)
        rw [e1, e2] at h4
        rw [e1]
        rcases h4 with ⟨_, h5⟩ | ⟨h5, _⟩
        · exact .inr (.inl ⟨.inl rfl, _, x, F, l, h5, hd, hn, hp, hl, hM⟩)
        · exact absurd (show (190 : Int) = 3 from h5) (by decide)
      · have e1 : jSh x F M' = jRp x F (logB M') := if_neg hbig
        have hr := rp_math (x := x) (F := F) hd hn.nmz (logB M')
        rw [hp, ← e1] at hr
        have hg := wto_good hR hb (by omega)
        rcases hr with hr | ⟨r1, r2, r3, r4⟩ | ⟨r1, r2, r3⟩
        · rcases h4 with ⟨h5, _⟩ | ⟨_, h5, h6⟩
          · exact absurd hr.1 h5
          · exact .inr (.inr ⟨hr.1, ⟨_, _, h5, hr.2.2.1, Dn.fel hM (hl.dn _ _) hr⟩, h6⟩)
        · have e2 : jShZ (logN M : Int) x F M' = (logN M : Int) := by unfold jShZ; rw [r1]; exact if_neg (by decide)
          have e3 : jTl (jSh x F M').1 tl = tl := by rw [r1]; exact if_neg (by decide)
          rw [e2, e3] at h4
          rcases h4 with ⟨_, h5⟩ | ⟨h5, _⟩
          · exact .inr (.inl ⟨.inl r1, tl, _, _, l, h5, r2.1, r3, r4, hl, hM⟩)
          · rw [r1] at h5; exact absurd h5 (by decide)
        · have e2 : jShZ (logN M : Int) x F M' = (logN M' : Int) := by unfold jShZ; rw [r1]; exact if_pos rfl
          rw [e2, ← logN_wto M'] at h4
          rcases h4 with ⟨_, h5⟩ | ⟨h5, _⟩
          · refine .inl ⟨r1, _, _, _, logB (wto M'), h5, r2.1, ?_, ?_, LgU.whole _ _, hg⟩
            · rw [r3]
              intro f hf
              rw [List.mem_singleton.1 hf]
            · rw [r3, dat_cons, logB_wto]
          · rw [r1] at h5; exact absurd h5 (by decide)
  · refine (Shorten_bad S w wi d j x F (logN M : Int) tl hJ hd a cap M' hRR hb hL hm).mono ?_
    rintro e w' ⟨rfl, S', h1, h2, h3⟩
    exact ⟨_, rfl, S', h1, h2.nj, h3.mono (fun k h => .inl h), .inr (.inl ⟨.inr rfl, tl, x, F, l, h2, hd, hn, hp, hl, hM⟩)⟩
end Go.Proofs.YtdcoafpenkofoaaGreatDoor
