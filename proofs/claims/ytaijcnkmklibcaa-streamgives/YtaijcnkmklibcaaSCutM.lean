
/- Stage 6: the items that come of bytes, as plain data, and how they lie. -/
import Derived.Test.YtaijcnkmklibcaaSCloN
namespace Go.Proofs.Ytaijcnkmklibcaa
open Go.RowKit Go.Deep
set_option linter.unusedVariables false
set_option linter.unusedSimpArgs false

/-- kind, protocol, type, channel; ext, body -/
abbrev It6 : Type := (Int × Int × Int × Int) × List Nat × List Nat
/-- what the item says that is whole with a byte -/
def Sg.ct (s : Sg) (c : Nat) : It6 :=
  if s.2.2.2.2 = 0 then ((1, (rdH (s.2.1 ++ [c]) 0).1, 0, 0), [], [])
  else ((2, 0, opK (s.2.1 ++ [c]) 0 1048576, opC (s.2.1 ++ [c]) 0 1048576), opX (s.2.1 ++ [c]) 0 1048576, opY (s.2.1 ++ [c]) 0 1048576)
def Sg.one (s : Sg) (c : Nat) : List It6 := if s.er = 0 ∧ ¬ s.K c = 0 then [s.ct c] else []
/-- the items of some bytes -/
def Sg.its : Sg → List Nat → List It6
  | _, [] => []
  | s, c :: r => s.one c ++ (s.nz c).its r
theorem its_append (s : Sg) (l m : List Nat) : s.its (l ++ m) = s.its l ++ (s.go l).its m := by
  induction l generalizing s with
  | nil => rfl
  | cons c r ih =>
    show s.one c ++ (s.nz c).its (r ++ m) = (s.one c ++ (s.nz c).its r) ++ (s.go (c :: r)).its m
    rw [ih, List.append_assoc]
    rfl
theorem its_one (s : Sg) (c : Nat) : s.its [c] = s.one c := by
  show s.one c ++ [] = _
  simp
theorem its_take (s : Sg) (l : List Nat) {i : Nat} (h : i < l.length) : s.its (l.take (i + 1)) = s.its (l.take i) ++ (s.go (l.take i)).one (l.getD i 0) := by
  rw [take_succ_getD l h, its_append, its_one]
theorem its_length (s : Sg) (l : List Nat) : (s.its l).length ≤ l.length := by
  induction l generalizing s with
  | nil => exact Nat.le_refl _
  | cons c r ih =>
    show (s.one c ++ (s.nz c).its r).length ≤ _
    have h1 : (s.one c).length ≤ 1 := by unfold Sg.one; split <;> simp
    have := ih (s.nz c)
    simp
    omega
theorem its_shut (s : Sg) (l : List Nat) (h : ¬ s.er = 0) : s.its l = [] := by
  induction l with
  | nil => rfl
  | cons c r ih =>
    show s.one c ++ (s.nz c).its r = []
    have h1 : s.nz c = s := by unfold Sg.nz; rw [if_neg h]
    have h2 : s.one c = [] := by unfold Sg.one; rw [if_neg (fun hh => h hh.1)]
    rw [h1, h2, ih]
    rfl
theorem its_end (s : Sg) (l : List Nat) (i : Nat) (h : i = l.length ∨ ¬ (s.go (l.take i)).er = 0) : s.its (l.take i) = s.its l := by
  rcases h with rfl | h
  · rw [List.take_length]
  · conv => rhs; rw [← List.take_append_drop i l, its_append]
    rw [its_shut _ _ h, List.append_nil]

/-- an item, and where its lists lie -/
abbrev Ev : Type := (Option Nat × Option Nat) × It6
def adr (o : Option Nat) : Option Addr := o.map (fun g => (⟨g, 0, none⟩ : Addr))
def Ev.cs (y : Ev) : List Value := [.int .i64 y.2.1.1, .int .i64 y.2.1.2.1, .int .i64 y.2.1.2.2.1, .int .i64 y.2.1.2.2.2, .slice (adr y.1.1) y.2.2.1.length y.2.2.1.length, .slice (adr y.1.2) y.2.2.2.length y.2.2.2.length]
def Ev.val (y : Ev) : Value := itV y.2.1.1 y.2.1.2.1 y.2.1.2.2.1 y.2.1.2.2.2 (.slice (adr y.1.1) y.2.2.1.length y.2.2.1.length) (.slice (adr y.1.2) y.2.2.2.length y.2.2.2.length)
/-- where its lists lie: from lo on, whole -/
def Ev.ok (W : World) (lo : Nat) (y : Ev) : Prop :=
  (y.1.1 = none → y.2.2.1 = []) ∧ (y.1.2 = none → y.2.2.2 = []) ∧ (∀ g, y.1.1 = some g → lo ≤ g ∧ Bl W g y.2.2.1) ∧ (∀ g, y.1.2 = some g → lo ≤ g ∧ Bl W g y.2.2.2) ∧ (∀ c ∈ y.2.2.1, c < 256) ∧ (∀ c ∈ y.2.2.2, c < 256) ∧ y.2.2.1.length ≤ 1048576 ∧ y.2.2.2.length ≤ 1048576
def Ev.has (y : Ev) (g : Nat) : Prop := y.1.1 = some g ∨ y.1.2 = some g
theorem Ev.ok.keep {W W' : World} {lo : Nat} {y : Ev} (h : y.ok W lo) (hk : ∀ g l, y.has g → Bl W g l → W'.heap[g]? = W.heap[g]?) : y.ok W' lo := by
  obtain ⟨h1, h2, h3, h4, h5⟩ := h
  exact ⟨h1, h2, fun g hg => ⟨(h3 g hg).1, (h3 g hg).2.block (hk g _ (.inl hg) (h3 g hg).2)⟩, fun g hg => ⟨(h4 g hg).1, (h4 g hg).2.block (hk g _ (.inr hg) (h4 g hg).2)⟩, h5⟩
theorem Ev.ok.bl {W : World} {lo : Nat} {y : Ev} (h : y.ok W lo) {g : Nat} (hg : y.has g) : lo ≤ g ∧ ∃ l, Bl W g l := by
  rcases hg with hg | hg
  · exact ⟨(h.2.2.1 g hg).1, _, (h.2.2.1 g hg).2⟩
  · exact ⟨(h.2.2.2.1 g hg).1, _, (h.2.2.2.1 g hg).2⟩
theorem Ev.ok.low {W : World} {lo lo' : Nat} {y : Ev} (h : y.ok W lo) (hl : lo' ≤ lo) : y.ok W lo' := by
  obtain ⟨h1, h2, h3, h4, h5⟩ := h
  exact ⟨h1, h2, fun g hg => ⟨Nat.le_trans hl (h3 g hg).1, (h3 g hg).2⟩, fun g hg => ⟨Nat.le_trans hl (h4 g hg).1, (h4 g hg).2⟩, h5⟩
theorem Ev.ok.rdx {W : World} {lo : Nat} {y : Ev} (h : y.ok W lo) : Rd W (adr y.1.1) y.2.2.1.length y.2.2.1 := by
  obtain ⟨h1, h2, h3, h4, h5, h6, _⟩ := h
  refine ⟨rfl, h5, fun hn => ?_⟩
  cases hg : y.1.1 with
  | none => rw [h1 hg] at hn; simp at hn
  | some g => exact (((h3 g hg).2.rd0 h5).2.2) hn
theorem Ev.ok.rdy {W : World} {lo : Nat} {y : Ev} (h : y.ok W lo) : Rd W (adr y.1.2) y.2.2.2.length y.2.2.2 := by
  obtain ⟨h1, h2, h3, h4, h5, h6, _⟩ := h
  refine ⟨rfl, h6, fun hn => ?_⟩
  cases hg : y.1.2 with
  | none => rw [h2 hg] at hn; simp at hn
  | some g => exact (((h4 g hg).2.rd0 h6).2.2) hn
/-- an item that came of a step -/
theorem it_ev {S B : Nat} {M : Int} {l : List Nat} {t t' : Nat × Sg} {A A' : World} {x : Value} (hs : StI S B M l t t' A A') (h : ItI l t A A' x) (hl : ∀ c ∈ l, c < 256) : ∃ y : Ev, x = y.val ∧ y.2 = t.2.ct (l.getD t.1 0) ∧ y.ok A' A.heap.size := by
  obtain ⟨hK, o1, o2, rfl, hm⟩ := h
  obtain ⟨hi, _, _, v, _, hR, _⟩ := hs
  have hheld := hR.2.2.2.1
  have hcl : l.getD t.1 0 < 256 := by
    rw [List.getD_eq_getElem?_getD, List.getElem?_eq_getElem hi]
    exact hl _ (List.getElem_mem hi)
  generalize l.getD t.1 0 = c at *
  obtain ⟨i, ⟨⟨lim, tk, at_⟩, held, ⟨sz, kd⟩, ⟨hd, er⟩, mo⟩⟩ := t
  have hlt : ∀ q ∈ held ++ [c], q < 256 := fun q hq => by
    rcases List.mem_append.1 hq with h | h
    · exact hheld q h
    · simp at h; omega
  have hE : Sg.E ((lim, tk, at_), held, (sz, kd), (hd, er), mo) c = 0 := by
    by_cases h : Sg.E ((lim, tk, at_), held, (sz, kd), (hd, er), mo) c = 0
    · exact h
    · simp [Sg.K, h] at hK
  simp only [Sg.It, hK, if_false]
  simp only [Sg.K, hE, if_true] at hK
  simp only [mK] at hK
  simp only [mIt]
  by_cases h0 : mo = 0
  · subst h0
    simp only [if_true] at hK ⊢
    by_cases h1 : (rdH (held ++ [c]) 0).2.2 = 10
    · simp [h1] at hK
    · simp only [h1, if_false]
      exact ⟨((none, none), (1, (rdH (held ++ [c]) 0).1, 0, 0), [], []), rfl, by simp [Sg.ct], fun _ => rfl, fun _ => rfl, (fun g h => by cases h), (fun g h => by cases h), (fun q h => by cases h), (fun q h => by cases h), Nat.zero_le _, Nat.zero_le _⟩
  · simp only [h0, if_false] at hK ⊢
    by_cases h4 : mo = 4
    · subst h4
      simp only [if_true] at hK ⊢
      by_cases h1 : (held ++ [c]).length < sz
      · simp only [h1, if_true] at hK
        exact absurd trivial hK
      · simp only [h1, if_false]
        obtain ⟨m1, m2, m3, m4, _⟩ := hm rfl
        exact ⟨((o1, o2), (2, 0, opK (held ++ [c]) 0 1048576, opC (held ++ [c]) 0 1048576), opX (held ++ [c]) 0 1048576, opY (held ++ [c]) 0 1048576), rfl, by simp [Sg.ct], m1, m2, m3, m4, opX_lt hlt 0 1048576, opY_lt hlt 0 1048576, (opXY_length _ _ _).1, (opXY_length _ _ _).2⟩
    · simp [h4] at hK
end Go.Proofs.Ytaijcnkmklibcaa
