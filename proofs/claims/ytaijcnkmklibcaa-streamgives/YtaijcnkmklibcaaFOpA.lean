
/- Open in one form. -/
import Derived.Test.YtaijcnkmklibcaaFOpen
namespace Go.Proofs.Ytaijcnkmklibcaa
open Go.RowKit Go.Deep
set_option linter.unusedVariables false
set_option linter.unusedSimpArgs false

/-- what Open tells -/
def opX (l : List Nat) (x most : Int) : List Nat := if opE l x most = 0 then exL (l.drop x.toNat) else []
def opY (l : List Nat) (x most : Int) : List Nat := if opE l x most = 0 then boL (l.drop x.toNat) else []
def opK (l : List Nat) (x most : Int) : Int := if opE l x most = 0 then hKind (l.drop x.toNat) else 0
def opC (l : List Nat) (x most : Int) : Int := if opE l x most = 0 then hChan (l.drop x.toNat) else 0
def opN (l : List Nat) (x most : Int) : Int := if opE l x most = 0 then x + hSize (l.drop x.toNat) else 0
theorem exL_length {r : List Nat} {most : Int} (h : hE r most = 0) : (exL r).length = hBegin r - 8 := by
  obtain ⟨h1, h2, h3, h4, h5, h6, h7⟩ := hE_ok h
  unfold exL
  simp
  omega
theorem boL_length {r : List Nat} {most : Int} (h : hE r most = 0) : (boL r).length = hSize r - hBegin r := by
  obtain ⟨h1, h2, h3, h4, h5, h6, h7⟩ := hE_ok h
  unfold boL
  simp
  omega
theorem opX_lt {l : List Nat} (h : ∀ c ∈ l, c < 256) (x most : Int) : ∀ c ∈ opX l x most, c < 256 := by
  unfold opX
  split
  · exact fun c hc => h c (List.mem_of_mem_drop (List.mem_of_mem_drop (List.mem_of_mem_take hc)))
  · simp
theorem opY_lt {l : List Nat} (h : ∀ c ∈ l, c < 256) (x most : Int) : ∀ c ∈ opY l x most, c < 256 := by
  unfold opY
  split
  · exact fun c hc => h c (List.mem_of_mem_drop (List.mem_of_mem_drop (List.mem_of_mem_take hc)))
  · simp
theorem opXY_length (l : List Nat) (x most : Int) : (opX l x most).length ≤ 1048576 ∧ (opY l x most).length ≤ 1048576 := by
  unfold opX opY
  by_cases h : opE l x most = 0
  · rw [if_pos h, if_pos h]
    unfold opE at h
    split at h
    · cases h
    · rename_i hx
      rw [exL_length h, boL_length h]
      have := hE_ok h
      omega
  · rw [if_neg h, if_neg h]
    simp
/-- a frame whose lists came out -/
def frO (K C : Int) (o1 o2 : Option Nat) (X Y : List Nat) : Value := frV K C (o1.map (fun g => ⟨g, 0, none⟩)) X.length X.length (o2.map (fun g => ⟨g, 0, none⟩)) Y.length Y.length
theorem open_any (a : Option Addr) (n cap : Nat) (x most : Int) (l : List Nat) (w : World) (hr : Rd w a n l) (hnc : n ≤ cap) (hn : n ≤ 281474976710656) :
    Calls Try.prog 67 #[.slice a n cap, .int .i64 x, .int .i64 most] w fun e w' => ∃ o1 o2, e = .returned (.tuple #[frO (opK l x most) (opC l x most) o1 o2 (opX l x most) (opY l x most), .int .i64 (opN l x most), .int .i64 (opE l x most)]) ∧
      (o1 = none → opX l x most = []) ∧ (o2 = none → opY l x most = []) ∧ (∀ g, o1 = some g → w.heap.size ≤ g ∧ Bl w' g (opX l x most)) ∧ (∀ g, o2 = some g → w.heap.size ≤ g ∧ Bl w' g (opY l x most)) ∧ (∀ g g', o1 = some g → o2 = some g' → g < g') ∧ Below w.heap.size w w' := by
  by_cases h : x < 0 ∨ (l.length : Int) < x ∨ most < 512 ∨ 1048576 < most
  · have hE : opE l x most = 1 := by unfold opE; rw [if_pos h]
    have hne : ¬ opE l x most = 0 := by rw [hE]; decide
    refine (open_arg a n cap x most w (by rw [← hr.1]; exact h)).mono ?_
    rintro e w' ⟨rfl, hb⟩
    refine ⟨none, none, ?_, ?_, ?_, fun g h => (by cases h), fun g h => (by cases h), fun g g' h => (by cases h), hb⟩
    · unfold opK opC opX opY opN; simp only [if_neg hne]; rw [hE]; rfl
    · unfold opX; rw [if_neg hne]; exact fun _ => rfl
    · unfold opY; rw [if_neg hne]; exact fun _ => rfl
  · have hE : opE l x most = hE (l.drop x.toNat) most := by unfold opE; rw [if_neg h]
    obtain ⟨i, rfl⟩ := Int.eq_ofNat_of_zero_le (show 0 ≤ x by omega)
    have hi : i ≤ n := by rw [← hr.1]; omega
    rw [Int.toNat_natCast] at hE
    by_cases h0 : Go.Proofs.Ytaijcnkmklibcaa.hE (l.drop i) most = 0
    · have hE0 : opE l (i : Int) most = 0 := hE.trans h0
      refine (open_good a n cap i most l w hr hnc hn hi (by omega) (by omega) h0).mono ?_
      rintro e w' ⟨g1, g2, rfl, h1, h2, h3, h4, h5⟩
      have e1 : opX l (i : Int) most = exL (l.drop i) := by unfold opX; rw [if_pos hE0, Int.toNat_natCast]
      have e2 : opY l (i : Int) most = boL (l.drop i) := by unfold opY; rw [if_pos hE0, Int.toNat_natCast]
      have e3 : opK l (i : Int) most = hKind (l.drop i) := by unfold opK; rw [if_pos hE0, Int.toNat_natCast]
      have e4 : opC l (i : Int) most = hChan (l.drop i) := by unfold opC; rw [if_pos hE0, Int.toNat_natCast]
      have e5 : opN l (i : Int) most = (i : Int) + hSize (l.drop i) := by unfold opN; rw [if_pos hE0, Int.toNat_natCast]
      rw [e1, e2, e3, e4, e5, hE0]
      refine ⟨some g1, some g2, ?_, fun h => (by cases h), fun h => (by cases h), fun g hg => ?_, fun g hg => ?_, fun g g' hg hg' => ?_, h5⟩
      · unfold frO; rw [exL_length h0, boL_length h0]; rfl
      · simp only [Option.some.injEq] at hg; subst hg; exact ⟨h1, h3⟩
      · simp only [Option.some.injEq] at hg; subst hg; exact ⟨by omega, h4⟩
      · simp only [Option.some.injEq] at hg hg'; subst hg hg'; exact h2
    · have hne : ¬ opE l (i : Int) most = 0 := by rw [hE]; exact h0
      refine (open_bad a n cap i most l w hr hnc hn hi (by omega) (by omega) h0).mono ?_
      rintro e w' ⟨rfl, hb⟩
      refine ⟨none, none, ?_, ?_, ?_, fun g h => (by cases h), fun g h => (by cases h), fun g g' h => (by cases h), hb⟩
      · unfold opK opC opX opY opN; simp only [if_neg hne]; rw [hE]; rfl
      · unfold opX; rw [if_neg hne]; exact fun _ => rfl
      · unfold opY; rw [if_neg hne]; exact fun _ => rfl
end Go.Proofs.Ytaijcnkmklibcaa
