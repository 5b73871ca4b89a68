
/- Header in one form. -/
import Derived.Test.YtaijcnkmklibcaaFHead
import Derived.Test.YtaijcnkmklibcaaFSpec
namespace Go.Proofs.Ytaijcnkmklibcaa
open Go.RowKit Go.Deep
set_option linter.unusedVariables false
set_option linter.unusedSimpArgs false

/-- the header of a protocol, or nothing -/
def hdE (p : Int) : Int := if p = 0 ∨ p = 3 then 0 else 50
def hdL (p : Int) : List Nat := if p = 0 ∨ p = 3 then hdr p.toNat else []
theorem hdL_lt (p : Int) : ∀ c ∈ hdL p, c < 256 := by
  unfold hdL
  split
  · rename_i h
    exact hdr_lt (by omega)
  · simp
theorem hdL_length (p : Int) : (hdL p).length ≤ 8 := by
  unfold hdL
  split <;> simp [hdr]
/-- Header, in one form -/
theorem header_any (p : Int) (w : World) : Calls Try.prog 15 #[.int .i64 p] w fun e w' => ∃ o, e = .returned (.tuple #[.slice (o.map (fun g => (⟨g, 0, none⟩ : Addr))) (hdL p).length (hdL p).length, .int .i64 (hdE p)]) ∧ (o = none → hdL p = []) ∧ (∀ g, o = some g → w.heap.size ≤ g ∧ Bl w' g (hdL p)) ∧ Below w.heap.size w w' := by
  by_cases h : p = 0 ∨ p = 3
  · obtain ⟨q, rfl⟩ : ∃ q : Nat, p = q := ⟨p.toNat, by omega⟩
    refine (header_yes q w (by omega)).mono ?_
    rintro e w' ⟨rfl, h1, h2, h3⟩
    have e1 : hdL (q : Int) = hdr q := by unfold hdL; rw [if_pos h]; rfl
    have e2 : hdE (q : Int) = 0 := by unfold hdE; rw [if_pos h]
    refine ⟨some w.heap.size, by rw [e1, e2]; rfl, fun h => (by cases h), fun g hg => ?_, h3⟩
    simp only [Option.some.injEq] at hg
    subst hg
    exact ⟨Nat.le_refl _, by rw [e1]; exact h1⟩
  · refine (header_no p w (by omega) (by omega)).mono ?_
    rintro e w' ⟨rfl, rfl⟩
    have e1 : hdL p = [] := by unfold hdL; rw [if_neg h]
    have e2 : hdE p = 50 := by unfold hdE; rw [if_neg h]
    exact ⟨none, by rw [e1, e2]; rfl, fun _ => e1, fun g hg => (by cases hg), Below.refl _ _⟩
/-- what came out reads -/
theorem rd_ev {w : World} {o : Option Nat} {l : List Nat} (h0 : o = none → l = []) (hl : ∀ c ∈ l, c < 256) (hg : ∀ g, o = some g → Bl w g l) : Rd w (o.map (fun g => ⟨g, 0, none⟩)) l.length l := by
  cases o with
  | none => rw [h0 rfl]; exact ⟨rfl, fun c hc => by simp at hc, fun h => by simp at h⟩
  | some g => exact (hg g rfl).rd0 hl
theorem rdH_trip (l : List Nat) (x : Int) : ∃ t1 t2 t3, trip (rdH l x) = .tuple #[.int .i64 t1, .int .i64 t2, .int .i64 t3] := ⟨_, _, _, rfl⟩
end Go.Proofs.Ytaijcnkmklibcaa
