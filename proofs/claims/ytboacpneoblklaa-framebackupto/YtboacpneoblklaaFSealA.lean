/- Seal and the document's Seal, in one form each. -/
import Derived.Test.YtboacpneoblklaaFRSealY
namespace Go.Proofs.Ytboacpneoblklaa
open Go.RowKit Go.Deep
set_option linter.unusedVariables false
set_option linter.unusedSimpArgs false

/-- what Seal writes -/
def seB (ty ch : Int) (ext body : List Nat) : List Nat := if sealE ty ch ext.length body.length = 0 then sealB ty.toNat ch.toNat ext body else []
theorem seB_lt {ty ch : Int} {ext body : List Nat} (he : ∀ c ∈ ext, c < 256) (hb : ∀ c ∈ body, c < 256) : ∀ c ∈ seB ty ch ext body, c < 256 := by
  unfold seB
  split
  · rename_i h
    have := sealE_ok h
    exact sealB_lt (by omega) (by omega) he hb
  · simp
theorem seB_length (ty ch : Int) (ext body : List Nat) : (seB ty ch ext body).length ≤ 1048576 := by
  unfold seB
  split
  · rename_i h
    have := sealE_ok h
    rw [sealB_length]
    omega
  · simp
theorem seal_any (ty ch : Int) (a : Option Addr) (n c : Nat) (b : Option Addr) (m d : Nat) (ext body : List Nat) (w : World) (ha : Rd w a n ext) (hb : Rd w b m body) (hn : n ≤ 140737488355328) (hm : m ≤ 140737488355328) :
    Calls Try.prog 10 #[frV ty ch a n c b m d] w fun e w' => ∃ o, e = .returned (.tuple #[.slice (o.map (fun g => (⟨g, 0, none⟩ : Addr))) (seB ty ch ext body).length (seB ty ch ext body).length, .int .i64 (sealE ty ch n m)]) ∧ (o = none → seB ty ch ext body = []) ∧ (∀ g, o = some g → w.heap.size ≤ g ∧ Bl w' g (seB ty ch ext body)) ∧ Below w.heap.size w w' := by
  have hla := ha.1
  have hlb := hb.1
  by_cases hE : sealE ty ch n m = 0
  · have hs : seB ty ch ext body = sealB ty.toNat ch.toNat ext body := by unfold seB; rw [hla, hlb, if_pos hE]
    have hok := sealE_ok hE
    obtain ⟨ty', rfl⟩ := Int.eq_ofNat_of_zero_le (show 0 ≤ ty by omega)
    obtain ⟨ch', rfl⟩ := Int.eq_ofNat_of_zero_le (show 0 ≤ ch by omega)
    rw [hs, hE]
    simp only [Int.toNat_natCast]
    refine (seal_yes ty' ch' a n c b m d ext body w ha hb hE).mono ?_
    rintro e w' ⟨g, rfl, h1, h2, h3⟩
    refine ⟨some g, ?_, fun h => (by cases h), fun g' hg => ?_, h3⟩
    · rw [sealB_length, hla, hlb]; rfl
    · simp only [Option.some.injEq] at hg
      subst hg
      exact ⟨h1, h2⟩
  · have hs : seB ty ch ext body = [] := by unfold seB; rw [hla, hlb, if_neg hE]
    rw [hs]
    refine (seal_no ty ch a n c b m d w hn hm hE).mono ?_
    rintro e w' ⟨rfl, h1⟩
    exact ⟨none, rfl, fun _ => rfl, fun g hg => (by cases hg), h1⟩
theorem refseal_any (ty ch : Int) (a : Option Addr) (n c : Nat) (b : Option Addr) (m d : Nat) (ext body : List Nat) (w : World) (ha : Rd w a n ext) (hb : Rd w b m body) (hna : a = none → c = 0) (hnb : b = none → d = 0) (hn : n ≤ 140737488355328) (hm : m ≤ 140737488355328) :
    Calls Try.prog 12 #[frV ty ch a n c b m d] w fun e w' => ∃ a' c', e = .returned (.tuple #[.slice a' (seB ty ch ext body).length c', .int .i64 (sealE ty ch n m)]) ∧ Rd w' a' (seB ty ch ext body).length (seB ty ch ext body) ∧ Below w.heap.size w w' := by
  have hla := ha.1
  have hlb := hb.1
  by_cases hE : sealE ty ch n m = 0
  · have hs : seB ty ch ext body = sealB ty.toNat ch.toNat ext body := by unfold seB; rw [hla, hlb, if_pos hE]
    have hok := sealE_ok hE
    have hlt := seB_lt (ty := ty) (ch := ch) ha.2.1 hb.2.1
    rw [hs] at hlt
    obtain ⟨ty', rfl⟩ := Int.eq_ofNat_of_zero_le (show 0 ≤ ty by omega)
    obtain ⟨ch', rfl⟩ := Int.eq_ofNat_of_zero_le (show 0 ≤ ch by omega)
    rw [hs, hE]
    simp only [Int.toNat_natCast] at hlt ⊢
    refine (refseal_yes ty' ch' a n c b m d ext body w ha hb hna hnb hE).mono ?_
    rintro e w' ⟨v, rfl, h2, h3⟩
    obtain ⟨a', c', rfl, _, _, hrd⟩ := Rd.of_own0 h2 hlt
    rw [sealB_length, hla, hlb]
    exact ⟨a', c', rfl, hrd, h3⟩
  · have hs : seB ty ch ext body = [] := by unfold seB; rw [hla, hlb, if_neg hE]
    rw [hs]
    refine (refseal_no ty ch a n c b m d w hn hm hE).mono ?_
    rintro e w' ⟨rfl, h1⟩
    exact ⟨none, 0, rfl, ⟨rfl, fun c hc => by simp at hc, fun h => by simp at h⟩, h1⟩
end Go.Proofs.Ytboacpneoblklaa
