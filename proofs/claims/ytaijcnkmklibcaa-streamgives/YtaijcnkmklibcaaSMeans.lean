
/- Stage 6: what the next byte means, in one form. -/
import Derived.Test.YtaijcnkmklibcaaSHead
import Derived.Test.YtaijcnkmklibcaaSSize
import Derived.Test.YtaijcnkmklibcaaSType
import Derived.Test.YtaijcnkmklibcaaSRest
namespace Go.Proofs.Ytaijcnkmklibcaa
open Go.RowKit Go.Deep
set_option linter.unusedVariables false
set_option linter.unusedSimpArgs false

/-- the function that a mode calls -/
def mid (mo : Nat) : Nat := if mo = 0 then 38 else if mo = 1 then 56 else if mo = 2 then 64 else if mo = 3 then 68 else 72
theorem mfn_mid (S mo : Nat) : mfn S mo = .func (.func (mid mo)) #[.pointer (some ⟨S, 0, none⟩)] #[] := rfl
/-- the kind of the item that is whole: 0 none -/
def mK (mo sz : Nat) (l : List Nat) : Int := if mo = 0 then (if (rdH l 0).2.2 = 10 then 0 else 1) else if mo = 4 then (if l.length < sz then 0 else 2) else 0
/-- what is wrong -/
def mE (mo : Nat) (lim : Int) (sz : Nat) (kd : Int) (l : List Nat) : Int :=
  if mo = 0 then (if (rdH l 0).2.2 = 10 then 0 else (rdH l 0).2.2)
  else if mo = 1 then (if l.length < 4 then 0 else if l = magic then 60 else flt l lim)
  else if mo = 2 then flt l 1048576
  else if mo = 3 then (if flt l 1048576 = 0 then (if ((l.getD 5 0 : Nat) : Int) = kd then 0 else 60) else flt l 1048576)
  else if l.length < sz then 0 else opE l 0 1048576
def mSz (mo : Nat) (lim : Int) (sz : Nat) (l : List Nat) : Nat := if mo = 1 ∧ 4 ≤ l.length ∧ ¬ l = magic ∧ flt l lim = 0 then getN (l.take 4) else sz
def mKd (mo : Nat) (kd : Int) (l : List Nat) : Int := if mo = 0 ∧ ¬ (rdH l 0).2.2 = 10 then (if (rdH l 0).1 = 3 then 1 else 0) else kd
def mMo (mo : Nat) (lim kd : Int) (l : List Nat) : Nat :=
  if mo = 1 then (if 4 ≤ l.length ∧ ¬ l = magic ∧ flt l lim = 0 then 2 else 1)
  else if mo = 2 then 3
  else if mo = 3 then (if flt l 1048576 = 0 ∧ ((l.getD 5 0 : Nat) : Int) = kd then 4 else 3)
  else mo
/-- the item -/
def mIt (mo sz : Nat) (l : List Nat) (A1 A2 : Option Addr) : Value :=
  if mo = 0 then (if (rdH l 0).2.2 = 10 then it0 else itV 1 (rdH l 0).1 0 0 (.slice none 0 0) (.slice none 0 0))
  else if mo = 4 then (if l.length < sz then it0 else itV 2 0 (opK l 0 1048576) (opC l 0 1048576) (.slice A1 (opX l 0 1048576).length (opX l 0 1048576).length) (.slice A2 (opY l 0 1048576).length (opY l 0 1048576).length))
  else it0
/-- the lists of a frame that came out -/
def mOut (w w' : World) (l : List Nat) (o1 o2 : Option Nat) : Prop := (o1 = none → opX l 0 1048576 = []) ∧ (o2 = none → opY l 0 1048576 = []) ∧ (∀ g, o1 = some g → w.heap.size ≤ g ∧ Bl w' g (opX l 0 1048576)) ∧ (∀ g, o2 = some g → w.heap.size ≤ g ∧ Bl w' g (opY l 0 1048576)) ∧ (∀ g g', o1 = some g → o2 = some g' → g < g')
theorem means_any (S mo : Nat) (lim tk at_ : Int) (sz : Nat) (kd er : Int) (hd : Bool) (a : Option Addr) (n c : Nat) (l : List Nat) (w : World) (hS : StB w S lim tk at_ (.slice a n c) (sz : Int) kd hd er (mfn S mo)) (hr : Rd w a n l) (hc : n ≤ c) (hnil : a = none → c = 0) (hn : n ≤ 281474976710656) (hbS : ∀ b o, a = some ⟨b, o, none⟩ → b ≠ S) (hmo : mo ≤ 4) (h1 : mo = 1 → n ≤ 4) (h3 : mo = 3 → 6 ≤ n) :
    Calls Try.prog (mid mo) #[.pointer (some ⟨S, 0, none⟩)] w fun e w' => ∃ o1 o2 : Option Nat, e = .returned (.tuple #[mIt mo sz l (o1.map (fun g => (⟨g, 0, none⟩ : Addr))) (o2.map (fun g => (⟨g, 0, none⟩ : Addr))), .int .i64 (mE mo lim sz kd l)]) ∧ (mo = 4 → ¬ l.length < sz → mOut w w' l o1 o2) ∧ StB w' S lim tk at_ (.slice a n c) (mSz mo lim sz l : Int) (mKd mo kd l) hd er (mfn S (mMo mo lim kd l)) ∧ Kp (fun k => k = S) w w' := by
  have hl := hr.1
  have hcase : mo = 0 ∨ mo = 1 ∨ mo = 2 ∨ mo = 3 ∨ mo = 4 := by omega
  rcases hcase with rfl | rfl | rfl | rfl | rfl
  · refine (inHeader_any S lim tk at_ sz kd er hd _ a n c l (rdH l 0).1 (rdH l 0).2.1 (rdH l 0).2.2 w hS hr hc hnil hn rfl).mono ?_
    generalize hR : rdH l 0 = R
    rintro e w' ⟨rfl, q1, q2⟩
    refine ⟨none, none, ?_, fun h => by omega, ?_, q2⟩
    · simp [mIt, mE, hR]
    · by_cases h10 : R.2.2 = 10
      · simpa [mSz, mKd, mMo, hR, h10] using q1
      · simpa [mSz, mKd, mMo, hR, h10] using q1
  · by_cases h4 : n < 4
    · refine (inSize_less S lim tk at_ sz kd er hd _ a n c l w hS hr hc hn h4).mono ?_
      rintro e w' ⟨rfl, q1, q2⟩
      have hl4 : l.length < 4 := by omega
      have hl4' : ¬ 4 ≤ l.length := by omega
      exact ⟨none, none, by simp [mIt, mE, hl4], fun h => by omega, by simpa [mSz, mKd, mMo, hl4'] using q1, q2⟩
    · have hn4 : n = 4 := by have := h1 rfl; omega
      have hl4 : l.length = 4 := by omega
      by_cases hm : l = magic
      · refine (inSize_magic S lim tk at_ sz kd er hd _ a n c l w hS hr hc hn hn4 hm).mono ?_
        rintro e w' ⟨rfl, q1, q2⟩
        exact ⟨none, none, by simp [mIt, mE, hm, magic], fun h => by omega, by simpa [mSz, mKd, mMo, hm] using q1, q2⟩
      · by_cases hF : flt l lim = 0
        · refine (inSize_ok S lim tk at_ sz kd er hd _ a n c l w hS hr hc hn hn4 hm hF).mono ?_
          rintro e w' ⟨rfl, q1, q2⟩
          exact ⟨none, none, by simp [mIt, mE, hm, hl4, hF], fun h => by omega, by simpa [mSz, mKd, mMo, hm, hl4, hF] using q1, q2⟩
        · refine (inSize_bad S lim tk at_ sz kd er hd _ a n c l w hS hr hc hn hn4 hm _ rfl hF).mono ?_
          rintro e w' ⟨rfl, q1, q2⟩
          exact ⟨none, none, by simp [mIt, mE, hm, hl4], fun h => by omega, by simpa [mSz, mKd, mMo, hm, hl4, hF] using q1, q2⟩
  · refine (inOffset_any S lim tk at_ sz kd er hd _ a n c l w hS hr hc hn hbS).mono ?_
    rintro e w' ⟨rfl, q1, q2⟩
    exact ⟨none, none, by simp [mIt, mE], fun h => by omega, by simpa [mSz, mKd, mMo] using q1, q2⟩
  · have h6 := h3 rfl
    by_cases hF : flt l 1048576 = 0
    · by_cases hk : ((l.getD 5 0 : Nat) : Int) = kd
      · refine (inType_ok S lim tk at_ sz kd er hd _ a n c l w hS hr hc hn h6 hF hk).mono ?_
        rintro e w' ⟨rfl, q1, q2⟩
        refine ⟨none, none, ?_, fun h => by omega, ?_, q2⟩
        · unfold mIt mE; simp only [hF, hk]; rfl
        · unfold mSz mKd mMo; simp only [hF, hk]; exact q1
      · refine (inType_order S lim tk at_ sz kd er hd _ a n c l w hS hr hc hn h6 hF hk).mono ?_
        rintro e w' ⟨rfl, q1, q2⟩
        refine ⟨none, none, ?_, fun h => by omega, ?_, q2⟩
        · unfold mIt mE; simp only [hF, if_neg hk]; rfl
        · unfold mSz mKd mMo; simp only [hF, hk]; exact q1
    · refine (inType_bad S lim tk at_ sz kd er hd _ a n c l w hS hr hc hn _ rfl hF).mono ?_
      rintro e w' ⟨rfl, q1, q2⟩
      refine ⟨none, none, ?_, fun h => by omega, ?_, q2⟩
      · unfold mIt mE; simp only [if_neg hF]; rfl
      · unfold mSz mKd mMo; simp only [hF]; exact q1
  · by_cases hs : n < sz
    · refine (inRest_less S lim tk at_ sz kd er hd _ a n c l w hS hr hc hn hs).mono ?_
      rintro e w' ⟨rfl, q1, q2⟩
      have hls : l.length < sz := by omega
      exact ⟨none, none, by simp [mIt, mE, hls], fun _ h => absurd hls h, by simpa [mSz, mKd, mMo] using q1, q2⟩
    · refine (inRest_whole S lim tk at_ sz kd er hd _ a n c l w hS hr hc hn (by omega)).mono ?_
      rintro e w' ⟨o1, o2, rfl, p1, p2, p3, p4, p5, q1, q2⟩
      have hls : ¬ l.length < sz := by omega
      exact ⟨o1, o2, by simp [mIt, mE, hls], fun _ _ => ⟨p1, p2, p3, p4, p5⟩, by simpa [mSz, mKd, mMo] using q1, q2⟩
end Go.Proofs.Ytaijcnkmklibcaa
