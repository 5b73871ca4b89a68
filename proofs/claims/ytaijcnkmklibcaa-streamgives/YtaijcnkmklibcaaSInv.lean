
/- Stage 6: how a stream stands (mathematics). -/
import Derived.Test.YtaijcnkmklibcaaSMeans
namespace Go.Proofs.Ytaijcnkmklibcaa
open Go.RowKit Go.Deep
set_option linter.unusedVariables false
set_option linter.unusedSimpArgs false

/-- what is held, by the mode -/
def Inv (lim : Int) (hd : Bool) (l : List Nat) (sz mo : Nat) : Prop :=
  (mo = 0 ∧ hd = true ∧ l.length < 8) ∨ (mo = 1 ∧ hd = false ∧ l.length < 4) ∨ (mo = 2 ∧ hd = false ∧ l.length = 4 ∧ 8 ≤ sz ∧ (sz : Int) ≤ lim) ∨ (mo = 3 ∧ hd = false ∧ l.length = 5 ∧ 8 ≤ sz ∧ (sz : Int) ≤ lim) ∨ (mo = 4 ∧ hd = false ∧ 6 ≤ l.length ∧ l.length < sz ∧ 8 ≤ sz ∧ (sz : Int) ≤ lim)
theorem Inv.start (lim : Int) : Inv lim true [] 0 0 := .inl ⟨rfl, rfl, by simp⟩
theorem Inv.next (lim : Int) (sz : Nat) : Inv lim false [] sz 1 := .inr (.inl ⟨rfl, rfl, by simp⟩)
theorem Inv.mode {lim : Int} {hd : Bool} {l : List Nat} {sz mo : Nat} (h : Inv lim hd l sz mo) : mo ≤ 4 ∧ (mo = 1 → l.length < 4) ∧ (mo = 3 → 5 ≤ l.length) := by
  unfold Inv at h
  omega
theorem Inv.held {lim : Int} {hd : Bool} {l : List Nat} {sz mo : Nat} (h : Inv lim hd l sz mo) (h0 : 512 ≤ lim) : (l.length : Int) < lim ∧ (hd = true → l.length < 8) := by
  unfold Inv at h
  rcases h with h | h | h | h | h
  · exact ⟨by omega, fun _ => h.2.2⟩
  · exact ⟨by omega, fun _ => by omega⟩
  · exact ⟨by omega, fun _ => by omega⟩
  · exact ⟨by omega, fun _ => by omega⟩
  · exact ⟨by omega, fun e => by rw [h.2.1] at e; cases e⟩
theorem rdH_short {l : List Nat} (h : (rdH l 0).2.2 = 10) : l.length < 8 := by
  have e : rdH l 0 = _ := rdH_in l 0 (Nat.zero_le _)
  rw [e] at h
  have ht : (there l 0).length = min (l.length - 0) 8 := there_length rfl
  split at h
  · split at h
    · omega
    · simp at h
  · split at h
    · split at h
      · omega
      · simp at h
    · simp at h
theorem flt_four {l : List Nat} {lim : Int} (h4 : l.length = 4) (h0 : 512 ≤ lim) (h1 : lim ≤ 1048576) (hf : flt l lim = 0) : 8 ≤ getN (l.take 4) ∧ ((getN (l.take 4) : Nat) : Int) ≤ lim := by
  have hop : opE l 0 lim = hE l lim := by
    unfold opE
    rw [if_neg (by omega)]
    simp
  unfold flt at hf
  rw [hop] at hf
  have hw := hE_ways l lim 4 h4
  have hs : hSize l = getN (l.take 4) := rfl
  rw [← hs]
  by_cases h10 : hE l lim = 10
  · omega
  · rw [if_neg h10] at hf
    omega
theorem Inv.stay {M lim : Int} {hd : Bool} {l : List Nat} {sz mo : Nat} {kd : Int} (h : Inv M hd l sz mo) (c : Nat) (h0 : 512 ≤ lim) (h1 : lim ≤ 1048576) (hM : lim ≤ M) (hE : mE mo lim sz kd (l ++ [c]) = 0) (hK : mK mo sz (l ++ [c]) = 0) : Inv M hd (l ++ [c]) (mSz mo lim sz (l ++ [c])) (mMo mo lim kd (l ++ [c])) := by
  have hl : (l ++ [c]).length = l.length + 1 := by simp
  unfold Inv at h
  rcases h with ⟨rfl, hh, hn⟩ | ⟨rfl, hh, hn⟩ | ⟨rfl, hh, hn⟩ | ⟨rfl, hh, hn⟩ | ⟨rfl, hh, hn⟩
  · unfold mK at hK
    rw [if_pos rfl] at hK
    by_cases h10 : (rdH (l ++ [c]) 0).2.2 = 10
    · have := rdH_short h10
      exact .inl ⟨by simp [mMo], hh, this⟩
    · rw [if_neg h10] at hK
      omega
  · unfold mE at hE
    rw [if_neg (by omega), if_pos rfl] at hE
    by_cases h4 : (l ++ [c]).length < 4
    · have h4' : ¬ 4 ≤ (l ++ [c]).length := by omega
      refine .inr (.inl ⟨?_, hh, h4⟩)
      unfold mMo
      rw [if_pos rfl, if_neg (fun x => h4' x.1)]
    · rw [if_neg h4] at hE
      by_cases hm : l ++ [c] = magic
      · rw [if_pos hm] at hE; omega
      · rw [if_neg hm] at hE
        have h44 : (l ++ [c]).length = 4 := by omega
        have hf := flt_four h44 h0 h1 hE
        refine .inr (.inr (.inl ⟨?_, hh, h44, ?_⟩))
        · unfold mMo
          rw [if_pos rfl, if_pos ⟨by omega, hm, hE⟩]
        · unfold mSz
          rw [if_pos ⟨rfl, by omega, hm, hE⟩]
          exact ⟨hf.1, by omega⟩
  · refine .inr (.inr (.inr (.inl ⟨by simp [mMo], hh, by omega, ?_⟩)))
    unfold mSz
    rw [if_neg (by omega)]
    exact hn.2
  · unfold mE at hE
    rw [if_neg (by omega), if_neg (by omega), if_neg (by omega), if_pos rfl] at hE
    by_cases hf : flt (l ++ [c]) 1048576 = 0
    · rw [if_pos hf] at hE
      by_cases hk : (((l ++ [c]).getD 5 0 : Nat) : Int) = kd
      · refine .inr (.inr (.inr (.inr ⟨?_, hh, by omega, ?_⟩)))
        · unfold mMo
          rw [if_neg (by omega), if_neg (by omega), if_pos rfl, if_pos ⟨hf, hk⟩]
        · unfold mSz
          rw [if_neg (by omega)]
          exact ⟨by omega, hn.2⟩
      · rw [if_neg hk] at hE; omega
    · rw [if_neg hf] at hE
      exact absurd hE hf
  · unfold mK at hK
    rw [if_neg (by omega), if_pos rfl] at hK
    by_cases hs : (l ++ [c]).length < sz
    · refine .inr (.inr (.inr (.inr ⟨by simp [mMo], hh, by omega, ?_⟩)))
      unfold mSz
      rw [if_neg (by omega)]
      exact ⟨hs, hn.2.2⟩
    · rw [if_neg hs] at hK; omega
end Go.Proofs.Ytaijcnkmklibcaa
