
/- Stage 6: a sealed frame's bytes, one after the other, in a stream. -/
import Derived.Test.YtaijcnkmklibcaaSCutM
import Derived.Test.YtaijcnkmklibcaaFBackM
namespace Go.Proofs.Ytaijcnkmklibcaa
open Go.RowKit Go.Deep
set_option linter.unusedVariables false
set_option linter.unusedSimpArgs false
set_option maxRecDepth 100000

def sAt (tk : Int) (sz : Nat) (kd : Int) : Sg := ((1048576, tk, tk), [], (sz, kd), (false, 0), 1)
theorem hdr0_its : (sNew 1048576).its (hdr 0) = [((1, 0, 0, 0), [], [])] ∧ (sNew 1048576).go (hdr 0) = sAt 8 0 0 := by decide
theorem hdr3_its : (sNew 1048576).its (hdr 3) = [((1, 3, 0, 0), [], [])] ∧ (sNew 1048576).go (hdr 3) = sAt 8 0 1 := by decide
section
variable {ty ch : Nat} {X Y : List Nat}
/-- within a frame -/
def sIn (tk : Int) (sz0 : Nat) (kd : Int) (F : List Nat) (k : Nat) : Sg := ((1048576, tk + (k : Int), tk), F.take k, ((if k < 4 then sz0 else F.length), kd), (false, 0), (if k < 4 then 1 else if k = 4 then 2 else if k = 5 then 3 else 4))
theorem opE_take {l : List Nat} : opE l 0 1048576 = hE l 1048576 := by
  unfold opE
  rw [if_neg (by omega)]
  rfl
theorem flt_short (ht : ty ≤ 1) (h4 : X.length % 4 = 0) (h : 8 + X.length + Y.length ≤ 1048576) {k : Nat} (hk : k < 8 + X.length + Y.length) : flt ((sealB ty ch X Y).take k) 1048576 = 0 := by
  unfold flt
  rw [opE_take, seal_short ht h4 h hk, if_pos rfl]
theorem not_magic (h : 8 + X.length + Y.length ≤ 1048576) {l : List Nat} (hl : l = (sealB ty ch X Y).take 4) : ¬ l = magic := fun e => by
  have h1 := seal_size (ty := ty) (ch := ch) h []
  rw [List.append_nil] at h1
  unfold hSize at h1
  rw [← hl, e] at h1
  have : getN magic = 1280526418 := by decide
  omega
theorem sIn_E (ht : ty ≤ 1) (h4 : X.length % 4 = 0) (h : 8 + X.length + Y.length ≤ 1048576) (tk : Int) (sz0 : Nat) {k : Nat} (hk : k < 8 + X.length + Y.length) : (sIn tk sz0 (ty : Int) (sealB ty ch X Y) k).E ((sealB ty ch X Y).getD k 0) = 0 := by
  have hF := sealB_length ty ch X Y
  have htk := take_succ_getD (sealB ty ch X Y) (i := k) (by omega)
  have hl : ((sealB ty ch X Y).take (k + 1)).length = k + 1 := by simp; omega
  show mE _ _ _ _ ((sealB ty ch X Y).take k ++ [(sealB ty ch X Y).getD k 0]) = 0
  rw [← htk]
  simp only [sIn]
  by_cases h1 : k < 4
  · simp only [h1, if_true, mE]
    by_cases h3 : k + 1 < 4
    · simp [hl, h3]
    · have hk3 : k = 3 := by omega
      subst hk3
      rw [if_neg (by decide), if_neg (by rw [hl]; omega), if_neg (not_magic h rfl)]
      exact flt_short ht h4 h (by omega)
  · by_cases h2 : k = 4
    · subst h2
      simp only [mE]
      simp
      exact flt_short ht h4 h (by omega)
    · by_cases h5 : k = 5
      · subst h5
        have hf : flt ((sealB ty ch X Y).take 6) 1048576 = 0 := flt_short ht h4 h (by omega)
        have hg : ((sealB ty ch X Y).take 6).getD 5 0 = ty := by
          rw [take_getD (by omega)]
          have := seal_kind (ty := ty) (ch := ch) (ext := X) (body := Y) []
          rw [List.append_nil] at this
          exact this
        have hg' := hg
        simp [List.getD_eq_getElem?_getD] at hg'
        simp only [mE]
        simp [hf, hg']
      · have hmo : (if k < 4 then 1 else if k = 4 then 2 else if k = 5 then 3 else 4) = 4 := by simp [h1, h2, h5]
        rw [hmo]
        simp only [h1, if_false, mE]
        by_cases h6 : k + 1 < (sealB ty ch X Y).length
        · simp [hl, h6]
        · have he : (sealB ty ch X Y).take (k + 1) = sealB ty ch X Y := List.take_of_length_le (by omega)
          rw [if_neg (by decide), if_neg (by decide), if_neg (by decide), if_neg (by decide), if_neg (by rw [hl]; omega), he, opE_take]
          have := seal_ok (ty := ty) (ch := ch) ht h4 h []
          rw [List.append_nil] at this
          exact this
theorem sIn_K (ht : ty ≤ 1) (h4 : X.length % 4 = 0) (h : 8 + X.length + Y.length ≤ 1048576) (tk : Int) (sz0 : Nat) {k : Nat} (hk : k < 8 + X.length + Y.length) : (sIn tk sz0 (ty : Int) (sealB ty ch X Y) k).K ((sealB ty ch X Y).getD k 0) = if k + 1 < 8 + X.length + Y.length then 0 else 2 := by
  have hF := sealB_length ty ch X Y
  have htk := take_succ_getD (sealB ty ch X Y) (i := k) (by omega)
  have hl : ((sealB ty ch X Y).take (k + 1)).length = k + 1 := by simp; omega
  unfold Sg.K
  rw [if_pos (sIn_E ht h4 h tk sz0 hk)]
  change mK (if k < 4 then 1 else if k = 4 then 2 else if k = 5 then 3 else 4) (if k < 4 then sz0 else (sealB ty ch X Y).length) ((sealB ty ch X Y).take k ++ [(sealB ty ch X Y).getD k 0]) = _
  rw [← htk]
  have hcase : k < 4 ∨ k = 4 ∨ k = 5 ∨ 6 ≤ k := by omega
  rcases hcase with h1 | rfl | rfl | h1
  · rw [if_pos h1, if_pos h1, if_pos (by omega)]
    rfl
  · rw [if_pos (show 4 + 1 < 8 + X.length + Y.length by omega)]
    rfl
  · rw [if_pos (show 5 + 1 < 8 + X.length + Y.length by omega)]
    rfl
  · rw [if_neg (show ¬ k < 4 by omega), if_neg (show ¬ k = 4 by omega), if_neg (show ¬ k = 5 by omega), if_neg (show ¬ k < 4 by omega)]
    unfold mK
    rw [if_neg (by decide), if_pos rfl, hl, hF]
theorem sIn_nx (ht : ty ≤ 1) (h4 : X.length % 4 = 0) (h : 8 + X.length + Y.length ≤ 1048576) (tk : Int) (sz0 : Nat) {k : Nat} (hk : k + 1 < 8 + X.length + Y.length) : (sIn tk sz0 (ty : Int) (sealB ty ch X Y) k).nx ((sealB ty ch X Y).getD k 0) = sIn tk sz0 (ty : Int) (sealB ty ch X Y) (k + 1) := by
  have hF := sealB_length ty ch X Y
  have htk := take_succ_getD (sealB ty ch X Y) (i := k) (by omega)
  have hl : ((sealB ty ch X Y).take (k + 1)).length = k + 1 := by simp; omega
  have hE := sIn_E (ch := ch) ht h4 h tk sz0 (k := k) (by omega)
  have hK := sIn_K (ch := ch) ht h4 h tk sz0 (k := k) (by omega)
  rw [if_pos hk] at hK
  unfold Sg.nx
  rw [hK, hE]
  simp only [and_self, if_true]
  simp only [sIn]
  rw [← htk]
  have e1 : tk + (k : Int) + 1 = tk + ((k + 1 : Nat) : Int) := by omega
  have hkd : mKd (if k < 4 then 1 else if k = 4 then 2 else if k = 5 then 3 else 4) (ty : Int) ((sealB ty ch X Y).take (k + 1)) = (ty : Int) := by
    unfold mKd
    rw [if_neg]
    rintro ⟨h0, _⟩
    by_cases h1 : k < 4
    · simp [h1] at h0
    · by_cases h2 : k = 4
      · simp [h2] at h0
      · by_cases h3 : k = 5
        · simp [h3] at h0
        · simp [h1, h2, h3] at h0
  rw [e1, hkd]
  by_cases h1 : k < 3
  · have h1' : k < 4 := by omega
    have h1'' : k + 1 < 4 := by omega
    simp only [h1', h1'', if_true, mSz, mMo]
    rw [if_neg (by rintro ⟨_, h, _⟩; rw [hl] at h; omega), if_neg (by rintro ⟨h, _⟩; rw [hl] at h; omega)]
  · by_cases h3 : k = 3
    · subst h3
      have hm : ¬ (sealB ty ch X Y).take 4 = magic := not_magic h rfl
      have hf : flt ((sealB ty ch X Y).take 4) 1048576 = 0 := flt_short ht h4 h (by omega)
      have hs : getN (((sealB ty ch X Y).take 4).take 4) = (sealB ty ch X Y).length := by
        have := seal_size (ty := ty) (ch := ch) h []
        rw [List.append_nil] at this
        unfold hSize at this
        rw [List.take_take]
        simpa [hF] using this
      simp only [mSz, mMo]
      simp [hm, hf, hs, hl]
    · have h1' : ¬ k < 4 := by omega
      have h1'' : ¬ k + 1 < 4 := by omega
      by_cases h5 : k = 4
      · subst h5
        simp [mSz, mMo]
      · by_cases h6 : k = 5
        · subst h6
          have hf : flt ((sealB ty ch X Y).take 6) 1048576 = 0 := flt_short ht h4 h (by omega)
          have hg : ((sealB ty ch X Y).take 6).getD 5 0 = ty := by
            rw [take_getD (by omega)]
            have := seal_kind (ty := ty) (ch := ch) (ext := X) (body := Y) []
            rw [List.append_nil] at this
            exact this
          have hg' := hg
          simp [List.getD_eq_getElem?_getD] at hg'
          simp only [mSz, mMo]
          simp [hf, hg']
        · have a1 : ¬ k + 1 = 4 := by omega
          have a2 : ¬ k + 1 = 5 := by omega
          simp [mSz, mMo, h1', h1'', h5, h6, a1, a2]
theorem sIn_go (ht : ty ≤ 1) (h4 : X.length % 4 = 0) (h : 8 + X.length + Y.length ≤ 1048576) (tk : Int) (sz0 : Nat) (k : Nat) (hk : k < 8 + X.length + Y.length) : (sAt tk sz0 (ty : Int)).go ((sealB ty ch X Y).take k) = sIn tk sz0 (ty : Int) (sealB ty ch X Y) k ∧ (sAt tk sz0 (ty : Int)).its ((sealB ty ch X Y).take k) = [] := by
  have hF := sealB_length ty ch X Y
  induction k with
  | zero => exact ⟨by simp [sIn, sAt, Sg.go], rfl⟩
  | succ k ih =>
    obtain ⟨i1, i2⟩ := ih (by omega)
    have he : (sIn tk sz0 (ty : Int) (sealB ty ch X Y) k).er = 0 := rfl
    have hK := sIn_K (ch := ch) ht h4 h tk sz0 (k := k) (by omega)
    rw [if_pos hk] at hK
    constructor
    · rw [go_take _ _ (by omega) (by rw [i1]; exact he), i1]
      exact sIn_nx ht h4 h tk sz0 hk
    · rw [its_take _ _ (by omega), i1, i2]
      unfold Sg.one
      rw [if_neg (fun hh => hh.2 hK)]
      rfl
/-- a frame's bytes, whole -/
theorem seal_its (ht : ty ≤ 1) (hc : ch ≤ 65535) (h1 : ty = 1 → ch = 0) (h4 : X.length % 4 = 0) (h : 8 + X.length + Y.length ≤ 1048576) (tk : Int) (sz0 : Nat) :
    (sAt tk sz0 (ty : Int)).its (sealB ty ch X Y) = [((2, 0, (ty : Int), (ch : Int)), X, Y)] ∧ (sAt tk sz0 (ty : Int)).go (sealB ty ch X Y) = sAt (tk + ((8 + X.length + Y.length : Nat) : Int)) (8 + X.length + Y.length) (ty : Int) := by
  have hF := sealB_length ty ch X Y
  obtain ⟨i1, i2⟩ := sIn_go (ch := ch) ht h4 h tk sz0 (7 + X.length + Y.length) (by omega)
  have hE := sIn_E (ch := ch) ht h4 h tk sz0 (k := 7 + X.length + Y.length) (by omega)
  have hK := sIn_K (ch := ch) ht h4 h tk sz0 (k := 7 + X.length + Y.length) (by omega)
  rw [if_neg (by omega)] at hK
  have hlast : (sealB ty ch X Y).take (7 + X.length + Y.length + 1) = sealB ty ch X Y := List.take_of_length_le (by omega)
  have htk := take_succ_getD (sealB ty ch X Y) (i := 7 + X.length + Y.length) (by omega)
  rw [hlast] at htk
  have he : (sIn tk sz0 (ty : Int) (sealB ty ch X Y) (7 + X.length + Y.length)).er = 0 := rfl
  have a1 := seal_ok (ty := ty) (ch := ch) ht h4 h []
  have a2 := seal_kind (ty := ty) (ch := ch) (ext := X) (body := Y) []
  have a3 := seal_chan (ty := ty) (ch := ch) (ext := X) (body := Y) hc h1 (by omega) []
  have a4 := seal_ext (ty := ty) (ch := ch) (body := Y) h4 []
  have a5 := seal_body (ty := ty) (ch := ch) h4 h []
  rw [List.append_nil] at a1 a2 a3 a4 a5
  have hop : opE (sealB ty ch X Y) 0 1048576 = 0 := by rw [opE_take]; exact a1
  have hct : (sIn tk sz0 (ty : Int) (sealB ty ch X Y) (7 + X.length + Y.length)).ct ((sealB ty ch X Y).getD (7 + X.length + Y.length) 0) = ((2, 0, (ty : Int), (ch : Int)), X, Y) := by
    unfold Sg.ct
    have hmo : (sIn tk sz0 (ty : Int) (sealB ty ch X Y) (7 + X.length + Y.length)).2.2.2.2 = 4 := by
      show (if _ < 4 then 1 else if _ = 4 then 2 else if _ = 5 then 3 else 4) = 4
      rw [if_neg (by omega), if_neg (by omega), if_neg (by omega)]
    rw [hmo, if_neg (by decide)]
    show ((2, 0, opK ((sealB ty ch X Y).take (7 + X.length + Y.length) ++ _) 0 1048576, _), _, _) = _
    rw [show (sIn tk sz0 (ty : Int) (sealB ty ch X Y) (7 + X.length + Y.length)).2.1 = (sealB ty ch X Y).take (7 + X.length + Y.length) from rfl, ← htk]
    unfold opK opC opX opY
    rw [hop]
    simp [a2, a3, a4, a5]
  constructor
  · rw [← hlast, its_take _ _ (by omega), i1, i2]
    unfold Sg.one
    rw [if_pos ⟨he, by rw [hK]; decide⟩, hct]
    rfl
  · rw [← hlast, go_take _ _ (by omega) (by rw [i1]; exact he), i1]
    unfold Sg.nx
    rw [hE, hK]
    have hmo : (sIn tk sz0 (ty : Int) (sealB ty ch X Y) (7 + X.length + Y.length)).2.2.2.2 = 4 := by
      show (if _ < 4 then 1 else if _ = 4 then 2 else if _ = 5 then 3 else 4) = 4
      rw [if_neg (by omega), if_neg (by omega), if_neg (by omega)]
    rw [hmo]
    have hs : ¬ 7 + X.length + Y.length < 4 := by omega
    simp [sIn, sAt, mSz, mKd, hs]
    omega
end
end Go.Proofs.Ytaijcnkmklibcaa
