import Derived.Test.YtknkmamjdmadcaaGOpenWM9
import Derived.Test.YtknkmamjdmadcaaGGreat2M9
import Derived.Test.YtknkmamjdmadcaaGResWM9
import Derived.Test.YtknkmamjdmadcaaGUnsWM9
import Derived.Test.YtknkmamjdmadcaaGLaw1M9

/- Stage 14: LinkResumes: the mathematics. -/
namespace Go.Proofs.Ytknkmamjdmadcaa.G
open Go.RowKit Go.Maps
set_option linter.unusedVariables false
set_option linter.unusedSimpArgs false
theorem cmpB_three : ∀ (x y : List UInt8), cmpB x y = -1 ∨ cmpB x y = 0 ∨ cmpB x y = 1
  | [], [] => .inr (.inl rfl)
  | [], _ :: _ => .inl rfl
  | _ :: _, [] => .inr (.inr rfl)
  | a :: x, b :: y => by
    unfold cmpB
    split
    · exact .inl rfl
    · split
      · exact .inr (.inr rfl)
      · exact cmpB_three x y
/-- what Resume tells, as the law asks it -/
structure Tld (rc : Bool) (T : List (ByteArray × Dv)) (ls : List Un) (ks : List Rs) : Prop where
  up : ∀ i (hi : i + 1 < ks.length), Op.bytesLess ks[i].1.toList ks[i + 1].1.toList = true
  is : ∀ x ∈ ks, (hasK ls x.1 || hasK T x.1) = true ∧ x.2 = resF rc T ls x.1
  all : ∀ t, (hasK ls t || hasK T t) = true → t ∈ ks.map (·.1)
  len : ks.length ≤ 200000
theorem tld_of {rc : Bool} {T : List (ByteArray × Dv)} {ls : List Un} {ks M : List Rs} (hp : ks.Perm M) (hn : (M.map (·.1)).Nodup) (hS : Says M (fun t => hasK ls t || hasK T t) (resF rc T ls))
    (hs : ∀ i j (hi : i < ks.length) (hj : j < ks.length), i < j → 0 ≤ cmpB ks[j].1.toList ks[i].1.toList) (h1 : ls.length ≤ 100000) (h2 : T.length ≤ 100000) : Tld rc T ls ks where
  up i hi := by
    have hnd : (ks.map (·.1)).Nodup := ((hp.map (·.1)).nodup_iff).2 hn
    have hne : ks[i].1 ≠ ks[i + 1].1 := by
      have := List.pairwise_iff_getElem.1 hnd i (i + 1) (by simp; omega) (by simpa using hi) (by omega)
      simpa using this
    have h0 := hs i (i + 1) (by omega) hi (by omega)
    rw [neg_cmpB] at h0
    rw [cmpB_less]
    have hz : cmpB ks[i].1.toList ks[i + 1].1.toList ≠ 0 := fun e => hne (ba_list ((cmpB_zero _ _).1 e))
    rcases cmpB_three ks[i].1.toList ks[i + 1].1.toList with e | e | e
    · simp [e]
    · exact absurd e hz
    · rw [e] at h0
      omega
  is x hx := by
    have hm : (x.1, x.2) ∈ M := (hp.mem_iff).1 hx
    have h3 := hS x.1
    have h4 := has_of_mem hm
    rw [h3.1] at h4
    refine ⟨h4, ?_⟩
    rw [← h3.2 h4]
    exact (lu_of_mem 0 hn hm).symm
  all t ht := by
    have h3 := (hS t).1
    have h3 : hasK M t = true := h3.trans ht
    exact ((hp.map (·.1)).mem_iff).2 (any_iff.1 h3)
  len := by
    have := hS.len hn T ls (fun t h => by rw [Bool.or_eq_true] at h; exact h)
    rw [hp.length_eq]
    omega
section
variable {T : List (ByteArray × Dv)} {ls : List Un} {t : ByteArray}
theorem res_none {rc : Bool} (h : hasK ls t = false) : resF rc T ls t = ofH rc (lu dv0 T t).2.k := by
  unfold resF
  rw [h]
  rfl
theorem res_some {rc : Bool} {j : Nat} {hj : j < ls.length} (h1 : ls[j].1 = t) (h2 : hasK (ls.take j) t = false) : resF rc T ls t = ofT rc (hasK T t) ls[j].2.k := by
  have h3 : hasK ls t = true := has_of_mem (x := ls[j].2) (by rw [← h1]; exact List.getElem_mem hj)
  unfold resF
  rw [h3, if_pos rfl]
  have := lu_first sw0 ls j hj (by rw [h1]; exact h2)
  rw [h1] at this
  rw [this]
end
end Go.Proofs.Ytknkmamjdmadcaa.G
