
/- RouteLeads: what Bindings and Match tell is what led asks. -/
import Derived.Test.YtmanfakdbmlfeaaDoorRLdC
import Derived.Sort.Walk0
namespace Go.Proofs.YtmanfakdbmlfeaaDoor
open Go.RowKit Go.Maps
set_option linter.unusedVariables false
theorem tL_toList (s : ByteArray) : s.toList = tL s := Lib.toList_data s
theorem lt_of_le_ne {x y : List UInt8} (h : x ≤ y) (hn : x ≠ y) : x < y := by
  by_cases hl : x < y
  · exact hl
  · exact absurd (List.le_antisymm h (List.not_lt.1 hl)) hn
theorem cmp_both (Q : List ByteArray) : (∀ y, y ∈ cmpct (srt Q) ↔ y ∈ Q) ∧ (cmpct (srt Q)).Pairwise (fun x y => Op.bytesLess x.toList y.toList = true) := by
  obtain ⟨Z, hZ⟩ : ∃ Z, Z = (Q.map tL).mergeSort fun x y => decide (x ≤ y) := ⟨_, rfl⟩
  have e1 : (srt Q).map tL = Z := by
    unfold srt
    rw [← hZ, List.map_map]
    have : tL ∘ bOf = id := by funext l; exact tL_bOf l
    rw [this, List.map_id]
  have hp : Z.Pairwise (fun x y => x ≤ y) := by
    have := List.pairwise_mergeSort (le := fun x y : List UInt8 => decide (x ≤ y)) (fun a b c h1 h2 => by simp at *; exact List.le_trans h1 h2) (fun a b => by simp; exact List.le_total a b) (Q.map tL)
    rw [hZ]
    exact this.imp (fun h => by simpa using h)
  have hm : ∀ z, z ∈ Z ↔ z ∈ Q.map tL := fun z => by rw [hZ]; exact (List.mergeSort_perm _ _).mem_iff
  have hs : ∀ i j, i < j → j < Z.toArray.size → Z.toArray[i]! ≤ Z.toArray[j]! := fun i j hij hj => by
    have hj' : j < Z.length := by simpa using hj
    have := List.pairwise_iff_getElem.1 hp i j (by omega) hj' hij
    simpa [hj', Nat.lt_trans hij hj'] using this
  obtain ⟨c1, c2⟩ := comp_inv (fun x y : List UInt8 => x ≤ y) (fun x y h1 h2 => List.le_antisymm h1 h2) Z.toArray hs Z.length (by simp)
  have ec : cmpct (srt Q) = (Lib.compactUpTo Z.toArray Z.length).map bOf := by unfold cmpct; rw [e1]; rfl
  have hz : ∀ x, x ∈ Lib.compactUpTo Z.toArray Z.length ↔ x ∈ Z := fun x => by
    rw [c1]
    constructor
    · rintro ⟨j, hj, rfl⟩
      simp [hj]
    · intro h
      obtain ⟨j, hj, rfl⟩ := List.getElem_of_mem h
      exact ⟨j, hj, by simp [hj]⟩
  constructor
  · intro y
    rw [ec, List.mem_map]
    constructor
    · rintro ⟨a, ha, rfl⟩
      have := (hm a).1 ((hz a).1 ha)
      obtain ⟨q, hq, rfl⟩ := List.mem_map.1 this
      rw [bOf_tL]
      exact hq
    · intro hy
      exact ⟨tL y, (hz _).2 ((hm _).2 (List.mem_map.2 ⟨y, hy, rfl⟩)), bOf_tL y⟩
  · rw [ec, List.pairwise_map]
    refine c2.imp ?_
    rintro a b ⟨h1, h2⟩
    rw [tL_toList, tL_toList, tL_bOf, tL_bOf, Go.Proofs.bytesLess_eq, decide_eq_true_eq]
    exact lt_of_le_ne h1 h2
theorem ldb_of {L W : List Bd} {Q : List ByteArray} {t d : ByteArray} (hp : W.Perm L) (hS : SrtB W) (hnd : L.Nodup) (hg : ∀ b, b ∈ L → goodB b) (hd : ∀ b, b ∈ L → b.2 ≠ d) (hT : topB (pcs t) = true) (hQ : Q.Perm (qof t L)) : LdB W (cmpct (srt Q)) t d := by
  obtain ⟨h1, h2⟩ := cmp_both Q
  have hq : ∀ y, y ∈ cmpct (srt Q) ↔ ∃ b, b ∈ L ∧ fitP (pcs b.1) (pcs t) = true ∧ b.2 = y := fun y => by
    rw [h1, hQ.mem_iff]
    unfold qof
    rw [List.mem_map]
    constructor
    · rintro ⟨b, hb, rfl⟩
      rw [List.mem_filter] at hb
      exact ⟨b, hb.1, hb.2, rfl⟩
    · rintro ⟨b, hb, hf, rfl⟩
      exact ⟨b, List.mem_filter.2 ⟨hb, hf⟩, rfl⟩
  refine ⟨fun i x y hx hy => ord_of hS (hp.nodup_iff.2 hnd) i x y hx hy, fun i x hx => ?_, fun i x y hx hy => ?_, fun i x hx => ?_⟩
  · have hm : x ∈ L := hp.mem_iff.1 (List.mem_of_getElem? hx)
    have hgx := hg x hm
    refine ⟨hgx.2.1, by unfold fitE; rw [hgx.1, hT]; rfl, hd x hm, fun hf => ?_⟩
    unfold fitB at hf
    rw [hgx.1, hT, Bool.true_and, Bool.true_and] at hf
    unfold hasT
    rw [List.any_eq_true]
    exact ⟨x.2, (hq _).2 ⟨x, hm, hf, rfl⟩, by simp⟩
  · obtain ⟨hi, rfl⟩ := List.getElem?_eq_some_iff.1 hx
    obtain ⟨hj, rfl⟩ := List.getElem?_eq_some_iff.1 hy
    exact List.pairwise_iff_getElem.1 h2 i (i + 1) hi hj (by omega)
  · obtain ⟨b, hb, hf, e⟩ := (hq x).1 (List.mem_of_getElem? hx)
    obtain ⟨j, hj, rfl⟩ := List.getElem_of_mem (hp.mem_iff.2 hb)
    refine ⟨j, _, List.getElem?_eq_getElem hj, e, ?_⟩
    unfold fitB
    rw [(hg _ hb).1, hT, hf]
    rfl
end Go.Proofs.YtmanfakdbmlfeaaDoor
