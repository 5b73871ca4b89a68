
/- What stands between the points of a text. -/
import Derived.Test.YtmanfakdbmlfeaaDoorRMath
namespace Go.Proofs.YtmanfakdbmlfeaaDoor
set_option linter.unusedVariables false
set_option linter.unusedSimpArgs false
def pieces : List UInt8 → List (List UInt8)
  | [] => [[]]
  | c :: cs => if c = 46 then [] :: pieces cs else match pieces cs with
    | [] => [[c]]
    | h :: t => (c :: h) :: t
theorem pieces_ne : ∀ l, pieces l ≠ []
  | [] => by simp [pieces]
  | c :: cs => by
      unfold pieces
      split
      · simp
      · split <;> simp
theorem pieces_none : ∀ (l : List UInt8), (∀ c, c ∈ l → c ≠ 46) → pieces l = [l]
  | [], _ => rfl
  | c :: cs, h => by
      have h1 := h c (List.mem_cons_self ..)
      have h2 := pieces_none cs (fun x hx => h x (List.mem_cons_of_mem _ hx))
      simp [pieces, h1, h2]
theorem pieces_hit : ∀ (a b : List UInt8), (∀ c, c ∈ a → c ≠ 46) → pieces (a ++ 46 :: b) = a :: pieces b
  | [], b, _ => by simp [pieces]
  | c :: cs, b, h => by
      have h1 := h c (List.mem_cons_self ..)
      have h2 := pieces_hit cs b (fun x hx => h x (List.mem_cons_of_mem _ hx))
      simp [pieces, h1, h2]
theorem pieces_len : ∀ (l : List UInt8), (pieces l).length ≤ l.length + 1
  | [] => by simp [pieces]
  | c :: cs => by
      have := pieces_len cs
      unfold pieces
      split
      · simp; omega
      · split
        · simp
        · rename_i h; rw [h] at this; simp at this ⊢; omega
theorem pieces_mem : ∀ (l : List UInt8) (p : List UInt8), p ∈ pieces l → p.length ≤ l.length
  | [], p, h => by simp [pieces] at h; simp [h]
  | c :: cs, p, h => by
      unfold pieces at h
      split at h
      · rcases List.mem_cons.1 h with rfl | h
        · simp
        · have := pieces_mem cs p h; simp; omega
      · split at h
        · simp at h; subst h; simp
        · rename_i a b hab
          rcases List.mem_cons.1 h with rfl | h
          · have := pieces_mem cs a (by rw [hab]; simp); simp; omega
          · have := pieces_mem cs p (by rw [hab]; simp [h]); simp; omega
def bOf (l : List UInt8) : ByteArray := ⟨l.toArray⟩
def pcs (s : ByteArray) : List ByteArray := (pieces s.data.toList).map bOf
theorem bOf_data (s : ByteArray) : bOf s.data.toList = s := by cases s; simp [bOf]
theorem pcs_ne (s : ByteArray) : pcs s ≠ [] := by
  unfold pcs
  intro h
  exact pieces_ne _ (List.map_eq_nil_iff.1 h)
theorem pcs_len (s : ByteArray) : (pcs s).length ≤ s.size + 1 := by
  have := pieces_len s.data.toList
  have e : s.data.toList.length = s.size := Array.length_toList
  simpa [pcs, e] using this
theorem pcs_mem (s : ByteArray) {x : ByteArray} (h : x ∈ pcs s) : x.size ≤ s.size := by
  obtain ⟨p, hp, rfl⟩ := List.mem_map.1 h
  have := pieces_mem _ p hp
  have e : s.data.toList.length = s.size := Array.length_toList
  have e2 : (bOf p).size = p.length := by simp [bOf, ByteArray.size]
  omega
theorem pcs_none (s : ByteArray) (h : ∀ c, c ∈ s.data.toList → c ≠ 46) : pcs s = [s] := by
  simp [pcs, pieces_none _ h, bOf_data]
theorem ext_data (s : ByteArray) (a b : Nat) : (s.extract a b).data.toList = (s.data.toList.drop a).take (b - a) := by
  rw [ByteArray.data_extract, Array.toList_extract, List.extract_eq_take_drop]
theorem pcs_hit (s : ByteArray) (i : Nat) (hi : s.data.toList[i]? = some 46) (hn : ∀ j c, j < i → s.data.toList[j]? = some c → c ≠ 46) : pcs s = s.extract 0 i :: pcs (s.extract (i + 1) s.size) := by
  obtain ⟨hlt, hv⟩ := List.getElem?_eq_some_iff.1 hi
  have hsz : s.data.toList.length = s.size := Array.length_toList
  have e : s.data.toList = s.data.toList.take i ++ 46 :: s.data.toList.drop (i + 1) := by
    conv => lhs; rw [← List.take_append_drop i s.data.toList]
    rw [List.drop_eq_getElem_cons hlt, hv]
  have h1 : pieces s.data.toList = s.data.toList.take i :: pieces (s.data.toList.drop (i + 1)) := by
    rw [e, pieces_hit _ _ ?_, ← e]
    intro c hc
    obtain ⟨j, hj, hjc⟩ := List.mem_iff_getElem.1 hc
    rw [List.length_take] at hj
    refine hn j c (by omega) ?_
    rw [← hjc, List.getElem_take, List.getElem?_eq_getElem]
  have a1 : (s.extract 0 i).data.toList = s.data.toList.take i := by rw [ext_data]; simp
  have a2 : (s.extract (i + 1) s.size).data.toList = s.data.toList.drop (i + 1) := by
    rw [ext_data, List.take_of_length_le (by rw [List.length_drop]; omega)]
  unfold pcs
  rw [h1, List.map_cons, a2, ← a1, bOf_data]
/-- a part's look, and a pattern's, a topic's, a name's, as they are told -/
def wd (s : ByteArray) : Bool := decide (1 ≤ s.size) && decide (s.size ≤ 32) && s.data.toList.all ltr
theorem wd_iff (s : ByteArray) : wd s = true ↔ Wd s := by
  simp only [wd, Wd, Bool.and_eq_true, decide_eq_true_eq, List.all_eq_true, and_assoc]
def nb (c : Nat) : Bool := lb c || decide (c = 46) || decide (c = 95)
def nltr (c : UInt8) : Bool := nb c.toNat
def nam (s : ByteArray) : Bool := decide (1 ≤ s.size) && decide (s.size ≤ 64) && s.data.toList.all nltr
def pt (s : ByteArray) : Bool := decide (s = bHash) || decide (s = bStar) || wd s
theorem pt_iff (s : ByteArray) : pt s = true ↔ Pt s := by
  simp only [pt, Pt, Bool.or_eq_true, decide_eq_true_eq, wd_iff]
  constructor
  · rintro ((h | h) | h)
    · exact .inr (.inr h)
    · exact .inr (.inl h)
    · exact .inl h
  · rintro (h | h | h)
    · exact .inr h
    · exact .inl (.inr h)
    · exact .inl (.inl h)
def patB (l : List ByteArray) : Bool := decide (l.length ≤ 8) && l.all pt && decide (hashes l ≤ 2)
def topB (l : List ByteArray) : Bool := decide (l.length ≤ 8) && l.all wd
theorem patB_iff (s : ByteArray) : patB (pcs s) = true ↔ Pat (pcs s) := by
  simp only [patB, Pat, Bool.and_eq_true, decide_eq_true_eq, List.all_eq_true, pt_iff, and_assoc]
  exact ⟨fun h => ⟨pcs_ne s, h⟩, fun h => h.2⟩
theorem topB_iff (s : ByteArray) : topB (pcs s) = true ↔ Top (pcs s) := by
  simp only [topB, Top, Bool.and_eq_true, decide_eq_true_eq, List.all_eq_true, wd_iff]
  exact ⟨fun h => ⟨pcs_ne s, h.1, h.2⟩, fun h => ⟨h.2.1, h.2.2⟩⟩
def fitB (p t : ByteArray) : Bool := patB (pcs p) && topB (pcs t) && fitP (pcs p) (pcs t)
end Go.Proofs.YtmanfakdbmlfeaaDoor
