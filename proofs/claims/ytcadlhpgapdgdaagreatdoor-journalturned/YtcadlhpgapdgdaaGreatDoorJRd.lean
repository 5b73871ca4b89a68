
/- Stage 20: bytes that are read, for octet. -/
import Derived.Test.YtcadlhpgapdgdaaGreatDoorDByte
import Derived.Test.YtcadlhpgapdgdaaGreatDoorJMath
namespace Go.Proofs.YtcadlhpgapdgdaaGreatDoor
open Go.RowKit
theorem Rd.lt {w a n l} (h : Rd w a n l) (j : Nat) (hj : j < n) : l.getD j 0 < 256 := by
  rw [List.getD_eq_getElem?_getD, List.getElem?_eq_getElem (by rw [h.1]; exact hj)]
  exact h.2.1 _ (List.getElem_mem _)
theorem take_snocN (l : List Nat) (k : Nat) (h : k < l.length) : l.take (k + 1) = l.take k ++ [l.getD k 0] := by
  rw [List.take_succ_eq_append_getElem h, List.getD_eq_getElem?_getD, List.getElem?_eq_getElem h]; rfl
theorem take_lt {l : List Nat} (h : ∀ c ∈ l, c < 256) (k : Nat) : ∀ c ∈ l.take k, c < 256 := fun c hc => h c (List.mem_of_mem_take hc)
theorem crc_flat_snoc (r : Nat) (ls : List (List Nat)) (k : Nat) (h : k < ls.length) :
    Oc.crc r (ls.take (k + 1)).flatten = Oc.crc (Oc.crc r (ls.take k).flatten) (ls.getD k []) := by
  rw [← Oc.crc_append, List.take_succ_eq_append_getElem h, List.flatten_append, List.getD_eq_getElem?_getD, List.getElem?_eq_getElem h]
  simp
theorem flat_lt {ls : List (List Nat)} (h : ∀ k, k < ls.length → ∀ c ∈ ls.getD k [], c < 256) (k : Nat) : ∀ c ∈ (ls.take k).flatten, c < 256 := by
  intro c hc
  obtain ⟨l, hl, hcl⟩ := List.mem_flatten.1 hc
  obtain ⟨i, hi, rfl⟩ := List.getElem_of_mem (List.mem_of_mem_take hl)
  have := h i hi
  rw [List.getD_eq_getElem?_getD, List.getElem?_eq_getElem hi] at this
  exact this c hcl
theorem add_none (b off j : Nat) : (⟨b, off, none⟩ : Addr).add j = ⟨b, off + j, none⟩ := by
  by_cases h : j = 0 <;> simp [Addr.add, h]
theorem ret_intJ {k : IntKind} {a b : Int} (h : a = b) : Ending.returned (.int k a) = .returned (.int k b) := by rw [h]
end Go.Proofs.YtcadlhpgapdgdaaGreatDoor
