
/- Stage 17: an item leaves the list of all. -/
import Derived.Test.YtnbhifakfehefaaKBack
import Derived.Test.YtnbhifakfehefaaDel
namespace Go.Proofs.Ytnbhifakfehefaa
open Go.RowKit Go.Sort
set_option linter.unusedVariables false
set_option linter.unusedSimpArgs false
/-- a pointer to an item, or none -/
def pe (o : Option Nat) : Value := .pointer (o.map fun b => ⟨b, 0, none⟩)
theorem put_heap {α : Type} [Inhabited α] (enc : α → Value) (w : World) (q g off : Nat) (d : Array α) (k : Nat) : (putRow enc (Sort.ahead w q) g off d).heap[k]? = if g = k then (w.heap[k]?).map (onCells (putCells enc off d)) else w.heap[k]? := by
  unfold putRow mapBlock
  simp only [Array.getElem?_modify]
  rfl
theorem dle (L : List Nat) (k : Nat) (hk : k < L.length) : ((L.map some).toArray.toList.take k ++ (L.map some).toArray.toList.drop (k + 1) ++ List.replicate (k + 1 - k) none) = (L.eraseIdx k).map some ++ [none] := by
  rw [List.eraseIdx_eq_take_drop_succ]
  simp
set_option maxHeartbeats 1000000 in
theorem delete_row {w : World} {B : Nat} {A : Value} {L : List Nat} (h : w.ownsRow B 67 1 A L.length (L.map ptr)) (k : Nat) (hk : k < L.length) :
    Calls Try.prog 48 #[A, .int .i64 (k : Int), .int .i64 ((k : Int) + 1)] w fun e w' => ∃ A', e = .returned A' ∧ Hid (w'.ownsRow B 67 1 A' (L.eraseIdx k).length ((L.eraseIdx k).map ptr) ∧ A'.ownBlock = A.ownBlock ∧ w.grownBy w' A.ownBlock) := by
  rcases h.2 with ⟨_, h0⟩ | ⟨g, cap, cur, rfl, hBg, hg, hn, hm, hc, ht⟩
  · omega
  have hcell : ∀ j, j < L.length → cur[j]? = some (ptr (hv L j)) := fun j hj => by
    have e : (cur.toList.take (L.length * 1))[j]? = (L.map ptr)[j]? := by rw [ht]
    rw [List.getElem?_take_of_lt (by omega), List.getElem?_map, hv_get L j hj] at e
    simpa using e
  have hH : Holds pe w g 0 (L.map some).toArray := fun j hj => by
    have hj' : j < L.length := by simpa using hj
    have e1 : ((L.map some).toArray)[j]! = some (hv L j) := by
      rw [getElem!_pos _ j hj]
      simp [hv_eq L j hj']
    rw [e1, Nat.zero_add]
    exact ⟨cellOf hg j _ (hcell j hj'), by simp [World.frozen?, hg]⟩
  obtain ⟨i0, hi0, hz0, hz1, hz2⟩ := info_parts Try.infoP
  have hsz : (L.map some).toArray.size = L.length := by simp
  have q := Try.slices_Delete pe (fun x => rfl) none (fun w1 => Try.zeroValue67 w1) i0 hi0 hz1 g 0 cap k (k + 1) (L.map some).toArray w hH (by rw [hsz]; exact hn) (by unfold maxLen at hm; omega) (by omega) (by rw [hsz]; omega)
  rw [hsz] at q
  refine Calls.mono (by simpa using q) ?_
  rintro e w' ⟨rfl, m, rfl⟩
  have hle : (L.eraseIdx k).length = L.length - 1 := by rw [List.length_eraseIdx]; simp [hk]
  refine ⟨_, rfl, ⟨by simp, .inr ⟨g, cap, putCells pe 0 ((L.eraseIdx k).map some ++ [none]).toArray cur, by rw [hle], hBg, ?_, by omega, hm, by simp [putCells, hc], ?_⟩⟩, rfl, ⟨rfl, rfl, rfl, by simp, fun j hj hne => ?_⟩⟩
  · have hd := dle L k hk
    simp only [List.toList_toArray] at hd
    first
      | (rw [put_heap, if_pos rfl, hg]; simp only [Option.map_some, onCells]; exact congrArg (fun z => some (Obj.cells (putCells pe 0 (List.toArray z) cur) 67 (0, 0))) (by simpa using hd))
      | skip
  · rw [Nat.mul_one]
    apply List.ext_getElem?
    intro j
    by_cases hj : j < (L.eraseIdx k).length
    · have hjd : j < ((L.eraseIdx k).map some ++ [none]).toArray.size := by simp; omega
      have e2 : ((L.eraseIdx k).map some ++ [none]).toArray[j]! = some (hv (L.eraseIdx k) j) := by
        rw [getElem!_pos _ j hjd, hv_eq _ j hj]
        simp [List.getElem_append_left, hj]
      rw [List.getElem?_take_of_lt hj, List.getElem?_map, hv_get _ j hj, Array.getElem?_toList]
      unfold putCells
      rw [Array.getElem?_mapIdx, hcell j (by omega)]
      simp only [Option.map_some]
      rw [if_pos ⟨Nat.zero_le _, by omega⟩, Nat.sub_zero, e2]
      rfl
    · rw [List.getElem?_eq_none (by simp; omega), List.getElem?_eq_none (by simp; omega)]
  · rw [put_heap, if_neg (fun e => hne (by rw [← e]; rfl))]
theorem rows_set' {w : World} {B n : Nat} {v : Value} {xs : List Value} (h : w.ownsRow B 67 1 v n xs) {b o : Nat} (hne : v.ownBlock ≠ some b) (u : Value) : (w.setCell ⟨b, o, none⟩ u).ownsRow B 67 1 v n xs := rows_keep h (fun k e => blk_set_other _ _ _ _ (fun e2 => hne (by rw [← show k = b from e2]; exact e)))
set_option maxRecDepth 100000 in
set_option maxHeartbeats 2000000 in
theorem drop_any (B qb : Nat) (c : Cf) (hi : Int) (A F : Value) (L H : List Nat) (E : Nat → It) (D : Nat → List Nat) (k : Nat) (w : World) (hs : Qs w B qb c hi A F L H E D) (hk : k < L.length) :
    Calls Try.prog 31 #[.pointer (some ⟨qb, 0, none⟩), .int .i64 (k : Int)] w fun e w' => e = .returned (.tuple #[]) ∧ ∃ A', Hid (QB w' qb c hi A' F ∧ w'.ownsRow B 67 1 A' (L.eraseIdx k).length ((L.eraseIdx k).map ptr) ∧ A'.ownBlock = A.ownBlock ∧ Kp (fun j => j = qb ∨ A.ownBlock = some j) w w') := by
  have HDL := hide (delete_row hs.ra k hk)
  have c6 := hs.q.cell.2.2.2.2.2.2.1
  have hql := hs.q.lt
  have HQ := hide hs.q
  have HNE : Hid (∀ j, A.ownBlock = some j → qb ≠ j) := fun j e => hs.q.ne_row hs.ra e
  obtain ⟨a, cap, hA⟩ := row_form hs.ra
  have hL4 := hs.len
  have hw1 : IntKind.i64.wrap ((k : Int) + 1) = (k : Int) + 1 := by rw [IntKind.wrap_i64]; omega
  subst hA
  obtain ⟨nL, hnL⟩ : ∃ nL, L.length = nL := ⟨_, rfl⟩
  rw [hnL] at c6 hL4 hk HDL HQ HNE
  rw [hnL]
  clear hs hnL
  go_enter Try.func31, Try.ntmps31
  go_wp2_with fail
  refine Calls.mono HDL.out ?_
  rintro e w1 ⟨A', rfl, HA⟩
  obtain ⟨r1, r2, r3⟩ := HA.out
  have hq1 : QB w1 qb c hi (.slice a nL cap) F := (r3.block qb hql (fun e => HNE.out qb e.symm rfl)).trans HQ.out
  obtain ⟨a', cap', hA'⟩ := row_form r1
  subst hA'
  have c6' := hq1.cell.2.2.2.2.2.2.1
  have f6' := hq1.free 6
  have hql' := hq1.lt
  have HQ1 := hide hq1
  have HR1 := hide r1
  have HR2 := hide r2
  have HR3 := hide r3
  clear hq1 r1 r2 r3 HA
  go_wp2
  go_end0
  refine ⟨rfl, _, HQ1.out.set6 _, rows_set' HR1.out (fun e => HNE.out qb (by rw [← HR2.out]; exact e) rfl) _, HR2.out, ?_⟩
  exact ((Kp.refl _ w).grown HR3.out (fun j e => .inl (.inr e))).setCell (.inl rfl) _
end Go.Proofs.Ytnbhifakfehefaa
