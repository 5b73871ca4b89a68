
/- Stage 13: gaps of a table, where fewer numbers are asked for than it has. -/
import Derived.Test.YtondbhdlccpklaaQNote
import Derived.Maps.AppendAt
import Derived.Laws.OwnMore
namespace Go.Proofs.Ytondbhdlccpklaa
open Go.RowKit Go.Maps
set_option linter.unusedVariables false
set_option linter.unusedSimpArgs false

def pdL (p : Pd) : List Value := [.int .i64 p.1, .int .i64 p.2.1, .string p.2.2]
def flatP (ps : List Pd) : List Value := ps.flatMap pdL
/-- a slice of numbers in a row of its own, from base on -/
def OwnI (w : World) (base : Nat) (v : Value) (ds : List Int) : Prop := w.ownsRow base 3 1 v ds.length (ds.map (Value.int .i64))
def OwnP (w : World) (base : Nat) (v : Value) (ps : List Pd) : Prop := w.ownsRow base 75 3 v ps.length (flatP ps)
theorem own_at {w w' : World} {base : Nat} {e : TypeId} {size : Nat} {v : Value} {n : Nat} {xs : List Value} (h : w.ownsRow base e size v n xs) (hb : ∀ g, v.ownBlock = some g → w'.heap[g]? = w.heap[g]?) : w'.ownsRow base e size v n xs := by
  obtain ⟨h1, h2⟩ := h
  refine ⟨h1, ?_⟩
  rcases h2 with h2 | ⟨g, cap, cur, rfl, r1, r2, r3⟩
  · exact .inl h2
  · exact .inr ⟨g, cap, cur, rfl, r1, (hb g rfl).trans r2, r3⟩
theorem own_below {w w' : World} {base : Nat} {e : TypeId} {size : Nat} {v : Value} {n : Nat} {xs : List Value} (h : w.ownsRow base e size v n xs) (hb : Below w.heap.size w w') : w'.ownsRow base e size v n xs :=
  own_at h fun g hg => hb.block g (h.lt g hg).2
theorem Try.infoInt : (Try.prog.info? 3).map (fun i => (i.zero, i.size, i.bytes)) = some (some (.int .i64 0), 1, 8) := by kernel_rfl
theorem Try.infoPd : (Try.prog.info? 75).map (fun i => (i.zero, i.size, i.bytes)) = some (some (pdV pd0), 3, 32) := by kernel_rfl
def gapA (L : List (Int × Pd)) (first : Int) (m : Nat) : List Int := ((List.range m).filter fun (d : Nat) => hasK L ((first + (d : Int)) % 4294967296)).map fun (d : Nat) => (d : Int)
theorem gapA_succ (L : List (Int × Pd)) (first : Int) (m : Nat) : gapA L first (m + 1) = gapA L first m ++ (if hasK L ((first + (m : Int)) % 4294967296) then [(m : Int)] else []) := by
  unfold gapA
  rw [List.range_succ, List.filter_append, List.map_append]
  congr 1
  by_cases h : hasK L ((first + (m : Int)) % 4294967296) = true
  · simp [h]
  · simp [h]
theorem gapA_len (L : List (Int × Pd)) (first : Int) (m : Nat) : (gapA L first m).length ≤ m := by
  unfold gapA
  rw [List.length_map]
  exact Nat.le_trans (List.length_filter_le _ _) (by simp)
set_option maxRecDepth 100000 in
set_option maxHeartbeats 1000000 in
theorem gaps_few (b : Nat) (L : List (Int × Pd)) (first far : Int) (w : World) (hT : TbP w b L) (hf : far < (L.length : Int)) (hlo : -2147483648 ≤ far) (hL : L.length ≤ 4294967296) :
    Calls Try.prog 78 #[.map (some b), .int .i64 first, .int .i64 far] w fun e w' => ∃ v, e = .returned v ∧ OwnI w' w.heap.size v (gapA L first (far + 1).toNat) ∧ Below w.heap.size w w' := by
  obtain ⟨i0, hi, hz0, hz1, hz2⟩ := info_parts Try.infoInt
  obtain ⟨m, hm⟩ : ∃ m, m = (far + 1).toNat := ⟨_, rfl⟩
  have hfar : far ≤ 4294967296 := by omega
  have HT := hide hT
  have hbl := hT.lt
  have HM : Hid (∀ j : Nat, j < m ↔ (j : Int) < far + 1) := fun j => by omega
  have hml : Hid (m ≤ 4294967296) := by show _ ≤ _; omega
  rw [← hm]
  obtain ⟨n, hn⟩ : ∃ n, n = L.length := ⟨_, rfl⟩
  rw [← hn] at hf
  have HN := hide hn
  clear hT hm hL hn
  go_enter Try.func78, Try.ntmps78
  go_wp2_with (at_len; refine len_P rfl _ rfl b rfl L HT.out ?_; rw [← HN.out])
  clear hf hlo
  go_loopw [7, 17] (fun v i wr => ∃ j : Nat, i = .int .i64 j ∧ j ≤ m ∧ OwnI wr w.heap.size v (gapA L first j) ∧ Below w.heap.size w wr) (fun _ i _ => m - (intOf i).toNat)
  case atStart => exact ⟨0, rfl, Nat.zero_le _, ⟨rfl, .inl ⟨rfl, rfl⟩⟩, Below.refl _ _⟩
  case round =>
    obtain ⟨j, rfl, hj, ho, hb⟩ := hrel
    by_cases hjm : j < m
    · have hjf := (HM.out j).1 hjm
      have HO := hide ho
      have HB := hide hb
      obtain ⟨key, hkey⟩ : ∃ key, key = (first + (j : Int)) % 4294967296 := ⟨_, rfl⟩
      have HK := hide hkey
      have HP := hide (hasP_any b L key wr (HT.out.at (hb.block b hbl)) (wf_word (by omega)))
      have hsz := hb.size
      have HG := hide (gapA_succ L first j)
      rw [← HK.out] at HG
      have hjb : (j : Int) ≤ 4294967296 := by have := hml.out; omega
      clear ho hb hkey
      have hla : Hid ((gapA L first j).length ≤ 4294967296) := by
        have := gapA_len L first j
        have := hml.out
        show _ ≤ _
        omega
      cases hx : hasK L key
      · rw [hx] at HP HG
        clear hx
        go_wp2_with (first | (go_at_call 62; refine (add_any _ _ _).mono ?_; rintro e1 w1 ⟨rfl, rfl⟩; rw [← HK.out]) | (go_at_call 59; refine HP.out.mono ?_; rintro e2 w2 ⟨rfl, hb2⟩))
        go_roundw
        case rel => exact ⟨j + 1, by go_num, by omega, by rw [HG.out]; simpa [OwnI] using own_below HO.out hb2, belOn HB.out hsz hb2⟩
        case measure => simp [intOf]; omega
      · rw [hx] at HP HG
        clear hx
        go_wp2_with (first | (go_at_call 62; refine (add_any _ _ _).mono ?_; rintro e1 w1 ⟨rfl, rfl⟩; rw [← HK.out]) | (go_at_call 59; refine HP.out.mono ?_; rintro e2 w2 ⟨rfl, hb2⟩) | (at_builtin; refine wpList_append_own_at _ rfl _ _ 68 rfl w.heap.size 3 i0 (.int .i64 0) 1 8 Try.underlying68 hi hz0 hz1 hz2 rfl (by decide) _ _ _ rfl ((own_below HO.out hb2).alloc _) ⟨w2.heap.size, 0, none⟩ 1 1 [.int .i64 j] rfl rfl (cell_one_new _ _ _) (ints_oneCell .i64 [(j : Int)]) (by have := hla.out; unfold maxLen; omega) (by have := hla.out; omega) (by have := hb2.size; simp; omega) ?_; intro v' w3 hown' hgrow hnil hloc))
        go_roundw
        case rel =>
          have h2 : Below w.heap.size w w2 := belOn HB.out hsz hb2
          refine ⟨j + 1, by go_num, by omega, ?_, ?_⟩
          · rw [HG.out]
            simpa [OwnI] using hown'
          · refine (bel1 h2 (by have := hb2.size; omega) _).grown hgrow (by have := hb2.size; simp; omega) (fun q hq => ((own_below HO.out hb2).lt q hq).1)
        case measure => simp [intOf]; omega
    · obtain rfl : j = m := by omega
      have hjf : ¬ ((j : Int) < far + 1) := fun h => hjm ((HM.out j).2 h)
      have HO := hide ho
      have HB := hide hb
      clear ho hb
      go_wp2
      go_ret
      exact ⟨_, rfl, HO.out, HB.out⟩
end Go.Proofs.Ytondbhdlccpklaa
