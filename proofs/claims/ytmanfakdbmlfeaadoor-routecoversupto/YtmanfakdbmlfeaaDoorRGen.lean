
/- Stage 18: strings.SplitN at a point, nine pieces at most; split. -/
import Derived.Test.YtmanfakdbmlfeaaDoorRSplit
import Derived.Deep.OwnRows
namespace Go.Proofs.YtmanfakdbmlfeaaDoor
open Go.RowKit
set_option linter.unusedVariables false
set_option linter.unusedSimpArgs false
/-- the pieces that come out, nine at most -/
def NinePieces (s : ByteArray) (l : List ByteArray) : Prop := l.length ≤ 9 ∧ l.length ≤ s.size + 1 ∧ 1 ≤ l.length ∧ ((pcs s).length ≤ 8 → l = pcs s) ∧ (8 < (pcs s).length → 8 < l.length)
theorem Tryd.infoS : (Tryd.prog.info? 9).map (fun i => (i.zero, i.size, i.bytes)) = some (some (.string ByteArray.empty), 1, 16) := by kernel_rfl
theorem nine_end {s rest : ByteArray} {done : List ByteArray} (hd : done.length ≤ min 9 (s.size + 1) - 1) (h : done ++ pcs rest = pcs s) (hp : pcs rest = [rest] ∨ done.length = min 9 (s.size + 1) - 1) : NinePieces s (done ++ [rest]) := by
  have hl := pcs_len s
  have hn := pcs_ne rest
  have h1 : 1 ≤ (pcs rest).length := by
    cases h2 : pcs rest with
    | nil => exact absurd h2 hn
    | cons _ _ => simp
  have hlen : (pcs s).length = done.length + (pcs rest).length := by rw [← h, List.length_append]
  refine ⟨by simp; omega, by simp; omega, by simp, ?_, ?_⟩
  · intro h8
    rw [← h]
    rcases hp with hp | hp
    · rw [hp]
    · rw [pcs_one (s := rest) (by omega)]
  · intro h8
    rw [List.length_append, List.length_singleton]
    rcases hp with hp | hp
    · rw [hp, List.length_singleton] at hlen
      omega
    · omega
set_option maxHeartbeats 4000000 in
set_option maxRecDepth 1000000 in
theorem genSplit_dot (s : ByteArray) (hs : s.size ≤ 281474976710656) (w : World) :
    Calls Tryd.prog 82 #[.string s, .string ⟨#[46]⟩, .int .i64 0, .int .i64 9] w fun e w' => ∃ l, NinePieces s l ∧ e = .returned (.slice (some ⟨w.heap.size, 0, none⟩) l.length (min 9 (s.size + 1))) ∧ w' = w.alloc (.cells (Lib.cellsOf l (min 9 (s.size + 1))) 9) := by
  obtain ⟨N, hN⟩ : ∃ N, min 9 (s.size + 1) = N := ⟨_, rfl⟩
  have hN9 : N ≤ 9 := by omega
  have hN1 : 1 ≤ N := by omega
  have eN : min (9 : Int) ((s.size : Int) + 1) = (N : Int) := by omega
  have hmk := run_make_row' (P := Tryd.prog) 39 9 (.string ByteArray.empty) 16 Tryd.underlying39 Tryd.infoS rfl .i64 .i64 N (by omega) (by omega)
  have HE : Hid (∀ (rest : ByteArray) (done : List ByteArray), done.length ≤ N - 1 → done ++ pcs rest = pcs s → (pcs rest = [rest] ∨ done.length = N - 1) → NinePieces s (done ++ [rest])) := fun rest done h1 h2 h3 => nine_end (by rw [hN]; exact h1) h2 (by rw [hN]; exact h3)
  rw [hN]
  have HN := hide hN
  clear hN
  go_enter Tryd.func82, Tryd.ntmps82
  go_wp2
  clear hmk
  go_loopg [0, 10] (N - 1) (fun g s0 s10 wr => ∃ (done : List ByteArray) (rest : ByteArray), s0 = .string rest ∧ s10 = .int .i64 done.length ∧ done.length ≤ N - 1 ∧ g = N - 1 - done.length ∧ rest.size ≤ s.size ∧
      wr = w.alloc (.cells (Lib.cellsOf done N) 9) ∧ Hid (done ++ pcs rest = pcs s))
  case atStart => exact ⟨[], s, rfl, rfl, Nat.zero_le _, rfl, Nat.le_refl _, by rw [Lib.cellsOf_nil], rfl⟩
  case round =>
    obtain ⟨done, rest, rfl, rfl, hd, rfl, hrs, rfl, HS⟩ := hrel
    have hnext : (Lib.cellsOf done N)[done.length]? = some (.string ByteArray.empty) := Lib.cellsOf_next (by omega)
    have fin : (pcs rest = [rest] ∨ done.length = N - 1) → NinePieces s (done ++ [rest]) ∧ (Lib.cellsOf done N).setIfInBounds done.length (.string rest) = Lib.cellsOf (done ++ [rest]) N := fun h => ⟨HE.out rest done hd HS.out h, Lib.cellsOf_set (by omega) rest⟩
    by_cases hlt : done.length < N - 1
    · have hltz : ((done.length : Nat) : Int) < (N : Int) - 1 := by omega
      rcases ix_cases rest with hx | ⟨o, hx⟩
      · obtain ⟨f1, f2⟩ := fin (.inl (ix_none hx))
        clear fin
        go_wp2_with fail
        refine (index_dot rest _).mono ?_
        rintro e w' ⟨rfl, rfl⟩
        rw [hx]
        go_wp2
        go_ret
        refine ⟨_, f1, ?_, by rw [← f2]⟩
        rw [List.length_append, List.length_singleton]
        first | rfl | (congr 2 <;> omega)
      · obtain ⟨ho, hp⟩ := ix_hit hx
        have HP := hide hp
        clear hp fin
        have c0 : ¬ ((o : Int) < 0) := by omega
        have c1 : (0 : Int) ≤ ↑o + 0 := by omega
        have c2 : (↑o : Int) ≤ ↑rest.size := by omega
        have c3 : (0 : Int) ≤ ↑o + 1 := by omega
        have c4 : (↑o + 1 : Int) ≤ ↑rest.size := by omega
        go_wp2_with fail
        refine (index_dot rest _).mono ?_
        rintro e w' ⟨rfl, rfl⟩
        rw [hx]
        go_wp2
        go_roundg (N - 1 - (done.length + 1))
        case measure => omega
        case rel =>
          refine ⟨done ++ [rest.extract 0 o], rest.extract (o + 1) rest.size, by first | rfl | (congr 2 <;> omega), by simp, by simp; omega, by simp, by rw [ByteArray.size_extract]; omega, by rw [← Lib.cellsOf_set (by omega)], ?_⟩
          have := HS.out
          rw [HP.out] at this
          show done ++ [rest.extract 0 o] ++ pcs (rest.extract (o + 1) rest.size) = pcs s
          rw [← this]
          simp
    · have hltz : ¬ (((done.length : Nat) : Int) < (N : Int) - 1) := by omega
      obtain ⟨f1, f2⟩ := fin (.inr (by omega))
      clear fin
      go_wp2
      go_ret
      refine ⟨_, f1, ?_, by rw [← f2]⟩
      rw [List.length_append, List.length_singleton]
      first | rfl | (congr 2 <;> omega)
set_option maxHeartbeats 1000000 in
theorem splitN_dot (s : ByteArray) (hs : s.size ≤ 281474976710656) (w : World) :
    Calls Tryd.prog 58 #[.string s, .string ⟨#[46]⟩, .int .i64 9] w fun e w' => ∃ l, NinePieces s l ∧ e = .returned (.slice (some ⟨w.heap.size, 0, none⟩) l.length (min 9 (s.size + 1))) ∧ w' = w.alloc (.cells (Lib.cellsOf l (min 9 (s.size + 1))) 9) := by
  go_enter Tryd.func58, Tryd.ntmps58
  go_wp2_with fail
  refine (genSplit_dot s hs w).mono ?_
  rintro e w' ⟨l, hl, rfl, rfl⟩
  go_wp2
  go_ret
  exact ⟨l, hl, rfl, rfl⟩
/-- a list of texts that can be read -/
def Sl (w : World) (v : Value) (l : List ByteArray) : Prop := ∃ a c, v = .slice a l.length c ∧ l.length ≤ c ∧ c ≤ 1000000000 ∧ ∀ i x, l[i]? = some x → ∃ g off, a = some ⟨g, off, none⟩ ∧ w.cell? ⟨g, off + i, none⟩ = some (.string x)
theorem cellsOf_at {l : List ByteArray} {N i : Nat} {x : ByteArray} (h : l[i]? = some x) : (Lib.cellsOf l N)[i]? = some (.string x) := by
  have hi := (List.getElem?_eq_some_iff.1 h).1
  unfold Lib.cellsOf
  have e := (List.getElem?_eq_some_iff.1 h).2
  simp [List.getElem?_append_left, hi, e]
set_option maxHeartbeats 1000000 in
/-- split: the pieces, if they are no more than eight -/
theorem split_any (s : ByteArray) (hs : s.size ≤ 281474976710656) (w : World) :
    Calls Tryd.prog 42 #[.string s] w fun e w' => Below w.heap.size w w' ∧ ((8 < (pcs s).length ∧ e = .returned (.slice none 0 0)) ∨ ((pcs s).length ≤ 8 ∧ ∃ (g c : Nat) (cs : Array Value), e = .returned (.slice (some ⟨g, 0, none⟩) (pcs s).length c) ∧ w.heap.size ≤ g ∧ (pcs s).length ≤ c ∧ c ≤ 9 ∧ w'.heap[g]? = some (.cells cs 9 (0, 0)) ∧ cs.size = c ∧ ∀ (i : Nat) x, (pcs s)[i]? = some x → cs[i]? = some (Value.string x))) := by
  go_enter Tryd.func42, Tryd.ntmps42
  go_wp2_with fail
  refine (splitN_dot s hs w).mono ?_
  rintro e w' ⟨l, hl, rfl, rfl⟩
  have hb : Below w.heap.size w (w.alloc (.cells (Lib.cellsOf l (min 9 (s.size + 1))) 9)) := (Below.refl _ _).alloc (Nat.le_refl _) _
  obtain ⟨h1, h2, h3, h4, h5⟩ := hl
  by_cases h8 : (pcs s).length ≤ 8
  · have e8 := h4 h8
    clear h4 h5
    subst e8
    have hz : ¬ (8 < ((pcs s).length : Int)) := by omega
    go_wp2
    go_ret
    refine ⟨hb, .inr ⟨h8, _, _, _, rfl, Nat.le_refl _, by omega, by omega, heap_new _ _, Lib.cellsOf_size (by omega), fun i x hx => cellsOf_at hx⟩⟩
  · have h9 := h5 (by omega)
    clear h4 h5
    have hz : (8 < (l.length : Int)) := by omega
    go_wp2
    go_ret
    exact ⟨hb, .inl ⟨by omega, rfl⟩⟩
end Go.Proofs.YtmanfakdbmlfeaaDoor
