
/- Stage 18: slices.Sort and slices.Compact of texts, over a row of the call's own. -/
import Derived.Test.YtmanfakdbmlfeaaDoorRWay
import Derived.Test.YtmanfakdbmlfeaaDoorShelf
import Derived.Sort.OwnSorted
namespace Go.Proofs.YtmanfakdbmlfeaaDoor
open Go.RowKit Go.Sort
set_option linter.unusedVariables false
set_option linter.unusedSimpArgs false
def tL (s : ByteArray) : List UInt8 := s.data.toList
theorem enc_bOf (l : List UInt8) : encStr l = .string (bOf l) := rfl
theorem bOf_tL (s : ByteArray) : bOf (tL s) = s := bOf_data s
theorem tL_bOf (l : List UInt8) : tL (bOf l) = l := by simp [tL, bOf]
def srt (W : List ByteArray) : List ByteArray := ((W.map tL).mergeSort fun x y => decide (x ≤ y)).map bOf
theorem srt_len (W : List ByteArray) : (srt W).length = W.length := by simp [srt]
def cmpct (W : List ByteArray) : List ByteArray := (Lib.compact (W.map tL)).map bOf
theorem holds_way {w : World} {g off : Nat} {cur : Array Value} {W : List ByteArray} (h4 : w.heap[g]? = some (.cells cur 9 (0, 0))) (h6 : w.rangeAt g off (W.flatMap SK.enc)) : Holds encStr w g off (W.map tL).toArray := by
  intro j hj
  have hj' : j < W.length := by simpa using hj
  refine ⟨?_, by simp [World.frozen?, h4]⟩
  have := h6 j (.string W[j]) (by rw [sk_flat, List.getElem?_map, List.getElem?_eq_getElem hj']; rfl)
  rw [this]
  simp [hj', enc_bOf, bOf_tL]
theorem heap_put {w : World} {g off n : Nat} {cur : Array Value} {e : TypeId} {fr : Nat × Nat} (os : Array Obj) (d : Array (List UInt8)) (hb : w.heap[g]? = some (.cells cur e fr)) :
    (grow (putRow encStr (Sort.ahead w n) g off d) os).heap[g]? = some (.cells (putCells encStr off d cur) e fr) := by
  have hg : g < w.heap.size := (Array.getElem?_eq_some_iff.1 hb).1
  rw [heap_grow_old _ _ (by simpa using hg)]
  simp [putRow, mapBlock, Sort.ahead, Array.getElem?_modify, hb, onCells]
theorem grown_put {w : World} {g off n : Nat} (os : Array Obj) (d : Array (List UInt8)) : w.grownBy (grow (putRow encStr (Sort.ahead w n) g off d) os) (some g) := by
  refine ⟨rfl, rfl, rfl, by simp, fun k hk hne => ?_⟩
  rw [heap_grow_old _ _ (by simpa using hk)]
  have : g ≠ k := fun e => hne (by rw [e])
  simp [putRow, mapBlock, Sort.ahead, Array.getElem?_modify, this]
theorem putCells_at {cur : Array Value} {off j : Nat} {d : List (List UInt8)} {x : List UInt8} (hd : off + d.length ≤ cur.size) (hx : d[j]? = some x) : (putCells encStr off d.toArray cur)[off + j]? = some (encStr x) := by
  have hj := (List.getElem?_eq_some_iff.1 hx).1
  have e := (List.getElem?_eq_some_iff.1 hx).2
  have hlt : off + j < cur.size := by omega
  simp [putCells, hlt, hj, e]
/-- a row that is written over: what then stands at its head -/
theorem way_put {w : World} {base g off cap n m : Nat} {cur : Array Value} (os : Array Obj) (d : List (List UInt8)) (W' : List ByteArray) (h1 : base ≤ g) (h3 : cap ≤ maxLen) (h4 : w.heap[g]? = some (.cells cur 9 (0, 0))) (h5 : off + cap * 1 ≤ cur.size) (hd : d.length ≤ cap) (hW : W'.length ≤ d.length) (hx : ∀ (j : Nat) x, W'[j]? = some x → d[j]? = some (tL x)) :
    Wy SK (grow (putRow encStr (Sort.ahead w n) g off d.toArray) os) base (.slice (some ⟨g, off, none⟩) W'.length cap) W' := by
  refine .inr ⟨g, off, cap, _, rfl, h1, by omega, h3, heap_put os _ h4, ?_, fun j v hv => ?_⟩
  · have : (putCells encStr off d.toArray cur).size = cur.size := by simp [putCells]
    rw [this]
    exact h5
  · rw [sk_flat, List.getElem?_map] at hv
    cases hw : W'[j]? with
    | none => rw [hw] at hv; cases hv
    | some x =>
      rw [hw] at hv
      cases hv
      have := putCells_at (off := off) (cur := cur) (by omega) (hx j x hw)
      rw [enc_bOf, bOf_tL] at this
      exact cellOf (heap_put os _ h4) _ _ this
theorem sortS_any (w : World) (base : Nat) (v : Value) (W : List ByteArray) (h : Wy SK w base v W) (hl : W.length ≤ 1000000000) :
    Calls Tryd.prog 39 #[v] w fun e w' => e = .returned (.tuple #[]) ∧ Wy SK w' base v (srt W) ∧ Kp (fun k => v.ownBlock = some k) w w' := by
  rcases h with ⟨rfl, rfl⟩ | ⟨g, off, cap, cur, rfl, h1, h2, h3, h4, h5, h6⟩
  · refine (Tryd.slices_Sort_string_none none 0 w).mono ?_
    rintro e w' ⟨rfl, rfl⟩
    exact ⟨rfl, .inl ⟨rfl, by simp [srt]⟩, Kp.refl _ _⟩
  · have hH := holds_way h4 h6
    have hlt : g < w.heap.size := (Array.getElem?_eq_some_iff.1 h4).1
    have c := Tryd.slices_Sort_string g off cap (W.map tL) w hH hlt (by simp; omega)
    rw [List.length_map] at c
    refine c.mono ?_
    rintro e w' ⟨rfl, n, os, rfl⟩
    refine ⟨rfl, ?_, (Kp.refl _ w).grown (grown_put os _) (fun j e => by cases e; exact .inl rfl)⟩
    have := way_put (w := w) (n := n) (m := 0) os ((W.map tL).mergeSort fun x y => decide (x ≤ y)) (srt W) h1 h3 h4 h5 (by simp; omega) (by simp [srt]) (fun j x hx => by
      unfold srt at hx
      rw [List.getElem?_map] at hx
      cases hm : ((W.map tL).mergeSort fun x y => decide (x ≤ y))[j]? with
      | none => rw [hm] at hx; cases hx
      | some y => rw [hm] at hx; cases hx; rw [tL_bOf])
    rw [srt_len] at this
    exact this
theorem compS_any (w : World) (base : Nat) (v : Value) (W : List ByteArray) (h : Wy SK w base v W) (hl : W.length ≤ 1000000000) (hc : (cmpct W).length ≤ W.length) :
    Calls Tryd.prog 40 #[v] w fun e w' => ∃ v', e = .returned v' ∧ Wy SK w' base v' (cmpct W) ∧ Kp (fun k => v.ownBlock = some k) w w' := by
  rcases h with ⟨rfl, rfl⟩ | ⟨g, off, cap, cur, rfl, h1, h2, h3, h4, h5, h6⟩
  · refine (Tryd.slices_Compact_string_empty none 0 w).mono ?_
    rintro e w' ⟨rfl, rfl⟩
    exact ⟨_, rfl, .inl ⟨rfl, rfl⟩, Kp.refl _ _⟩
  · have hH := holds_way h4 h6
    have c := Tryd.slices_Compact_string g off cap (W.map tL) w hH (by simp; omega) (by simpa using h2)
    rw [List.length_map] at c
    refine c.mono ?_
    rintro e w' ⟨rfl, q, rfl⟩
    have e1 : (Lib.compact (W.map tL)).length = (cmpct W).length := by simp [cmpct]
    refine ⟨_, rfl, ?_, ?_⟩
    · have := way_put (w := w) (n := q) (m := 0) #[] (Lib.compact (W.map tL) ++ List.replicate (W.length - (Lib.compact (W.map tL)).length) []) (cmpct W) h1 h3 h4 h5 (by simp; omega) (by simp [cmpct]) (fun j x hx => by
        unfold cmpct at hx
        rw [List.getElem?_map] at hx
        cases hm : (Lib.compact (W.map tL))[j]? with
        | none => rw [hm] at hx; cases hx
        | some y =>
          rw [hm] at hx
          cases hx
          rw [tL_bOf, List.getElem?_append_left (List.getElem?_eq_some_iff.1 hm).1, hm])
      rw [grow_empty, e1] at this
      rw [e1]
      exact this
    · have := grown_put (w := w) (g := g) (off := off) (n := q) #[] (Lib.compact (W.map tL) ++ List.replicate (W.length - (Lib.compact (W.map tL)).length) []).toArray
      rw [grow_empty] at this
      exact (Kp.refl _ w).grown this (fun j e => by cases e; exact .inl rfl)
end Go.Proofs.YtmanfakdbmlfeaaDoor
