/- VFlat, VTurn -/
import Derived.Test.YthhlpjhkeendcaaGreatDoorS11
import Derived.Test.YthhlpjhkeendcaaGreatDoorS07
import Derived.Test.YthhlpjhkeendcaaGreatDoorProg
import Derived.Maps.AppendAt
import Derived.RangeFuncBox
import Derived.Laws.Bits64
import Derived.WalkLawsBesides
import Derived.Handy
import Derived.Outline
namespace Go.Proofs.YthhlpjhkeendcaaGreatDoor
open Go.RowKit
set_option linter.unusedVariables false
set_option linter.unusedSimpArgs false
def flat : List V → List Value
  | [] => []
  | x :: l => words x ++ flat l
theorem flat_append (l m : List V) : flat (l ++ m) = flat l ++ flat m := by
  induction l with
  | nil => rfl
  | cons x l ih => rw [List.cons_append, flat, flat, ih, List.append_assoc]
theorem flat_get (l : List V) (i q : Nat) (hi : i < l.length) (hq : q < 5) : (flat l)[i * 5 + q]? = (words l[i])[q]? := by
  induction l generalizing i with
  | nil => simp at hi
  | cons x l ih =>
    rw [flat]
    cases i with
    | zero =>
      rw [List.getElem?_append_left (by simp [words]; omega)]
      simp
    | succ i =>
      rw [List.getElem?_append_right (by simp [words]; omega), show (i + 1) * 5 + q - (words x).length = i * 5 + q by simp [words]; omega, ih i (by simpa using hi)]
      rfl
theorem flat_row {w : World} {base : Nat} {t : TypeId} {n g cap : Nat} {l : List V} (h : w.ownsRow base t 5 (.slice (some ⟨g, 0, none⟩) n cap) n (flat l)) : Row w g 0 l := by
  intro i hi
  have hc := h.cells (g := g) rfl
  have q : ∀ q, q < 5 → ∀ u, (words l[i])[q]? = some u → w.cell? ⟨g, 0 + i * 5 + q, none⟩ = some u := fun q hq u hu => by
    have := hc (i * 5 + q) u (by rw [flat_get l i q hi hq]; exact hu)
    rw [show (⟨g, 0 + i * 5 + q, none⟩ : Addr) = (⟨g, 0, none⟩ : Addr).add (i * 5 + q) by
      by_cases h : i * 5 + q = 0 <;> simp [Addr.add, h] <;> omega]
    exact this
  exact ⟨q 0 (by omega) _ rfl, q 1 (by omega) _ rfl, q 2 (by omega) _ rfl, q 3 (by omega) _ rfl, q 4 (by omega) _ rfl⟩
theorem grown_of_below {w w' : World} (h : Below w.heap.size w w') : w.grownBy w' none := ⟨h.os, h.tape, h.output, h.size, fun k hk _ => h.block k hk⟩
theorem V.words_one (x : V) : ∀ u ∈ words x, u.oneCell' = true := fun u hu => by
  simp only [words, List.mem_cons, List.not_mem_nil, or_false] at hu
  rcases hu with rfl | rfl | rfl | rfl | rfl <;> rfl
def T.turn : T → T := V.fold (fun p ts => T.of p.k (bits BinOp.xor IntKind.u64 p.n 1) p.s p.e ts) (T.of 0 0 ⟨#[]⟩ 0 [])
theorem T.turn_of (k n : Int) (s : ByteArray) (e : Int) (l : List T) : T.turn (T.of k n s e l) = T.of k (bits BinOp.xor IntKind.u64 n 1) s e (l.map T.turn) := by
  unfold T.turn T.of
  rw [V.fold_of]
theorem xor_range {n : Int} (h0 : 0 ≤ n) (h1 : n ≤ 18446744073709551615) : 0 ≤ bits BinOp.xor IntKind.u64 n 1 ∧ bits BinOp.xor IntKind.u64 n 1 ≤ 18446744073709551615 := by
  obtain ⟨m, rfl⟩ : ∃ m : Nat, n = m := ⟨n.toNat, by omega⟩
  have h := bits_xor_u64_nat m 1 (by omega) (by omega)
  have hx : m ^^^ 1 < 2 ^ 64 := Nat.xor_lt_two_pow (by omega) (by omega)
  rw [show ((1 : Nat) : Int) = 1 from rfl] at h
  rw [h]
  omega
def TurnOk (x : V) : Prop := T.wt x.t ≤ 100000 → ∀ (n₀ : Nat) (w : World), n₀ ≤ w.heap.size → Lies n₀ w x →
  Calls Tryz.prog 12 #[x.val] w fun e w' => ∃ y : V, e = .returned (.agg #[.int .i64 y.k, .int .u64 y.n, .string y.s, .slice y.a y.l.length y.c, .int .i64 y.e]) ∧
    Hid (y.t = T.turn x.t ∧ LiesIn (fun b => w.heap.size ≤ b ∧ b < w'.heap.size) w' y) ∧ Below w.heap.size w w'
def TurnSoFar (l : List V) (B j : Nat) (lv : Value) (wr : World) : Prop := ∃ l' : List V, V.ts l' = (V.ts (l.take j)).map T.turn ∧ wr.ownsRow B 25 5 lv j (flat l') ∧
  ∀ x ∈ l', LiesIn (fun b => B ≤ b ∧ b < wr.heap.size ∧ some b ≠ lv.ownBlock) wr x
theorem TurnSoFar.next {l : List V} {B j A : Nat} {lv v' : Value} {wr w1 w2 : World} {y : V} (l' : List V) (h1 : V.ts l' = (V.ts (l.take j)).map T.turn) (h2 : wr.ownsRow B 25 5 lv j (flat l')) (h3 : ∀ x ∈ l', LiesIn (fun b => B ≤ b ∧ b < wr.heap.size ∧ some b ≠ lv.ownBlock) wr x) (hj : j < l.length) (hB : B ≤ wr.heap.size) (hb : Below wr.heap.size wr w1) (ht : y.t = T.turn l[j].t)
    (hy : LiesIn (fun b => wr.heap.size ≤ b ∧ b < w1.heap.size) w1 y) (hs : w1.heap.size ≤ A) (hA : w2.ownsRow B 25 5 v' (j + 1) (flat l' ++ words y)) (hk : ∀ b, b < w1.heap.size → some b ≠ lv.ownBlock → Same w1 w2 b) (hs2 : w1.heap.size ≤ w2.heap.size)
    (hv : v'.ownBlock = lv.ownBlock ∨ v'.ownBlock = some A) : TurnSoFar l B (j + 1) v' w2 := by
  have hlt : ∀ g, lv.ownBlock = some g → g < wr.heap.size := fun g hg => by
    rcases h2.2 with ⟨rfl, _⟩ | ⟨g', cap, cur, rfl, _, hgg, _⟩
    · cases hg
    · cases hg
      exact (Array.getElem?_eq_some_iff.1 hgg).1
  refine ⟨l' ++ [y], ?_, ?_, fun x hx => ?_⟩
  · rw [List.take_succ_eq_append_getElem hj]
    simp only [V.ts_map, List.map_append, List.map_cons, List.map_nil] at h1 ⊢
    rw [h1, ht]
  · rw [flat_append]
    rw [show flat [y] = words y by simp [flat]]
    exact hA
  · rcases List.mem_append.1 hx with hx | hx
    · refine (h3 x hx).keep (fun b hq o => ?_) (fun b hq => ?_)
      · have hsz := hb.size
        exact (hk b (by omega) hq.2.2 o).trans (hb.cell (p := ⟨b, o, none⟩) hq.2.1)
      · have hsz := hb.size
        refine ⟨hq.1, by omega, ?_⟩
        rcases hv with hv | hv
        · rw [hv]; exact hq.2.2
        · rw [hv]; intro e; cases e; omega
    · obtain rfl : x = y := by simpa using hx
      refine hy.keep (fun b hq o => ?_) (fun b hq => ?_)
      · refine hk b hq.2 (fun e => ?_) o
        have := hlt b e.symm
        omega
      · refine ⟨by omega, by omega, ?_⟩
        rcases hv with hv | hv
        · rw [hv]
          intro e
          have := hlt b e.symm
          omega
        · rw [hv]; intro e; cases e; omega
end Go.Proofs.YthhlpjhkeendcaaGreatDoor
