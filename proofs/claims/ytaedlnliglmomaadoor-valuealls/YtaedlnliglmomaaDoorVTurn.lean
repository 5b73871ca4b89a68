/- longshoreref02's Turned. -/
import Derived.Test.YtaedlnliglmomaaDoorProg
import Derived.Test.YtaedlnliglmomaaDoorVCopy
import Derived.Test.YtaedlnliglmomaaDoorVWeigh
import Derived.Test.YtaedlnliglmomaaDoorVFlat
import Derived.Maps.AppendAt
import Derived.RangeFuncBox
import Derived.Laws.Bits64
import Derived.WalkLawsBesides
import Derived.Handy
import Derived.Outline
namespace Go.Proofs.YtaedlnliglmomaaDoor
open Go.RowKit
set_option linter.unusedVariables false
set_option linter.unusedSimpArgs false

/-- a value turned: other numbers, everywhere -/
def T.turn : T → T := V.fold (fun p ts => T.of p.k (bits BinOp.xor IntKind.u64 p.n 1) p.s p.e ts) (T.of 0 0 ⟨#[]⟩ 0 [])
theorem T.turn_of (k n : Int) (s : ByteArray) (e : Int) (l : List T) : T.turn (T.of k n s e l) = T.of k (bits BinOp.xor IntKind.u64 n 1) s e (l.map T.turn) := by
  unfold T.turn T.of
  rw [V.fold_of]
theorem xor_range {n : Int} (h0 : 0 ≤ n) (h1 : n ≤ 18446744073709551615) : 0 ≤ bits BinOp.xor IntKind.u64 n 1 ∧ bits BinOp.xor IntKind.u64 n 1 ≤ 18446744073709551615 := by
  obtain ⟨m, rfl⟩ : ∃ m : Nat, n = m := ⟨n.toNat, by omega⟩
  have h := bits_xor_u64_nat m 1 (by omega) (by omega)
  have hx : m ^^^ 1 < 2 ^ 64 := Nat.xor_lt_two_pow (by omega) (by omega)
  rw [show ((1 : Nat) : Int) = 1 from rfl] at h
  rw [h]
  omega

/-- what Turned is asked, of a value x -/
def TurnOk (x : V) : Prop := T.wt x.t ≤ 100000 → ∀ (n₀ : Nat) (w : World), n₀ ≤ w.heap.size → Lies n₀ w x →
  Calls Tryd.prog 12 #[x.val] w fun e w' => ∃ y : V, e = .returned (.agg #[.int .i64 y.k, .int .u64 y.n, .string y.s, .slice y.a y.l.length y.c, .int .i64 y.e]) ∧
    Hid (y.t = T.turn x.t ∧ LiesIn (fun b => w.heap.size ≤ b ∧ b < w'.heap.size) w' y) ∧ Below w.heap.size w w'

/-- how far the new list has come -/
def TurnSoFar (l : List V) (B j : Nat) (lv : Value) (wr : World) : Prop := ∃ l' : List V, V.ts l' = (V.ts (l.take j)).map T.turn ∧ wr.ownsRow B 25 5 lv j (flat l') ∧
  ∀ x ∈ l', LiesIn (fun b => B ≤ b ∧ b < wr.heap.size ∧ some b ≠ lv.ownBlock) wr x

theorem TurnSoFar.next {l : List V} {B j A : Nat} {lv v' : Value} {wr w1 w2 : World} {y : V} (l' : List V) (h1 : V.ts l' = (V.ts (l.take j)).map T.turn) (h2 : wr.ownsRow B 25 5 lv j (flat l')) (h3 : ∀ x ∈ l', LiesIn (fun b => B ≤ b ∧ b < wr.heap.size ∧ some b ≠ lv.ownBlock) wr x) (hj : j < l.length) (hB : B ≤ wr.heap.size) (hb : Below wr.heap.size wr w1) (ht : y.t = T.turn l[j].t)
    (hy : LiesIn (fun b => wr.heap.size ≤ b ∧ b < w1.heap.size) w1 y) (hs : w1.heap.size ≤ A) (hA : w2.ownsRow B 25 5 v' (j + 1) (flat l' ++ words y)) (hk : ∀ b, b < w1.heap.size → some b ≠ lv.ownBlock → Same w1 w2 b) (hs2 : w1.heap.size ≤ w2.heap.size)
    (hv : v'.ownBlock = lv.ownBlock ∨ v'.ownBlock = some A) : TurnSoFar l B (j + 1) v' w2 := by
  have hlt : ∀ g, lv.ownBlock = some g → g < wr.heap.size := fun g hg => by
    rcases h2.2 with ⟨rfl, _⟩ | ⟨g', cap, cur, rfl, _, hgg, _⟩
    · cases hg
    · cases hg
      exact (Array.getElem?_eq_some_iff.1 hgg).1
  refine ⟨l' ++ [y], ?_, ?_, fun x hx => ?_⟩
  · rw [List.take_succ_eq_append_getElem hj]
    simp only [V.ts_map, List.map_append, List.map_cons, List.map_nil] at h1 ⊢
    rw [h1, ht]
  · rw [flat_append]
    rw [show flat [y] = words y by simp [flat]]
    exact hA
  · rcases List.mem_append.1 hx with hx | hx
    · refine (h3 x hx).keep (fun b hq o => ?_) (fun b hq => ?_)
      · have hsz := hb.size
        exact (hk b (by omega) hq.2.2 o).trans (hb.cell (p := ⟨b, o, none⟩) hq.2.1)
      · have hsz := hb.size
        refine ⟨hq.1, by omega, ?_⟩
        rcases hv with hv | hv
        · rw [hv]; exact hq.2.2
        · rw [hv]; intro e; cases e; omega
    · obtain rfl : x = y := by simpa using hx
      refine hy.keep (fun b hq o => ?_) (fun b hq => ?_)
      · refine hk b hq.2 (fun e => ?_) o
        have := hlt b e.symm
        omega
      · refine ⟨by omega, by omega, ?_⟩
        rcases hv with hv | hv
        · rw [hv]
          intro e
          have := hlt b e.symm
          omega
        · rw [hv]; intro e; cases e; omega
end Go.Proofs.YtaedlnliglmomaaDoor
