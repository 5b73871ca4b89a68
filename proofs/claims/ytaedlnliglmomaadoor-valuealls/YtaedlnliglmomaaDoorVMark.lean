/- longshoreref02's mark, marked. -/
import Derived.Test.YtaedlnliglmomaaDoorVBook
import Derived.Test.YtaedlnliglmomaaDoorVLent
namespace Go.Proofs.YtaedlnliglmomaaDoor
open Go.RowKit
set_option linter.unusedVariables false
set_option linter.unusedSimpArgs false

/-- the mark of the n-th list -/
def markV (i : Nat) : V := .of (-1000 - i) i ⟨#[]⟩ none 0 0 []

set_option maxRecDepth 100000 in
set_option maxHeartbeats 1000000 in
theorem mark_any (n : Nat) (hn : n ≤ 2199023255552) (w : World) :
    Calls Tryd.prog 40 #[.int .i64 n] w fun e w' => e = .returned (.agg #[.int .i64 (-1000 - (n : Int)), .int .u64 n, .string ⟨#[]⟩, .slice none 0 0, .int .i64 0]) ∧ Below w.heap.size w w' := by
  have h1 : (-9223372036854775808 : Int) ≤ -1000 - (n : Int) := by omega
  have h2 : -1000 - (n : Int) ≤ 9223372036854775807 := by omega
  go_enter Tryd.func40, Tryd.ntmps40
  go_wp2
  have hh := World.alloc_heap_new w (Obj.cells #[.int .i64 (-1000 - (n : Int)), .int .u64 n, .string ⟨#[]⟩, .slice none 0 0, .int .i64 0] 25)
  have hbb : Below w.heap.size w (w.alloc (Obj.cells #[.int .i64 (-1000 - (n : Int)), .int .u64 n, .string ⟨#[]⟩, .slice none 0 0, .int .i64 0] 25)) := bel1 (Below.refl _ _) (Nat.le_refl _) _
  generalize w.alloc (Obj.cells #[.int .i64 (-1000 - (n : Int)), .int .u64 n, .string ⟨#[]⟩, .slice none 0 0, .int .i64 0] 25) = W at hh hbb ⊢
  have j0 : W.cell? ⟨w.heap.size, 0, none⟩ = some (.int .i64 (-1000 - (n : Int))) := by simp [World.cell?, hh]
  have j1 : W.cell? ⟨w.heap.size, 1, none⟩ = some (.int .u64 n) := by simp [World.cell?, hh]
  have j2 : W.cell? ⟨w.heap.size, 2, none⟩ = some (.string ⟨#[]⟩) := by simp [World.cell?, hh]
  have j3 : W.cell? ⟨w.heap.size, 3, none⟩ = some (.slice none 0 0) := by simp [World.cell?, hh]
  have j4 : W.cell? ⟨w.heap.size, 4, none⟩ = some (.int .i64 0) := by simp [World.cell?, hh]
  exact bodyPost_ret (v := .agg #[.int .i64 (-1000 - (n : Int)), .int .u64 n, .string ⟨#[]⟩, .slice none 0 0, .int .i64 0]) (by simp [results, Tryd.results40, go_sem, j0, j1, j2, j3, j4]) rfl ⟨rfl, hbb⟩

/-- a row that is full of the i-th mark -/
def Full (w : World) (a : Option Addr) (m i : Nat) : Prop := 0 < m → ∃ b o, a = some ⟨b, o, none⟩ ∧ Row w b o (List.replicate m (markV i))

set_option maxRecDepth 100000 in
set_option maxHeartbeats 1000000 in
theorem marked_any (a : Option Addr) (m c i : Nat) (hm : m ≤ 2199023255552) (hmc : m ≤ c) (hi : i ≤ 2199023255552) (w : World) (hf : Full w a m i) (hlt : ∀ x, a = some x → x.block < w.heap.size) :
    Calls Tryd.prog 41 #[.slice a m c, .int .i64 i] w fun e w' => e = .returned (.bool true) ∧ Below w.heap.size w w' := by
  have HF := hide hf
  have HLT := hide hlt
  clear hf hlt
  go_enter Tryd.func41, Tryd.ntmps41
  have h1 : (-9223372036854775808 : Int) ≤ -1000 - (i : Int) := by omega
  have h2 : -1000 - (i : Int) ≤ 9223372036854775807 := by omega
  go_wp2
  go_loopw [5] (fun u wr => ∃ (j : Nat), u = .int .i64 j ∧ j ≤ m ∧ Below w.heap.size w wr) (fun u _ => m - (intOf u).toNat)
  case atStart => exact ⟨0, rfl, Nat.zero_le _, Below.refl _ _⟩
  case round =>
    obtain ⟨j, rfl, hj, hb⟩ := hrel
    have hsz := hb.size
    by_cases hjl : j < m
    · obtain ⟨b, o, rfl, hr⟩ := HF.out (by omega)
      have hbl : b < w.heap.size := HLT.out _ rfl
      obtain ⟨x0, x1, x2, x3, x4⟩ := (hr.below hb hbl) j (by simpa using hjl)
      rw [List.getElem_replicate] at x0 x1
      rw [show (markV i).k = -1000 - (i : Int) from rfl] at x0
      rw [show (markV i).n = (i : Int) from rfl] at x1
      clear x2 x3 x4 hr
      go_wp2
      go_roundw
      case rel => exact ⟨j + 1, by go_num, hjl, hb⟩
      case measure => simp [intOf]; omega
    · obtain rfl : j = m := by omega
      go_wp2
      go_ret
      exact ⟨rfl, hb⟩
end Go.Proofs.YtaedlnliglmomaaDoor
