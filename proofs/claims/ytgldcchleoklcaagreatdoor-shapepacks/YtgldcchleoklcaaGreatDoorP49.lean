/- HUnB -/
import Derived.Test.YtgldcchleoklcaaGreatDoorP48
import Derived.Test.YtgldcchleoklcaaGreatDoorP42
import Derived.Test.YtgldcchleoklcaaGreatDoorP44
namespace Go.Proofs.YtgldcchleoklcaaGreatDoor
open Go.RowKit
set_option linter.unusedVariables false
set_option linter.unusedSimpArgs false
theorem eqsT_selfU (l : List T) : eqsT l l = true := by
  have h := neg_ords l (fun x _ u => neg_ord x u) l
  have h0 : T.ords l l = 0 := by omega
  unfold eqsT
  simp [h0]
theorem bare_of {Q : Nat → Prop} {w : World} {v : V} (h : LiesIn Q w v) : LiesIn Q w (V.of 0 0 ⟨#[]⟩ v.a v.c 0 v.l) := by
  obtain ⟨k, n, s, a, c, e, l, rfl⟩ := V.ex v
  rw [V.a_of, V.c_of, V.l_of]
  exact .mk ⟨by decide, by decide, by decide, by decide, (LiesIn.ok h).l, (LiesIn.ok h).c⟩ (LiesIn.row h) (LiesIn.sub h)
def C2 (w : World) (b : Nat) (k : Int) (y : V) : Prop := w.cell? ⟨b, 0, none⟩ = some (.int .i64 k) ∧ w.cell? ⟨b, 1, none⟩ = some (.slice y.a y.l.length y.c)
theorem c2_new (w : World) (k : Int) (y : V) : C2 (w.alloc (Obj.cells #[.int .i64 k, .slice y.a y.l.length y.c] 33)) w.heap.size k y := by
  have h := World.alloc_heap_new w (Obj.cells #[.int .i64 k, .slice y.a y.l.length y.c] 33)
  exact ⟨by unfold World.cell?; simp only [h]; rfl, by unfold World.cell?; simp only [h]; rfl⟩
theorem C2.keep {w w' : World} {b : Nat} {k : Int} {y : V} (h : C2 w b k y) (hb : w'.heap[b]? = w.heap[b]?) : C2 w' b k y := ⟨(World.cell?_of_block (a := ⟨b, 0, none⟩) hb).trans h.1, (World.cell?_of_block (a := ⟨b, 1, none⟩) hb).trans h.2⟩
theorem c5_new (w : World) (y : V) : C5 (w.alloc (Obj.cells #[.int .i64 y.k, .int .u64 y.n, .string y.s, .slice y.a y.l.length y.c, .int .i64 y.e] 42)) w.heap.size y := by
  have h := World.alloc_heap_new w (Obj.cells #[.int .i64 y.k, .int .u64 y.n, .string y.s, .slice y.a y.l.length y.c, .int .i64 y.e] 42)
  refine ⟨?_, ?_, ?_, ?_, ?_⟩ <;> (unfold World.cell?; simp only [h]; rfl)
theorem C5.keep {w w' : World} {b : Nat} {y : V} (h : C5 w b y) (hb : w'.heap[b]? = w.heap[b]?) : C5 w' b y := by
  have e : ∀ o, w'.cell? ⟨b, o, none⟩ = w.cell? ⟨b, o, none⟩ := fun o => World.cell?_of_block (a := ⟨b, o, none⟩) hb
  exact ⟨(e _).trans h.1, (e _).trans h.2.1, (e _).trans h.2.2.1, (e _).trans h.2.2.2.1, (e _).trans h.2.2.2.2⟩
end Go.Proofs.YtgldcchleoklcaaGreatDoor
