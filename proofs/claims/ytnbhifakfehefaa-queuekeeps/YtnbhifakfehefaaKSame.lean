
/- QueueOrder: same. -/
import Derived.Test.YtnbhifakfehefaaKWay
import Derived.Laws.IdiomStrings
import Derived.Lib.AppendStr
import Derived.Laws.BytesArg
namespace Go.Proofs.Ytnbhifakfehefaa
open Go.RowKit
set_option linter.unusedVariables false
set_option linter.unusedSimpArgs false
def mkS (l : List Nat) : ByteArray := ⟨(l.map UInt8.ofNat).toArray⟩
/-- bytes as a text -/
theorem conv_any {w : World} {a : Option Addr} {n : Nat} {l : List Nat} (h : Rd w a n l) (cap : Nat) : (convert 35 9 (.slice a n cap)).run Try.prog w = .ok (.string (mkS l)) w := by
  by_cases hn : 0 < n
  · obtain ⟨b, off, rfl, hlt, hc⟩ := h.2.2 hn
    have hr := run_convert_bytes_back (P := Try.prog) w 35 9 5 ⟨b, off, none⟩ cap (l.map UInt8.ofNat) Try.underlying35 Try.underlying5 Try.underlying9 (fun j hj => by
      rw [List.length_map] at hj
      have e1 : (⟨b, off, none⟩ : Addr).add j = ⟨b, off + j, none⟩ := by by_cases h : j = 0 <;> simp [Addr.add, h]
      rw [e1, hc j (by rw [← h.1]; exact hj)]
      have : l[j] < 256 := h.2.1 _ (List.getElem_mem hj)
      simp [List.getD_eq_getElem?_getD, List.getElem?_eq_getElem hj]
      omega)
    rw [List.length_map, h.1] at hr
    exact hr
  · have h0 : n = 0 := by omega
    subst h0
    have hl : l = [] := List.length_eq_zero_iff.1 h.1
    subst hl
    cases a with
    | none => exact run_convert_bytes_nil (P := Try.prog) w 35 5 Try.underlying35 Try.underlying5 0 cap 9 Try.underlying9
    | some x => exact run_convert_bytes_back (P := Try.prog) w 35 9 5 x cap [] Try.underlying35 Try.underlying5 Try.underlying9 (fun j hj => absurd hj (by simp))
set_option maxRecDepth 100000 in
theorem sameBytes_eq (a a' : Option Addr) (n c c' : Nat) (l : List Nat) (w : World) (h1 : Rd w a n l) (h2 : Rd w a' n l) : Calls Try.prog 20 #[.slice a n c, .slice a' n c'] w fun e w' => e = .returned (.bool true) ∧ w' = w := by
  have hv1 := conv_any h1 c
  have hv2 := conv_any h2 c'
  clear h1 h2
  go_enter Try.func20, Try.ntmps20
  go_wp2
  go_ret
  exact ⟨rfl, rfl⟩
set_option maxRecDepth 100000 in
set_option maxHeartbeats 4000000 in
theorem same_eq (x : Ev) (a' : Option Addr) (c' : Nat) (l : List Nat) (w : World) (h1 : Rd w x.a x.n l) (h2 : Rd w a' x.n l) : Calls Try.prog 14 #[.agg #[.int .i64 x.seq, .int .i64 x.pri, .int .i64 x.exp, .bool x.dur, .int .i64 x.cnt, .int .i64 x.hol, .slice a' x.n c'], .agg #[.int .i64 x.seq, .int .i64 x.pri, .int .i64 x.exp, .bool x.dur, .int .i64 x.cnt, .int .i64 x.hol, .slice x.a x.n x.c]] w fun e w' => e = .returned (.bool true) ∧ Below w.heap.size w w' := by
  obtain ⟨W1, hW1⟩ : ∃ W1, (w.alloc (Obj.cells #[.int .i64 x.seq, .int .i64 x.pri, .int .i64 x.exp, .bool x.dur, .int .i64 x.cnt, .int .i64 x.hol, .slice a' x.n c'] 37)).alloc (Obj.cells #[.int .i64 x.seq, .int .i64 x.pri, .int .i64 x.exp, .bool x.dur, .int .i64 x.cnt, .int .i64 x.hol, .slice x.a x.n x.c] 37) = W1 := ⟨_, rfl⟩
  have hb : Below w.heap.size w W1 := by rw [← hW1]; exact bel1 (bel1 (Below.refl _ _) (Nat.le_refl _) _) (by simp) _
  have HSB := hide (sameBytes_eq a' x.a x.n c' x.c l W1 (h2.below hb) (h1.below hb))
  have g0 : W1.heap[w.heap.size]? = some (.cells #[.int .i64 x.seq, .int .i64 x.pri, .int .i64 x.exp, .bool x.dur, .int .i64 x.cnt, .int .i64 x.hol, .slice a' x.n c'] 37 (0, 0)) := by rw [← hW1]; exact heap_past (heap_new _ _) _
  have g1 : W1.heap[w.heap.size + 1]? = some (.cells #[.int .i64 x.seq, .int .i64 x.pri, .int .i64 x.exp, .bool x.dur, .int .i64 x.cnt, .int .i64 x.hol, .slice x.a x.n x.c] 37 (0, 0)) := by
    rw [← hW1]
    have := heap_new (w.alloc (Obj.cells #[.int .i64 x.seq, .int .i64 x.pri, .int .i64 x.exp, .bool x.dur, .int .i64 x.cnt, .int .i64 x.hol, .slice a' x.n c'] 37)) (Obj.cells #[.int .i64 x.seq, .int .i64 x.pri, .int .i64 x.exp, .bool x.dur, .int .i64 x.cnt, .int .i64 x.hol, .slice x.a x.n x.c] 37)
    simpa using this
  obtain ⟨p0, p1, p2, p3, p4, p5, p6⟩ := ent_cells g0
  obtain ⟨q0, q1, q2, q3, q4, q5, q6⟩ := ent_cells g1
  have HW := hide hW1
  have HB := hide hb
  clear hW1 hb g0 g1 h1 h2
  go_enter Try.func14, Try.ntmps14
  go_wp2_with (first | (rw [HW.out]; refine Shut.out ?_))
  unfold Shut
  go_wp2_with (go_at_call 20; refine Calls.mono HSB.out ?_; rintro e w2 ⟨rfl, rfl⟩)
  go_ret
  exact ⟨rfl, HB.out⟩
end Go.Proofs.Ytnbhifakfehefaa
