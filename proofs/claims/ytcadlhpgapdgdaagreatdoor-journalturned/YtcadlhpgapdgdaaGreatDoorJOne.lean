
/- Stage 20: octet's calls at the widths that a log has. -/
import Derived.Test.YtcadlhpgapdgdaaGreatDoorJGet
import Derived.Test.YtcadlhpgapdgdaaGreatDoorJSum
namespace Go.Proofs.YtcadlhpgapdgdaaGreatDoor
open Go.RowKit
set_option linter.unusedVariables false
set_option linter.unusedSimpArgs false
theorem Rd.drop {w : World} {b off n : Nat} {l : List Nat} (h : Rd w (some ⟨b, off, none⟩) n l) {k : Nat} (hk : k ≤ n) : Rd w (some ⟨b, off + k, none⟩) (n - k) (l.drop k) := by
  obtain ⟨h1, h2, h3⟩ := h
  refine ⟨by rw [List.length_drop]; omega, fun c hc => h2 c (List.mem_of_mem_drop hc), fun h0 => ?_⟩
  obtain ⟨b', off', e, hlt, hc⟩ := h3 (by omega)
  simp only [Option.some.injEq, Addr.mk.injEq, and_true] at e
  obtain ⟨rfl, rfl⟩ := e
  refine ⟨b, off + k, rfl, hlt, fun j hj => ?_⟩
  rw [Nat.add_assoc, hc (k + j) (by omega)]
  simp [List.getD_eq_getElem?_getD]
theorem Rd.take {w : World} {a : Option Addr} {n : Nat} {l : List Nat} (h : Rd w a n l) {k : Nat} (hk : k ≤ n) : Rd w a k (l.take k) := by
  obtain ⟨h1, h2, h3⟩ := h
  refine ⟨by rw [List.length_take]; omega, fun c hc => h2 c (List.mem_of_mem_take hc), fun h0 => ?_⟩
  obtain ⟨b', off', e, hlt, hc⟩ := h3 (by omega)
  refine ⟨b', off', e, hlt, fun j hj => ?_⟩
  rw [hc j (by omega)]
  simp [List.getD_eq_getElem?_getD, hj]
theorem get4 (a : Option Addr) (n cap i : Nat) (l : List Nat) (w : World) (hik : i + 4 ≤ n) (hcap : n ≤ cap) (hn : n ≤ 281474976710656) (hrd : Rd w a n l) :
    Calls Tryz.prog 183 #[.slice a n cap, .int .i64 (i : Int), .int .i64 4] w fun e w' => e = .returned (.tuple #[.int .u64 ((getN ((l.drop i).take 4) : Nat) : Int), .int .i64 0]) ∧ w = w' :=
  get_yes a n cap i 4 l w (by omega) (by omega) hik hcap hn hrd
theorem get4_zero (a : Option Addr) (n cap : Nat) (l : List Nat) (w : World) (hik : 4 ≤ n) (hcap : n ≤ cap) (hn : n ≤ 281474976710656) (hrd : Rd w a n l) :
    Calls Tryz.prog 183 #[.slice a n cap, .int .i64 0, .int .i64 4] w fun e w' => e = .returned (.tuple #[.int .u64 ((getN (l.take 4) : Nat) : Int), .int .i64 0]) ∧ w = w' :=
  get_yes a n cap 0 4 l w (by omega) (by omega) (by omega) hcap hn hrd
theorem sum1 (g : Nat) (a : Option Addr) (m c : Nat) (l : List Nat) (w : World) (hg : w.cell? ⟨g, 0, none⟩ = some (.slice a m c)) (hm : m ≤ 140737488355328) (hrd : Rd w a m l) :
    Calls Tryz.prog 175 #[.slice (some ⟨g, 0, none⟩) 1 1] w fun e w' => e = .returned (.int .u32 ((sumN l : Nat) : Int)) ∧ Below w.heap.size w w' := by
  have h := sum_any g 0 1 1 [l] w (by omega) rfl (fun _ => by
    have := block_lt_of_cell hg
    exact this) (fun k hk => by
    have : k = 0 := by omega
    subst this
    exact ⟨a, m, c, hg, hm, hrd⟩)
  simpa [sumN] using h
end Go.Proofs.YtcadlhpgapdgdaaGreatDoor
