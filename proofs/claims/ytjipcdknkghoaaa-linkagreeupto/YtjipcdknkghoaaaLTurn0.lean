
/- LinkAgree: a turn: what comes. -/
import Derived.Test.YtjipcdknkghoaaaLComR
import Derived.Test.YtjipcdknkghoaaaLComS
namespace Go.Proofs.Ytjipcdknkghoaaa
open Go.RowKit Go.Maps
set_option linter.unusedVariables false
set_option linter.unusedSimpArgs false

def qk (kd : Int) : Int := Int.tmod (Int.tmod kd 6 + 6) 6
theorem qk_in (kd : Int) : 0 ≤ qk kd ∧ qk kd < 6 := by
  unfold qk
  have h1 : -6 < Int.tmod kd 6 ∧ Int.tmod kd 6 < 6 := by
    constructor
    · rcases Int.le_total 0 kd with h | h
      · have := Int.tmod_nonneg 6 h; omega
      · have h2 : Int.tmod kd 6 = -(Int.tmod (-kd) 6) := by rw [Int.neg_tmod]; omega
        have h3 := Int.tmod_lt_of_pos (-kd) (show (0 : Int) < 6 by decide)
        omega
    · exact Int.tmod_lt_of_pos kd (by decide)
  have h0 : 0 ≤ Int.tmod kd 6 + 6 := by omega
  exact ⟨Int.tmod_nonneg 6 h0, Int.tmod_lt_of_pos _ (by decide)⟩
theorem qk_low (kd : Int) : -6 < Int.tmod kd 6 ∧ Int.tmod kd 6 < 6 := by
  constructor
  · rcases Int.le_total 0 kd with h | h
    · have := Int.tmod_nonneg 6 h; omega
    · have h2 : Int.tmod kd 6 = -(Int.tmod (-kd) 6) := by rw [Int.neg_tmod]; omega
      have h3 := Int.tmod_lt_of_pos (-kd) (show (0 : Int) < 6 by decide)
      omega
  · exact Int.tmod_lt_of_pos kd (by decide)
/-- between two turns -/
def TurnI (z : Nat) (w0 : World) (k gs gr N M : Nat) (sec : Bool) (md n0 : Int) (w : World) : Prop := ∃ s r Ts Tr vO vB vG O B G e p L a b, Pm z w0 w k gs gr N s r Ts Tr vO vB vG O B G ∧ Al sec md N M n0 e p L a b s r Ts Tr O B G
def tnA (kd n : Int) (f : Bool) : Array Value := #[.int .i64 kd, .int .i64 n, .bool f]
section
variable {z : Nat} {w0 : World} {k gs gr N M : Nat} {sec : Bool} {md n0 e p L a b : Int} {s r : Lk} {Ts Tr : List (ByteArray × Dv)} {vO vB vG : Value} {O B : List Itm} {G : List ByteArray}
theorem Al.more (h : Al sec md N M n0 e p L a b s r Ts Tr O B G) {M' : Nat} (hm : M ≤ M') : Al sec md N M' n0 e p L a b s r Ts Tr O B G := ⟨h.ag, h.tg, h.lf, Nat.le_trans h.lo hm, Nat.le_trans h.lb hm, Nat.le_trans h.ln hm⟩
set_option maxRecDepth 100000 in
set_option maxHeartbeats 8000000 in
theorem turn_3 (kd n : Int) (f : Bool) (w : World) (h : TurnI z w0 k gs gr N M sec md n0 w) (hM : M ≤ 999999999) (hk : qk kd = 3) :
    Calls Try.prog 7 #[.pointer (some ⟨k, 0, none⟩), .agg (tnA kd n f), .bool sec, .int .i64 md] w fun e w' => e = .returned (.bool true) ∧ ∃ N', TurnI z w0 k gs gr N' (M + 1) sec md n0 w' := by
  obtain ⟨s, r, Ts, Tr, vO, vB, vG, O, B, G, e, p, L, a, b, hp, ha⟩ := h
  unfold tnA
  have hlow := qk_low kd
  have hb1 := bel1 (Below.refl w.heap.size w) (Nat.le_refl _) (.cells #[.int .i64 kd, .int .i64 n, .bool f] 35)
  have HC := hide (comesR (k := k) n _ O.length ⟨r, Tr, vO, vG, O, G, p, rfl, hp.go hb1, ha⟩ (by omega) (by have := ha.lo; omega))
  unfold qk at hk
  clear hp ha hb1
  go_enter Try.func7, Try.ntmps7
  go_wp2_with (first | (go_at_call 8; refine HC.out.mono ?_; rintro e1 w1 ⟨rfl, m, hinv, _⟩))
  go_ret
  obtain ⟨r', Tr', vO', vG', O', G', p', _, h1, h2⟩ := hinv
  exact ⟨rfl, N, s, r', Ts, Tr', vO', vB, vG', O', B, G', e, p', L, a, b, h1, h2.more (by omega)⟩
end
end Go.Proofs.Ytjipcdknkghoaaa
