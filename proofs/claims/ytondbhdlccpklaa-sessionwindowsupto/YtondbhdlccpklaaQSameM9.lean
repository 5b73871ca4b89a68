import Derived.Test.YtondbhdlccpklaaQStateM9
import Derived.BigQuiet
import Derived.Deep.QuietTactic

/- Stage 13: samePending. -/
namespace Go.Proofs.Ytondbhdlccpklaa
open Go.RowKit Go.Maps
set_option linter.unusedVariables false
set_option linter.unusedSimpArgs false

/-- a list of deliveries that is read -/
def RdP (w : World) (a : Option Addr) (ps : List Pd) : Prop := ∀ j (hj : j < ps.length), ∃ g, a = some ⟨g, 0, none⟩ ∧ g < w.heap.size ∧ w.cell? ⟨g, j * 3, none⟩ = some (.int .i64 ps[j].1) ∧ w.cell? ⟨g, j * 3 + 1, none⟩ = some (.int .i64 ps[j].2.1) ∧ w.cell? ⟨g, j * 3 + 2, none⟩ = some (.string ps[j].2.2)
theorem OwnP.rd {w : World} {base : Nat} {v : Value} {ps : List Pd} (h : OwnP w base v ps) : ∃ a cap, v = .slice a ps.length cap ∧ RdP w a ps ∧ (∀ g o m, a = some ⟨g, o, m⟩ → base ≤ g ∧ g < w.heap.size) := by
  rcases own_formP h with ⟨rfl, rfl⟩ | ⟨g, cap, rfl, r1, r2, r3, r4⟩
  · exact ⟨none, 0, rfl, fun j hj => absurd hj (by simp), fun g o m e => by cases e⟩
  · exact ⟨_, cap, rfl, fun j hj => ⟨g, rfl, r2, r4 j hj⟩, fun g' o m e => by cases e; exact ⟨r1, r2⟩⟩
set_option maxRecDepth 100000 in
set_option maxHeartbeats 2000000 in
theorem same_eq (a b : Option Addr) (ps : List Pd) (c d : Nat) (w : World) (ha : RdP w a ps) (hb : RdP w b ps) (h1 : ps.length ≤ 4294967296) :
    Calls Try.prog 30 #[.slice a ps.length c, .slice b ps.length d] w fun e w' => e = .returned (.bool true) ∧ Below w.heap.size w w' := by
  have HA := hide ha
  have HB := hide hb
  obtain ⟨n, hn⟩ : ∃ n, n = ps.length := ⟨_, rfl⟩
  rw [← hn] at h1 ⊢
  have HN := hide hn
  clear ha hb hn
  go_enter Try.func30, Try.ntmps30
  go_wp2
  go_loopw [5] (fun i wr => ∃ j : Nat, i = .int .i64 j ∧ j ≤ n ∧ Below w.heap.size w wr) (fun i _ => n - (intOf i).toNat)
  case atStart => exact ⟨0, rfl, Nat.zero_le _, Below.refl _ _⟩
  case round =>
    obtain ⟨j, rfl, hj, hbl⟩ := hrel
    have HBl := hide hbl
    by_cases hjn : j < n
    · have hjp : j < ps.length := by have := HN.out; omega
      obtain ⟨g1, e1, q1, q2, q3, q4⟩ := HA.out j hjp
      obtain ⟨g2, e2, r1, r2, r3, r4⟩ := HB.out j hjp
      subst e1
      subst e2
      rw [← hbl.cell (p := ⟨g1, j * 3, none⟩) q1] at q2
      rw [← hbl.cell (p := ⟨g1, j * 3 + 1, none⟩) q1] at q3
      rw [← hbl.cell (p := ⟨g1, j * 3 + 2, none⟩) q1] at q4
      rw [← hbl.cell (p := ⟨g2, j * 3, none⟩) r1] at r2
      rw [← hbl.cell (p := ⟨g2, j * 3 + 1, none⟩) r1] at r3
      rw [← hbl.cell (p := ⟨g2, j * 3 + 2, none⟩) r1] at r4
      have hs := hbl.size
      have q1' : g1 < wr.heap.size := by omega
      have r1' : g2 < wr.heap.size := by omega
      obtain ⟨x, hx⟩ : ∃ x, x = ps[j].1 := ⟨_, rfl⟩
      obtain ⟨y, hy⟩ : ∃ y, y = ps[j].2.1 := ⟨_, rfl⟩
      obtain ⟨z, hz⟩ : ∃ z, z = ps[j].2.2 := ⟨_, rfl⟩
      rw [← hx] at q2 r2
      rw [← hy] at q3 r3
      rw [← hz] at q4 r4
      clear hx hy hz hbl q1 r1
      go_wp2
      go_quiet (fail)
      go_wp2
      exact ⟨⟨j + 1, by go_num, by omega, below_drewN HBl.out nq⟩, by simp [intOf]; omega⟩
    · obtain rfl : j = n := by omega
      clear hbl
      go_wp2
      go_ret
      exact ⟨rfl, HBl.out⟩
end Go.Proofs.Ytondbhdlccpklaa
