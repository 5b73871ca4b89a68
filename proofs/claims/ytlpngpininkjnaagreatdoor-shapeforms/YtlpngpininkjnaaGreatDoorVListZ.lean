import Derived.Test.YtlpngpininkjnaaGreatDoorVCopyZ
import Derived.Test.YtlpngpininkjnaaGreatDoorVWalkZ

/- value.Listed, Mapped, All. -/
namespace Go.Proofs.YtlpngpininkjnaaGreatDoor
open Go.RowKit
set_option linter.unusedVariables false

/-- a list or a map made of values -/
def MadeOf (k : Int) (l : List V) (w : World) (e : Ending) (w' : World) : Prop := ∃ y : V, e = .returned (.agg #[.int .i64 y.k, .int .u64 y.n, .string y.s, .slice y.a y.l.length y.c, .int .i64 y.e]) ∧
  Hid (y.t = T.of k 0 ⟨#[]⟩ 0 (V.ts l) ∧ LiesIn (fun b => w.heap.size ≤ b ∧ b < w'.heap.size) w' y) ∧ Below w.heap.size w w'

set_option maxRecDepth 100000 in
set_option maxHeartbeats 1000000 in
theorem listed_any (l : List V) (a : Option Addr) (c n₀ : Nat) (w : World) (hn : n₀ ≤ w.heap.size) (hc : l.length ≤ c) (hcc : l.length ≤ 2199023255552) (hr : 0 < l.length → ∃ b o, a = some ⟨b, o, none⟩ ∧ b < n₀ ∧ Row w b o l) (ls : ∀ x ∈ l, Lies n₀ w x) :
    Calls Tryz.prog 22 #[.slice a l.length c] w (MadeOf 21 l w) := by
  have HF : Hid (∀ w1, Below w.heap.size w w1 → Calls Tryz.prog 56 #[.slice a l.length c] w1 (CopyAll l w1)) := by
    intro w1 hb
    have hsz := hb.size
    exact copiedList_any l (fun x _ => copied_any x) a c n₀ w1 (by omega) hc hcc (fun h => by
      obtain ⟨b, o, h1, h2, h3⟩ := hr h
      exact ⟨b, o, h1, h2, h3.below hb (by omega)⟩) (fun x hx => (ls x hx).keep hb hn)
  clear hr ls
  go_enter Tryz.func22, Tryz.ntmps22
  go_wp2_with fail
  refine Calls.mono (HF.out _ (bel1 (Below.refl _ _) (Nat.le_refl _) _)) ?_
  rintro e' w1 ⟨a', c', l', rfl, HL, hb1⟩
  have hz : w.heap.size < w1.heap.size := by have := hb1.size; simp at this; omega
  have hbl : Blk w1 w.heap.size 30 5 := by
    refine ⟨_, (hb1.block w.heap.size (by simp)).trans (World.alloc_heap_new _ _), rfl⟩
  obtain ⟨z0, c0⟩ := hbl.some 0 (by omega)
  obtain ⟨z1, c1⟩ := hbl.some 1 (by omega)
  obtain ⟨z2, c2⟩ := hbl.some 2 (by omega)
  obtain ⟨z3, c3⟩ := hbl.some 3 (by omega)
  obtain ⟨z4, c4⟩ := hbl.some 4 (by omega)
  have f0 := hbl.free
  have HB1 := hide hb1
  clear hb1 hbl
  go_wp2
  obtain ⟨h1, h2, h3, h4, h5⟩ := HL.out
  have hsm : ∀ b', b' ≠ w.heap.size → Same w1 (put5 w1 w.heap.size 0 (.of 21 0 ⟨#[]⟩ a' c' 0 l')) b' := fun b' n1 o' => put5_same _ _ _ _ _ n1 o'
  rw [← put5_of] at hsm
  have hbz : Below w.heap.size w _ := put5_below (y := .of 21 0 ⟨#[]⟩ a' c' 0 l') (o := 0) (b := w.heap.size) (belOn (bel1 (Below.refl w.heap.size w) (Nat.le_refl _) _) (by simp) HB1.out) (Nat.le_refl _)
  rw [← put5_of] at hbz
  refine bodyPost_ret (v := .agg #[.int .i64 21, .int .u64 0, .string ⟨#[]⟩, .slice a' l'.length c', .int .i64 0]) (by simp [results, Tryz.results22, go_sem, c0, c1, c2, c3, c4]) rfl ⟨.of 21 0 ⟨#[]⟩ a' c' 0 l', by rw [V.l_of]; rfl, ⟨by rw [V.t_of, h1], .mk ⟨by decide, by decide, by decide, by decide, h2, h3⟩ (fun h0 => ?_) (fun x hx => ?_)⟩, ?_⟩
  · obtain ⟨b, o, ha, hq, hr⟩ := h4 h0
    simp only [World.size_alloc] at hq
    refine ⟨b, o, ha, ?_, hr.same (hsm b (by omega))⟩
    simp [World.setCell]; omega
  · refine (h5 x hx).keep (fun b hq => ?_) (fun b hq => ?_)
    · simp only [World.size_alloc] at hq
      exact hsm b (by omega)
    · simp only [World.size_alloc] at hq
      simp [World.setCell]; omega
  · exact hbz

end Go.Proofs.YtlpngpininkjnaaGreatDoor
