import Derived.Test.YtdcoafpenkofoaaGreatDoorJIterM9

/- Stage 20: batches that are told. -/
namespace Go.Proofs.YtdcoafpenkofoaaGreatDoor
open Go.RowKit
set_option linter.unusedVariables false
set_option linter.unusedSimpArgs false
/-- a batch that is told: its records, and the slice that has them -/
abbrev Bt := List Rc × Value
def AK : WK Bt := { enc := fun r => [if r.2.oneCell' then r.2 else .slice none 0 0], n := 1, bs := 24, t := 29, ts := 24 }
theorem Tryz.infoBss : ∃ i z, Tryz.prog.info? 29 = some i ∧ i.zero = some z ∧ z.cells.size = 1 ∧ i.size = 1 ∧ i.bytes = 24 := by
  have h : (Tryz.prog.info? 29).map (fun i => (i.zero, i.size, i.bytes)) = some (some (.slice none 0 0), 1, 24) := by kernel_rfl
  obtain ⟨i, h1, h2, h3, h4⟩ := info_parts h
  exact ⟨i, _, h1, h2, rfl, h3, h4⟩
theorem akOk : AK.Ok := ⟨fun x => rfl, fun x u hu => by
  simp only [AK, List.mem_cons, List.not_mem_nil, or_false] at hu
  subst hu
  split
  · assumption
  · rfl, Tryz.underlying24, Tryz.infoBss, by decide, by decide, by decide, by decide⟩
theorem ak_enc (l : List Rc) (a : Option Addr) (n c : Nat) : AK.enc (l, .slice a n c) = [.slice a n c] := rfl
structure ToldL (base : Nat) (w : World) (Z : List Bt) : Prop where
  rcs : ToldR base w (Z.flatMap (·.1))
  row : ∀ z ∈ Z, Wy BK w base z.2 z.1
  apt : Z.Pairwise fun a b => ∀ g, a.2.ownBlock = some g → b.2.ownBlock ≠ some g
def batches (Z : List Bt) : List (List (List Nat)) := Z.map fun z => z.1.map (·.1)
theorem ToldL.nil (base : Nat) (w : World) : ToldL base w [] := ⟨ToldR.nil _ _, by simp, by simp⟩
/-- every block that it has is a block of cells of bytes or of slices of bytes -/
theorem ToldL.keep {base : Nat} {w w' : World} {Z : List Bt} (h : ToldL base w Z) (hk : ∀ k cs t f, base ≤ k → w.heap[k]? = some (.cells cs t f) → (t = 5 ∨ t = 23) → w'.heap[k]? = w.heap[k]?) : ToldL base w' Z := by
  refine ⟨h.rcs.keep (fun o ho g hg => ?_), fun z hz => (h.row z hz).at (fun k e => ?_), h.apt⟩
  · obtain ⟨cs, f, h1⟩ := (h.rcs.own o ho).blk hg
    exact hk g cs _ f ((h.rcs.own o ho).lt g hg).1 h1 (.inl rfl)
  · obtain ⟨cs, h1⟩ := (h.row z hz).typ e
    exact hk k cs _ _ ((h.row z hz).lt e).1 h1 (.inr rfl)
theorem ToldL.below {base : Nat} {w w' : World} {Z : List Bt} (h : ToldL base w Z) (hb : Below w.heap.size w w') : ToldL base w' Z :=
  h.keep fun k cs t f _ hk _ => hb.block k (Array.getElem?_eq_some_iff.1 hk).1
theorem ToldL.mono {base b2 : Nat} {w : World} {Z : List Bt} (h : ToldL base w Z) (hb : b2 ≤ base) : ToldL b2 w Z := ⟨h.rcs.mono hb, fun z hz => (h.row z hz).mono hb, h.apt⟩
theorem ToldL.push {base B : Nat} {w : World} {Z : List Bt} {W : List Rc} {v : Value} (h : ToldL base w Z) (hW : Wy BK w base v W) (hR : ToldR base w W) (hB : ∀ g, v.ownBlock = some g → B ≤ g) (hBr : ∀ o ∈ W, ∀ g, o.2.ownBlock = some g → B ≤ g)
    (hZ : ∀ z ∈ Z, ∀ g, z.2.ownBlock = some g → g < B) (hZr : ∀ z ∈ Z, ∀ o ∈ z.1, ∀ g, o.2.ownBlock = some g → g < B) : ToldL base w (Z ++ [(W, v)]) := by
  refine ⟨?_, fun z hz => ?_, List.pairwise_append.2 ⟨h.apt, by simp, fun a ha b hb g hg hbg => ?_⟩⟩
  · rw [List.flatMap_append]
    simp only [List.flatMap_cons, List.flatMap_nil, List.append_nil]
    refine ⟨fun o ho => ?_, List.pairwise_append.2 ⟨h.rcs.apt, hR.apt, fun a ha b hb g hg hbg => ?_⟩⟩
    · rcases List.mem_append.1 ho with ho | ho
      · exact h.rcs.own o ho
      · exact hR.own o ho
    · obtain ⟨z, hz, hza⟩ := List.mem_flatMap.1 ha
      have := hZr z hz a hza g hg
      have := hBr b hb g hbg
      omega
  · rcases List.mem_append.1 hz with hz | hz
    · exact h.row z hz
    · rw [List.mem_singleton.1 hz]; exact hW
  · rw [List.mem_singleton.1 hb] at hbg
    have := hB g hbg
    have := hZ a ha g hg
    omega
end Go.Proofs.YtdcoafpenkofoaaGreatDoor
