/- values that came out, in a row of their own. -/
import Derived.Test.YtaedlnliglmomaaDoorVTakes
namespace Go.Proofs.YtaedlnliglmomaaDoor
open Go.RowKit
set_option linter.unusedVariables false
set_option linter.unusedSimpArgs false

/-- values fs that came out, each list in a block of its own, in the row gv -/
structure Gots (B : Nat) (fs : List V) (gv : Value) (wr : World) : Prop where
  size : B ≤ wr.heap.size
  row : wr.ownsRow B 25 5 gv fs.length (flat fs)
  lies : ∀ f ∈ fs, LiesIn (fun b => B ≤ b ∧ b < wr.heap.size ∧ gv.ownBlock ≠ some b) wr f
  owns : OwnsX wr (V.slotss fs)
  apart : ∀ g ∈ blocksOf (V.slotss fs), B ≤ g ∧ g < wr.heap.size ∧ gv.ownBlock ≠ some g
theorem Gots.start {B : Nat} {w : World} (h : B ≤ w.heap.size) : Gots B [] (.slice none 0 0) w :=
  ⟨h, World.ownsRow_nil _ _ _ _, by simp, ⟨by simp [V.slotss], by simp [V.slotss, blocksOf]⟩, by simp [V.slotss, blocksOf]⟩
theorem Gots.below {B : Nat} {fs : List V} {gv : Value} {wr w' : World} (h : Gots B fs gv wr) (hb : Below wr.heap.size wr w') : Gots B fs gv w' := by
  have hs := hb.size
  refine ⟨Nat.le_trans h.size hs, ownsRow_keep h.row (fun g hg => hb.block g (ownsRow_lt h.row hg).2), fun f hf => (h.lies f hf).keep (fun b hq o => World.cell?_of_block (hb.block b hq.2.1)) (fun b hq => ⟨hq.1, Nat.lt_of_lt_of_le hq.2.1 hs, hq.2.2⟩), h.owns.keep (fun g hg => hb.block g (h.apart g hg).2.1), fun g hg => ?_⟩
  obtain ⟨h1, h2, h3⟩ := h.apart g hg
  exact ⟨h1, Nat.lt_of_lt_of_le h2 hs, h3⟩
theorem slotss_snoc (fs : List V) (f : V) : V.slotss (fs ++ [f]) = V.slotss fs ++ f.slots := by rw [V.slotss_append, V.slotss_one]
theorem blocksOf_append (S S' : List Value) : blocksOf (S ++ S') = blocksOf S ++ blocksOf S' := by unfold blocksOf; rw [List.filterMap_append]
theorem Gots.push {B lo hi : Nat} {fs : List V} {gv v' : Value} {w0 wr w' : World} {f : V} (h : Gots B fs gv w0) (hb : Below w0.heap.size w0 wr) (hlo : w0.heap.size ≤ lo) (hhi : hi ≤ wr.heap.size)
    (hf : LiesIn (fun b => lo ≤ b ∧ b < hi) wr f) (ho : Owns wr lo hi f.slots) (h1 : w'.ownsRow B 25 5 v' (fs.length + 1) (flat fs ++ words f)) (hg : wr.grownBy w' gv.ownBlock) (hat : v'.ownBlock = gv.ownBlock ∨ v'.ownBlock = some wr.heap.size) :
    Gots B (fs ++ [f]) v' w' ∧ ∀ w00, Below B w00 wr → Below B w00 w' := by
  have hr := h.below hb
  have hs := hg.size
  have hgl : ∀ g, gv.ownBlock = some g → g < w0.heap.size := fun g e => (ownsRow_lt h.row e).2
  have hk : ∀ b, b < wr.heap.size → gv.ownBlock ≠ some b → w'.heap[b]? = wr.heap[b]? := fun b q1 q2 => hg.block b q1 (fun e => q2 e.symm)
  have hv : ∀ b, b < wr.heap.size → gv.ownBlock ≠ some b → v'.ownBlock ≠ some b := fun b q1 q2 e => by
    rcases hat with e' | e'
    · exact q2 (e'.symm.trans e)
    · rw [e'] at e
      cases e
      omega
  have hfn : ∀ b, lo ≤ b → gv.ownBlock ≠ some b := fun b q e => by have := hgl b e; omega
  refine ⟨⟨Nat.le_trans hr.size hs, by rw [List.length_append, flat_append]; simpa [flat] using h1, fun x hx => ?_, ?_, fun g hgm => ?_⟩, fun w00 hw => hw.grown hg hr.size (fun k hk => (ownsRow_lt hr.row hk).1)⟩
  · rcases List.mem_append.1 hx with hx | hx
    · exact (hr.lies x hx).keep (fun b hq o => World.cell?_of_block (hk b hq.2.1 hq.2.2)) (fun b hq => ⟨hq.1, Nat.lt_of_lt_of_le hq.2.1 hs, hv b hq.2.1 hq.2.2⟩)
    · obtain rfl : x = f := by simpa using hx
      exact hf.keep (fun b hq o => World.cell?_of_block (hk b (by have := hq.2; omega) (hfn b hq.1))) (fun b hq => ⟨by have := hq.1; have := h.size; omega, by have := hq.2; omega, hv b (by have := hq.2; omega) (hfn b hq.1)⟩)
  · rw [slotss_snoc]
    refine (hr.owns.keep (fun g hgm => hk g (hr.apart g hgm).2.1 (hr.apart g hgm).2.2)).append (ho.toX.keep (fun g hgm => ?_)) (fun g q1 q2 => ?_)
    · have := ho.mem hgm
      exact hk g (by omega) (hfn g this.1)
    · have a1 := (h.apart g q1).2.1
      have a2 := (ho.mem q2).1
      omega
  · rw [slotss_snoc, blocksOf_append] at hgm
    rcases List.mem_append.1 hgm with hgm | hgm
    · obtain ⟨q1, q2, q3⟩ := hr.apart g hgm
      exact ⟨q1, Nat.lt_of_lt_of_le q2 hs, hv g q2 q3⟩
    · have := ho.mem hgm
      have := h.size
      exact ⟨by omega, by omega, hv g (by omega) (hfn g (by omega))⟩
theorem Bk.fresh {p : Nat} {W : World} (h : W.heap[p]? = some (.cells #[.slice none 0 0] 37 (0, 0))) : Bk p none [] W W :=
  ⟨none, 0, h, World.ownsRow_nil _ _ _ _, .inl rfl, rfl, rfl, rfl, Nat.le_refl _, fun _ _ _ _ => rfl⟩
theorem slotss_small (l : List V) (n : Nat) (hl : ∀ x ∈ l, T.wt x.t ≤ n) : ∀ s ∈ V.slotss l, ∀ a m c, s = .slice a m c → m ≤ n := by
  intro s hs a m c e
  unfold V.slotss at hs
  obtain ⟨S', hS', hm⟩ := List.mem_flatten.1 hs
  obtain ⟨x, hx, rfl⟩ := List.mem_map.1 hS'
  have h1 := slots_small x s hm a m c e
  have h2 := hl x hx
  omega
theorem slotss_len' (l : List V) (n : Nat) (hl : ∀ x ∈ l, T.wt x.t ≤ n) : (V.slotss l).length ≤ l.length * n := by
  induction l with
  | nil => simp [V.slotss]
  | cons x l ih =>
    have h1 := V.slots_len x
    have h2 := hl x (by simp)
    have h3 := ih (fun y hy => hl y (by simp [hy]))
    have e : V.slotss (x :: l) = x.slots ++ V.slotss l := by simp [V.slotss]
    rw [e, List.length_append, List.length_cons, Nat.succ_mul]
    omega
end Go.Proofs.YtaedlnliglmomaaDoor
