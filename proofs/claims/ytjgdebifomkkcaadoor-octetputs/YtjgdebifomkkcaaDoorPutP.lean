/- ByteBook's Owned: what it keeps, outside the walk. -/
import Derived.Test.YtjgdebifomkkcaaDoorPutT
namespace Go.Proofs.YtjgdebifomkkcaaDoor
open Go.RowKit Go.Deep

/-- nothing has turned but the blocks of S -/
def Kp (S : Nat → Prop) (w w' : World) : Prop := w'.os = w.os ∧ w'.tape = w.tape ∧ w'.output = w.output ∧ w.heap.size ≤ w'.heap.size ∧ ∀ k, k < w.heap.size → ¬ S k → w'.heap[k]? = w.heap[k]?
theorem Kp.refl (S : Nat → Prop) (w : World) : Kp S w w := ⟨rfl, rfl, rfl, Nat.le_refl _, fun _ _ _ => rfl⟩
theorem Kp.setCell {S : Nat → Prop} {w w' : World} (h : Kp S w w') {b o : Nat} (hb : S b) (v : Value) : Kp S w (w'.setCell ⟨b, o, none⟩ v) := by
  obtain ⟨h1, h2, h3, h4, h5⟩ := h
  refine ⟨h1, h2, h3, by simpa using h4, fun k hk hs => ?_⟩
  rw [blk_setCell_other _ _ _ _ (fun e => hs (by rw [e]; exact hb))]
  exact h5 k hk hs
theorem Kp.below {S : Nat → Prop} {w w' w2 : World} (h : Kp S w w') (hb : Below w'.heap.size w' w2) : Kp S w w2 := by
  obtain ⟨h1, h2, h3, h4, h5⟩ := h
  exact ⟨hb.os.trans h1, hb.tape.trans h2, hb.output.trans h3, Nat.le_trans h4 hb.size, fun k hk hs => (hb.block k (Nat.lt_of_lt_of_le hk h4)).trans (h5 k hk hs)⟩
theorem Kp.toBelow {S : Nat → Prop} {w w' : World} (h : Kp S w w') {B : Nat} (hB : B ≤ w.heap.size) (hs : ∀ k, k < B → ¬ S k) : Below B w w' :=
  ⟨h.1, h.2.1, h.2.2.1, h.2.2.2.1, fun k hk => h.2.2.2.2 k (Nat.lt_of_lt_of_le hk hB) (hs k hk)⟩
theorem Kp.cell {S : Nat → Prop} {w w' : World} (h : Kp S w w') {b o : Nat} (hb : b < w.heap.size) (hs : ¬ S b) : w'.cell? ⟨b, o, none⟩ = w.cell? ⟨b, o, none⟩ :=
  World.cell?_of_block (a := ⟨b, o, none⟩) (h.2.2.2.2 b hb hs)
theorem Kp.rd {S : Nat → Prop} {w w' : World} (h : Kp S w w') {a : Option Addr} {n : Nat} {l : List Nat} (hr : Rd w a n l) (hs : ∀ b off, a = some ⟨b, off, none⟩ → ¬ S b) : Rd w' a n l := by
  obtain ⟨h1, h2, h3⟩ := hr
  refine ⟨h1, h2, fun hn => ?_⟩
  obtain ⟨b, off, ha, hlt, hc⟩ := h3 hn
  exact ⟨b, off, ha, Nat.lt_of_lt_of_le hlt h.2.2.2.1, fun j hj => (h.cell hlt (hs b off ha)).trans (hc j hj)⟩

/-- a block of bytes whose first ones are all mk -/
def Blk (w : World) (g n mk : Nat) : Prop := ∃ cur, w.heap[g]? = some (.cells cur 5 (0, 0)) ∧ ∀ j, j < n → cur[j]? = some (byteV mk)
theorem Blk.rd {w : World} {g n mk : Nat} (h : Blk w g n mk) (hm : mk < 256) : Rd w (some ⟨g, 0, none⟩) n (List.replicate n mk) := by
  obtain ⟨cur, hg, hc⟩ := h
  refine ⟨by simp, fun c hc => by have := (List.mem_replicate.1 hc).2; omega, fun _ => ⟨g, 0, rfl, (Array.getElem?_eq_some_iff.1 hg).1, fun j hj => ?_⟩⟩
  rw [Nat.zero_add]
  simp only [World.cell?, hg, hc j hj, List.getD_eq_getElem?_getD, List.getElem?_replicate, hj, if_true, Option.getD_some]
  rfl
theorem Blk.of_own {w : World} {base g n cap mk : Nat} (h : w.ownsRow base 5 1 (.slice (some ⟨g, 0, none⟩) n cap) n (List.replicate n (byteV mk))) : Blk w g n mk := by
  rcases h.2 with ⟨h', _⟩ | ⟨g', cap', cur, h', _, hg, _, _, hcs, htk⟩
  · simp at h'
  · simp only [Value.slice.injEq, Option.some.injEq, Addr.mk.injEq, and_true, true_and] at h'
    obtain ⟨rfl, rfl⟩ := h'
    refine ⟨cur, hg, fun j hj => ?_⟩
    have e : (cur.toList.take (n * 1))[j]? = some (byteV mk) := by rw [htk]; simp [hj]
    rw [List.getElem?_take, if_pos (by omega)] at e
    simpa using e
theorem Blk.block {w w' : World} {g n mk : Nat} (h : Blk w g n mk) (he : w'.heap[g]? = w.heap[g]?) : Blk w' g n mk := by
  obtain ⟨cur, hg, hc⟩ := h
  exact ⟨cur, he.trans hg, hc⟩
theorem Blk.lt {w : World} {g n mk : Nat} (h : Blk w g n mk) : g < w.heap.size := by
  obtain ⟨cur, hg, _⟩ := h
  exact (Array.getElem?_eq_some_iff.1 hg).1
theorem Blk.less {w : World} {g n m mk : Nat} (h : Blk w g n mk) (hm : m ≤ n) : Blk w g m mk := by
  obtain ⟨cur, hg, hc⟩ := h
  exact ⟨cur, hg, fun j hj => hc j (by omega)⟩

/-- the lists that were kept on the way: the q-th is all q / 5; lb: the block that is still written, n bytes so far, of the mark i -/
def Snap (w : World) (B : Nat) (els : List Value) (lb : Option Nat) (n i : Nat) : Prop :=
  ∀ q x, els[q]? = some x → ∃ gx mm c, x = .slice (some ⟨gx, 0, none⟩) mm c ∧ B ≤ gx ∧ mm ≤ 28 ∧ Blk w gx mm (q / 5) ∧ (lb = some gx → mm ≤ n ∧ q / 5 = i)
theorem Snap.nil (w : World) (B : Nat) (lb : Option Nat) (n i : Nat) : Snap w B [] lb n i := fun q x h => by simp at h
theorem Snap.below {w w' : World} {B : Nat} {els : List Value} {lb : Option Nat} {n i : Nat} (h : Snap w B els lb n i) (hb : Below w.heap.size w w') : Snap w' B els lb n i := fun q x hq => by
  obtain ⟨gx, mm, c, h1, h2, h3, h4, h5⟩ := h q x hq
  exact ⟨gx, mm, c, h1, h2, h3, h4.block (hb.block gx h4.lt), h5⟩
theorem Snap.low {w : World} {B : Nat} {els : List Value} {lb : Option Nat} {n i : Nat} (h : Snap w B els lb n i) {lb' : Option Nat} {n' i' : Nat} (hl : ∀ g, lb' = some g → g < B) : Snap w B els lb' n' i' := fun q x hq => by
  obtain ⟨gx, mm, c, h1, h2, h3, h4, h5⟩ := h q x hq
  exact ⟨gx, mm, c, h1, h2, h3, h4, fun e => by have := hl gx e; omega⟩
/-- an append that makes a new row -/
theorem Snap.new {w w' : World} {B : Nat} {els : List Value} {lb : Option Nat} {n i : Nat} (h : Snap w B els lb n i) {g n' i' : Nat} (hg : w.grownBy w' none) (hs : w.heap.size ≤ g) : Snap w' B els (some g) n' i' := fun q x hq => by
  obtain ⟨gx, mm, c, h1, h2, h3, h4, h5⟩ := h q x hq
  refine ⟨gx, mm, c, h1, h2, h3, h4.block (hg.block gx h4.lt (by simp)), fun e => ?_⟩
  simp only [Option.some.injEq] at e
  have := h4.lt
  omega
/-- an append within the row's room -/
theorem Snap.room {w w' : World} {B : Nat} {els : List Value} {n i g : Nat} (h : Snap w B els (some g) n i) (hg : w.grownBy w' (some g)) (hb : Blk w' g (n + 1) i) : Snap w' B els (some g) (n + 1) i := fun q x hq => by
  obtain ⟨gx, mm, c, h1, h2, h3, h4, h5⟩ := h q x hq
  by_cases he : gx = g
  · subst he
    obtain ⟨e1, e2⟩ := h5 rfl
    refine ⟨gx, mm, c, h1, h2, h3, ?_, fun _ => ⟨by omega, e2⟩⟩
    rw [e2]
    exact hb.less (by omega)
  · refine ⟨gx, mm, c, h1, h2, h3, h4.block (hg.block gx h4.lt (by simpa using he)), fun e => ?_⟩
    simp only [Option.some.injEq] at e
    exact absurd e.symm he
/-- an append onto the list of lists -/
theorem Snap.other {w w' : World} {B m base : Nat} {els ys : List Value} {lb : Option Nat} {n i : Nat} {gr : Value} (h : Snap w B els lb n i) (ho : w.ownsRow base 24 1 gr m ys) (hg : w.grownBy w' gr.ownBlock) : Snap w' B els lb n i := fun q x hq => by
  obtain ⟨gx, mm, c, h1, h2, h3, h4, h5⟩ := h q x hq
  refine ⟨gx, mm, c, h1, h2, h3, h4.block (hg.block gx h4.lt (fun e => ?_)), h5⟩
  obtain ⟨cur, hb, _⟩ := h4
  rcases ho.2 with ⟨rfl, _⟩ | ⟨g, cap, cur2, rfl, _, hgg, _⟩
  · cases e
  · simp only [Value.ownBlock, Option.some.injEq] at e
    subst e
    rw [hb] at hgg
    simp at hgg
theorem Snap.snoc {w : World} {B : Nat} {els : List Value} {n i g c : Nat} (h : Snap w B els (some g) n i) (hb : Blk w g n i) (hB : B ≤ g) (hn : n ≤ 28) (hi : els.length / 5 = i) : Snap w B (els ++ [.slice (some ⟨g, 0, none⟩) n c]) (some g) n i := fun q x hq => by
  by_cases hlt : q < els.length
  · rw [List.getElem?_append_left hlt] at hq
    exact h q x hq
  · have hlen := (List.getElem?_eq_some_iff.1 hq).1
    have he : q = els.length := by simp at hlen; omega
    subst he
    rw [List.getElem?_append_right (Nat.le_refl _)] at hq
    simp at hq
    subst hq
    exact ⟨g, n, c, rfl, hB, hn, by rw [hi]; exact hb, fun _ => ⟨Nat.le_refl _, hi⟩⟩
/-- how many lists were kept ahead of the k-th append -/
def cn (k : Nat) : Nat := if k ≤ 3 then k else if k ≤ 8 then 3 else if k ≤ 19 then 4 else 5
theorem own_other {w w' : World} {base base2 n m : Nat} {e t : TypeId} {v u : Value} {xs ys : List Value} {row : Option Nat} (h : w.ownsRow base e 1 v n xs) (hg : w.grownBy w' row) (hu : w.ownsRow base2 t 1 u m ys) (hr : row = none ∨ row = u.ownBlock) (hne : e ≠ t) : w'.ownsRow base e 1 v n xs := by
  refine h.kept hg ?_
  cases hv : v.ownBlock with
  | none => exact .inl rfl
  | some g =>
    right
    rcases hr with rfl | rfl
    · simp
    · intro e2
      rcases h.2 with ⟨rfl, _⟩ | ⟨g1, cap, cur, rfl, _, hg1, _⟩
      · cases hv
      · simp only [Value.ownBlock, Option.some.injEq] at hv
        subst hv
        rcases hu.2 with ⟨rfl, _⟩ | ⟨g2, cap2, cur2, rfl, _, hg2, _⟩
        · cases e2
        · simp only [Value.ownBlock, Option.some.injEq] at e2
          subst e2
          rw [hg1] at hg2
          simp only [Option.some.injEq, Obj.cells.injEq] at hg2
          exact hne hg2.2.1
theorem rep_snoc (n : Nat) (v : Value) : List.replicate n v ++ [v] = List.replicate (n + 1) v := by rw [List.replicate_succ']
end Go.Proofs.YtjgdebifomkkcaaDoor
