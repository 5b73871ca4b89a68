
/- Bytes that lie in a block of their own; the bytes of a number. -/
import Derived.Test.YtaijcnkmklibcaaApp
import Derived.Test.YtaijcnkmklibcaaGet
import Derived.Laws.CopyOwn
import Derived.BigQuiet
import Derived.Deep.QuietTactic
namespace Go.Proofs.Ytaijcnkmklibcaa
open Go.RowKit Go.Deep
set_option linter.unusedVariables false
set_option linter.unusedSimpArgs false

def byteV (c : Nat) : Value := .int .u8 (c : Int)
theorem byteV_eq (c : Nat) : byteV c = .int .u8 (c : Int) := rfl
theorem oneCell_bytes (l : List Nat) : ∀ v ∈ l.map byteV, v.oneCell' = true := by
  intro v hv
  obtain ⟨c, _, rfl⟩ := List.mem_map.1 hv
  rfl
theorem Try.size5 : (Try.prog.info? 5).map (·.size) = some 1 := by kernel_rfl
theorem Try.infoL : (Try.prog.info? 33).map (fun i => (i.zero, i.size, i.bytes)) = some (some (.slice none 0 0), 1, 24) := by kernel_rfl
theorem cell_new1 (w : World) (v : Value) (t : TypeId) : (w.alloc (.cells #[v] t)).cell? ⟨w.heap.size, 0, none⟩ = some v := by
  rw [World.cell?_alloc_at _ _ _ _ rfl]; rfl

/-- the bytes l are the block g -/
def Bl (w : World) (g : Nat) (l : List Nat) : Prop := w.heap[g]? = some (.cells (l.map byteV).toArray 5 (0, 0))
theorem Bl.lt {w g l} (h : Bl w g l) : g < w.heap.size := (Array.getElem?_eq_some_iff.1 h).1
theorem Bl.block {w w' : World} {g l} (h : Bl w g l) (he : w'.heap[g]? = w.heap[g]?) : Bl w' g l := he.trans h
theorem Bl.below {w w' : World} {g l B} (h : Bl w g l) (hb : Below B w w') (hg : g < B) : Bl w' g l := h.block (hb.block g hg)
theorem Bl.alloc {w : World} {g l} (h : Bl w g l) (o : Obj) : Bl (w.alloc o) g l := h.block (heap_alloc_old w o h.lt)
theorem Bl.cell {w g l} (h : Bl w g l) {j : Nat} (hj : j < l.length) : w.cell? ⟨g, j, none⟩ = some (.int .u8 ((l.getD j 0 : Nat) : Int)) := by
  unfold Bl at h
  simp [World.cell?, h, hj, byteV]
theorem Bl.frozen {w g l} (h : Bl w g l) (j : Nat) : w.frozen? ⟨g, j, none⟩ = false := by
  unfold Bl at h
  simp [World.frozen?, h]
theorem Bl.set {w g l} (h : Bl w g l) (j c : Nat) : Bl (w.setCell ⟨g, j, none⟩ (byteV c)) g (l.set j c) := by
  unfold Bl at *
  simp [World.setCell, Array.getElem?_modify, h, List.map_set]
theorem Bl.setOther {w g l} (h : Bl w g l) {b o : Nat} (hne : b ≠ g) (v : Value) : Bl (w.setCell ⟨b, o, none⟩ v) g l := by
  refine h.block ?_
  simp [World.setCell, Array.getElem?_modify, hne]
theorem Bl.rd {w g l} (h : Bl w g l) (hb : ∀ c ∈ l, c < 256) (o n : Nat) (hn : o + n ≤ l.length) : Rd w (some ⟨g, o, none⟩) n ((l.drop o).take n) := by
  refine ⟨by simp; omega, fun c hc => hb c (List.mem_of_mem_drop (List.mem_of_mem_take hc)), fun _ => ⟨g, o, rfl, h.lt, fun j hj => ?_⟩⟩
  rw [h.cell (show o + j < l.length by omega)]
  simp [List.getD_eq_getElem?_getD, List.getElem?_take, hj]
theorem Bl.rd0 {w g l} (h : Bl w g l) (hb : ∀ c ∈ l, c < 256) : Rd w (some ⟨g, 0, none⟩) l.length l := by
  have := h.rd hb 0 l.length (by omega)
  simpa using this
theorem Bl.made (w : World) (n : Nat) : Bl (w.alloc (.cells (madeCells #[.int .u8 0] n) 5)) w.heap.size (List.replicate n 0) := by
  unfold Bl
  have e : madeCells #[Value.int .u8 0] n = ((List.replicate n 0).map byteV).toArray := by
    apply Array.toList_inj.1
    rw [toList_madeCells_one]
    simp [byteV]
  rw [e]
  exact heap_alloc_new _ _
theorem Bl.of_row {w : World} {g n : Nat} {f : Nat → Nat} (h : w.rowIs g 5 n (fun i => .int .u8 ((f i : Nat) : Int))) : Bl w g ((List.range n).map f) := by
  obtain ⟨arr, h1, h2, h3⟩ := h
  unfold Bl
  rw [h1]
  congr 2
  apply Array.ext_getElem?
  intro i
  by_cases hi : i < n
  · rw [h3 i hi]
    simp [hi, byteV]
  · rw [Array.getElem?_eq_none (by omega)]
    simp [hi]
/-- a copy into a block of bytes -/
theorem Bl.splice {w : World} {g : Nat} {l m : List Nat} {o : Nat} (h : w.heap[g]? = some (.cells (Go.splice (l.map byteV) o (m.map byteV)).toArray 5 (0, 0))) : Bl w g (l.take o ++ (m ++ l.drop (o + m.length))) := by
  unfold Bl
  rw [h]
  simp [Go.splice, List.map_take, List.map_drop]
theorem copy_of {w : World} {a : Option Addr} {n : Nat} {l : List Nat} (h : Rd w a n l) (hp : 0 < (l.map byteV).length) :
    ∃ ad, a = some ad ∧ ∀ j v, (l.map byteV)[j]? = some v → w.cell? (ad.add j) = some v := by
  have hl := h.1
  have hn0 : 0 < n := by simpa [hl] using hp
  obtain ⟨b, off, ha, hlt, hc⟩ := h.2.2 hn0
  refine ⟨⟨b, off, none⟩, ha, fun j v hj => ?_⟩
  have hjn : j < n := by
    have := (List.getElem?_eq_some_iff.1 hj).1
    simpa [hl] using this
  rw [add_none, hc j hjn]
  rw [List.getElem?_map, List.getElem?_eq_getElem (by omega)] at hj
  simp only [Option.map_some, Option.some.injEq] at hj
  rw [← hj, List.getD_eq_getElem?_getD, List.getElem?_eq_getElem (by omega)]
  rfl
/-- the bytes of a number, the highest first -/
def digs (N k : Nat) : List Nat := (List.range k).map (fun i => dig N (k - 1 - i))
theorem digs_length (N k : Nat) : (digs N k).length = k := by simp [digs]
theorem digs_lt (N k : Nat) : ∀ c ∈ digs N k, c < 256 := by
  intro c hc
  obtain ⟨i, _, rfl⟩ := List.mem_map.1 hc
  exact Nat.mod_lt _ (by omega)
theorem digs_getD (N k i : Nat) (h : i < k) : (digs N k).getD i 0 = dig N (k - 1 - i) := by simp [digs, List.getD_eq_getElem?_getD, h]
theorem digs_snoc (N k : Nat) : digs N (k + 1) = digs (N / 256) k ++ [N % 256] := by
  unfold digs
  rw [List.range_succ, List.map_append]
  congr 1
  · apply List.map_congr_left
    intro i hi
    have := List.mem_range.1 hi
    unfold dig
    rw [Nat.div_div_eq_div_mul, show 256 * 256 ^ (k - 1 - i) = 256 ^ (k + 1 - 1 - i) by rw [← Nat.pow_succ']; congr 1; omega]
  · simp [dig]
theorem getN_digs (k N : Nat) (h : N < 256 ^ k) : getN (digs N k) = N := by
  induction k generalizing N with
  | zero => simp at h; subst h; rfl
  | succ k ih =>
    rw [digs_snoc, getN_snoc, ih (N / 256) (by rw [Nat.pow_succ] at h; omega)]
    omega
theorem digs_getN (l : List Nat) (h : ∀ c ∈ l, c < 256) : digs (getN l) l.length = l := by
  have key : ∀ (k : Nat) (l : List Nat), l.length = k → (∀ c ∈ l, c < 256) → digs (getN l) k = l := by
    intro k
    induction k with
    | zero => intro l hl _; rw [List.length_eq_zero_iff.1 hl]; rfl
    | succ k ih =>
      intro l hl hb
      obtain ⟨m, c, rfl⟩ : ∃ m c, l = m ++ [c] := ⟨l.dropLast, l.getLast (by intro e; rw [e] at hl; simp at hl), (List.dropLast_concat_getLast _).symm⟩
      have hc : c < 256 := hb c (by simp)
      have hm : ∀ d ∈ m, d < 256 := fun d hd => hb d (by simp [hd])
      rw [digs_snoc, getN_snoc, show (getN m * 256 + c) / 256 = getN m by omega, show (getN m * 256 + c) % 256 = c by omega, ih m (by simpa using hl) hm]
  exact key _ _ rfl h
theorem Bl.of_digs {w : World} {b k : Nat} {N : Nat} (h : w.rowIs b 5 k (fun i => .int .u8 ((dig N (k - 1 - i) : Nat) : Int))) : Bl w b (digs N k) := Bl.of_row h

/-- an own row of bytes reads -/
theorem Rd.of_own0 {w : World} {base n : Nat} {v : Value} {l : List Nat} (h : w.ownsRow base 5 1 v n (l.map byteV)) (hb : ∀ c ∈ l, c < 256) : ∃ a cap, v = .slice a n cap ∧ (∀ b o, a = some ⟨b, o, none⟩ → base ≤ b ∧ b < w.heap.size) ∧ n ≤ cap ∧ Rd w a n l := by
  have hl : l.length = n := by have := h.1; simpa using this
  rcases h.2 with ⟨rfl, h0⟩ | ⟨g, cap, cur, rfl, hbg, hg, hnc, hrest⟩
  · subst h0
    exact ⟨none, 0, rfl, fun b o e => (by cases e), Nat.le_refl _, hl, hb, fun h => absurd h (by omega)⟩
  · refine ⟨_, cap, rfl, fun b o e => ?_, hnc, hl, hb, fun _ => ⟨g, 0, rfl, (h.lt g rfl).2, fun j hj => ?_⟩⟩
    · simp only [Option.some.injEq, Addr.mk.injEq, and_true] at e
      exact e.1 ▸ ⟨hbg, (Array.getElem?_eq_some_iff.1 hg).1⟩
    · rw [Nat.zero_add, h.cellAt j (by omega), List.getElem?_map, List.getElem?_eq_getElem (by omega)]
      simp [byteV, List.getD_eq_getElem?_getD, List.getElem?_eq_getElem (show j < l.length by omega)]
/-- nothing has turned but the blocks of S -/
def Kp (S : Nat → Prop) (w w' : World) : Prop := w'.os = w.os ∧ w'.tape = w.tape ∧ w'.output = w.output ∧ w.heap.size ≤ w'.heap.size ∧ ∀ k, k < w.heap.size → ¬ S k → w'.heap[k]? = w.heap[k]?
theorem Kp.refl (S : Nat → Prop) (w : World) : Kp S w w := ⟨rfl, rfl, rfl, Nat.le_refl _, fun _ _ _ => rfl⟩
theorem Kp.setCell {S : Nat → Prop} {w w' : World} (h : Kp S w w') {b o : Nat} (hb : S b) (v : Value) : Kp S w (w'.setCell ⟨b, o, none⟩ v) := by
  obtain ⟨h1, h2, h3, h4, h5⟩ := h
  refine ⟨h1, h2, h3, by simpa using h4, fun k hk hs => ?_⟩
  rw [blk_setCell_other _ _ _ _ (fun e => hs (by rw [e]; exact hb))]
  exact h5 k hk hs
theorem Kp.below {S : Nat → Prop} {w w' w2 : World} (h : Kp S w w') (hb : Below w'.heap.size w' w2) : Kp S w w2 := by
  obtain ⟨h1, h2, h3, h4, h5⟩ := h
  exact ⟨hb.os.trans h1, hb.tape.trans h2, hb.output.trans h3, Nat.le_trans h4 hb.size, fun k hk hs => (hb.block k (Nat.lt_of_lt_of_le hk h4)).trans (h5 k hk hs)⟩
theorem Kp.toBelow {S : Nat → Prop} {w w' : World} (h : Kp S w w') {B : Nat} (hB : B ≤ w.heap.size) (hs : ∀ k, k < B → ¬ S k) : Below B w w' :=
  ⟨h.1, h.2.1, h.2.2.1, h.2.2.2.1, fun k hk => h.2.2.2.2 k (Nat.lt_of_lt_of_le hk hB) (hs k hk)⟩
theorem Kp.cell {S : Nat → Prop} {w w' : World} (h : Kp S w w') {b o : Nat} (hb : b < w.heap.size) (hs : ¬ S b) : w'.cell? ⟨b, o, none⟩ = w.cell? ⟨b, o, none⟩ :=
  World.cell?_of_block (a := ⟨b, o, none⟩) (h.2.2.2.2 b hb hs)
theorem Kp.rd {S : Nat → Prop} {w w' : World} (h : Kp S w w') {a : Option Addr} {n : Nat} {l : List Nat} (hr : Rd w a n l) (hs : ∀ b off, a = some ⟨b, off, none⟩ → ¬ S b) : Rd w' a n l := by
  obtain ⟨h1, h2, h3⟩ := hr
  refine ⟨h1, h2, fun hn => ?_⟩
  obtain ⟨b, off, ha, hlt, hc⟩ := h3 hn
  exact ⟨b, off, ha, Nat.lt_of_lt_of_le hlt h.2.2.2.1, fun j hj => (h.cell hlt (hs b off ha)).trans (hc j hj)⟩

theorem Kp.trans {S : Nat → Prop} {w w' w2 : World} (h : Kp S w w') (h2 : Kp S w' w2) : Kp S w w2 :=
  ⟨h2.1.trans h.1, h2.2.1.trans h.2.1, h2.2.2.1.trans h.2.2.1, Nat.le_trans h.2.2.2.1 h2.2.2.2.1, fun k hk hs => (h2.2.2.2.2 k (Nat.lt_of_lt_of_le hk h.2.2.2.1) hs).trans (h.2.2.2.2 k hk hs)⟩
theorem Kp.mono {S S' : Nat → Prop} {w w' : World} (h : Kp S w w') (hs : ∀ k, S k → S' k) : Kp S' w w' :=
  ⟨h.1, h.2.1, h.2.2.1, h.2.2.2.1, fun k hk hn => h.2.2.2.2 k hk (fun e => hn (hs k e))⟩
theorem Kp.bl {S : Nat → Prop} {w w' : World} (h : Kp S w w') {g : Nat} {l : List Nat} (hb : Bl w g l) (hs : ¬ S g) : Bl w' g l := hb.block (h.2.2.2.2 g hb.lt hs)
end Go.Proofs.Ytaijcnkmklibcaa
