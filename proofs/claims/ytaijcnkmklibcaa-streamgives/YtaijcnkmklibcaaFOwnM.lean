
/- A book of lists of bytes, each in a block of its own: what its owner writes is read. -/
import Derived.Test.YtaijcnkmklibcaaFBase
namespace Go.Proofs.Ytaijcnkmklibcaa
open Go.RowKit Go.Deep
set_option linter.unusedVariables false
set_option linter.unusedSimpArgs false

/-- elements of one cell: the row is the old one, grown within its room; or a new one, and nothing old has turned -/
theorem wpList_append_two {P : Program} (w : World) {ops : Array Oper} {rest : List Oper} {o : Oper} {a : Act} {Q : Exit → Act → World → Prop} (hgd : o.guard = none) (s x : Operand) (t : TypeId)
    (ho : o.op = .call { callee := .builtin .append, args := #[s, x], argTypes := #[t, t] })
    (base : Nat) (e : TypeId) (i : TypeInfo) (z : Value) (bytes : Nat) (ht : P.underlying t = some (.slice e)) (hi : P.info? e = some i) (hz : i.zero = some z)
    (hsize : i.size = 1) (hby : i.bytes = bytes) (hzs : z.cells.size = 1)
    (v : Value) (n : Nat) (xs : List Value) (hs : a.eval s = v) (hown : w.ownsRow base e 1 v n xs)
    (ad : Addr) (c : Nat) (new : Value) (hx : a.eval x = .slice (some ad) 1 c) (hnew : w.cell? ad = some new) (h1 : new.oneCell' = true)
    (h63 : n + 1 ≤ maxLen) (hbytes : (n + 1) * bytes ≤ 140737488355328) (hbase : base ≤ w.heap.size)
    (h : ∀ v' w', w'.ownsRow base e 1 v' (n + 1) (xs ++ [new]) → ((∃ g, v'.ownBlock = some g ∧ v.ownBlock = some g ∧ w.grownBy w' (some g)) ∨ (∃ g, v'.ownBlock = some g ∧ w.heap.size ≤ g ∧ w.grownBy w' none)) → wpList P ops Q rest (a.put o.dst v') w') :
    wpList P ops Q (o :: rest) a w := by
  have hnews : ∀ j u, ([new] : List Value)[j]? = some u → w.cell? (ad.add j) = some u := fun j u hj => by
    cases j with
    | zero => simp at hj; subst hj; simpa [Addr.add] using hnew
    | succ j => simp at hj
  have h1c : ∀ u ∈ [new], u.oneCell' = true := fun u hu => by simp at hu; subst hu; exact h1
  have fin : ∀ v' w', w'.ownsRow w.heap.size e 1 v' (n + 1) (xs ++ [new]) → w.grownBy w' none → wpList P ops Q rest (a.put o.dst v') w' := fun v' w' r1 r2 => by
    refine h v' w' (ownsRow_base r1 hbase) (.inr ?_)
    rcases r1.2 with ⟨_, h0⟩ | ⟨g, cap, cur, rfl, hbg, _⟩
    · omega
    · exact ⟨g, rfl, hbg, r2⟩
  rcases hown.2 with ⟨rfl, rfl⟩ | ⟨g, cap, cur, rfl, hb, hg, hnc, hm, hcs, htk⟩
  · have hxs : xs = [] := List.eq_nil_of_length_eq_zero (by simpa using hown.1)
    subst hxs
    exact wpList_append_grows w hgd s x t ho e i z 1 bytes ht hi hz hsize hby hzs (by decide) none 0 0 [] hs (fun _ => ⟨rfl, rfl⟩) rfl (fun b hb => by cases hb) ad 1 c [new] hx rfl hnews h1c (by omega) h63 hbytes fin
  · by_cases hroom : n + 1 ≤ cap
    · exact wpList_append_fits w hgd s x t ho base e i 1 ht hi hsize g n cap xs hs hown ad 1 c [new] hx rfl hnews h1c hroom fun w' r1 r2 => h _ w' r1 (.inl ⟨g, rfl, rfl, r2⟩)
    · exact wpList_append_grows w hgd s x t ho e i z 1 bytes ht hi hz hsize hby hzs (by decide) (some ⟨g, 0, none⟩) n cap xs hs (fun hh => by cases hh) hown.1 (fun b hb j u hj => by
        simp only [Option.some.injEq] at hb
        subst hb
        exact hown.cells rfl j u hj) ad 1 c [new] hx rfl hnews h1c (by omega) h63 hbytes fin

theorem cell_of_blk {w : World} {pb : Nat} {v : Value} {t : TypeId} (h : w.heap[pb]? = some (.cells #[v] t (0, 0))) : w.cell? ⟨pb, 0, none⟩ = some v ∧ w.frozen? ⟨pb, 0, none⟩ = false := by
  constructor
  · simp [World.cell?, h]
  · simp [World.frozen?, h]

/-- the book holds v -/
def Book (w : World) (pb : Nat) (t : TypeId) (v : Value) : Prop := w.heap[pb]? = some (.cells #[v] t (0, 0))
theorem Book.set {w : World} {pb : Nat} {t : TypeId} {v : Value} (h : Book w pb t v) (u : Value) : Book (w.setCell ⟨pb, 0, none⟩ u) pb t u := by
  unfold Book at *
  simp [World.setCell, Array.getElem?_modify, h]
theorem Book.alloc {w : World} {pb : Nat} {t : TypeId} {v : Value} (h : Book w pb t v) (o : Obj) : Book (w.alloc o) pb t v := by
  unfold Book at *
  rw [heap_alloc_old w o (Array.getElem?_eq_some_iff.1 h).1]
  exact h
theorem Book.grown {w w' : World} {pb : Nat} {t : TypeId} {v : Value} {row : Option Nat} (h : Book w pb t v) (hg : w.grownBy w' row) (hne : row ≠ some pb) : Book w' pb t v := by
  unfold Book at *
  rw [hg.block pb (Array.getElem?_eq_some_iff.1 h).1 (fun e => hne e.symm)]
  exact h
theorem own_ne_book {w : World} {base : Nat} {e t : TypeId} {v u : Value} {n pb : Nat} {xs : List Value} (h : w.ownsRow base e 1 v n xs) (hb : Book w pb t u) (hne : e ≠ t) : v.ownBlock ≠ some pb := by
  intro hv
  unfold Book at hb
  rcases h.2 with ⟨rfl, _⟩ | ⟨g, cap, cur, rfl, _, hg, _⟩
  · cases hv
  · simp only [Value.ownBlock, Option.some.injEq] at hv
    subst hv
    rw [hb] at hg
    simp only [Option.some.injEq, Obj.cells.injEq] at hg
    exact hne hg.2.1.symm

theorem own_shape {w : World} {base : Nat} {e : TypeId} {v : Value} {n : Nat} {xs : List Value} (h : w.ownsRow base e 1 v n xs) (h0 : 0 < n) : ∃ g cap, v = .slice (some ⟨g, 0, none⟩) n cap ∧ base ≤ g ∧ g < w.heap.size := by
  rcases h.2 with ⟨_, hz⟩ | ⟨g, cap, cur, rfl, hbg, hg, hrest⟩
  · omega
  · exact ⟨g, cap, rfl, hbg, (Array.getElem?_eq_some_iff.1 hg).1⟩
theorem own_set {w : World} {base : Nat} {e : TypeId} {v : Value} {n : Nat} {xs : List Value} (h : w.ownsRow base e 1 v n xs) {pb : Nat} (hne : v.ownBlock ≠ some pb) (o : Nat) (u : Value) : (w.setCell ⟨pb, o, none⟩ u).ownsRow base e 1 v n xs := by
  refine ⟨h.1, ?_⟩
  rcases h.2 with hn | ⟨g, cap, cur, rfl, hbg, hg, hrest⟩
  · exact .inl hn
  · refine .inr ⟨g, cap, cur, rfl, hbg, ?_, hrest⟩
    have hgp : pb ≠ g := fun e => hne (by rw [e]; rfl)
    rw [← hg]
    simp [World.setCell, Array.getElem?_modify, hgp]
theorem below_setAt {B : Nat} {w w' : World} (h : Below B w w') {pb : Nat} (hpb : B ≤ pb) (o : Nat) (u : Value) : Below B w (w'.setCell ⟨pb, o, none⟩ u) := by
  refine ⟨h.os, h.tape, h.output, by simpa using h.size, fun k hk => ?_⟩
  rw [← h.block k hk]
  simp [World.setCell, Array.getElem?_modify, show pb ≠ k by omega]

/-- a block of bytes whose first ones are all mk -/
def Blk (w : World) (g n mk : Nat) : Prop := ∃ cur, w.heap[g]? = some (.cells cur 5 (0, 0)) ∧ ∀ j, j < n → cur[j]? = some (byteV mk)
theorem Blk.rd {w : World} {g n mk : Nat} (h : Blk w g n mk) (hm : mk < 256) : Rd w (some ⟨g, 0, none⟩) n (List.replicate n mk) := by
  obtain ⟨cur, hg, hc⟩ := h
  refine ⟨by simp, fun c hc => by have := (List.mem_replicate.1 hc).2; omega, fun _ => ⟨g, 0, rfl, (Array.getElem?_eq_some_iff.1 hg).1, fun j hj => ?_⟩⟩
  rw [Nat.zero_add]
  simp only [World.cell?, hg, hc j hj, List.getD_eq_getElem?_getD, List.getElem?_replicate, hj, if_true, Option.getD_some]
  rfl
theorem Blk.of_own {w : World} {base g n cap mk : Nat} (h : w.ownsRow base 5 1 (.slice (some ⟨g, 0, none⟩) n cap) n (List.replicate n (byteV mk))) : Blk w g n mk := by
  rcases h.2 with ⟨h', _⟩ | ⟨g', cap', cur, h', _, hg, _, _, hcs, htk⟩
  · simp at h'
  · simp only [Value.slice.injEq, Option.some.injEq, Addr.mk.injEq, and_true, true_and] at h'
    obtain ⟨rfl, rfl⟩ := h'
    refine ⟨cur, hg, fun j hj => ?_⟩
    have e : (cur.toList.take (n * 1))[j]? = some (byteV mk) := by rw [htk]; simp [hj]
    rw [List.getElem?_take, if_pos (by omega)] at e
    simpa using e
theorem Blk.block {w w' : World} {g n mk : Nat} (h : Blk w g n mk) (he : w'.heap[g]? = w.heap[g]?) : Blk w' g n mk := by
  obtain ⟨cur, hg, hc⟩ := h
  exact ⟨cur, he.trans hg, hc⟩
theorem Blk.lt {w : World} {g n mk : Nat} (h : Blk w g n mk) : g < w.heap.size := by
  obtain ⟨cur, hg, _⟩ := h
  exact (Array.getElem?_eq_some_iff.1 hg).1
theorem Blk.less {w : World} {g n m mk : Nat} (h : Blk w g n mk) (hm : m ≤ n) : Blk w g m mk := by
  obtain ⟨cur, hg, hc⟩ := h
  exact ⟨cur, hg, fun j hj => hc j (by omega)⟩

/-- the lists that were kept on the way: the q-th is all q / 24 + 1; lb: the block that is still written, n bytes so far, of the mark i -/
def Snap (w : World) (B : Nat) (els : List Value) (lb : Option Nat) (n i : Nat) : Prop :=
  ∀ q x, els[q]? = some x → ∃ gx mm c, x = .slice (some ⟨gx, 0, none⟩) mm c ∧ B ≤ gx ∧ mm ≤ 281474976710656 ∧ Blk w gx mm (q / 24 + 1) ∧ (lb = some gx → mm ≤ n ∧ q / 24 + 1 = i)
theorem Snap.nil (w : World) (B : Nat) (lb : Option Nat) (n i : Nat) : Snap w B [] lb n i := fun q x h => by simp at h
theorem Snap.below {w w' : World} {B : Nat} {els : List Value} {lb : Option Nat} {n i : Nat} (h : Snap w B els lb n i) (hb : Below w.heap.size w w') : Snap w' B els lb n i := fun q x hq => by
  obtain ⟨gx, mm, c, h1, h2, h3, h4, h5⟩ := h q x hq
  exact ⟨gx, mm, c, h1, h2, h3, h4.block (hb.block gx h4.lt), h5⟩
theorem Snap.low {w : World} {B : Nat} {els : List Value} {lb : Option Nat} {n i : Nat} (h : Snap w B els lb n i) {lb' : Option Nat} {n' i' : Nat} (hl : ∀ g, lb' = some g → g < B) : Snap w B els lb' n' i' := fun q x hq => by
  obtain ⟨gx, mm, c, h1, h2, h3, h4, h5⟩ := h q x hq
  exact ⟨gx, mm, c, h1, h2, h3, h4, fun e => by have := hl gx e; omega⟩
/-- an append that makes a new row -/
theorem Snap.new {w w' : World} {B : Nat} {els : List Value} {lb : Option Nat} {n i : Nat} (h : Snap w B els lb n i) {g n' i' : Nat} (hg : w.grownBy w' none) (hs : w.heap.size ≤ g) : Snap w' B els (some g) n' i' := fun q x hq => by
  obtain ⟨gx, mm, c, h1, h2, h3, h4, h5⟩ := h q x hq
  refine ⟨gx, mm, c, h1, h2, h3, h4.block (hg.block gx h4.lt (by simp)), fun e => ?_⟩
  simp only [Option.some.injEq] at e
  have := h4.lt
  omega
/-- an append within the row's room -/
theorem Snap.room {w w' : World} {B : Nat} {els : List Value} {n i g : Nat} (h : Snap w B els (some g) n i) (hg : w.grownBy w' (some g)) (hb : Blk w' g (n + 1) i) : Snap w' B els (some g) (n + 1) i := fun q x hq => by
  obtain ⟨gx, mm, c, h1, h2, h3, h4, h5⟩ := h q x hq
  by_cases he : gx = g
  · subst he
    obtain ⟨e1, e2⟩ := h5 rfl
    refine ⟨gx, mm, c, h1, h2, h3, ?_, fun _ => ⟨by omega, e2⟩⟩
    rw [e2]
    exact hb.less (by omega)
  · refine ⟨gx, mm, c, h1, h2, h3, h4.block (hg.block gx h4.lt (by simpa using he)), fun e => ?_⟩
    simp only [Option.some.injEq] at e
    exact absurd e.symm he
/-- an append onto the list of lists -/
theorem Snap.other {w w' : World} {B m base : Nat} {els ys : List Value} {lb : Option Nat} {n i : Nat} {gr : Value} (h : Snap w B els lb n i) (ho : w.ownsRow base 33 1 gr m ys) (hg : w.grownBy w' gr.ownBlock) : Snap w' B els lb n i := fun q x hq => by
  obtain ⟨gx, mm, c, h1, h2, h3, h4, h5⟩ := h q x hq
  refine ⟨gx, mm, c, h1, h2, h3, h4.block (hg.block gx h4.lt (fun e => ?_)), h5⟩
  obtain ⟨cur, hb, _⟩ := h4
  rcases ho.2 with ⟨rfl, _⟩ | ⟨g, cap, cur2, rfl, _, hgg, _⟩
  · cases e
  · simp only [Value.ownBlock, Option.some.injEq] at e
    subst e
    rw [hb] at hgg
    simp at hgg
theorem Snap.snoc {w : World} {B : Nat} {els : List Value} {n i g c : Nat} (h : Snap w B els (some g) n i) (hb : Blk w g n i) (hB : B ≤ g) (hn : n ≤ 281474976710656) (hi : els.length / 24 + 1 = i) : Snap w B (els ++ [.slice (some ⟨g, 0, none⟩) n c]) (some g) n i := fun q x hq => by
  by_cases hlt : q < els.length
  · rw [List.getElem?_append_left hlt] at hq
    exact h q x hq
  · have hlen := (List.getElem?_eq_some_iff.1 hq).1
    have he : q = els.length := by simp at hlen; omega
    subst he
    rw [List.getElem?_append_right (Nat.le_refl _)] at hq
    simp at hq
    subst hq
    exact ⟨g, n, c, rfl, hB, hn, by rw [hi]; exact hb, fun _ => ⟨Nat.le_refl _, hi⟩⟩
theorem own_other {w w' : World} {base base2 n m : Nat} {e t : TypeId} {v u : Value} {xs ys : List Value} {row : Option Nat} (h : w.ownsRow base e 1 v n xs) (hg : w.grownBy w' row) (hu : w.ownsRow base2 t 1 u m ys) (hr : row = none ∨ row = u.ownBlock) (hne : e ≠ t) : w'.ownsRow base e 1 v n xs := by
  refine h.kept hg ?_
  cases hv : v.ownBlock with
  | none => exact .inl rfl
  | some g =>
    right
    rcases hr with rfl | rfl
    · simp
    · intro e2
      rcases h.2 with ⟨rfl, _⟩ | ⟨g1, cap, cur, rfl, _, hg1, _⟩
      · cases hv
      · simp only [Value.ownBlock, Option.some.injEq] at hv
        subst hv
        rcases hu.2 with ⟨rfl, _⟩ | ⟨g2, cap2, cur2, rfl, _, hg2, _⟩
        · cases e2
        · simp only [Value.ownBlock, Option.some.injEq] at e2
          subst e2
          rw [hg1] at hg2
          simp only [Option.some.injEq, Obj.cells.injEq] at hg2
          exact hne hg2.2.1
theorem rep_snoc (n : Nat) (v : Value) : List.replicate n v ++ [v] = List.replicate (n + 1) v := by rw [List.replicate_succ']
/-- the lists: those ahead of the i-th, and the first k bytes of that one, hold their mark -/
def OwnN (w : World) (N : Nat) (m : Nat → Nat) (gd : Nat → Nat) (i k : Nat) : Prop :=
  ∀ j, j < N → 0 < m j → ∃ cur, w.heap[gd j]? = some (.cells cur 5 (0, 0)) ∧ cur.size = m j ∧ ∀ q, q < m j → (j < i ∨ (j = i ∧ q < k)) → cur[q]? = some (byteV (j + 1))
theorem OwnN.set {w : World} {N : Nat} {m gd : Nat → Nat} {i k : Nat} (h : OwnN w N m gd i k) (hinj : ∀ a b, a < N → b < N → 0 < m a → 0 < m b → gd a = gd b → a = b) (hi : i < N) (hk : k < m i) {v : Value} (hv : v = byteV (i + 1)) :
    OwnN (w.setCell ⟨gd i, k, none⟩ v) N m gd i (k + 1) := fun j hj hm => by
  subst hv
  obtain ⟨cur, h1, h2, h3⟩ := h j hj hm
  by_cases he : j = i
  · subst he
    refine ⟨cur.set! k (byteV (j + 1)), ?_, by simpa using h2, fun q hq hor => ?_⟩
    · simp [World.setCell, Array.getElem?_modify, h1]
    · by_cases hqk : q = k
      · subst hqk
        simp [h2, hk]
      · rw [Array.set!_eq_setIfInBounds, Array.getElem?_setIfInBounds_ne (by omega)]
        exact h3 q hq (by omega)
  · refine ⟨cur, ?_, h2, fun q hq hor => h3 q hq (by omega)⟩
    rw [← h1]
    have : gd i ≠ gd j := fun e => he (hinj j i hj hi hm (by omega) e.symm)
    simp [World.setCell, Array.getElem?_modify, this]
theorem OwnN.next {w : World} {N : Nat} {m gd : Nat → Nat} {i : Nat} (h : OwnN w N m gd i (m i)) : OwnN w N m gd (i + 1) 0 := fun j hj hm => by
  obtain ⟨cur, h1, h2, h3⟩ := h j hj hm
  refine ⟨cur, h1, h2, fun q hq hor => h3 q hq ?_⟩
  by_cases e : j = i
  · subst e; exact .inr ⟨rfl, hq⟩
  · omega
theorem OwnN.blk {w : World} {N : Nat} {m gd : Nat → Nat} (h : OwnN w N m gd N 0) {j : Nat} (hj : j < N) (hm : 0 < m j) : Blk w (gd j) (m j) (j + 1) := by
  obtain ⟨cur, h1, h2, h3⟩ := h j hj hm
  exact ⟨cur, h1, fun q hq => h3 q hq (.inl hj)⟩
theorem OwnN.cell {w : World} {N : Nat} {m gd : Nat → Nat} {i k : Nat} (h : OwnN w N m gd i k) {j q : Nat} (hj : j < N) (hq : q < m j) : (∃ old, w.cell? ⟨gd j, q, none⟩ = some old) ∧ w.frozen? ⟨gd j, q, none⟩ = false := by
  obtain ⟨cur, h1, h2, h3⟩ := h j hj (by omega)
  constructor
  · refine ⟨cur[q]'(by omega), ?_⟩
    simp [World.cell?, h1, h2, hq]
  · simp [World.frozen?, h1]
/-- bytes that are blocks of their own -/
theorem OwnN.of_bl {w : World} {N : Nat} {m gd : Nat → Nat} {l : Nat → List Nat} (h : ∀ j, j < N → 0 < m j → Bl w (gd j) (l j) ∧ (l j).length = m j) : OwnN w N m gd 0 0 := fun j hj hm => by
  obtain ⟨h1, h2⟩ := h j hj hm
  exact ⟨_, h1, by simpa using h2, fun q hq hor => by omega⟩
def InN (N : Nat) (m gd : Nat → Nat) (k : Nat) : Prop := ∃ j, j < N ∧ 0 < m j ∧ gd j = k

theorem step_l {w1 w4 w5 : World} {B L a n : Nat} {l gr v' : Value} {els : List Value} {o : Obj} (hown : w4.ownsRow B 5 1 l L (List.replicate L (byteV a))) (hgr : w4.ownsRow B 33 1 gr n els) (hsn : Snap w4 B els l.ownBlock L a) (hbw : Below B w1 w4) (hB : B ≤ w1.heap.size)
    (r1 : w5.ownsRow B 5 1 v' (L + 1) (List.replicate L (byteV a) ++ [byteV a])) (r2 : (∃ g, v'.ownBlock = some g ∧ l.ownBlock = some g ∧ (w4.alloc o).grownBy w5 (some g)) ∨ (∃ g, v'.ownBlock = some g ∧ (w4.alloc o).heap.size ≤ g ∧ (w4.alloc o).grownBy w5 none)) :
    ∃ g cap, v' = .slice (some ⟨g, 0, none⟩) (L + 1) cap ∧ B ≤ g ∧ w5.ownsRow B 5 1 (.slice (some ⟨g, 0, none⟩) (L + 1) cap) (L + 1) (List.replicate (L + 1) (byteV a)) ∧ w5.ownsRow B 33 1 gr n els ∧ Snap w5 B els (some g) (L + 1) a ∧ Below B w1 w5 := by
  rw [rep_snoc] at r1
  obtain ⟨g, cap, rfl, hbg, hlt⟩ := own_shape r1 (Nat.succ_pos L)
  have hsz := Nat.le_trans hB hbw.size
  have hbl : Below B w1 (w4.alloc o) := hbw.alloc hsz o
  have hsa : Snap (w4.alloc o) B els l.ownBlock L a := hsn.below ((Below.refl _ w4).alloc (Nat.le_refl _) o)
  have hba : B ≤ (w4.alloc o).heap.size := by simp; omega
  refine ⟨g, cap, rfl, hbg, r1, ?_⟩
  rcases r2 with ⟨g', e1, e2, hg⟩ | ⟨g', e1, e2, hg⟩
  · simp only [Value.ownBlock, Option.some.injEq] at e1
    subst e1
    rw [e2] at hsa
    refine ⟨own_other (hgr.alloc o) hg (hown.alloc o) (.inr e2.symm) (by decide), hsa.room hg (Blk.of_own r1), hbl.grown hg hba (fun k hk => ?_)⟩
    simp only [Option.some.injEq] at hk
    omega
  · simp only [Value.ownBlock, Option.some.injEq] at e1
    subst e1
    refine ⟨own_other (hgr.alloc o) hg (hown.alloc o) (.inl rfl) (by decide), hsa.new hg e2, hbl.grown hg hba (fun k hk => by cases hk)⟩
theorem step_0 {w1 w4 w5 : World} {B L a n : Nat} {gr v' : Value} {els : List Value} {o : Obj} (hgr : w4.ownsRow B 33 1 gr n els) (hsn : Snap w4 B els none 0 0) (hbw : Below B w1 w4) (hB : B ≤ w1.heap.size)
    (r1 : w5.ownsRow (w4.alloc o).heap.size 5 1 v' (L + 1) (List.replicate L (byteV a) ++ [byteV a])) (hg : (w4.alloc o).grownBy w5 none) :
    ∃ g cap, v' = .slice (some ⟨g, 0, none⟩) (L + 1) cap ∧ B ≤ g ∧ w5.ownsRow B 5 1 (.slice (some ⟨g, 0, none⟩) (L + 1) cap) (L + 1) (List.replicate (L + 1) (byteV a)) ∧ w5.ownsRow B 33 1 gr n els ∧ Snap w5 B els (some g) (L + 1) a ∧ Below B w1 w5 := by
  rw [rep_snoc] at r1
  obtain ⟨g, cap, rfl, hbg, hlt⟩ := own_shape r1 (Nat.succ_pos L)
  have hsz := Nat.le_trans hB hbw.size
  have hba : B ≤ (w4.alloc o).heap.size := by simp; omega
  have hsa : Snap (w4.alloc o) B els none 0 0 := hsn.below ((Below.refl _ w4).alloc (Nat.le_refl _) o)
  exact ⟨g, cap, rfl, Nat.le_trans hba hbg, ownsRow_base r1 hba, (hgr.alloc o).kept hg (by cases gr.ownBlock <;> simp), hsa.new hg hbg, (hbw.alloc hsz o).grown hg hba (fun k hk => by cases hk)⟩
theorem step_g {w1 w5 w6 : World} {B L a n g cap : Nat} {gr : Value} {els : List Value} {o : Obj} (hl : w5.ownsRow B 5 1 (.slice (some ⟨g, 0, none⟩) L cap) L (List.replicate L (byteV a))) (hgr : w5.ownsRow B 33 1 gr n els) (hsn : Snap w5 B els (some g) L a) (hbw : Below B w1 w5) (hB : B ≤ w1.heap.size) (hbg : B ≤ g) (hL : L ≤ 281474976710656) (hn : n / 24 + 1 = a)
    (r2 : (w5.alloc o).grownBy w6 gr.ownBlock) :
    w6.ownsRow B 5 1 (.slice (some ⟨g, 0, none⟩) L cap) L (List.replicate L (byteV a)) ∧ Snap w6 B (els ++ [.slice (some ⟨g, 0, none⟩) L cap]) (some g) L a ∧ Below B w1 w6 := by
  have hsz := Nat.le_trans hB hbw.size
  have hba : B ≤ (w5.alloc o).heap.size := by simp; omega
  have hl6 := own_other (hl.alloc o) r2 (hgr.alloc o) (.inr rfl) (by decide)
  have hsa : Snap (w5.alloc o) B els (some g) L a := hsn.below ((Below.refl _ w5).alloc (Nat.le_refl _) o)
  have hs6 := hsa.other (hgr.alloc o) r2
  have hlen : els.length = n := by have := hgr.1; simpa using this
  exact ⟨hl6, hs6.snoc (Blk.of_own hl6) hbg hL (by rw [hlen]; exact hn), (hbw.alloc hsz o).grown r2 hba (fun k hk => (hgr.lt k hk).1)⟩
theorem cells_old {w1 w4 : World} {N a : Nat} {m gd : Nat → Nat} {A : Option Addr} {o : Obj} (h : OwnN w1 N m gd N 0) (ha : a < N) (hA : 0 < m a → A = some ⟨gd a, 0, none⟩) (hb : Below w1.heap.size w1 w4) :
    ∀ b, A = some b → ∀ j u, (List.replicate (m a) (byteV (a + 1)))[j]? = some u → (w4.alloc o).cell? (b.add j) = some u := fun b he j u hj => by
  have hjm : j < m a := by have := (List.getElem?_eq_some_iff.1 hj).1; simpa using this
  have hA2 := hA (by omega)
  rw [hA2] at he
  simp only [Option.some.injEq] at he
  subst he
  have hbk := h.blk ha (show 0 < m a by omega)
  have hlt := hbk.lt
  obtain ⟨cur, hg, hc⟩ := hbk
  simp only [List.getElem?_replicate, hjm, if_true, Option.some.injEq] at hj
  subst hj
  have e4 : (w4.alloc o).heap[gd a]? = some (.cells cur 5 (0, 0)) := by
    rw [heap_alloc_old w4 o (Nat.lt_of_lt_of_le hlt hb.size), hb.block _ hlt]
    exact hg
  rw [add_none, Nat.zero_add]
  simp only [World.cell?, e4, hc j hjm]
  rfl
end Go.Proofs.Ytaijcnkmklibcaa
