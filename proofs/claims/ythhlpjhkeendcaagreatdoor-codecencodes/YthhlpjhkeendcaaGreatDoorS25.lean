/- EL, EM -/
import Derived.Test.YthhlpjhkeendcaaGreatDoorS24
import Derived.Test.YthhlpjhkeendcaaGreatDoorS15
import Derived.Test.YthhlpjhkeendcaaGreatDoorS02
namespace Go.Proofs.YthhlpjhkeendcaaGreatDoor
set_option linter.unusedVariables false
set_option linter.unusedSimpArgs false
namespace BB
open Go.RowKit Go.Deep
theorem wpList_append_two {P : Program} (w : World) {ops : Array Oper} {rest : List Oper} {o : Oper} {a : Act} {Q : Exit → Act → World → Prop} (hgd : o.guard = none) (s x : Operand) (t : TypeId)
    (ho : o.op = .call { callee := .builtin .append, args := #[s, x], argTypes := #[t, t] })
    (base : Nat) (e : TypeId) (i : TypeInfo) (z : Value) (bytes : Nat) (ht : P.underlying t = some (.slice e)) (hi : P.info? e = some i) (hz : i.zero = some z)
    (hsize : i.size = 1) (hby : i.bytes = bytes) (hzs : z.cells.size = 1)
    (v : Value) (n : Nat) (xs : List Value) (hs : a.eval s = v) (hown : w.ownsRow base e 1 v n xs)
    (ad : Addr) (c : Nat) (new : Value) (hx : a.eval x = .slice (some ad) 1 c) (hnew : w.cell? ad = some new) (h1 : new.oneCell' = true)
    (h63 : n + 1 ≤ maxLen) (hbytes : (n + 1) * bytes ≤ 140737488355328) (hbase : base ≤ w.heap.size)
    (h : ∀ v' w', w'.ownsRow base e 1 v' (n + 1) (xs ++ [new]) → ((∃ g, v'.ownBlock = some g ∧ v.ownBlock = some g ∧ w.grownBy w' (some g)) ∨ (∃ g, v'.ownBlock = some g ∧ w.heap.size ≤ g ∧ w.grownBy w' none)) → wpList P ops Q rest (a.put o.dst v') w') :
    wpList P ops Q (o :: rest) a w := by
  have hnews : ∀ j u, ([new] : List Value)[j]? = some u → w.cell? (ad.add j) = some u := fun j u hj => by
    cases j with
    | zero => simp at hj; subst hj; simpa [Addr.add] using hnew
    | succ j => simp at hj
  have h1c : ∀ u ∈ [new], u.oneCell' = true := fun u hu => by simp at hu; subst hu; exact h1
  have fin : ∀ v' w', w'.ownsRow w.heap.size e 1 v' (n + 1) (xs ++ [new]) → w.grownBy w' none → wpList P ops Q rest (a.put o.dst v') w' := fun v' w' r1 r2 => by
    refine h v' w' (ownsRow_base r1 hbase) (.inr ?_)
    rcases r1.2 with ⟨_, h0⟩ | ⟨g, cap, cur, rfl, hbg, _⟩
    · omega
    · exact ⟨g, rfl, hbg, r2⟩
  rcases hown.2 with ⟨rfl, rfl⟩ | ⟨g, cap, cur, rfl, hb, hg, hnc, hm, hcs, htk⟩
  · have hxs : xs = [] := List.eq_nil_of_length_eq_zero (by simpa using hown.1)
    subst hxs
    exact wpList_append_grows w hgd s x t ho e i z 1 bytes ht hi hz hsize hby hzs (by decide) none 0 0 [] hs (fun _ => ⟨rfl, rfl⟩) rfl (fun b hb => by cases hb) ad 1 c [new] hx rfl hnews h1c (by omega) h63 hbytes fin
  · by_cases hroom : n + 1 ≤ cap
    · exact wpList_append_fits w hgd s x t ho base e i 1 ht hi hsize g n cap xs hs hown ad 1 c [new] hx rfl hnews h1c hroom fun w' r1 r2 => h _ w' r1 (.inl ⟨g, rfl, rfl, r2⟩)
    · exact wpList_append_grows w hgd s x t ho e i z 1 bytes ht hi hz hsize hby hzs (by decide) (some ⟨g, 0, none⟩) n cap xs hs (fun hh => by cases hh) hown.1 (fun b hb j u hj => by
        simp only [Option.some.injEq] at hb
        subst hb
        exact hown.cells rfl j u hj) ad 1 c [new] hx rfl hnews h1c (by omega) h63 hbytes fin
theorem cell_of_blk {w : World} {pb : Nat} {v : Value} {t : TypeId} (h : w.heap[pb]? = some (.cells #[v] t (0, 0))) : w.cell? ⟨pb, 0, none⟩ = some v ∧ w.frozen? ⟨pb, 0, none⟩ = false := by
  constructor
  · simp [World.cell?, h]
  · simp [World.frozen?, h]
def Book (w : World) (pb : Nat) (t : TypeId) (v : Value) : Prop := w.heap[pb]? = some (.cells #[v] t (0, 0))
theorem Book.set {w : World} {pb : Nat} {t : TypeId} {v : Value} (h : Book w pb t v) (u : Value) : Book (w.setCell ⟨pb, 0, none⟩ u) pb t u := by
  unfold Book at *
  simp [World.setCell, Array.getElem?_modify, h]
theorem Book.alloc {w : World} {pb : Nat} {t : TypeId} {v : Value} (h : Book w pb t v) (o : Obj) : Book (w.alloc o) pb t v := by
  unfold Book at *
  rw [heap_alloc_old w o (Array.getElem?_eq_some_iff.1 h).1]
  exact h
theorem Book.grown {w w' : World} {pb : Nat} {t : TypeId} {v : Value} {row : Option Nat} (h : Book w pb t v) (hg : w.grownBy w' row) (hne : row ≠ some pb) : Book w' pb t v := by
  unfold Book at *
  rw [hg.block pb (Array.getElem?_eq_some_iff.1 h).1 (fun e => hne e.symm)]
  exact h
theorem own_ne_book {w : World} {base : Nat} {e t : TypeId} {v u : Value} {n pb : Nat} {xs : List Value} (h : w.ownsRow base e 1 v n xs) (hb : Book w pb t u) (hne : e ≠ t) : v.ownBlock ≠ some pb := by
  intro hv
  unfold Book at hb
  rcases h.2 with ⟨rfl, _⟩ | ⟨g, cap, cur, rfl, _, hg, _⟩
  · cases hv
  · simp only [Value.ownBlock, Option.some.injEq] at hv
    subst hv
    rw [hb] at hg
    simp only [Option.some.injEq, Obj.cells.injEq] at hg
    exact hne hg.2.1.symm
theorem own_shape {w : World} {base : Nat} {e : TypeId} {v : Value} {n : Nat} {xs : List Value} (h : w.ownsRow base e 1 v n xs) (h0 : 0 < n) : ∃ g cap, v = .slice (some ⟨g, 0, none⟩) n cap ∧ base ≤ g ∧ g < w.heap.size := by
  rcases h.2 with ⟨_, hz⟩ | ⟨g, cap, cur, rfl, hbg, hg, hrest⟩
  · omega
  · exact ⟨g, cap, rfl, hbg, (Array.getElem?_eq_some_iff.1 hg).1⟩
theorem own_set {w : World} {base : Nat} {e : TypeId} {v : Value} {n : Nat} {xs : List Value} (h : w.ownsRow base e 1 v n xs) {pb : Nat} (hne : v.ownBlock ≠ some pb) (o : Nat) (u : Value) : (w.setCell ⟨pb, o, none⟩ u).ownsRow base e 1 v n xs := by
  refine ⟨h.1, ?_⟩
  rcases h.2 with hn | ⟨g, cap, cur, rfl, hbg, hg, hrest⟩
  · exact .inl hn
  · refine .inr ⟨g, cap, cur, rfl, hbg, ?_, hrest⟩
    have hgp : pb ≠ g := fun e => hne (by rw [e]; rfl)
    rw [← hg]
    simp [World.setCell, Array.getElem?_modify, hgp]
theorem below_setAt {B : Nat} {w w' : World} (h : Below B w w') {pb : Nat} (hpb : B ≤ pb) (o : Nat) (u : Value) : Below B w (w'.setCell ⟨pb, o, none⟩ u) := by
  refine ⟨h.os, h.tape, h.output, by simpa using h.size, fun k hk => ?_⟩
  rw [← h.block k hk]
  simp [World.setCell, Array.getElem?_modify, show pb ≠ k by omega]
def Kp (S : Nat → Prop) (w w' : World) : Prop := w'.os = w.os ∧ w'.tape = w.tape ∧ w'.output = w.output ∧ w.heap.size ≤ w'.heap.size ∧ ∀ k, k < w.heap.size → ¬ S k → w'.heap[k]? = w.heap[k]?
theorem Kp.refl (S : Nat → Prop) (w : World) : Kp S w w := ⟨rfl, rfl, rfl, Nat.le_refl _, fun _ _ _ => rfl⟩
theorem Kp.setCell {S : Nat → Prop} {w w' : World} (h : Kp S w w') {b o : Nat} (hb : S b) (v : Value) : Kp S w (w'.setCell ⟨b, o, none⟩ v) := by
  obtain ⟨h1, h2, h3, h4, h5⟩ := h
  refine ⟨h1, h2, h3, by simpa using h4, fun k hk hs => ?_⟩
  rw [blk_setCell_other _ _ _ _ (fun e => hs (by rw [e]; exact hb))]
  exact h5 k hk hs
theorem Kp.below {S : Nat → Prop} {w w' w2 : World} (h : Kp S w w') (hb : Below w'.heap.size w' w2) : Kp S w w2 := by
  obtain ⟨h1, h2, h3, h4, h5⟩ := h
  exact ⟨hb.os.trans h1, hb.tape.trans h2, hb.output.trans h3, Nat.le_trans h4 hb.size, fun k hk hs => (hb.block k (Nat.lt_of_lt_of_le hk h4)).trans (h5 k hk hs)⟩
theorem Kp.toBelow {S : Nat → Prop} {w w' : World} (h : Kp S w w') {B : Nat} (hB : B ≤ w.heap.size) (hs : ∀ k, k < B → ¬ S k) : Below B w w' :=
  ⟨h.1, h.2.1, h.2.2.1, h.2.2.2.1, fun k hk => h.2.2.2.2 k (Nat.lt_of_lt_of_le hk hB) (hs k hk)⟩
theorem Kp.cell {S : Nat → Prop} {w w' : World} (h : Kp S w w') {b o : Nat} (hb : b < w.heap.size) (hs : ¬ S b) : w'.cell? ⟨b, o, none⟩ = w.cell? ⟨b, o, none⟩ :=
  World.cell?_of_block (a := ⟨b, o, none⟩) (h.2.2.2.2 b hb hs)
def mkv (a k : Nat) : Nat := (a + k / 251) % 256
def mkn (a n : Nat) : List Nat := (List.range n).map (mkv a)
def mks (a n : Nat) : List Value := (List.range n).map fun k => bV (mkv a k)
theorem mks_snoc (a n : Nat) : mks a n ++ [bV (mkv a n)] = mks a (n + 1) := by unfold mks; rw [List.range_succ, List.map_append]; rfl
theorem mks_len (a n : Nat) : (mks a n).length = n := by simp [mks]
theorem mkn_len (a n : Nat) : (mkn a n).length = n := by simp [mkn]
theorem mks_at (a n j : Nat) (h : j < n) : (mks a n)[j]? = some (bV (mkv a j)) := by simp [mks, h]
theorem mkn_at (a n j : Nat) (h : j < n) : (mkn a n).getD j 0 = mkv a j := by simp [mkn, List.getD_eq_getElem?_getD, h]
theorem mkv_lt (a k : Nat) : mkv a k < 256 := Nat.mod_lt _ (by omega)
def Blk (w : World) (g n mk : Nat) : Prop := ∃ cur, w.heap[g]? = some (.cells cur 5 (0, 0)) ∧ ∀ j, j < n → cur[j]? = some (bV (mkv mk j))
theorem Blk.rd {w : World} {g n mk : Nat} (h : Blk w g n mk) : Rd w (some ⟨g, 0, none⟩) n (mkn mk n) := by
  obtain ⟨cur, hg, hc⟩ := h
  refine ⟨mkn_len _ _, fun c hc => ?_, fun _ => ⟨g, 0, rfl, (Array.getElem?_eq_some_iff.1 hg).1, fun j hj => ?_⟩⟩
  · obtain ⟨k, _, rfl⟩ := List.mem_map.1 hc
    exact mkv_lt _ _
  · rw [Nat.zero_add, mkn_at _ _ _ hj]
    simp only [World.cell?, hg, hc j hj]
    rfl
theorem Blk.of_own {w : World} {base g n cap mk : Nat} (h : w.ownsRow base 5 1 (.slice (some ⟨g, 0, none⟩) n cap) n (mks mk n)) : Blk w g n mk := by
  rcases h.2 with ⟨h', _⟩ | ⟨g', cap', cur, h', _, hg, _, _, hcs, htk⟩
  · simp at h'
  · simp only [Value.slice.injEq, Option.some.injEq, Addr.mk.injEq, and_true, true_and] at h'
    obtain ⟨rfl, rfl⟩ := h'
    refine ⟨cur, hg, fun j hj => ?_⟩
    have e : (cur.toList.take (n * 1))[j]? = some (bV (mkv mk j)) := by rw [htk]; exact mks_at _ _ _ hj
    rw [List.getElem?_take, if_pos (by omega)] at e
    simpa using e
theorem Blk.block {w w' : World} {g n mk : Nat} (h : Blk w g n mk) (he : w'.heap[g]? = w.heap[g]?) : Blk w' g n mk := by
  obtain ⟨cur, hg, hc⟩ := h
  exact ⟨cur, he.trans hg, hc⟩
theorem Blk.lt {w : World} {g n mk : Nat} (h : Blk w g n mk) : g < w.heap.size := by
  obtain ⟨cur, hg, _⟩ := h
  exact (Array.getElem?_eq_some_iff.1 hg).1
theorem Blk.less {w : World} {g n m mk : Nat} (h : Blk w g n mk) (hm : m ≤ n) : Blk w g m mk := by
  obtain ⟨cur, hg, hc⟩ := h
  exact ⟨cur, hg, fun j hj => hc j (by omega)⟩
def Snap (w : World) (B : Nat) (els : List Value) (lb : Option Nat) (n i : Nat) : Prop :=
  ∀ q x, els[q]? = some x → ∃ gx mm c, x = .slice (some ⟨gx, 0, none⟩) mm c ∧ B ≤ gx ∧ mm ≤ 1000000000000 ∧ Blk w gx mm (q / 5) ∧ (lb = some gx → mm ≤ n ∧ q / 5 = i)
theorem Snap.nil (w : World) (B : Nat) (lb : Option Nat) (n i : Nat) : Snap w B [] lb n i := fun q x h => by simp at h
theorem Snap.below {w w' : World} {B : Nat} {els : List Value} {lb : Option Nat} {n i : Nat} (h : Snap w B els lb n i) (hb : Below w.heap.size w w') : Snap w' B els lb n i := fun q x hq => by
  obtain ⟨gx, mm, c, h1, h2, h3, h4, h5⟩ := h q x hq
  exact ⟨gx, mm, c, h1, h2, h3, h4.block (hb.block gx h4.lt), h5⟩
theorem Snap.low {w : World} {B : Nat} {els : List Value} {lb : Option Nat} {n i : Nat} (h : Snap w B els lb n i) {lb' : Option Nat} {n' i' : Nat} (hl : ∀ g, lb' = some g → g < B) : Snap w B els lb' n' i' := fun q x hq => by
  obtain ⟨gx, mm, c, h1, h2, h3, h4, h5⟩ := h q x hq
  exact ⟨gx, mm, c, h1, h2, h3, h4, fun e => by have := hl gx e; omega⟩
theorem Snap.new {w w' : World} {B : Nat} {els : List Value} {lb : Option Nat} {n i : Nat} (h : Snap w B els lb n i) {g n' i' : Nat} (hg : w.grownBy w' none) (hs : w.heap.size ≤ g) : Snap w' B els (some g) n' i' := fun q x hq => by
  obtain ⟨gx, mm, c, h1, h2, h3, h4, h5⟩ := h q x hq
  refine ⟨gx, mm, c, h1, h2, h3, h4.block (hg.block gx h4.lt (by simp)), fun e => ?_⟩
  simp only [Option.some.injEq] at e
  have := h4.lt
  omega
theorem Snap.room {w w' : World} {B : Nat} {els : List Value} {n i g : Nat} (h : Snap w B els (some g) n i) (hg : w.grownBy w' (some g)) (hb : Blk w' g (n + 1) i) : Snap w' B els (some g) (n + 1) i := fun q x hq => by
  obtain ⟨gx, mm, c, h1, h2, h3, h4, h5⟩ := h q x hq
  by_cases he : gx = g
  · subst he
    obtain ⟨e1, e2⟩ := h5 rfl
    refine ⟨gx, mm, c, h1, h2, h3, ?_, fun _ => ⟨by omega, e2⟩⟩
    rw [e2]
    exact hb.less (by omega)
  · refine ⟨gx, mm, c, h1, h2, h3, h4.block (hg.block gx h4.lt (by simpa using he)), fun e => ?_⟩
    simp only [Option.some.injEq] at e
    exact absurd e.symm he
theorem Snap.other {w w' : World} {B m base : Nat} {els ys : List Value} {lb : Option Nat} {n i : Nat} {gr : Value} (h : Snap w B els lb n i) (ho : w.ownsRow base 28 1 gr m ys) (hg : w.grownBy w' gr.ownBlock) : Snap w' B els lb n i := fun q x hq => by
  obtain ⟨gx, mm, c, h1, h2, h3, h4, h5⟩ := h q x hq
  refine ⟨gx, mm, c, h1, h2, h3, h4.block (hg.block gx h4.lt (fun e => ?_)), h5⟩
  obtain ⟨cur, hb, _⟩ := h4
  rcases ho.2 with ⟨rfl, _⟩ | ⟨g, cap, cur2, rfl, _, hgg, _⟩
  · cases e
  · simp only [Value.ownBlock, Option.some.injEq] at e
    subst e
    rw [hb] at hgg
    simp at hgg
theorem Snap.snoc {w : World} {B : Nat} {els : List Value} {n i g c : Nat} (h : Snap w B els (some g) n i) (hb : Blk w g n i) (hB : B ≤ g) (hn : n ≤ 1000000000000) (hi : els.length / 5 = i) : Snap w B (els ++ [.slice (some ⟨g, 0, none⟩) n c]) (some g) n i := fun q x hq => by
  by_cases hlt : q < els.length
  · rw [List.getElem?_append_left hlt] at hq
    exact h q x hq
  · have hlen := (List.getElem?_eq_some_iff.1 hq).1
    have he : q = els.length := by simp at hlen; omega
    subst he
    rw [List.getElem?_append_right (Nat.le_refl _)] at hq
    simp at hq
    subst hq
    exact ⟨g, n, c, rfl, hB, hn, by rw [hi]; exact hb, fun _ => ⟨Nat.le_refl _, hi⟩⟩
theorem own_other {w w' : World} {base base2 n m : Nat} {e t : TypeId} {v u : Value} {xs ys : List Value} {row : Option Nat} (h : w.ownsRow base e 1 v n xs) (hg : w.grownBy w' row) (hu : w.ownsRow base2 t 1 u m ys) (hr : row = none ∨ row = u.ownBlock) (hne : e ≠ t) : w'.ownsRow base e 1 v n xs := by
  refine h.kept hg ?_
  cases hv : v.ownBlock with
  | none => exact .inl rfl
  | some g =>
    right
    rcases hr with rfl | rfl
    · simp
    · intro e2
      rcases h.2 with ⟨rfl, _⟩ | ⟨g1, cap, cur, rfl, _, hg1, _⟩
      · cases hv
      · simp only [Value.ownBlock, Option.some.injEq] at hv
        subst hv
        rcases hu.2 with ⟨rfl, _⟩ | ⟨g2, cap2, cur2, rfl, _, hg2, _⟩
        · cases e2
        · simp only [Value.ownBlock, Option.some.injEq] at e2
          subst e2
          rw [hg1] at hg2
          simp only [Option.some.injEq, Obj.cells.injEq] at hg2
          exact hne hg2.2.1
def OwnN (w : World) (N : Nat) (m : Nat → Nat) (gd : Nat → Nat) (i k : Nat) : Prop :=
  ∀ j, j < N → 0 < m j → ∃ cur, w.heap[gd j]? = some (.cells cur 5 (0, 0)) ∧ cur.size = m j ∧ ∀ q, q < m j → (j < i ∨ (j = i ∧ q < k)) → cur[q]? = some (bV (mkv j q))
theorem OwnN.set {w : World} {N : Nat} {m gd : Nat → Nat} {i k : Nat} (h : OwnN w N m gd i k) (hinj : ∀ a b, a < N → b < N → 0 < m a → 0 < m b → gd a = gd b → a = b) (hi : i < N) (hk : k < m i) {v : Value} (hv : v = bV (mkv i k)) :
    OwnN (w.setCell ⟨gd i, k, none⟩ v) N m gd i (k + 1) := fun j hj hm => by
  subst hv
  obtain ⟨cur, h1, h2, h3⟩ := h j hj hm
  by_cases he : j = i
  · subst he
    refine ⟨cur.set! k (bV (mkv j k)), ?_, by simpa using h2, fun q hq hor => ?_⟩
    · simp [World.setCell, Array.getElem?_modify, h1]
    · by_cases hqk : q = k
      · subst hqk
        simp [h2, hk]
      · rw [Array.set!_eq_setIfInBounds, Array.getElem?_setIfInBounds_ne (by omega)]
        exact h3 q hq (by omega)
  · refine ⟨cur, ?_, h2, fun q hq hor => h3 q hq (by omega)⟩
    rw [← h1]
    have : gd i ≠ gd j := fun e => he (hinj j i hj hi hm (by omega) e.symm)
    simp [World.setCell, Array.getElem?_modify, this]
theorem OwnN.next {w : World} {N : Nat} {m gd : Nat → Nat} {i : Nat} (h : OwnN w N m gd i (m i)) : OwnN w N m gd (i + 1) 0 := fun j hj hm => by
  obtain ⟨cur, h1, h2, h3⟩ := h j hj hm
  refine ⟨cur, h1, h2, fun q hq hor => h3 q hq ?_⟩
  by_cases e : j = i
  · subst e; exact .inr ⟨rfl, hq⟩
  · omega
theorem OwnN.blk {w : World} {N : Nat} {m gd : Nat → Nat} (h : OwnN w N m gd N 0) {j : Nat} (hj : j < N) (hm : 0 < m j) : Blk w (gd j) (m j) j := by
  obtain ⟨cur, h1, h2, h3⟩ := h j hj hm
  exact ⟨cur, h1, fun q hq => h3 q hq (.inl hj)⟩
theorem OwnN.cell {w : World} {N : Nat} {m gd : Nat → Nat} {i k : Nat} (h : OwnN w N m gd i k) {j q : Nat} (hj : j < N) (hq : q < m j) : (∃ old, w.cell? ⟨gd j, q, none⟩ = some old) ∧ w.frozen? ⟨gd j, q, none⟩ = false := by
  obtain ⟨cur, h1, h2, h3⟩ := h j hj (by omega)
  constructor
  · refine ⟨cur[q]'(by omega), ?_⟩
    simp [World.cell?, h1, h2, hq]
  · simp [World.frozen?, h1]
def InN (N : Nat) (m gd : Nat → Nat) (k : Nat) : Prop := ∃ j, j < N ∧ 0 < m j ∧ gd j = k
theorem step_l {w1 w4 w5 : World} {B L a n : Nat} {l gr v' : Value} {els : List Value} {o : Obj} (hown : w4.ownsRow B 5 1 l L (mks a L)) (hgr : w4.ownsRow B 28 1 gr n els) (hsn : Snap w4 B els l.ownBlock L a) (hbw : Below B w1 w4) (hB : B ≤ w1.heap.size)
    (r1 : w5.ownsRow B 5 1 v' (L + 1) (mks a L ++ [bV (mkv a L)])) (r2 : (∃ g, v'.ownBlock = some g ∧ l.ownBlock = some g ∧ (w4.alloc o).grownBy w5 (some g)) ∨ (∃ g, v'.ownBlock = some g ∧ (w4.alloc o).heap.size ≤ g ∧ (w4.alloc o).grownBy w5 none)) :
    ∃ g cap, v' = .slice (some ⟨g, 0, none⟩) (L + 1) cap ∧ B ≤ g ∧ w5.ownsRow B 5 1 (.slice (some ⟨g, 0, none⟩) (L + 1) cap) (L + 1) (mks a (L + 1)) ∧ w5.ownsRow B 28 1 gr n els ∧ Snap w5 B els (some g) (L + 1) a ∧ Below B w1 w5 := by
  rw [mks_snoc] at r1
  obtain ⟨g, cap, rfl, hbg, hlt⟩ := own_shape r1 (Nat.succ_pos L)
  have hsz := Nat.le_trans hB hbw.size
  have hbl : Below B w1 (w4.alloc o) := hbw.alloc hsz o
  have hsa : Snap (w4.alloc o) B els l.ownBlock L a := hsn.below ((Below.refl _ w4).alloc (Nat.le_refl _) o)
  have hba : B ≤ (w4.alloc o).heap.size := by simp; omega
  refine ⟨g, cap, rfl, hbg, r1, ?_⟩
  rcases r2 with ⟨g', e1, e2, hg⟩ | ⟨g', e1, e2, hg⟩
  · simp only [Value.ownBlock, Option.some.injEq] at e1
    subst e1
    rw [e2] at hsa
    refine ⟨own_other (hgr.alloc o) hg (hown.alloc o) (.inr e2.symm) (by decide), hsa.room hg (Blk.of_own r1), hbl.grown hg hba (fun k hk => ?_)⟩
    simp only [Option.some.injEq] at hk
    omega
  · simp only [Value.ownBlock, Option.some.injEq] at e1
    subst e1
    refine ⟨own_other (hgr.alloc o) hg (hown.alloc o) (.inl rfl) (by decide), hsa.new hg e2, hbl.grown hg hba (fun k hk => by cases hk)⟩
theorem step_0 {w1 w4 w5 : World} {B L a n : Nat} {gr v' : Value} {els : List Value} {o : Obj} (hgr : w4.ownsRow B 28 1 gr n els) (hsn : Snap w4 B els none 0 0) (hbw : Below B w1 w4) (hB : B ≤ w1.heap.size)
    (r1 : w5.ownsRow (w4.alloc o).heap.size 5 1 v' (L + 1) (mks a L ++ [bV (mkv a L)])) (hg : (w4.alloc o).grownBy w5 none) :
    ∃ g cap, v' = .slice (some ⟨g, 0, none⟩) (L + 1) cap ∧ B ≤ g ∧ w5.ownsRow B 5 1 (.slice (some ⟨g, 0, none⟩) (L + 1) cap) (L + 1) (mks a (L + 1)) ∧ w5.ownsRow B 28 1 gr n els ∧ Snap w5 B els (some g) (L + 1) a ∧ Below B w1 w5 := by
  rw [mks_snoc] at r1
  obtain ⟨g, cap, rfl, hbg, hlt⟩ := own_shape r1 (Nat.succ_pos L)
  have hsz := Nat.le_trans hB hbw.size
  have hba : B ≤ (w4.alloc o).heap.size := by simp; omega
  have hsa : Snap (w4.alloc o) B els none 0 0 := hsn.below ((Below.refl _ w4).alloc (Nat.le_refl _) o)
  exact ⟨g, cap, rfl, Nat.le_trans hba hbg, ownsRow_base r1 hba, (hgr.alloc o).kept hg (by cases gr.ownBlock <;> simp), hsa.new hg hbg, (hbw.alloc hsz o).grown hg hba (fun k hk => by cases hk)⟩
theorem step_g {w1 w5 w6 : World} {B L a n g cap : Nat} {gr : Value} {els : List Value} {o : Obj} (hl : w5.ownsRow B 5 1 (.slice (some ⟨g, 0, none⟩) L cap) L (mks a L)) (hgr : w5.ownsRow B 28 1 gr n els) (hsn : Snap w5 B els (some g) L a) (hbw : Below B w1 w5) (hB : B ≤ w1.heap.size) (hbg : B ≤ g) (hL : L ≤ 1000000000000) (hn : n / 5 = a)
    (r2 : (w5.alloc o).grownBy w6 gr.ownBlock) :
    w6.ownsRow B 5 1 (.slice (some ⟨g, 0, none⟩) L cap) L (mks a L) ∧ Snap w6 B (els ++ [.slice (some ⟨g, 0, none⟩) L cap]) (some g) L a ∧ Below B w1 w6 := by
  have hsz := Nat.le_trans hB hbw.size
  have hba : B ≤ (w5.alloc o).heap.size := by simp; omega
  have hl6 := own_other (hl.alloc o) r2 (hgr.alloc o) (.inr rfl) (by decide)
  have hsa : Snap (w5.alloc o) B els (some g) L a := hsn.below ((Below.refl _ w5).alloc (Nat.le_refl _) o)
  have hs6 := hsa.other (hgr.alloc o) r2
  have hlen : els.length = n := by have := hgr.1; simpa using this
  exact ⟨hl6, hs6.snoc (Blk.of_own hl6) hbg hL (by rw [hlen]; exact hn), (hbw.alloc hsz o).grown r2 hba (fun k hk => (hgr.lt k hk).1)⟩
theorem cells_old {w1 w4 : World} {N a : Nat} {m gd : Nat → Nat} {A : Option Addr} {o : Obj} (h : OwnN w1 N m gd N 0) (ha : a < N) (hA : 0 < m a → A = some ⟨gd a, 0, none⟩) (hb : Below w1.heap.size w1 w4) :
    ∀ b, A = some b → ∀ j u, (mks a (m a))[j]? = some u → (w4.alloc o).cell? (b.add j) = some u := fun b he j u hj => by
  have hjm : j < m a := by have := (List.getElem?_eq_some_iff.1 hj).1; rw [mks_len] at this; exact this
  have hA2 := hA (by omega)
  rw [hA2] at he
  simp only [Option.some.injEq] at he
  subst he
  have hbk := h.blk ha (show 0 < m a by omega)
  have hlt := hbk.lt
  obtain ⟨cur, hg, hc⟩ := hbk
  rw [mks_at _ _ _ hjm, Option.some.injEq] at hj
  subst hj
  have e4 : (w4.alloc o).heap[gd a]? = some (.cells cur 5 (0, 0)) := by
    rw [heap_alloc_old w4 o (Nat.lt_of_lt_of_le hlt hb.size), hb.block _ hlt]
    exact hg
  have e : (⟨gd a, 0, none⟩ : Addr).add j = ⟨gd a, j, none⟩ := by by_cases h : j = 0 <;> simp [Addr.add, h]
  rw [e]
  simp only [World.cell?, e4, hc j hjm]
  rfl
def cn (k : Nat) : Nat := if k ≤ 3 then k else if k ≤ 8 then 3 else if k ≤ 19 then 4 else 5
theorem cn_yes {q : Nat} (h : q < 3 ∨ q = 8 ∨ q = 19) : cn (q + 1) = cn q + 1 ∧ cn q ≤ 4 := by
  unfold cn
  rcases h with h | rfl | rfl
  · rw [if_pos (by omega), if_pos (by omega)]; omega
  · decide
  · decide
theorem cn_no {q : Nat} (h1 : ¬ q < 3) (h2 : q ≠ 8) (h3 : q ≠ 19) (h4 : q < 20) : cn (q + 1) = cn q := by
  unfold cn
  rw [if_neg (by omega)]
  by_cases h5 : q ≤ 3
  · rw [if_pos h5, if_pos (by omega)]; omega
  · rw [if_neg h5]
    by_cases h6 : q ≤ 8
    · rw [if_pos (by omega), if_pos h6]
    · rw [if_neg (by omega), if_neg h6, if_pos (by omega), if_pos (by omega)]
theorem cn_le {q : Nat} : cn q ≤ 5 := by
  unfold cn
  split
  · omega
  · split
    · omega
    · split <;> omega
theorem Tryz.infoL : (Tryz.prog.info? 28).map (fun i => (i.zero, i.size, i.bytes)) = some (some (.slice none 0 0), 1, 24) := by kernel_rfl
theorem cell_new1 (w : World) (v : Value) (t : TypeId) : (w.alloc (.cells #[v] t)).cell? ⟨w.heap.size, 0, none⟩ = some v := by
  rw [World.cell?_alloc_at _ _ _ _ rfl]; rfl
set_option maxHeartbeats 1000000 in
theorem marked_any (a : Option Addr) (n cap mk : Nat) (w : World) (hr : Rd w a n (mkn mk n)) (hn : n ≤ 1000000000000) (hm : mk ≤ 200) :
    Calls Tryz.prog 25 #[.slice a n cap, .int .i64 (mk : Int)] w fun e w' => e = .returned (.bool true) ∧ w = w' := by
  have HR := hide hr
  clear hr
  go_enter Tryz.func25, Tryz.ntmps25
  go_wp2
  go_loop [5] (fun i => ∃ k : Nat, k ≤ n ∧ i = .int .i64 k) (fun i => n - (intOf i).toNat)
  case atStart => exact ⟨0, Nat.zero_le _, rfl⟩
  case round =>
    obtain ⟨k, hk, rfl⟩ := hrel
    by_cases hkn : k < n
    · obtain ⟨b, off, rfl, hlt, hc0⟩ := HR.out.2.2 (by omega)
      have hc := hc0 k hkn
      rw [mkn_at _ _ _ hkn] at hc
      have hX : ((mk : Int) + (k : Int) / 251) % 256 = ((mkv mk k : Nat) : Int) := by unfold mkv; omega
      have hx2 := mkv_lt mk k
      generalize mkv mk k = X at *
      clear hc0
      go_wp2
      go_round
      case rel => exact ⟨k + 1, by omega, by go_num⟩
      case measure => simp [intOf]; omega
    · go_wp2
      go_ret
      exact ⟨rfl, rfl⟩
set_option maxRecDepth 100000 in
set_option maxHeartbeats 1000000 in
theorem take_any (pb B n : Nat) (v : Value) (xs : List Value) (x : Option Addr) (m c : Nat) (w : World) (hbk : Book w pb 38 v) (hown : w.ownsRow B 28 1 v n xs) (hpb : B ≤ pb) (hn : n ≤ 100) (hB : B ≤ w.heap.size) :
    Calls Tryz.prog 10 #[.pointer (some ⟨pb, 0, none⟩), .slice x m c] w fun e w' => e = .returned (.tuple #[]) ∧ ∃ v', Book w' pb 38 v' ∧ w'.ownsRow B 28 1 v' (n + 1) (xs ++ [.slice x m c]) ∧ Below B w w' := by
  obtain ⟨i0, hi, hz0, hz1, hz2⟩ := info_parts Tryz.infoL
  have HI := hide hi
  have HZ0 := hide hz0
  have HZ1 := hide hz1
  have HZ2 := hide hz2
  clear hi hz0 hz1 hz2
  obtain ⟨hc, hf⟩ := cell_of_blk hbk
  have HBK := hide hbk
  have HO := hide hown
  have hplt : pb < w.heap.size := (Array.getElem?_eq_some_iff.1 hbk).1
  clear hbk hown
  go_enter Tryz.func10, Tryz.ntmps10
  have HNE := hide (own_ne_book (HO.out.alloc (.cells #[.slice x m c] 28)) (HBK.out.alloc (.cells #[.slice x m c] 28)) (by decide))
  have HBA : Hid (Below B w (w.alloc (.cells #[.slice x m c] 28))) := (Below.refl B w).alloc (by omega) _
  have HLT : Hid (∀ g, v.ownBlock = some g → B ≤ g) := fun g hg => (HO.out.lt g hg).1
  go_wp2_with (at_builtin; refine wpList_append_new _ rfl (.tmp 8) (.tmp 10) 36 rfl B 28 i0 (.slice none 0 0) 24 Tryz.underlying36 HI.out HZ0.out HZ1.out HZ2.out rfl _ n _ rfl (HO.out.alloc _) ⟨w.heap.size, 0, none⟩ 1 (.slice x m c) rfl (cell_new1 _ _ _) rfl (by unfold maxLen; omega) (by omega) (by simp; omega) ?_; intro v' w3 r1 r2 r3; obtain ⟨gn, cn, rfl, hbg, hglt⟩ := own_shape r1 (Nat.succ_pos n); have HR1 := hide r1; have HB4 := hide (HBA.out.grown r2 (by simp; omega) HLT.out); have HB3 := hide ((HBK.out.alloc _).grown r2 HNE.out); have hc3 := (cell_of_blk HB3.out).1; have hf3 := (cell_of_blk HB3.out).2; clear r1 r2 r3)
  go_end0
  have hne2 := own_ne_book HR1.out HB3.out (by decide)
  exact ⟨rfl, _, HB3.out.set _, own_set HR1.out hne2 0 _, below_setAt HB4.out hpb 0 _⟩
end BB
namespace BB
open Go.RowKit
theorem rd_bel {w w' : World} {a : Option Addr} {n : Nat} {l : List Nat} (h : Rd w a n l) (hb : Below w.heap.size w w') : Rd w' a n l := by
  refine ⟨h.1, h.2.1, fun h0 => ?_⟩
  obtain ⟨b, off, ha, hlt, hc⟩ := h.2.2 h0
  exact ⟨b, off, ha, by have := hb.size; omega, fun j hj => (hb.cell (p := ⟨b, off + j, none⟩) hlt).trans (hc j hj)⟩
set_option maxRecDepth 100000 in
set_option maxHeartbeats 4000000 in
theorem owned_any (pb gl capl N : Nat) (m : Nat → Nat) (ad : Nat → Option Addr) (gd : Nat → Nat) (w : World) (hbk : Book w pb 38 (.slice (some ⟨gl, 0, none⟩) N capl)) (hcl : N ≤ capl) (hgl : ∀ j, j < N → w.cell? ⟨gl, j, none⟩ = some (.slice (ad j) (m j) (m j))) (hgll : gl < w.heap.size)
    (hne : ¬ InN N m gd pb ∧ ¬ InN N m gd gl) (hinj : ∀ a b, a < N → b < N → 0 < m a → 0 < m b → gd a = gd b → a = b) (had : ∀ j, j < N → 0 < m j → ad j = some ⟨gd j, 0, none⟩) (hN0 : 0 < N) (hN : N ≤ 100) (hm8 : ∀ j, j < N → m j ≤ 100000000000) (h3 : OwnN w N m gd 0 0) :
    Calls Tryz.prog 11 #[.pointer (some ⟨pb, 0, none⟩)] w fun e w' => e = .returned (.bool true) ∧ Kp (InN N m gd) w w' := by
  obtain ⟨i0, hi, hz0, hz1, hz2⟩ := info_parts Tryz.infoL
  have HI := hide hi
  have HZ0 := hide hz0
  have HZ1 := hide hz1
  have HZ2 := hide hz2
  clear hi hz0 hz1 hz2
  obtain ⟨i5, hi, hz0, hz1, hz2⟩ := info_parts Tryz.info5
  have HJ := hide hi
  have HY0 := hide hz0
  have HY1 := hide hz1
  have HY2 := hide hz2
  clear hi hz0 hz1 hz2
  have hpbl : pb < w.heap.size := (Array.getElem?_eq_some_iff.1 hbk).1
  have HC : Hid (∀ w', Kp (InN N m gd) w w' → w'.cell? ⟨pb, 0, none⟩ = some (.slice (some ⟨gl, 0, none⟩) N capl) ∧ ∀ j, j < N → w'.cell? ⟨gl, j, none⟩ = some (.slice (ad j) (m j) (m j))) := fun w' hk =>
    ⟨(hk.cell hpbl hne.1).trans (cell_of_blk hbk).1, fun j hj => (hk.cell hgll hne.2).trans (hgl j hj)⟩
  have HINJ := hide hinj
  have HAD := hide had
  have H3 := hide h3
  have HM8 := hide hm8
  clear hbk hgl hne hinj had h3 hm8
  go_enter Tryz.func11, Tryz.ntmps11
  go_wp2
  go_loopw [3] (fun i w1 => ∃ a : Nat, a ≤ N ∧ i = .int .i64 a ∧ Hid (OwnN w1 N m gd a 0) ∧ Hid (Kp (InN N m gd) w w1)) (fun i _ => N - (intOf i).toNat)
  case atStart => exact ⟨0, Nat.zero_le _, rfl, H3, hide (Kp.refl _ _)⟩
  case round =>
    rename World => w1
    obtain ⟨a, ha, rfl, HO1, HK1⟩ := hrel
    by_cases ha3 : a < N
    · obtain ⟨hc, hgc⟩ := HC.out _ HK1.out
      have hg := hgc a ha3
      have hma := HM8.out a ha3
      clear hgc
      obtain ⟨M, hM⟩ : ∃ M, M = m a := ⟨_, rfl⟩
      obtain ⟨A, hA⟩ : ∃ A, A = ad a := ⟨_, rfl⟩
      have HM := hide hM
      have HA : Hid (0 < M → A = some ⟨gd a, 0, none⟩) := fun h => by rw [hA]; exact HAD.out a ha3 (by rw [← hM]; exact h)
      rw [← hM, ← hA] at hg
      rw [← hM] at hma
      clear hM hA
      go_wp2
      go_loopw [5] (fun k w2 => ∃ q : Nat, q ≤ M ∧ k = .int .i64 q ∧ Hid (OwnN w2 N m gd a q) ∧ Hid (Kp (InN N m gd) w w2)) (fun k _ => M - (intOf k).toNat)
      case atStart => exact ⟨0, Nat.zero_le _, rfl, HO1, HK1⟩
      case round =>
        rename World => w2
        obtain ⟨q, hq, rfl, HO2, HK2⟩ := hrel
        by_cases hqm : q < M
        · have HQ : Hid (q < m a) := by show _ < _; rw [← HM.out]; exact hqm
          obtain rfl := HA.out (by omega)
          obtain ⟨⟨old, hco⟩, hfo⟩ := HO2.out.cell ha3 HQ.out
          have hqm' : (q : Int) < (M : Int) := by omega
          obtain ⟨X, hXe⟩ : ∃ X, X = mkv a q := ⟨_, rfl⟩
          have hX : ((a : Int) + (q : Int) / 251) % 256 = (X : Int) := by rw [hXe]; unfold mkv; omega
          have hx2 : X < 256 := by rw [hXe]; exact mkv_lt _ _
          have HXE := hide hXe
          clear hXe
          go_wp2
          go_roundw
          case rel => exact ⟨q + 1, by omega, by go_num, hide (HO2.out.set HINJ.out ha3 HQ.out (by rw [← HXE.out]; rfl)), hide (HK2.out.setCell ⟨a, ha3, by have := HQ.out; omega, rfl⟩ _)⟩
          case measure => simp [intOf]; omega
        · have HQ : Hid (q = m a) := by show _ = _; rw [← HM.out]; omega
          have HO2' : Hid (OwnN w2 N m gd a (m a)) := by
            have := HO2.out
            rwa [HQ.out] at this
          go_wp2
          go_roundw
          case rel => exact ⟨a + 1, by omega, by go_num, hide HO2'.out.next, HK2⟩
          case measure => simp [intOf]; omega
    · have HA3 : Hid (a = N) := hide (by omega)
      have HO1 : Hid (OwnN w1 N m gd N 0) := by
        have := HO1.out
        rwa [HA3.out] at this
      obtain ⟨hc, hgc⟩ := HC.out _ HK1.out
      have HGC := hide hgc
      have hplt : pb < w1.heap.size := Nat.lt_of_lt_of_le hpbl HK1.out.2.2.2.1
      have hglt : gl < w1.heap.size := Nat.lt_of_lt_of_le hgll HK1.out.2.2.2.1
      clear hgc HC
      have hdec : decide ((a : Int) < (N : Int)) = false := by simp; omega
      go_wp2
      try simp only [hdec]
      clear hdec
      go_loopw [6, 7] (fun gr i w3 => ∃ a : Nat, ∃ els, a ≤ N ∧ i = .int .i64 a ∧ Hid (w3.ownsRow w1.heap.size 28 1 gr (5 * a) els) ∧ Hid (Snap w3 w1.heap.size els none 0 0) ∧ Hid (Below w1.heap.size w1 w3)) (fun _ i _ => N - (intOf i).toNat)
      case atStart => exact ⟨0, [], Nat.zero_le _, rfl, hide (World.ownsRow_nil _ _ _ _), hide (Snap.nil _ _ _ _ _), hide (Below.refl _ _)⟩
      case round =>
        rename World => w3
        obtain ⟨a, els, ha, rfl, HG3, HS3, HB3⟩ := hrel
        by_cases ha3 : a < N
        · have hc3 := (HB3.out.cell (p := ⟨pb, 0, none⟩) hplt).trans hc
          have hg3 := (HB3.out.cell (p := ⟨gl, a, none⟩) hglt).trans (HGC.out a ha3)
          have hma := HM8.out a ha3
          obtain ⟨M, hM⟩ : ∃ M, M = m a := ⟨_, rfl⟩
          obtain ⟨A, hA⟩ : ∃ A, A = ad a := ⟨_, rfl⟩
          have HM := hide hM
          have HA : Hid (0 < m a → A = some ⟨gd a, 0, none⟩) := fun h => by rw [hA]; exact HAD.out a ha3 h
          rw [← hM, ← hA] at hg3
          rw [← hM] at hma
          clear hM hA
          have hdec2 : decide ((a : Int) < (N : Int)) = true := by simp; omega
          go_wp2
          try simp only [hdec2]
          clear hdec2
          go_loopw [6, 8, 9] (fun gr l k w4 => ∃ q L N1 : Nat, ∃ els, q ≤ 20 ∧ Hid (L = M + q) ∧ Hid (N1 = 5 * a + cn q) ∧ k = .int .i64 q ∧ Hid (w4.ownsRow w1.heap.size 28 1 gr N1 els) ∧ Hid (Below w1.heap.size w1 w4) ∧ ((q = 0 ∧ l = .slice A M M ∧ Hid (Snap w4 w1.heap.size els none 0 0)) ∨ (0 < q ∧ Hid (w4.ownsRow w1.heap.size 5 1 l L (mks a L)) ∧ Hid (Snap w4 w1.heap.size els l.ownBlock L a)))) (fun _ _ k _ => 20 - (intOf k).toNat)
          case atStart => exact ⟨0, M, 5 * a, els, Nat.zero_le _, hide rfl, hide rfl, rfl, HG3, HB3, .inl ⟨rfl, rfl, HS3⟩⟩
          case round =>
            rename World => w4
            obtain ⟨q, L, N1, els, hq, HL, HN', rfl, HG4, HB4, hor⟩ := hrel
            have hN1 : N1 ≤ 1000 := by have := HN'.out; have := cn_le (q := q); omega
            by_cases hq20 : q < 20
            · rcases hor with ⟨hq0, rfl, HS4⟩ | ⟨hq0, HL4, HS4⟩
              · have HCN := hide (cn_yes (q := q) (.inl (by omega)))
                have HQ0 := hide hq0
                have hq3 : q < 3 := by omega
                have HN5 : Hid (N1 / 5 = a) := by have := HN'.out; have := HCN.out; show _ = _; omega
                clear hq0
                obtain ⟨X, hXe⟩ : ∃ X, X = mkv a M := ⟨_, rfl⟩
                have hX : ((a : Int) + (M : Int) / 251) % 256 = (X : Int) := by rw [hXe]; unfold mkv; omega
                have hx2 : X < 256 := by rw [hXe]; exact mkv_lt _ _
                have HXE := hide hXe
                clear hXe
                have HCL : Hid (∀ b, A = some b → ∀ j u, (mks a M)[j]? = some u → (w4.alloc (.cells #[bV X] 5)).cell? (b.add j) = some u) := by
                  have h := cells_old (o := .cells #[bV X] 5) HO1.out ha3 HA.out HB4.out
                  rw [← HM.out] at h
                  exact h
                have HNN : Hid (A = none → M = 0 ∧ M = 0) := fun h => by
                  by_cases h0 : 0 < M
                  · have := HA.out (by rw [← HM.out]; exact h0)
                    rw [h] at this
                    cases this
                  · omega
                have HLN : Hid ((mks a M).length = M * 1) := by show _ = _; rw [mks_len]; omega
                have HNW : Hid (∀ j u, ([bV X] : List Value)[j]? = some u → (w4.alloc (.cells #[bV X] 5)).cell? ((⟨w4.heap.size, 0, none⟩ : Addr).add j) = some u) := fun j u hj => by
                  cases j with
                  | zero => simp at hj; subst hj; exact cell_new1 _ _ _
                  | succ j => simp at hj
                have HON : Hid (∀ u ∈ ([bV X] : List Value), u.oneCell' = true) := fun u hu => by simp at hu; subst hu; rfl
                go_wp2_with (first
                | (at_builtin; refine wpList_append_grows _ rfl (.tmp 64) (.tmp 71) 28 rfl 5 i5 (.int .u8 0) 1 1 Tryz.underlying28 HJ.out HY0.out HY1.out HY2.out rfl (by decide) A M M (mks a M) rfl HNN.out HLN.out HCL.out ⟨w4.heap.size, 0, none⟩ 1 1 [bV X] rfl rfl HNW.out HON.out (by omega) (by unfold maxLen; omega) (by omega) ?_; intro v' w5 r1 r2; rw [HXE.out] at r1 r2; obtain ⟨g, cg, rfl, hbg, hl5, hg5, hs5, hb5⟩ := step_0 HG4.out HS4.out HB4.out (Nat.le_refl _) r1 r2; have HL5 := hide hl5; have HG5 := hide hg5; have HS5 := hide hs5; have HB5 := hide hb5; clear r1 r2 hl5 hg5 hs5 hb5)
                | (at_builtin; refine wpList_append_new _ rfl (.tmp 83) (.tmp 85) 36 rfl w1.heap.size 28 i0 (.slice none 0 0) 24 Tryz.underlying36 HI.out HZ0.out HZ1.out HZ2.out rfl _ N1 _ rfl (HG5.out.alloc _) ⟨w5.heap.size, 0, none⟩ 1 (.slice (some ⟨g, 0, none⟩) (M + 1) cg) rfl (cell_new1 _ _ _) rfl (by unfold maxLen; omega) (by omega) (by have := HB5.out.size; simp; omega) ?_; intro gr' w6 r1 r2 r3; have HG6 := hide r1; have HS6 := hide (step_g HL5.out HG5.out HS5.out HB5.out (Nat.le_refl _) hbg (by omega) HN5.out r2); clear r1 r2 r3))
                go_roundw
                case rel => first | exact ⟨_, _, .int .i64 ((q : Int) + 1), ⟨q + 1, by omega, M + 1, by have := HQ0.out; show _ = _; omega, N1 + 1, by have := HN'.out; have := HCN.out; show _ = _; omega, by go_num, _, HG6, hide HS6.out.2.2, .inr ⟨by omega, hide HS6.out.1, hide HS6.out.2.1⟩⟩, rfl, rfl, rfl⟩ | exact ⟨q + 1, M + 1, N1 + 1, _, by omega, by have := HQ0.out; show _ = _; omega, by have := HN'.out; have := HCN.out; show _ = _; omega, by go_num, HG6, hide HS6.out.2.2, .inr ⟨by omega, hide HS6.out.1, hide HS6.out.2.1⟩⟩
                case measure => simp [intOf]; omega
              · have hL0 : 0 < L := by have := HL.out; omega
                have hLb : L ≤ 100000000020 := by have := HL.out; omega
                obtain ⟨g4, c4, rfl, hbg4, hlt4⟩ := own_shape HL4.out hL0
                obtain ⟨X, hXe⟩ : ∃ X, X = mkv a L := ⟨_, rfl⟩
                have hX : ((a : Int) + (L : Int) / 251) % 256 = (X : Int) := by rw [hXe]; unfold mkv; omega
                have hx2 : X < 256 := by rw [hXe]; exact mkv_lt _ _
                have HXE := hide hXe
                clear hXe
                by_cases hq3 : q < 3
                · have HCN := hide (cn_yes (q := q) (.inl hq3))
                  have HN5 : Hid (N1 / 5 = a) := by have := HN'.out; have := HCN.out; show _ = _; omega
                  go_wp2_with (first
                  | (at_builtin; refine wpList_append_two _ rfl (.tmp 64) (.tmp 71) 28 rfl w1.heap.size 5 i5 (.int .u8 0) 1 Tryz.underlying28 HJ.out HY0.out HY1.out HY2.out rfl _ L _ rfl (HL4.out.alloc _) ⟨w4.heap.size, 0, none⟩ 1 (bV X) rfl (cell_new1 _ _ _) rfl (by unfold maxLen; omega) (by omega) (by have := HB4.out.size; simp; omega) ?_; intro v' w5 r1 r2; rw [HXE.out] at r1 r2; obtain ⟨g, cg, rfl, hbg, hl5, hg5, hs5, hb5⟩ := step_l HL4.out HG4.out HS4.out HB4.out (Nat.le_refl _) r1 r2; have HL5 := hide hl5; have HG5 := hide hg5; have HS5 := hide hs5; have HB5 := hide hb5; clear r1 r2 hl5 hg5 hs5 hb5)
                  | (at_builtin; refine wpList_append_new _ rfl (.tmp 83) (.tmp 85) 36 rfl w1.heap.size 28 i0 (.slice none 0 0) 24 Tryz.underlying36 HI.out HZ0.out HZ1.out HZ2.out rfl _ N1 _ rfl (HG5.out.alloc _) ⟨w5.heap.size, 0, none⟩ 1 (.slice (some ⟨g, 0, none⟩) (L + 1) cg) rfl (cell_new1 _ _ _) rfl (by unfold maxLen; omega) (by omega) (by have := HB5.out.size; simp; omega) ?_; intro gr' w6 r1 r2 r3; have HG6 := hide r1; have HS6 := hide (step_g HL5.out HG5.out HS5.out HB5.out (Nat.le_refl _) hbg (by omega) HN5.out r2); clear r1 r2 r3))
                  go_roundw
                  case rel => first | exact ⟨_, _, .int .i64 ((q : Int) + 1), ⟨q + 1, by omega, L + 1, by have := HL.out; show _ = _; omega, N1 + 1, by have := HN'.out; have := HCN.out; show _ = _; omega, by go_num, _, HG6, hide HS6.out.2.2, .inr ⟨by omega, hide HS6.out.1, hide HS6.out.2.1⟩⟩, rfl, rfl, rfl⟩ | exact ⟨q + 1, L + 1, N1 + 1, _, by omega, by have := HL.out; show _ = _; omega, by have := HN'.out; have := HCN.out; show _ = _; omega, by go_num, HG6, hide HS6.out.2.2, .inr ⟨by omega, hide HS6.out.1, hide HS6.out.2.1⟩⟩
                  case measure => simp [intOf]; omega
                · by_cases hq8 : q = 8
                  · have HCN := hide (cn_yes (q := q) (.inr (.inl hq8)))
                    have hb8 : ((q : Int) == 8) = true := by rw [hq8]; rfl
                    have HQ8 := hide hq8
                    clear hq8
                    have HN5 : Hid (N1 / 5 = a) := by have := HN'.out; have := HCN.out; show _ = _; omega
                    go_wp2_with (first
                    | (at_builtin; refine wpList_append_two _ rfl (.tmp 64) (.tmp 71) 28 rfl w1.heap.size 5 i5 (.int .u8 0) 1 Tryz.underlying28 HJ.out HY0.out HY1.out HY2.out rfl _ L _ rfl (HL4.out.alloc _) ⟨w4.heap.size, 0, none⟩ 1 (bV X) rfl (cell_new1 _ _ _) rfl (by unfold maxLen; omega) (by omega) (by have := HB4.out.size; simp; omega) ?_; intro v' w5 r1 r2; rw [HXE.out] at r1 r2; obtain ⟨g, cg, rfl, hbg, hl5, hg5, hs5, hb5⟩ := step_l HL4.out HG4.out HS4.out HB4.out (Nat.le_refl _) r1 r2; have HL5 := hide hl5; have HG5 := hide hg5; have HS5 := hide hs5; have HB5 := hide hb5; clear r1 r2 hl5 hg5 hs5 hb5)
                    | (at_builtin; refine wpList_append_new _ rfl (.tmp 83) (.tmp 85) 36 rfl w1.heap.size 28 i0 (.slice none 0 0) 24 Tryz.underlying36 HI.out HZ0.out HZ1.out HZ2.out rfl _ N1 _ rfl (HG5.out.alloc _) ⟨w5.heap.size, 0, none⟩ 1 (.slice (some ⟨g, 0, none⟩) (L + 1) cg) rfl (cell_new1 _ _ _) rfl (by unfold maxLen; omega) (by omega) (by have := HB5.out.size; simp; omega) ?_; intro gr' w6 r1 r2 r3; have HG6 := hide r1; have HS6 := hide (step_g HL5.out HG5.out HS5.out HB5.out (Nat.le_refl _) hbg (by omega) HN5.out r2); clear r1 r2 r3))
                    go_roundw
                    case rel => first | exact ⟨_, _, .int .i64 ((q : Int) + 1), ⟨q + 1, by omega, L + 1, by have := HL.out; show _ = _; omega, N1 + 1, by have := HN'.out; have := HCN.out; show _ = _; omega, by go_num, _, HG6, hide HS6.out.2.2, .inr ⟨by omega, hide HS6.out.1, hide HS6.out.2.1⟩⟩, rfl, rfl, rfl⟩ | exact ⟨q + 1, L + 1, N1 + 1, _, by omega, by have := HL.out; show _ = _; omega, by have := HN'.out; have := HCN.out; show _ = _; omega, by go_num, HG6, hide HS6.out.2.2, .inr ⟨by omega, hide HS6.out.1, hide HS6.out.2.1⟩⟩
                    case measure => simp [intOf]; omega
                  · by_cases hq19 : q = 19
                    · have HCN := hide (cn_yes (q := q) (.inr (.inr hq19)))
                      have hb8 : ((q : Int) == 8) = false := by rw [hq19]; rfl
                      have hb19 : ((q : Int) == 19) = true := by rw [hq19]; rfl
                      have HQ19 := hide hq19
                      clear hq19
                      have HN5 : Hid (N1 / 5 = a) := by have := HN'.out; have := HCN.out; show _ = _; omega
                      go_wp2_with (first
                      | (at_builtin; refine wpList_append_two _ rfl (.tmp 64) (.tmp 71) 28 rfl w1.heap.size 5 i5 (.int .u8 0) 1 Tryz.underlying28 HJ.out HY0.out HY1.out HY2.out rfl _ L _ rfl (HL4.out.alloc _) ⟨w4.heap.size, 0, none⟩ 1 (bV X) rfl (cell_new1 _ _ _) rfl (by unfold maxLen; omega) (by omega) (by have := HB4.out.size; simp; omega) ?_; intro v' w5 r1 r2; rw [HXE.out] at r1 r2; obtain ⟨g, cg, rfl, hbg, hl5, hg5, hs5, hb5⟩ := step_l HL4.out HG4.out HS4.out HB4.out (Nat.le_refl _) r1 r2; have HL5 := hide hl5; have HG5 := hide hg5; have HS5 := hide hs5; have HB5 := hide hb5; clear r1 r2 hl5 hg5 hs5 hb5)
                      | (at_builtin; refine wpList_append_new _ rfl (.tmp 83) (.tmp 85) 36 rfl w1.heap.size 28 i0 (.slice none 0 0) 24 Tryz.underlying36 HI.out HZ0.out HZ1.out HZ2.out rfl _ N1 _ rfl (HG5.out.alloc _) ⟨w5.heap.size, 0, none⟩ 1 (.slice (some ⟨g, 0, none⟩) (L + 1) cg) rfl (cell_new1 _ _ _) rfl (by unfold maxLen; omega) (by omega) (by have := HB5.out.size; simp; omega) ?_; intro gr' w6 r1 r2 r3; have HG6 := hide r1; have HS6 := hide (step_g HL5.out HG5.out HS5.out HB5.out (Nat.le_refl _) hbg (by omega) HN5.out r2); clear r1 r2 r3))
                      go_roundw
                      case rel => first | exact ⟨_, _, .int .i64 ((q : Int) + 1), ⟨q + 1, by omega, L + 1, by have := HL.out; show _ = _; omega, N1 + 1, by have := HN'.out; have := HCN.out; show _ = _; omega, by go_num, _, HG6, hide HS6.out.2.2, .inr ⟨by omega, hide HS6.out.1, hide HS6.out.2.1⟩⟩, rfl, rfl, rfl⟩ | exact ⟨q + 1, L + 1, N1 + 1, _, by omega, by have := HL.out; show _ = _; omega, by have := HN'.out; have := HCN.out; show _ = _; omega, by go_num, HG6, hide HS6.out.2.2, .inr ⟨by omega, hide HS6.out.1, hide HS6.out.2.1⟩⟩
                      case measure => simp [intOf]; omega
                    · have HCN := hide (cn_no hq3 hq8 hq19 hq20)
                      have hb8 : ((q : Int) == 8) = false := by rw [beq_eq_false_iff_ne]; omega
                      have hb19 : ((q : Int) == 19) = false := by rw [beq_eq_false_iff_ne]; omega
                      go_wp2_with (first
                      | (at_builtin; refine wpList_append_two _ rfl (.tmp 64) (.tmp 71) 28 rfl w1.heap.size 5 i5 (.int .u8 0) 1 Tryz.underlying28 HJ.out HY0.out HY1.out HY2.out rfl _ L _ rfl (HL4.out.alloc _) ⟨w4.heap.size, 0, none⟩ 1 (bV X) rfl (cell_new1 _ _ _) rfl (by unfold maxLen; omega) (by omega) (by have := HB4.out.size; simp; omega) ?_; intro v' w5 r1 r2; rw [HXE.out] at r1 r2; obtain ⟨g, cg, rfl, hbg, hl5, hg5, hs5, hb5⟩ := step_l HL4.out HG4.out HS4.out HB4.out (Nat.le_refl _) r1 r2; have HL5 := hide hl5; have HG5 := hide hg5; have HS5 := hide hs5; have HB5 := hide hb5; clear r1 r2 hl5 hg5 hs5 hb5))
                      go_roundw
                      case rel => first | exact ⟨_, _, .int .i64 ((q : Int) + 1), ⟨q + 1, by omega, L + 1, by have := HL.out; show _ = _; omega, N1, by have := HN'.out; have := HCN.out; show _ = _; omega, by go_num, _, HG5, HB5, .inr ⟨by omega, HL5, HS5⟩⟩, rfl, rfl, rfl⟩ | exact ⟨q + 1, L + 1, N1, _, by omega, by have := HL.out; show _ = _; omega, by have := HN'.out; have := HCN.out; show _ = _; omega, by go_num, HG5, HB5, .inr ⟨by omega, HL5, HS5⟩⟩
                      case measure => simp [intOf]; omega
            · have HC20 : Hid (cn q = 5) := by
                have hq20' : q = 20 := by omega
                rw [hq20']
                rfl
              have HS5 : Hid (Snap w4 w1.heap.size els none 0 0) := by
                rcases hor with ⟨_, _, h⟩ | ⟨_, _, h⟩
                · exact h
                · exact h.out.low (fun g e => by cases e)
              have HG5 : Hid (w4.ownsRow w1.heap.size 28 1 u6 (5 * (a + 1)) els) := by
                have := HG4.out
                rw [show N1 = 5 * (a + 1) by have := HN'.out; have := HC20.out; omega] at this
                exact this
              clear hor
              go_wp2
              go_roundw
              case rel => exact ⟨a + 1, els, by omega, by go_num, HG5, HS5, HB4⟩
              case measure => simp [intOf]; omega
        · have HA3b : Hid (a = N) := hide (by omega)
          have HG3 : Hid (w3.ownsRow w1.heap.size 28 1 u6 (5 * N) els) := by
            have := HG3.out
            rw [HA3b.out] at this
            exact this
          obtain ⟨gg, cgg, rfl, hbgg, hggl⟩ := own_shape HG3.out (by omega)
          have hc3 := (HB3.out.cell (p := ⟨pb, 0, none⟩) hplt).trans hc
          have HL3 : Hid (∀ j, j < N → w3.cell? ⟨gl, j, none⟩ = some (.slice (ad j) (m j) (m j)) ∧ Rd w3 (ad j) (m j) (mkn j (m j))) := fun j hj => by
            refine ⟨(HB3.out.cell (p := ⟨gl, j, none⟩) hglt).trans (HGC.out j hj), ?_⟩
            by_cases h0 : 0 < m j
            · rw [HAD.out j hj h0]
              exact rd_bel (HO1.out.blk hj h0).rd HB3.out
            · exact ⟨mkn_len _ _, fun c hc => by rw [show m j = 0 by omega] at hc; simp [mkn] at hc, fun h => by omega⟩
          have HE3 : Hid (∀ j, j < 5 * N → ∃ gx mm c, w3.cell? ⟨gg, j, none⟩ = some (.slice (some ⟨gx, 0, none⟩) mm c) ∧ mm ≤ 1000000000000 ∧ Rd w3 (some ⟨gx, 0, none⟩) mm (mkn (j / 5) mm)) := fun j hj => by
            have hlen : els.length = 5 * N := by have := HG3.out.1; simpa using this
            have hcell := HG3.out.cellAt j (by omega)
            rw [List.getElem?_eq_getElem (by omega)] at hcell
            obtain ⟨gx, mm, c, e1, e2, e3, e4, e5⟩ := HS3.out j _ (List.getElem?_eq_getElem (by omega))
            rw [e1] at hcell
            exact ⟨gx, mm, c, hcell, e3, e4.rd⟩
          have HFIN : Hid (Kp (InN N m gd) w w3) := HK1.out.below HB3.out
          clear hc HGC HG3 HS3 HO1 HAD HINJ H3
          go_wp2
          go_loop [10] (fun i => ∃ j : Nat, j ≤ N ∧ i = .int .i64 j) (fun i => N - (intOf i).toNat)
          case atStart => exact ⟨0, Nat.zero_le _, rfl⟩
          case round =>
            obtain ⟨j, hj, rfl⟩ := hrel
            by_cases hj3 : j < N
            · obtain ⟨hcA, hrA⟩ := HL3.out j hj3
              have HR := hide hrA
              have hmj := HM8.out j hj3
              clear hrA
              generalize m j = M at *
              generalize ad j = A at *
              go_wp2_with (go_at_call 25; refine (marked_any A M M j w3 HR.out (by omega) (by omega)).mono ?_; rintro e w' ⟨rfl, rfl⟩)
              go_round
              case rel => exact ⟨j + 1, by omega, by go_num⟩
              case measure => simp [intOf]; omega
            · go_wp2
              go_loop [12] (fun i => ∃ j : Nat, j ≤ 5 * N ∧ i = .int .i64 j) (fun i => 5 * N - (intOf i).toNat)
              case atStart => exact ⟨0, Nat.zero_le _, rfl⟩
              case round =>
                obtain ⟨j, hj, rfl⟩ := hrel
                by_cases hj15 : j < 5 * N
                · obtain ⟨gx, mm, c, hcx, hmm, hrx⟩ := HE3.out j hj15
                  have HR := hide hrx
                  have hd5 : (j : Int) / 5 = ((j / 5 : Nat) : Int) := by omega
                  have hx5 : j / 5 ≤ 200 := by omega
                  clear hrx
                  generalize j / 5 = x at *
                  have hj15' : (j : Int) < 5 * (N : Int) := by omega
                  go_wp2_with (go_at_call 25; refine (marked_any (some ⟨gx, 0, none⟩) mm c x w3 HR.out (by omega) (by omega)).mono ?_; rintro e w' ⟨rfl, rfl⟩)
                  go_round
                  case rel => exact ⟨j + 1, by omega, by go_num⟩
                  case measure => simp [intOf]; omega
                · go_wp2
                  go_ret
                  exact ⟨rfl, HFIN.out⟩
end BB
end Go.Proofs.YthhlpjhkeendcaaGreatDoor
