import Derived.WalkKit
import Derived.ArgAppend
import Derived.OwnWalk
import Derived.Test.YtondbhdlccpklaaQTakeM9

/- An append of one element of several cells: the old row with its room, or a new one and the old one as it was. -/
namespace Go.Proofs.Ytondbhdlccpklaa
open Go.RowKit

theorem ownsRow_base5 {w : World} {base base' : Nat} {e : TypeId} {size : Nat} {v : Value} {n : Nat} {xs : List Value} (h : w.ownsRow base e size v n xs) (hb : base' ≤ base) : w.ownsRow base' e size v n xs := by
  refine ⟨h.1, ?_⟩
  rcases h.2 with hn | ⟨g, cap, cur, hv, hbg, rest⟩
  · exact .inl hn
  · exact .inr ⟨g, cap, cur, hv, Nat.le_trans hb hbg, rest⟩

theorem wpList_append_either {P : Program} (w : World) {ops : Array Oper} {rest : List Oper} {o : Oper} {a : Act} {Q : Exit → Act → World → Prop} (hgd : o.guard = none) (s x : Operand) (t : TypeId)
    (ho : o.op = .call { callee := .builtin .append, args := #[s, x], argTypes := #[t, t] })
    (base : Nat) (e : TypeId) (i : TypeInfo) (z : Value) (size bytes : Nat) (ht : P.underlying t = some (.slice e)) (hi : P.info? e = some i) (hz : i.zero = some z)
    (hsize : i.size = size) (hby : i.bytes = bytes) (hzs : z.cells.size = size) (hsz : 0 < size)
    (v : Value) (n : Nat) (xs : List Value) (hs : a.eval s = v) (hown : w.ownsRow base e size v n xs)
    (ad : Addr) (c : Nat) (news : List Value) (hx : a.eval x = .slice (some ad) 1 c) (hl : news.length = 1 * size) (hnews : ∀ j u, news[j]? = some u → w.cell? (ad.add j) = some u) (h1 : ∀ u ∈ news, u.oneCell' = true)
    (h63 : n + 1 ≤ maxLen) (hbytes : (n + 1) * bytes ≤ 140737488355328) (hbase : base ≤ w.heap.size)
    (h : ∀ v' w', w'.ownsRow base e size v' (n + 1) (xs ++ news) → ((w.grownBy w' none ∧ ∃ g, v'.ownBlock = some g ∧ w.heap.size ≤ g) ∨ (w.grownBy w' v.ownBlock ∧ ∃ g cap, v = .slice (some ⟨g, 0, none⟩) n cap ∧ n + 1 ≤ cap ∧ v'.ownBlock = some g)) → wpList P ops Q rest (a.put o.dst v') w') :
    wpList P ops Q (o :: rest) a w := by
  have fin : ∀ v' w', w'.ownsRow w.heap.size e size v' (n + 1) (xs ++ news) → w.grownBy w' none → wpList P ops Q rest (a.put o.dst v') w' := fun v' w' r1 r2 => by
    refine h v' w' (ownsRow_base5 r1 hbase) (.inl ⟨r2, ?_⟩)
    rcases r1.2 with ⟨_, h0⟩ | ⟨g, cap, cur, rfl, hbg, _⟩
    · omega
    · exact ⟨g, rfl, hbg⟩
  rcases hown.2 with ⟨rfl, rfl⟩ | ⟨g, cap, cur, rfl, hb, hg, hnc, hm, hcs, htk⟩
  · have hxs : xs = [] := List.eq_nil_of_length_eq_zero (by simpa using hown.1)
    subst hxs
    exact wpList_append_grows w hgd s x t ho e i z size bytes ht hi hz hsize hby hzs hsz none 0 0 [] hs (fun _ => ⟨rfl, rfl⟩) (by simp) (fun b hb => by cases hb) ad 1 c news hx hl hnews h1 (by omega) h63 hbytes fin
  · by_cases hroom : n + 1 ≤ cap
    · exact wpList_append_fits w hgd s x t ho base e i size ht hi hsize g n cap xs hs hown ad 1 c news hx hl hnews h1 hroom fun w' r1 r2 => h _ w' r1 (.inr ⟨r2, g, cap, rfl, hroom, rfl⟩)
    · exact wpList_append_grows w hgd s x t ho e i z size bytes ht hi hz hsize hby hzs hsz (some ⟨g, 0, none⟩) n cap xs hs (fun hh => by cases hh) hown.1 (fun b hb j u hj => by
        simp only [Option.some.injEq] at hb
        subst hb
        exact hown.cells rfl j u hj) ad 1 c news hx hl hnews h1 (by omega) h63 hbytes fin
end Go.Proofs.Ytondbhdlccpklaa


/- Stage 13: the book's lists are marked and grown: the mathematics. -/
namespace Go.Proofs.Ytondbhdlccpklaa
open Go.RowKit Go.Maps
set_option linter.unusedVariables false
set_option linter.unusedSimpArgs false

def sLen : Value → Nat
  | .slice _ n _ => n
  | _ => 0
/-- the first k bear the mark -/
def AllI (xs : List Value) (k : Nat) (id : Int) : Prop := ∀ q, q < k → xs[q * 3]? = some (.int .i64 id)
/-- a list of its own whose first k bear the mark -/
def Mkd (w : World) (base : Nat) (v : Value) (id : Int) (k : Nat) : Prop := ∃ xs, w.ownsRow base 75 3 v (sLen v) xs ∧ sLen v ≤ 4294967296 ∧ AllI xs (min k (sLen v)) id
/-- a list that reads so -/
def RdM (w : World) (x : Value) (id : Int) : Prop := (∃ a n c, x = .slice a n c ∧ (a = none → n = 0)) ∧ sLen x ≤ 4294967304 ∧ ∀ k, x.ownBlock = some k → ∃ cs, w.heap[k]? = some (.cells cs 75 (0, 0)) ∧ (∃ c, x = .slice (some ⟨k, 0, none⟩) (sLen x) c) ∧ ∀ q, q < sLen x → cs[q * 3]? = some (.int .i64 id)
section
variable {w w' : World} {base : Nat} {v x : Value} {id : Int} {k : Nat} {xs : List Value}
theorem own_len {n : Nat} (h : w.ownsRow base 75 3 v n xs) : sLen v = n := by
  obtain ⟨a, c, rfl, _⟩ := own_some h
  rfl
theorem rdM_own {n : Nat} (h : w.ownsRow base 75 3 v n xs) (hn : n ≤ 4294967304) (ha : AllI xs n id) : RdM w v id := by
  rcases h.2 with ⟨rfl, rfl⟩ | ⟨g, cap, cur, rfl, h1, h2, h3, h4, h5, h6⟩
  · exact ⟨⟨none, 0, 0, rfl, fun _ => rfl⟩, by show 0 ≤ _; omega, fun k e => by cases e⟩
  · refine ⟨⟨_, n, cap, rfl, fun e => by cases e⟩, hn, fun k e => ?_⟩
    cases e
    refine ⟨cur, h2, ⟨cap, rfl⟩, fun q hq => ?_⟩
    have hq' : q < n := hq
    rw [← ha q hq', ← h6, List.getElem?_take_of_lt (by omega), Array.getElem?_toList]
theorem RdM.at (h : RdM w x id) (hb : ∀ k, x.ownBlock = some k → w'.heap[k]? = w.heap[k]?) : RdM w' x id := by
  refine ⟨h.1, h.2.1, fun k e => ?_⟩
  obtain ⟨cs, h1, h2⟩ := h.2.2 k e
  exact ⟨cs, (hb k e).trans h1, h2⟩
theorem RdM.lt (h : RdM w x id) {k : Nat} (e : x.ownBlock = some k) : k < w.heap.size := by
  obtain ⟨cs, h1, h2⟩ := h.2.2 k e
  exact (Array.getElem?_eq_some_iff.1 h1).1
/-- a shorter one in the same block -/
theorem RdM.less {n : Nat} {id' : Int} (h : RdM w x id') (hv : w'.ownsRow base 75 3 v n xs) (ha : AllI xs n id) (hl : sLen x ≤ n) (he : ∀ k, x.ownBlock = some k → v.ownBlock = some k) : RdM w' x id := by
  refine ⟨h.1, h.2.1, fun k e => ?_⟩
  obtain ⟨cs, h1, h2, h3⟩ := h.2.2 k e
  have e' := he k e
  rcases hv.2 with ⟨rfl, _⟩ | ⟨g, cap, cur, rfl, r1, r2, r3, r4, r5, r6⟩
  · cases e'
  · cases e'
    refine ⟨cur, r2, h2, fun q hq => ?_⟩
    rw [← ha q (by omega), ← r6, List.getElem?_take_of_lt (by omega), Array.getElem?_toList]
theorem own_type {b2 n2 s2 : Nat} {e2 : TypeId} {u : Value} {ys : List Value} (h2 : w.ownsRow b2 e2 s2 u n2 ys) (hne : e2 ≠ 75) {k : Nat} {cs : Array Value} (h : w.heap[k]? = some (.cells cs 75 (0, 0))) : u.ownBlock ≠ some k := by
  intro e
  rcases h2.2 with ⟨rfl, _⟩ | ⟨g, cap, cur, rfl, _, r2, _⟩
  · cases e
  · cases e
    rw [r2] at h
    cases h
    exact hne rfl
theorem Mkd.at (h : Mkd w base v id k) (hb : ∀ j, v.ownBlock = some j → w'.heap[j]? = w.heap[j]?) : Mkd w' base v id k := by
  obtain ⟨xs, h1, h2, h3⟩ := h
  exact ⟨xs, own_at h1 hb, h2, h3⟩
theorem Mkd.lt (h : Mkd w base v id k) {j : Nat} (e : v.ownBlock = some j) : base ≤ j ∧ j < w.heap.size := by
  obtain ⟨xs, h1, h2, h3⟩ := h
  exact h1.lt j e
theorem Mkd.rd (h : Mkd w base v id k) (hk : sLen v ≤ k) : RdM w v id := by
  obtain ⟨xs, h1, h2, h3⟩ := h
  rw [Nat.min_eq_right hk] at h3
  exact rdM_own h1 (by omega) h3
theorem OwnP.mkd {ps : List Pd} (h : OwnP w base v ps) (hl : ps.length ≤ 4294967296) (id : Int) : Mkd w base v id 0 := by
  have e := own_len h
  refine ⟨flatP ps, by rw [e]; exact h, by omega, fun q hq => by omega⟩
/-- one more is marked -/
theorem Mkd.put {g n c : Nat} (h : Mkd w base (.slice (some ⟨g, 0, none⟩) n c) id k) (hk : k < n) (b1 b2 : Value) : Mkd (w.setCells g (k * 3) [.int .i64 id, b1, b2]) base (.slice (some ⟨g, 0, none⟩) n c) id (k + 1) := by
  obtain ⟨xs, h1, h2, h3⟩ := h
  have h1' : w.ownsRow base 75 3 (.slice (some ⟨g, 0, none⟩) n c) n xs := h1
  refine ⟨_, own_three h1' (k * 3) _ _ _, h2, fun q hq => ?_⟩
  have hq1 : q < k + 1 := by omega
  have hlen : xs.length = n * 3 := h1'.1
  rw [List.getElem?_set_ne (by omega), List.getElem?_set_ne (by omega)]
  by_cases e : q = k
  · subst e
    rw [List.getElem?_set_self (by omega)]
  · rw [List.getElem?_set_ne (by omega)]
    exact h3 q (by show q < min k n; omega)
end
/-- a list vc of m, grown out of the i-th of S; the lists G that were grown, in vg; B0: where the growing began -/
structure Gr (S : List Value) (kb B0 i m : Nat) (vc vg : Value) (G : List Value) (wr : World) : Prop where
  size : B0 ≤ wr.heap.size
  row : ∃ xs, wr.ownsRow (kb + 1) 75 3 vc m xs ∧ AllI xs m (-1000 - (i : Int))
  low : ∀ k, vc.ownBlock = some k → B0 ≤ k ∨ ∃ v, S[i]? = some v ∧ v.ownBlock = some k
  grow : wr.ownsRow B0 72 1 vg G.length G
  items : ∀ (q : Nat) x, G[q]? = some x → RdM wr x (-1000 - ((q / 9 : Nat) : Int)) ∧ (∀ k, x.ownBlock = some k → B0 ≤ k ∨ ∃ v, S[q / 9]? = some v ∧ v.ownBlock = some k) ∧ ∀ k, x.ownBlock = some k → vc.ownBlock = some k → q / 9 = i ∧ sLen x ≤ m
  self : ∀ v, S[i]? = some v → RdM wr v (-1000 - (i : Int)) ∧ sLen v ≤ m
  rest : ∀ (j : Nat) v, i < j → S[j]? = some v → Mkd wr (kb + 1) v (-1000 - (j : Int)) 4294967296 ∧ ∀ k, v.ownBlock = some k → k < B0
section
variable {S : List Value} {kb B0 i m : Nat} {vc vg v' : Value} {G : List Value} {wr w1 : World} {o : Obj}
theorem Gr.push (h : Gr S kb B0 i m vc vg G wr) (hnd : S.Pairwise apartV) {xs news : List Value} (h0 : wr.ownsRow (kb + 1) 75 3 vc m xs) (ha : AllI xs m (-1000 - (i : Int))) (hn : news[0]? = some (.int .i64 (-1000 - (i : Int)))) (h1 : w1.ownsRow (kb + 1) 75 3 v' (m + 1) (xs ++ news))
    (h2 : ((wr.alloc o).grownBy w1 none ∧ ∃ g, v'.ownBlock = some g ∧ (wr.alloc o).heap.size ≤ g) ∨ ((wr.alloc o).grownBy w1 vc.ownBlock ∧ ∃ g cap, vc = .slice (some ⟨g, 0, none⟩) m cap ∧ m + 1 ≤ cap ∧ v'.ownBlock = some g)) :
    Gr S kb B0 i (m + 1) v' vg G w1 ∧ ∀ X : Nat → Prop, (∀ v, S[i]? = some v → ∀ k, v.ownBlock = some k → X k) → ∀ w0, w0.heap.size = B0 → Kp X w0 wr → Kp X w0 w1 := by
  have hs1 : (wr.alloc o).heap.size = wr.heap.size + 1 := by simp
  have ha' : AllI (xs ++ news) (m + 1) (-1000 - (i : Int)) := fun q hq => by
    have hl : xs.length = m * 3 := h0.1
    by_cases e : q < m
    · rw [List.getElem?_append_left (by omega)]
      exact ha q e
    · obtain rfl : q = m := by omega
      rw [List.getElem?_append_right (by omega), hl, Nat.sub_self]
      exact hn
  have al : ∀ k, k < wr.heap.size → (wr.alloc o).heap[k]? = wr.heap[k]? := fun k hk => (bel1 (Below.refl wr.heap.size wr) (Nat.le_refl _) o).block k hk
  have hB := h.size
  rcases h2 with ⟨hg, g, e, hge⟩ | ⟨hg, g, cap, rfl, hc, e⟩
  · have old : ∀ k, k < wr.heap.size → w1.heap[k]? = wr.heap[k]? := fun k hk => (hg.block k (by omega) (by simp)).trans (al k hk)
    refine ⟨⟨by have := hg.size; omega, ⟨_, h1, ha'⟩, fun k ek => ?_, own_at h.grow fun k ek => old k (h.grow.lt k ek).2, fun q x ex => ?_, fun v ev => ?_, fun j v hj ev => ?_⟩, fun X hX w0 hw hk => (hk.alloc o).grown hg fun j ej => by cases ej⟩
    · rw [e] at ek
      cases ek
      exact .inl (by omega)
    · obtain ⟨r1, r2, r3⟩ := h.items q x ex
      refine ⟨r1.at fun k ek => old k (r1.lt ek), r2, fun k ek ek' => ?_⟩
      rw [e] at ek'
      cases ek'
      have := r1.lt ek
      omega
    · obtain ⟨r1, r2⟩ := h.self v ev
      exact ⟨r1.at fun k ek => old k (r1.lt ek), by omega⟩
    · obtain ⟨r1, r2⟩ := h.rest j v hj ev
      exact ⟨r1.at fun k ek => old k (r1.lt ek).2, r2⟩
  · have old : ∀ k, k < wr.heap.size → k ≠ g → w1.heap[k]? = wr.heap[k]? := fun k hk hne => (hg.block k (by omega) (fun e => by cases e; exact hne rfl)).trans (al k hk)
    have hgl : g < wr.heap.size := (h0.lt g rfl).2
    refine ⟨⟨by have := hg.size; omega, ⟨_, h1, ha'⟩, fun k ek => h.low k (by rw [e] at ek; exact ek), own_at h.grow fun k ek => old k (h.grow.lt k ek).2 ?_, fun q x ex => ?_, fun v ev => ?_, fun j v hj ev => ?_⟩, fun X hX w0 hw hk => (hk.alloc o).grown hg fun j ej => ?_⟩
    · rintro rfl
      rcases h0.2 with ⟨h', _⟩ | ⟨g', cap', cur, h', _, r2, _⟩
      · cases h'
      · cases h'
        exact own_type h.grow (by decide) r2 ek
    · obtain ⟨r1, r2, r3⟩ := h.items q x ex
      by_cases hx : x.ownBlock = some g
      · obtain ⟨e1, e2⟩ := r3 g hx rfl
        refine ⟨?_, r2, fun k ek ek' => ⟨e1, by omega⟩⟩
        rw [e1]
        exact r1.less h1 ha' (by omega) fun k ek => by rw [hx] at ek; rw [e]; exact ek
      · refine ⟨r1.at fun k ek => old k (r1.lt ek) (fun e' => hx (e' ▸ ek)), r2, fun k ek ek' => ?_⟩
        rw [e] at ek'
        cases ek'
        exact absurd ek hx
    · obtain ⟨r1, r2⟩ := h.self v ev
      by_cases hx : v.ownBlock = some g
      · exact ⟨r1.less h1 ha' (by omega) fun k ek => by rw [hx] at ek; rw [e]; exact ek, by omega⟩
      · exact ⟨r1.at fun k ek => old k (r1.lt ek) (fun e' => hx (e' ▸ ek)), by omega⟩
    · obtain ⟨r1, r2⟩ := h.rest j v hj ev
      refine ⟨r1.at fun k ek => old k (r1.lt ek).2 ?_, r2⟩
      rintro rfl
      rcases h.low k rfl with hb | ⟨u, eu, ek'⟩
      · have := r2 k ek
        omega
      · rw [List.pairwise_iff_getElem] at hnd
        obtain ⟨hi1, rfl⟩ := List.getElem?_eq_some_iff.1 eu
        obtain ⟨hj1, rfl⟩ := List.getElem?_eq_some_iff.1 ev
        exact hnd i j hi1 hj1 hj k ek' ek
    · cases ej
      rcases h.low g rfl with hb | ⟨u, eu, ek'⟩
      · exact .inr (by show w0.heap.size ≤ g; omega)
      · exact .inl (hX u eu g ek')
/-- a further list of lists: what was there stays -/
theorem Gr.take (h : Gr S kb B0 i m vc vg G wr) {x : Value} (hx : RdM wr x (-1000 - (i : Int))) (hx2 : ∀ k, x.ownBlock = some k → B0 ≤ k ∨ ∃ v, S[i]? = some v ∧ v.ownBlock = some k) (hx3 : sLen x ≤ m) (hi : G.length / 9 = i) (h1 : w1.ownsRow B0 72 1 v' (G.length + 1) (G ++ [x])) (hg : (wr.alloc o).grownBy w1 vg.ownBlock) :
    Gr S kb B0 i m vc v' (G ++ [x]) w1 ∧ ∀ X : Nat → Prop, ∀ w0, w0.heap.size = B0 → Kp X w0 wr → Kp X w0 w1 := by
  have hs1 : (wr.alloc o).heap.size = wr.heap.size + 1 := by simp
  have al : ∀ k, k < wr.heap.size → (wr.alloc o).heap[k]? = wr.heap[k]? := fun k hk => (bel1 (Below.refl wr.heap.size wr) (Nat.le_refl _) o).block k hk
  have old : ∀ k, k < wr.heap.size → vg.ownBlock ≠ some k → w1.heap[k]? = wr.heap[k]? := fun k hk hne => (hg.block k (by omega) (fun e => hne e.symm)).trans (al k hk)
  have rd : ∀ {y : Value} {id : Int}, RdM wr y id → RdM w1 y id := fun hy => hy.at fun k ek => old k (hy.lt ek) (by
    obtain ⟨cs, r, _⟩ := hy.2.2 k ek
    exact own_type h.grow (by decide) r)
  have mk : ∀ {y : Value} {n : Nat} {ys : List Value}, wr.ownsRow (kb + 1) 75 3 y n ys → w1.ownsRow (kb + 1) 75 3 y n ys := fun hy => own_at hy fun k ek => old k (hy.lt k ek).2 (by
    rcases hy.2 with ⟨rfl, _⟩ | ⟨g, cap, cur, rfl, _, r2, _⟩
    · cases ek
    · cases ek
      exact own_type h.grow (by decide) r2)
  have hB := h.size
  refine ⟨⟨by have := hg.size; omega, ?_, h.low, by rw [List.length_append]; exact h1, fun q y ey => ?_, fun v ev => ⟨rd (h.self v ev).1, (h.self v ev).2⟩, fun j v hj ev => ?_⟩, fun X w0 hw hk => (hk.alloc o).grown hg fun j ej => .inr (by have := (h.grow.lt j ej).1; omega)⟩
  · obtain ⟨xs, r1, r2⟩ := h.row
    exact ⟨xs, mk r1, r2⟩
  · by_cases hq : q < G.length
    · rw [List.getElem?_append_left hq] at ey
      obtain ⟨r1, r2, r3⟩ := h.items q y ey
      exact ⟨rd r1, r2, r3⟩
    · have hq' : q = G.length := by
        have := (List.getElem?_eq_some_iff.1 ey).1
        rw [List.length_append, List.length_singleton] at this
        omega
      rw [hq', List.getElem?_append_right (Nat.le_refl _), Nat.sub_self] at ey
      cases ey
      rw [hq', hi]
      exact ⟨rd hx, hx2, fun _ _ _ => ⟨rfl, hx3⟩⟩
  · obtain ⟨⟨ys, r1, r2, r3⟩, r4⟩ := h.rest j v hj ev
    exact ⟨⟨ys, mk r1, r2, r3⟩, r4⟩
/-- ahead of the j-th -/
structure Gw (S : List Value) (kb B0 j : Nat) (vg : Value) (G : List Value) (wr : World) : Prop where
  size : B0 ≤ wr.heap.size
  len : G.length = 9 * j
  grow : wr.ownsRow B0 72 1 vg G.length G
  items : ∀ (q : Nat) x, G[q]? = some x → RdM wr x (-1000 - ((q / 9 : Nat) : Int)) ∧ ∀ k, x.ownBlock = some k → B0 ≤ k ∨ ∃ v, S[q / 9]? = some v ∧ v.ownBlock = some k
  rest : ∀ (i : Nat) v, j ≤ i → S[i]? = some v → Mkd wr (kb + 1) v (-1000 - (i : Int)) 4294967296 ∧ ∀ k, v.ownBlock = some k → k < B0
theorem Gw.enter {j : Nat} (h : Gw S kb B0 j vg G wr) (hnd : S.Pairwise apartV) {v : Value} (hv : S[j]? = some v) : Gr S kb B0 j (sLen v) v vg G wr := by
  obtain ⟨r1, r2⟩ := h.rest j v (Nat.le_refl _) hv
  refine ⟨h.size, ?_, fun k e => .inr ⟨v, hv, e⟩, h.grow, fun q x ex => ?_, fun u hu => ?_, fun i u hi hu => h.rest i u (by omega) hu⟩
  · obtain ⟨xs, a1, a2, a3⟩ := r1
    rw [Nat.min_eq_right a2] at a3
    exact ⟨xs, a1, a3⟩
  · obtain ⟨a1, a2⟩ := h.items q x ex
    refine ⟨a1, a2, fun k e1 e2 => ?_⟩
    have hq : q < G.length := (List.getElem?_eq_some_iff.1 ex).1
    rcases a2 k e1 with hb | ⟨u, hu, e3⟩
    · have := r2 k e2
      omega
    · exfalso
      rw [List.pairwise_iff_getElem] at hnd
      obtain ⟨hi1, rfl⟩ := List.getElem?_eq_some_iff.1 hu
      obtain ⟨hj1, rfl⟩ := List.getElem?_eq_some_iff.1 hv
      have := h.len
      exact hnd (q / 9) j hi1 hj1 (by omega) k e3 e2
  · rw [hv] at hu
    cases hu
    obtain ⟨xs, a1, a2, a3⟩ := r1
    exact ⟨Mkd.rd ⟨xs, a1, a2, a3⟩ a2, Nat.le_refl _⟩
theorem Gr.leave {j : Nat} (h : Gr S kb B0 j m vc vg G wr) (hl : G.length = 9 * (j + 1)) : Gw S kb B0 (j + 1) vg G wr :=
  ⟨h.size, hl, h.grow, fun q x ex => ⟨(h.items q x ex).1, (h.items q x ex).2.1⟩, fun i v hi hv => h.rest i v (by omega) hv⟩
theorem own_read {w : World} {base n i c : Nat} {e : TypeId} {a : Option Addr} {x : Value} {xs : List Value} (h : w.ownsRow base e 1 (.slice a n c) n xs) (hx : xs[i]? = some x) : ∃ g, a = some ⟨g, 0, none⟩ ∧ base ≤ g ∧ g < w.heap.size ∧ w.cell? ⟨g, i, none⟩ = some x := by
  have hi : i < n := by
    have := (List.getElem?_eq_some_iff.1 hx).1
    have := h.1
    omega
  obtain ⟨a', c', e1, e2, e3⟩ := own_some h
  cases e1
  obtain ⟨g, rfl⟩ := e2 i hi
  obtain ⟨_, _, e4, e5⟩ := e3 g 0 none rfl
  exact ⟨g, rfl, e4, e5, by rw [h.cellAt i (by omega)]; exact hx⟩
/-- all lists, how many of each bear their mark -/
def MKs (S : List Value) (kb : Nat) (K : Nat → Nat) (w : World) : Prop := ∀ (i : Nat) v, S[i]? = some v → Mkd w (kb + 1) v (-1000 - (i : Int)) (K i)
theorem three_other (w : World) {g k : Nat} (h : k ≠ g) (o : Nat) (a b c : Value) : (w.setCells g o [a, b, c]).heap[k]? = w.heap[k]? :=
  ((blk_set_other _ _ _ _ h).trans (blk_set_other _ _ _ _ h)).trans (blk_set_other _ _ _ _ h)
theorem MKs.put {w : World} {K K' : Nat → Nat} {j g n c q : Nat} (h : MKs S kb K w) (hnd : S.Pairwise apartV) (hv : S[j]? = some (.slice (some ⟨g, 0, none⟩) n c)) (hq : q < n) (hj : K j = q) (hj' : K' j = q + 1) (ho : ∀ i, i ≠ j → K' i = K i) (b1 b2 : Value) : MKs S kb K' (w.setCells g (q * 3) [.int .i64 (-1000 - (j : Int)), b1, b2]) := by
  intro i v e
  by_cases hi : i = j
  · subst hi
    rw [hv] at e
    cases e
    have := h i _ hv
    rw [hj] at this
    rw [hj']
    exact this.put hq b1 b2
  · rw [ho i hi]
    refine (h i v e).at fun k ek => three_other w ?_ _ _ _ _
    rintro rfl
    rw [List.pairwise_iff_getElem] at hnd
    obtain ⟨hi1, e1⟩ := List.getElem?_eq_some_iff.1 e
    obtain ⟨hj1, e2⟩ := List.getElem?_eq_some_iff.1 hv
    subst e1
    rcases Nat.lt_or_gt_of_ne hi with hlt | hlt
    · exact hnd i j hi1 hj1 hlt k ek (by rw [e2]; rfl)
    · exact hnd j i hj1 hi1 hlt k (by rw [e2]; rfl) ek
theorem MKs.full {w : World} {K K' : Nat → Nat} {j : Nat} (h : MKs S kb K w) {v : Value} (hv : S[j]? = some v) (hj : K j = sLen v) (hj' : K' j = 4294967296) (ho : ∀ i, i ≠ j → K' i = K i) : MKs S kb K' w := by
  intro i u e
  by_cases hi : i = j
  · subst hi
    rw [hv] at e
    cases e
    obtain ⟨xs, h1, h2, h3⟩ := h i v hv
    refine ⟨xs, h1, h2, ?_⟩
    rw [hj, Nat.min_self] at h3
    rw [hj', Nat.min_eq_right h2]
    exact h3
  · rw [ho i hi]
    exact h i u e
theorem Gw.start {w : World} (h : MKs S kb (fun _ => 4294967296) w) : Gw S kb w.heap.size 0 (.slice none 0 0) [] w :=
  ⟨Nat.le_refl _, rfl, World.ownsRow_nil _ _ _ _, fun q x e => by simp at e, fun i v _ e => ⟨h i v e, fun k ek => ((h i v e).lt ek).2⟩⟩
end
end Go.Proofs.Ytondbhdlccpklaa
