import Derived.Test.YtgpimajdcfoigaaDoorB17
import Derived.OwnWalk
import Derived.Deep.RegionLaw
import Derived.Maps.AppendAt
import Derived.Test.YtgpimajdcfoigaaDoorB12
import Derived.Deep.RegionHeldLaw

/- rows that are kept. -/
namespace Go.Proofs.YtgpimajdcfoigaaDoor
open Go.RowKit
set_option linter.unusedVariables false
set_option linter.unusedSimpArgs false

theorem ownsRow_keep {w w' : World} {base : Nat} {e : TypeId} {size : Nat} {v : Value} {n : Nat} {xs : List Value} (h : w.ownsRow base e size v n xs) (hk : ∀ g, v.ownBlock = some g → w'.heap[g]? = w.heap[g]?) : w'.ownsRow base e size v n xs := by
  refine ⟨h.1, ?_⟩
  rcases h.2 with hn | ⟨g, cap, cur, rfl, h1, h2, h3⟩
  · exact .inl hn
  · exact .inr ⟨g, cap, cur, rfl, h1, (hk g rfl).trans h2, h3⟩
theorem ownsRow_lt {w : World} {base : Nat} {e : TypeId} {size : Nat} {v : Value} {n : Nat} {xs : List Value} (h : w.ownsRow base e size v n xs) {g : Nat} (hg : v.ownBlock = some g) : base ≤ g ∧ g < w.heap.size := by
  rcases h.2 with ⟨rfl, _⟩ | ⟨g', cap, cur, rfl, h1, h2, h3⟩
  · cases hg
  · cases hg
    exact ⟨h1, (Array.getElem?_eq_some_iff.1 h2).1⟩
theorem news5 (W : World) (y : V) (q : Nat) (u : Value) (hq : (words y)[q]? = some u) : (W.alloc (Obj.cells #[.int .i64 y.k, .int .u64 y.n, .string y.s, .slice y.a y.l.length y.c, .int .i64 y.e] 25)).cell? ((⟨W.heap.size, 0, none⟩ : Addr).add q) = some u := by
  have hql : q < 5 := by have := (List.getElem?_eq_some_iff.1 hq).1; simpa [words] using this
  have hh := World.alloc_heap_new W (Obj.cells #[.int .i64 y.k, .int .u64 y.n, .string y.s, .slice y.a y.l.length y.c, .int .i64 y.e] 25)
  have e1 : (⟨W.heap.size, 0, none⟩ : Addr).add q = ⟨W.heap.size, q, none⟩ := by by_cases h : q = 0 <;> simp [Addr.add, h]
  rw [e1]
  simp only [World.cell?, hh]
  have : q = 0 ∨ q = 1 ∨ q = 2 ∨ q = 3 ∨ q = 4 := by omega
  rcases this with rfl | rfl | rfl | rfl | rfl <;> simpa [words] using hq
end Go.Proofs.YtgpimajdcfoigaaDoor


/- An append as one step of a region that draws its order. -/
namespace Go.Proofs.YtgpimajdcfoigaaDoor
set_option linter.unusedVariables false

theorem step_append_at {P : Program} {ops : Array Oper} {o : Oper} {a : Act} {w : World} {K : Act → World → Prop} {Q : Exit → Act → World → Prop} {E : Prop}
    (hg : o.guard = none) (s x : Operand) (t : TypeId) (ho : o.op = Op.call { callee := Callee.builtin Builtin.append, args := #[s, x], argTypes := #[t, t] })
    (base : Nat) (e : TypeId) (i : TypeInfo) (z : Value) (size bytes : Nat) (ht : P.underlying t = some (.slice e)) (hi : P.info? e = some i) (hz : i.zero = some z)
    (hsize : i.size = size) (hby : i.bytes = bytes) (hzs : z.cells.size = size) (hsz : 0 < size)
    (v : Value) (n : Nat) (xs : List Value) (hs : a.eval s = v) (hown : w.ownsRow base e size v n xs)
    (ad : Addr) (m c : Nat) (news : List Value) (hx : a.eval x = .slice (some ad) m c) (hl : news.length = m * size) (hnews : ∀ j u, news[j]? = some u → w.cell? (ad.add j) = some u) (h1 : ∀ u ∈ news, u.oneCell' = true)
    (h63 : n + m ≤ maxLen) (hbytes : (n + m) * bytes ≤ 140737488355328) (hbase : base ≤ w.heap.size)
    (hK : ∀ v' w', w'.ownsRow base e size v' (n + m) (xs ++ news) → w.grownBy w' v.ownBlock → (v'.ownBlock = v.ownBlock ∨ v'.ownBlock = some w.heap.size) → K (a.put o.dst v') w') :
    if Region.wanted o (yielded ops a.tmps) = true then Oper.wp P o a w K Q else E := by
  have hw : Region.wanted o (yielded ops a.tmps) = true := by simp [Region.wanted, hg]
  rw [if_pos hw]
  obtain ⟨v', w', hr, h2, h3, h4, h5⟩ := run_append_own_at (P := P) w base t o.type e i z size bytes ht hi hz hsize hby hzs hsz v n xs hown ad m c news hl hnews h1 h63 hbytes hbase
  unfold Oper.wp execOp
  simp only [ho, resolve, invoke, builtin, Sem.run_bind, Sem.run_pure, Result.andThen_ok, List.map_toArray, List.map_cons, List.map_nil, hs, hx, hr]
  exact hK _ _ h2 h3 h5
end Go.Proofs.YtgpimajdcfoigaaDoor


/- value.isMap. -/
namespace Go.Proofs.YtgpimajdcfoigaaDoor
open Go.RowKit
set_option linter.unusedVariables false
set_option linter.unusedSimpArgs false

/-- every other one, from the first on -/
def evens {α : Type} : List α → List α
  | a :: _ :: r => a :: evens r
  | [a] => [a]
  | [] => []
theorem evens_drop {α : Type} (l : List α) (i : Nat) (h : i < l.length) : evens (l.drop i) = l[i] :: evens (l.drop (i + 2)) := by
  rw [List.drop_eq_getElem_cons h]
  by_cases h2 : i + 1 < l.length
  · rw [List.drop_eq_getElem_cons h2, evens]
  · have e1 : l.drop (i + 1) = [] := List.drop_of_length_le (by omega)
    have e2 : l.drop (i + 2) = [] := List.drop_of_length_le (by omega)
    rw [e1, e2, evens, evens]
theorem evens_map {α β : Type} (f : α → β) : ∀ (n : Nat) (l : List α), l.length ≤ n → evens (l.map f) = (evens l).map f
  | _, [], _ => rfl
  | _, [_], _ => rfl
  | 0, _ :: _ :: _, h => by simp at h
  | n + 1, a :: b :: r, h => by
    simp only [List.map_cons, evens]
    rw [evens_map f n r (by simp at h; omega)]
theorem evens_mem {α : Type} : ∀ (n : Nat) (l : List α), l.length ≤ n → ∀ x ∈ evens l, x ∈ l
  | _, [], _, x, h => by simp [evens] at h
  | _, [a], _, x, h => by simpa [evens] using h
  | 0, _ :: _ :: _, hn, x, h => by simp at hn
  | n + 1, a :: b :: r, hn, x, h => by
    simp only [evens, List.mem_cons] at h
    rcases h with rfl | h
    · simp
    · have := evens_mem n r (by simp at hn; omega) x h
      simp [this]
/-- no two are the same -/
def nodupT : List T → Bool
  | [] => true
  | x :: r => r.all (fun y => !eqT x y) && nodupT r
theorem nodupT_iff (l : List T) : nodupT l = true ↔ l.Pairwise (fun a b => eqT a b = false) := by
  induction l with
  | nil => simp [nodupT]
  | cons x r ih => simp [nodupT, ih, List.pairwise_cons]
/-- may these be the parts of a map? -/
def mapT (L : List T) : Bool := decide (L.length % 2 = 0) && (decide (L.length / 2 ≤ 1024) && nodupT (evens L))
theorem eqT_symm' (x y : T) : eqT y x = eqT x y := by
  unfold eqT
  rw [neg_ord x y, Bool.eq_iff_iff]
  simp only [decide_eq_true_eq]
  omega
theorem eqT_false (x y : T) : eqT x y = false ↔ T.ord x y ≠ 0 := by unfold eqT; simp
theorem nodupT_perm {l m : List T} (h : l.Perm m) : nodupT l = nodupT m := by
  rw [Bool.eq_iff_iff, nodupT_iff, nodupT_iff]
  exact h.pairwise_iff (fun {a b} hab => by rw [eqT_symm']; exact hab)
/-- in order, those that are the same stand side by side -/
theorem nodupT_sorted (l : List T) (hs : ∀ i j (hi : i < l.length) (hj : j < l.length), i < j → 0 ≤ T.ord l[j] l[i]) : nodupT l = true ↔ ∀ i (h : i + 1 < l.length), eqT l[i] l[i + 1] = false := by
  rw [nodupT_iff, List.pairwise_iff_getElem]
  constructor
  · intro h i hi
    exact h i (i + 1) (by omega) hi (by omega)
  · intro h i j hi hj hij
    by_cases e : j = i + 1
    · subst e
      exact h i hj
    · rw [eqT_false]
      obtain ⟨k, rfl⟩ : ∃ k, j = k + 1 := ⟨j - 1, by omega⟩
      have h1 := hs i k hi (by omega) (by omega)
      have h2 := hs k (k + 1) (by omega) hj (by omega)
      have h3 := (eqT_false _ _).1 (h k hj)
      have t := tri_ord l[i] l[k] l[k + 1]
      rw [neg_ord] at h1 h2
      unfold Tri at t
      omega

/-- keys that are gathered -/
structure Gath (B i : Nat) (l ks : List V) (kv : Value) (wr : World) : Prop where
  size : B ≤ wr.heap.size
  row : wr.ownsRow B 25 5 kv ks.length (flat ks)
  blk : ∃ g, kv.ownBlock = some g
  len : 2 * ks.length ≤ i + 1
  ev : evens l = ks ++ evens (l.drop i)
theorem Gath.below {B i : Nat} {l ks : List V} {kv : Value} {wr w' : World} (h : Gath B i l ks kv wr) (hb : Below wr.heap.size wr w') : Gath B i l ks kv w' :=
  ⟨Nat.le_trans h.size hb.size, ownsRow_keep h.row (fun g hg => hb.block g (ownsRow_lt h.row hg).2), h.blk, h.len, h.ev⟩
theorem Gath.push {B i : Nat} {l ks : List V} {kv v' : Value} {wr w' : World} (h : Gath B i l ks kv wr) (hi : i < l.length) (h1 : w'.ownsRow B 25 5 v' (ks.length + 1) (flat ks ++ words l[i])) (hg : wr.grownBy w' kv.ownBlock) : Gath B (i + 2) l (ks ++ [l[i]]) v' w' ∧ ∀ w0, Below B w0 wr → Below B w0 w' := by
  refine ⟨⟨Nat.le_trans h.size hg.size, ?_, ?_, ?_, ?_⟩, fun w0 hw => hw.grown hg h.size (fun k hk => (ownsRow_lt h.row hk).1)⟩
  · rw [List.length_append, flat_append]
    simpa [flat] using h1
  · rcases h1.2 with ⟨_, h0⟩ | ⟨g, cap, cur, rfl, _⟩
    · omega
    · exact ⟨g, rfl⟩
  · have := h.len
    simp only [List.length_append, List.length_cons, List.length_nil]
    omega
  · rw [h.ev, evens_drop l i hi]
    simp
end Go.Proofs.YtgpimajdcfoigaaDoor
