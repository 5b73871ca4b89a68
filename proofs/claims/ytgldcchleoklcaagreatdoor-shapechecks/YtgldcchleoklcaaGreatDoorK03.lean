/- VMem -/
import Derived.Test.YtgldcchleoklcaaGreatDoorK02
import Derived.WalkKit
import Derived.RangeFuncRecord
namespace Go.Proofs.YtgldcchleoklcaaGreatDoor

open Go.RowKit
set_option linter.unusedSimpArgs false
set_option linter.unusedVariables false

namespace V
/-- its five words -/
def val (v : V) : Value := .agg #[.int .i64 v.k, .int .u64 v.n, .string v.s, .slice v.a v.l.length v.c, .int .i64 v.e]
theorem val_eq (v : V) : v.val = .agg #[.int .i64 v.k, .int .u64 v.n, .string v.s, .slice v.a v.l.length v.c, .int .i64 v.e] := rfl
theorem val_of (k n : Int) (s : ByteArray) (a : Option Addr) (c : Nat) (e : Int) (l : List V) : (V.of k n s a c e l).val = .agg #[.int .i64 k, .int .u64 n, .string s, .slice a l.length c, .int .i64 e] := by
  rw [val_eq, V.l_of]; rfl
end V
def V.t : V → T := V.fold (fun p ts => T.of p.k p.n p.s p.e ts) (T.of 0 0 ⟨#[]⟩ 0 [])
def V.ts : List V → List T
  | [] => []
  | x :: l => x.t :: V.ts l
theorem V.ts_map (l : List V) : V.ts l = l.map V.t := by
  induction l with
  | nil => rfl
  | cons x l ih => rw [V.ts, ih]; rfl
theorem V.t_of (k n : Int) (s : ByteArray) (a : Option Addr) (c : Nat) (e : Int) (l : List V) : (V.of k n s a c e l).t = T.of k n s e (V.ts l) := by
  rw [V.ts_map]
  unfold V.t
  rw [V.fold_of]
theorem V.ts_length (l : List V) : (V.ts l).length = l.length := by rw [V.ts_map]; simp

/-- a list's words: five a place -/
def Row (W : World) (b o : Nat) (l : List V) : Prop :=
  ∀ i (h : i < l.length), W.cell? ⟨b, o + i * 5, none⟩ = some (.int .i64 l[i].k) ∧ W.cell? ⟨b, o + i * 5 + 1, none⟩ = some (.int .u64 l[i].n) ∧ W.cell? ⟨b, o + i * 5 + 2, none⟩ = some (.string l[i].s) ∧
    W.cell? ⟨b, o + i * 5 + 3, none⟩ = some (.slice l[i].a l[i].l.length l[i].c) ∧ W.cell? ⟨b, o + i * 5 + 4, none⟩ = some (.int .i64 l[i].e)

/-- what a value's own words must be -/
structure Ok (k n : Int) (s : ByteArray) (c : Nat) (e : Int) (len : Nat) : Prop where
  k : -9223372036854775808 ≤ k ∧ k ≤ 9223372036854775807
  n : 0 ≤ n ∧ n ≤ 18446744073709551615
  s : s.size ≤ 281474976710656
  e : -9223372036854775808 ≤ e ∧ e ≤ 9223372036854775807
  l : len ≤ c
  c : len ≤ 2199023255552

/-- the value v lies in W, in blocks of Q -/
def LiesIn (Q : Nat → Prop) (W : World) : V → Prop :=
  V.para (fun p bs => Ok p.k p.n p.s p.c p.e bs.length ∧ (0 < bs.length → ∃ b o, p.a = some ⟨b, o, none⟩ ∧ Q b ∧ Row W b o (bs.map Prod.fst)) ∧ ∀ b ∈ bs, b.2) True
theorem LiesIn.iff (Q : Nat → Prop) (W : World) (k n : Int) (s : ByteArray) (a : Option Addr) (c : Nat) (e : Int) (l : List V) :
    LiesIn Q W (V.of k n s a c e l) ↔ Ok k n s c e l.length ∧ (0 < l.length → ∃ b o, a = some ⟨b, o, none⟩ ∧ Q b ∧ Row W b o l) ∧ ∀ x ∈ l, LiesIn Q W x := by
  unfold LiesIn
  rw [V.para_of]
  simp only [List.length_map, List.map_map]
  have h1 : (l.map (Prod.fst ∘ fun x => (x, V.para (fun p bs => Ok p.k p.n p.s p.c p.e bs.length ∧ (0 < bs.length → ∃ b o, p.a = some ⟨b, o, none⟩ ∧ Q b ∧ Row W b o (bs.map Prod.fst)) ∧ ∀ b ∈ bs, b.2) True x))) = l := by
    conv => rhs; rw [← List.map_id l]
    rfl
  rw [h1]
  refine and_congr Iff.rfl (and_congr Iff.rfl ⟨fun h x hx => h (x, _) (List.mem_map.2 ⟨x, hx, rfl⟩), fun h b hb => ?_⟩)
  obtain ⟨x, hx, rfl⟩ := List.mem_map.1 hb
  exact h x hx
theorem LiesIn.mk {Q : Nat → Prop} {W : World} {k n : Int} {s : ByteArray} {a : Option Addr} {c : Nat} {e : Int} {l : List V} (ok : Ok k n s c e l.length)
    (row : 0 < l.length → ∃ b o, a = some ⟨b, o, none⟩ ∧ Q b ∧ Row W b o l) (sub : ∀ x ∈ l, LiesIn Q W x) : LiesIn Q W (V.of k n s a c e l) := (LiesIn.iff _ _ _ _ _ _ _ _ _).2 ⟨ok, row, sub⟩
/-- the value v lies in W, in blocks below n₀ -/
def Lies (n₀ : Nat) (W : World) (v : V) : Prop := LiesIn (fun b => b < n₀) W v

/-- block b reads in w as it did in W -/
def Same (W w : World) (b : Nat) : Prop := ∀ o, w.cell? ⟨b, o, none⟩ = W.cell? ⟨b, o, none⟩
theorem Row.same {W w : World} {b o : Nat} {l : List V} (h : Row W b o l) (hb : Same W w b) : Row w b o l := fun i hi => by
  obtain ⟨h0, h1, h2, h3, h4⟩ := h i hi
  exact ⟨(hb _).trans h0, (hb _).trans h1, (hb _).trans h2, (hb _).trans h3, (hb _).trans h4⟩
theorem Row.below {B : Nat} {W w : World} {b o : Nat} {l : List V} (h : Row W b o l) (hb : Below B W w) (hlt : b < B) : Row w b o l := h.same fun o => hb.cell (p := ⟨b, o, none⟩) hlt
theorem LiesIn.keep {Q Q' : Nat → Prop} {W w : World} {v : V} (h : LiesIn Q W v) (hs : ∀ b, Q b → Same W w b) (hq : ∀ b, Q b → Q' b) : LiesIn Q' w v := by
  refine V.ind (Q := fun v => LiesIn Q W v → LiesIn Q' w v) ?_ v h
  intro k n s a c e l ih h
  obtain ⟨ok, row, sub⟩ := (LiesIn.iff _ _ _ _ _ _ _ _ _).1 h
  refine .mk ok (fun h0 => ?_) (fun x hx => ih x hx (sub x hx))
  obtain ⟨b, o, ha, hlt, hr⟩ := row h0
  exact ⟨b, o, ha, hq _ hlt, hr.same (hs _ hlt)⟩
theorem LiesIn.row {Q : Nat → Prop} {W : World} {k n : Int} {s : ByteArray} {a : Option Addr} {c : Nat} {e : Int} {l : List V} (h : LiesIn Q W (.of k n s a c e l)) : 0 < l.length → ∃ b o, a = some ⟨b, o, none⟩ ∧ Q b ∧ Row W b o l := ((LiesIn.iff _ _ _ _ _ _ _ _ _).1 h).2.1
theorem LiesIn.sub {Q : Nat → Prop} {W : World} {k n : Int} {s : ByteArray} {a : Option Addr} {c : Nat} {e : Int} {l : List V} (h : LiesIn Q W (.of k n s a c e l)) : ∀ x ∈ l, LiesIn Q W x := ((LiesIn.iff _ _ _ _ _ _ _ _ _).1 h).2.2
theorem LiesIn.ok {Q : Nat → Prop} {W : World} {k n : Int} {s : ByteArray} {a : Option Addr} {c : Nat} {e : Int} {l : List V} (h : LiesIn Q W (.of k n s a c e l)) : Ok k n s c e l.length := ((LiesIn.iff _ _ _ _ _ _ _ _ _).1 h).1
theorem Lies.keep {B n₀ : Nat} {W w : World} {v : V} (h : Lies n₀ W v) (hb : Below B W w) (hn : n₀ ≤ B) : Lies n₀ w v :=
  LiesIn.keep h (fun b hq o => hb.cell (p := ⟨b, o, none⟩) (Nat.lt_of_lt_of_le hq hn)) (fun _ h => h)
theorem Lies.mono {n₀ n₁ : Nat} {W : World} {v : V} (h : Lies n₀ W v) (hn : n₀ ≤ n₁) : Lies n₁ W v :=
  LiesIn.keep h (fun b hq o => rfl) (fun _ h => Nat.lt_of_lt_of_le h hn)
theorem Lies.mk {n₀ : Nat} {W : World} {k n : Int} {s : ByteArray} {a : Option Addr} {c : Nat} {e : Int} {l : List V} (ok : Ok k n s c e l.length)
    (row : 0 < l.length → ∃ b o, a = some ⟨b, o, none⟩ ∧ b < n₀ ∧ Row W b o l) (sub : ∀ x ∈ l, Lies n₀ W x) : Lies n₀ W (V.of k n s a c e l) := LiesIn.mk ok row sub
theorem Lies.row {n₀ : Nat} {W : World} {k n : Int} {s : ByteArray} {a : Option Addr} {c : Nat} {e : Int} {l : List V} (h : Lies n₀ W (.of k n s a c e l)) : 0 < l.length → ∃ b o, a = some ⟨b, o, none⟩ ∧ b < n₀ ∧ Row W b o l := LiesIn.row h
theorem Lies.sub {n₀ : Nat} {W : World} {k n : Int} {s : ByteArray} {a : Option Addr} {c : Nat} {e : Int} {l : List V} (h : Lies n₀ W (.of k n s a c e l)) : ∀ x ∈ l, Lies n₀ W x := LiesIn.sub h
theorem Lies.ok {n₀ : Nat} {W : World} {k n : Int} {s : ByteArray} {a : Option Addr} {c : Nat} {e : Int} {l : List V} (h : Lies n₀ W (.of k n s a c e l)) : Ok k n s c e l.length := LiesIn.ok h
/-- a block of m words of its own -/
def Blk (w : World) (b : Nat) (t : TypeId) (m : Nat) : Prop := ∃ cs : Array Value, w.heap[b]? = some (.cells cs t (0, 0)) ∧ cs.size = m
theorem Blk.lt {w : World} {b : Nat} {t : TypeId} {m : Nat} (h : Blk w b t m) : b < w.heap.size := by
  obtain ⟨cs, h, _⟩ := h
  exact (Array.getElem?_eq_some_iff.1 h).1
theorem Blk.below {B : Nat} {W w : World} {b : Nat} {t : TypeId} {m : Nat} (h : Blk W b t m) (hb : Below B W w) (hlt : b < B) : Blk w b t m := by
  obtain ⟨cs, h1, h2⟩ := h
  exact ⟨cs, (hb.block b hlt).trans h1, h2⟩
theorem Blk.some {w : World} {b : Nat} {t : TypeId} {m : Nat} (h : Blk w b t m) (j : Nat) (hj : j < m) : ∃ v, w.cell? ⟨b, j, none⟩ = some v := by
  obtain ⟨cs, h1, h2⟩ := h
  exact ⟨cs[j]'(by omega), by simp [World.cell?, h1, Array.getElem?_eq_getElem (show j < cs.size by omega)]⟩
theorem Blk.free {w : World} {b : Nat} {t : TypeId} {m : Nat} (h : Blk w b t m) (j : Nat) : w.frozen? ⟨b, j, none⟩ = false := by
  obtain ⟨cs, h1, h2⟩ := h
  simp [World.frozen?, h1]
theorem bel1 {B : Nat} {w wr : World} (h : Below B w wr) (hB : B ≤ wr.heap.size) (o : Obj) : Below B w (wr.alloc o) := h.alloc hB o
theorem bel2 {B : Nat} {w wr : World} (h : Below B w wr) (hB : B ≤ wr.heap.size) (o p : Obj) : Below B w ((wr.alloc o).alloc p) := (h.alloc hB o).alloc (by simp; omega) p
theorem belOn {B : Nat} {w w1 w2 : World} (h : Below B w w1) (hB : B ≤ w1.heap.size) (k : Below w1.heap.size w1 w2) : Below B w w2 := h.trans (k.mono hB)
theorem bcell {W w1 : World} (hb : Below W.heap.size W w1) : (∀ b o, b < W.heap.size → w1.cell? ⟨b, o, none⟩ = W.cell? ⟨b, o, none⟩) ∧ (∀ b o, b < W.heap.size → w1.frozen? ⟨b, o, none⟩ = W.frozen? ⟨b, o, none⟩) :=
  ⟨fun b o h => hb.cell (p := ⟨b, o, none⟩) h, fun b o h => hb.frozen (p := ⟨b, o, none⟩) h⟩
/-- two boxes laid, and read later -/
theorem box_cells {w w1 : World} {A B : Array Value} {t t' : TypeId} (hb : Below ((w.alloc (.cells A t)).alloc (.cells B t')).heap.size ((w.alloc (.cells A t)).alloc (.cells B t')) w1) :
    (∀ o, w1.cell? ⟨w.heap.size, o, none⟩ = A[o]?) ∧ (∀ o, w1.cell? ⟨w.heap.size + 1, o, none⟩ = B[o]?) ∧ (∀ o, w1.frozen? ⟨w.heap.size, o, none⟩ = false) ∧ (∀ o, w1.frozen? ⟨w.heap.size + 1, o, none⟩ = false) := by
  have e1 : ((w.alloc (.cells A t)).alloc (.cells B t')).heap[w.heap.size]? = some (.cells A t) := by
    rw [Below.heap_alloc _ _ _ (by simp)]; exact World.alloc_heap_new _ _
  have e2 : ((w.alloc (.cells A t)).alloc (.cells B t')).heap[w.heap.size + 1]? = some (.cells B t') := by
    have : w.heap.size + 1 = (w.alloc (.cells A t)).heap.size := by simp
    rw [this]; exact World.alloc_heap_new _ _
  have f1 := (hb.block w.heap.size (by simp; omega)).trans e1
  have f2 := (hb.block (w.heap.size + 1) (by simp)).trans e2
  refine ⟨fun o => ?_, fun o => ?_, fun o => ?_, fun o => ?_⟩ <;> simp [World.cell?, World.frozen?, f1, f2]
theorem heap_at1 (w : World) (o p : Obj) : ((w.alloc o).alloc p).heap[w.heap.size + 1]? = some p := by
  have := World.alloc_heap_new (w.alloc o) p
  rwa [World.size_alloc] at this
theorem heap_at2 (w : World) (o p q : Obj) : (((w.alloc o).alloc p).alloc q).heap[w.heap.size + 1 + 1]? = some q := by
  have := World.alloc_heap_new ((w.alloc o).alloc p) q
  rwa [World.size_alloc, World.size_alloc] at this
theorem heap_past {w : World} {b : Nat} {x : Obj} (h : w.heap[b]? = some x) (o : Obj) : (w.alloc o).heap[b]? = some x := (Below.heap_alloc _ _ _ (Array.getElem?_eq_some_iff.1 h).1).trans h
theorem hide {p : Prop} (h : p) : Hid p := h
theorem ret_int {k : IntKind} {a b : Int} (h : a = b) : Ending.returned (.int k a) = .returned (.int k b) := by rw [h]
end Go.Proofs.YtgldcchleoklcaaGreatDoor
