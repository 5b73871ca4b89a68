/- ValueAlls: the walk. -/
import Derived.Laws.EntriesVeiled
import Derived.Test.YtaedlnliglmomaaDoorVGoes
import Derived.Test.YtaedlnliglmomaaDoorVQuiet
import Derived.Test.YtaedlnliglmomaaDoorVTale
import Derived.Test.YtaedlnliglmomaaDoorVAwake
import Derived.Test.YtaedlnliglmomaaDoorVLentW
import Derived.Test.YtaedlnliglmomaaDoorVAsLentV
namespace Go.Proofs.YtaedlnliglmomaaDoor.B
open Go.RowKit Go.Shelf
set_option linter.unusedVariables false
attribute [local go_sem] Oper.semAt_some

theorem flatT_get (l : List (Int × V)) (i q : Nat) (hi : i < l.length) (hq : q < 6) : (flatT l)[i * 6 + q]? = (wordsT l[i])[q]? := by
  induction l generalizing i with
  | nil => simp at hi
  | cons x l ih =>
    cases i with
    | zero =>
      rw [flatT, List.getElem?_append_left (by simp [wordsT, words]; omega)]
      simp
    | succ i =>
      rw [flatT, List.getElem?_append_right (by simp [wordsT, words]; omega), show (i + 1) * 6 + q - (wordsT x).length = i * 6 + q by simp [wordsT, words]; omega, ih i (by simpa using hi)]
      rfl
theorem wants_row {w : World} {base : Nat} {t : TypeId} {n g cap : Nat} {l : List (Int × V)} (h : w.ownsRow base t 6 (.slice (some ⟨g, 0, none⟩) n cap) n (flatT l)) : Wants g l w := by
  intro i hi
  have hc := h.cells (g := g) rfl
  have q : ∀ q, q < 6 → ∀ u, (wordsT l[i])[q]? = some u → w.cell? ⟨g, i * 6 + q, none⟩ = some u := fun q hq u hu => by
    have := hc (i * 6 + q) u (by rw [flatT_get l i q hi hq]; exact hu)
    rw [show (⟨g, i * 6 + q, none⟩ : Addr) = (⟨g, 0, none⟩ : Addr).add (i * 6 + q) by
      by_cases h : i * 6 + q = 0 <;> simp [Addr.add, h] <;> omega]
    exact this
  exact ⟨q 0 (by omega) _ rfl, q 1 (by omega) _ rfl, q 2 (by omega) _ rfl, q 3 (by omega) _ rfl, q 4 (by omega) _ rfl, q 5 (by omega) _ rfl⟩
theorem Wants.kept {g : Nat} {L : List (Int × V)} {A B : World} (h : Wants g L A) (hb : ∀ o, A.heap[g]? = some o → B.heap[g]? = some o) : Wants g L B := by
  intro i hi
  obtain ⟨c0, c1, c2, c3, c4, c5⟩ := h i hi
  obtain ⟨cs, t, f, hc⟩ := cells_of_cell c0
  have e : ∀ o, B.cell? ⟨g, o, none⟩ = A.cell? ⟨g, o, none⟩ := fun o => World.cell?_of_block ((hb _ hc).trans hc.symm)
  exact ⟨(e _).trans c0, (e _).trans c1, (e _).trans c2, (e _).trans c3, (e _).trans c4, (e _).trans c5⟩
theorem lies_objs {Q : Nat → Prop} {A B : World} {v : V} (h : LiesIn Q A v) (hb : ∀ b o, Q b → A.heap[b]? = some o → B.heap[b]? = some o) : LiesIn Q B v := by
  refine V.ind (Q := fun v => LiesIn Q A v → LiesIn Q B v) ?_ v h
  intro k n s a c e l ih h
  obtain ⟨ok, row, sub⟩ := (LiesIn.iff _ _ _ _ _ _ _ _ _).1 h
  refine .mk ok (fun h0 => ?_) (fun x hx => ih x hx (sub x hx))
  obtain ⟨b, o, ha, hlt, hr⟩ := row h0
  obtain ⟨cs, t, f, hc⟩ := cells_of_cell (hr 0 h0).1
  exact ⟨b, o, ha, hlt, hr.same (fun o' => World.cell?_of_block ((hb b _ hlt hc).trans hc.symm))⟩

theorem kp_new {M N kb : Nat} {X : Nat → Prop} {W V B : World} (h : KpX M X W V) (k : KpX N (fun b => b = kb) V B) (hN : V.heap.size ≤ N) (hk : W.heap.size ≤ kb) : KpX M X W B :=
  ⟨Nat.le_trans h.1 k.1, fun b o hx hn hb => by
    have hV := h.2 b o hx hn hb
    have hl := (Array.getElem?_eq_some_iff.1 hV).1
    have hl' := (Array.getElem?_eq_some_iff.1 hb).1
    exact k.2 b o (by show ¬ b = kb; omega) (.inl (by omega)) hV⟩
theorem kp_cells {N kb : Nat} {A B : World} (k : KpX N (fun b => b = kb) A B) (hN : A.heap.size ≤ N) {c0 : Array Value} {f0 : Nat × Nat} (hkb : A.heap[kb]? = some (.cells c0 3 f0)) {g : Nat} {cs : Array Value} {t : TypeId} {f : Nat × Nat} (ht : t ≠ 3) (h : A.heap[g]? = some (.cells cs t f)) : B.heap[g]? = some (.cells cs t f) := by
  have hl := (Array.getElem?_eq_some_iff.1 h).1
  exact k.2 g _ (fun e => by
    have e' : g = kb := e
    rw [e', hkb] at h
    cases h
    exact ht rfl) (.inl (by omega)) h
theorem BkR.kp1 {p M N kb : Nat} {A0 : Option Nat} {S : List Value} {A B : World} (h : BkR p A0 M S A) (k : KpX N (fun b => b = kb) A B) (hN : A.heap.size ≤ N) {c0 : Array Value} {f0 : Nat × Nat} (hkb : A.heap[kb]? = some (.cells c0 3 f0)) : BkR p A0 M S B := by
  obtain ⟨A', C, h1, h2, h3⟩ := h
  refine ⟨A', C, kp_cells k hN hkb (by decide) h1, ⟨h2.1, ?_⟩, h3⟩
  rcases h2.2 with h | ⟨g, cap, cur, e, hB, hgg, hrest⟩
  · exact .inl h
  · exact .inr ⟨g, cap, cur, e, hB, kp_cells k hN hkb (by decide) hgg, hrest⟩
theorem owns_kp1 {N kb : Nat} {S : List Value} {A B : World} (h : OwnsX A S) (k : KpX N (fun b => b = kb) A B) (hN : A.heap.size ≤ N) {c0 : Array Value} {f0 : Nat × Nat} (hkb : A.heap[kb]? = some (.cells c0 3 f0)) : OwnsX B S :=
  h.keep (fun g hg => by
    obtain ⟨cs, hc⟩ := owns_type h g hg
    rw [kp_cells k hN hkb (by decide) hc, hc])
theorem same_head {a b : V} (h : a.t = b.t) : a.k = b.k ∧ a.n = b.n ∧ a.l.length = b.l.length := by
  obtain ⟨k, n, s, a1, c, e, l, rfl⟩ := V.ex a
  obtain ⟨k', n', s', a1', c', e', l', rfl⟩ := V.ex b
  rw [V.t_of, V.t_of] at h
  obtain ⟨rfl, rfl, rfl, _, _, rfl, htl⟩ := V.of_inj h
  refine ⟨rfl, rfl, ?_⟩
  have := congrArg List.length htl
  simpa [V.l_of, V.ts_length] using this
theorem BkR.on {p M : Nat} {A0 : Option Nat} {S : List Value} {A B : World} (h : BkR p A0 M S A) (hp : ∀ o, A.heap[p]? = some o → B.heap[p]? = some o) (hr : ∀ g, (A0 = some g ∨ M ≤ g) → ∀ o, A.heap[g]? = some o → B.heap[g]? = some o) : BkR p A0 M S B := by
  obtain ⟨A', C, h1, h2, h3⟩ := h
  refine ⟨A', C, hp _ h1, ⟨h2.1, ?_⟩, h3⟩
  rcases h2.2 with h | ⟨g, cap, cur, e, hB, hgg, hrest⟩
  · exact .inl h
  · refine .inr ⟨g, cap, cur, e, hB, hr g ?_ _ hgg, hrest⟩
    have hob : (Value.slice A' S.length C).ownBlock = some g := by rw [e]; rfl
    rcases h3 with h | ⟨g', h, hg'⟩
    · exact .inl (h.symm.trans hob)
    · rw [hob] at h
      cases h
      exact .inr hg'
/-- the temporaries at the range -/
def aTmps (v x : V) (s s4 s5 p s10 s11 gw ll C B : Nat) (stop : Int) (t16 t17 t75 t76 : Value) : Array Value := #[Value.agg #[Value.int IntKind.i64 v.k, Value.int IntKind.u64 v.n, Value.string v.s, Value.slice v.a v.l.length v.c, Value.int IntKind.i64 v.e], Value.int IntKind.i64 stop, Value.pointer (some ⟨s, 0, none⟩), undef, Value.pointer (some ⟨s + 1, 0, none⟩), Value.bool true, Value.bool false, Value.pointer (some ⟨s4, 0, none⟩), Value.pointer (some ⟨s5, 0, none⟩), Value.pointer (some ⟨p + 1, 0, none⟩), Value.bool true, Value.bool true, Value.bool true, Value.pointer (some ⟨s10, 0, none⟩), Value.bool true, Value.pointer (some ⟨s11, 0, none⟩), t16, t17, undef, undef, undef, undef, undef, Value.bool true, Value.bool true, Value.bool false, Value.agg #[Value.int IntKind.i64 v.k, Value.int IntKind.u64 v.n, Value.string v.s, Value.slice v.a v.l.length v.c, Value.int IntKind.i64 v.e], Value.bool false, Value.bool false, Value.agg #[Value.int IntKind.i64 v.k, Value.int IntKind.u64 v.n, Value.string v.s, Value.slice v.a v.l.length v.c, Value.int IntKind.i64 v.e], Value.bool false, Value.bool false, Value.bool false, Value.agg #[Value.int IntKind.i64 v.k, Value.int IntKind.u64 v.n, Value.string v.s, Value.slice v.a v.l.length v.c, Value.int IntKind.i64 v.e], Value.slice (some ⟨gw, 0, none⟩) ll C, Value.agg #[Value.int IntKind.i64 v.k, Value.int IntKind.u64 v.n, Value.string v.s, Value.slice v.a v.l.length v.c, Value.int IntKind.i64 v.e], Value.agg #[Value.int IntKind.i64 x.k, Value.int IntKind.u64 x.n, Value.string x.s, Value.slice x.a x.l.length x.c, Value.int IntKind.i64 x.e], Value.agg #[Value.slice none 0 0], Value.pointer (some ⟨p, 0, none⟩), Value.agg #[Value.int IntKind.i64 x.k, Value.int IntKind.u64 x.n, Value.string x.s, Value.slice x.a x.l.length x.c, Value.int IntKind.i64 x.e], Value.slice (some ⟨gw, 0, none⟩) ll C, Value.int IntKind.i64 stop, Value.pointer (some ⟨p, 0, none⟩), Value.bool true, Value.agg #[Value.int IntKind.i64 x.k, Value.int IntKind.u64 x.n, Value.string x.s, Value.slice x.a x.l.length x.c, Value.int IntKind.i64 x.e], Value.slice (some ⟨gw, 0, none⟩) ll C, Value.pointer (some ⟨p, 0, none⟩), Value.bool true, Value.agg #[Value.int IntKind.i64 x.k, Value.int IntKind.u64 x.n, Value.string x.s, Value.slice x.a x.l.length x.c, Value.int IntKind.i64 x.e], Value.agg #[Value.int IntKind.i64 v.k, Value.int IntKind.u64 v.n, Value.string v.s, Value.slice v.a v.l.length v.c, Value.int IntKind.i64 v.e], Value.bool true, Value.agg #[Value.int IntKind.i64 x.k, Value.int IntKind.u64 x.n, Value.string x.s, Value.slice x.a x.l.length x.c, Value.int IntKind.i64 x.e], Value.func (Fn.func 44) #[] #[Value.pointer (some ⟨B, 0, none⟩)], Value.agg #[Value.int IntKind.i64 x.k, Value.int IntKind.u64 x.n, Value.string x.s, Value.slice x.a x.l.length x.c, Value.int IntKind.i64 x.e], Value.agg #[Value.int IntKind.i64 v.k, Value.int IntKind.u64 v.n, Value.string v.s, Value.slice v.a v.l.length v.c, Value.int IntKind.i64 v.e], Value.bool true, Value.bool true, Value.bool false, Value.bool false, Value.bool true, Value.bool false, Value.bool false, Value.bool false, Value.bool true, Value.bool false, Value.bool false, Value.bool false, Value.bool true, Value.bool false, Value.bool false, Value.bool false, Value.func (Fn.func 44) #[] #[Value.pointer (some ⟨B, 0, none⟩)], Value.bool false, Value.bool false, Value.func (Fn.func 44) #[] #[Value.pointer (some ⟨B, 0, none⟩)], t75, t76, undef, undef, undef, undef, undef, undef, undef, undef, undef, undef, undef, undef, undef, undef, undef, undef, undef, undef, undef, undef, undef, undef, undef, undef, undef, undef, undef, undef, undef, undef, undef, undef, undef, undef, undef, undef, undef, undef, undef, undef, undef, undef, undef, undef, undef, undef, undef, undef, undef, undef, undef, undef, undef, undef, undef, undef, undef, undef, undef, undef, undef, undef, undef, undef, undef, undef, undef, undef, undef, undef, undef, undef, undef, undef, undef, undef, undef, undef, undef, undef, undef, undef, undef, undef, undef, undef, undef, undef, undef, undef, undef, undef, undef, undef, undef, undef, undef, undef, undef, undef, undef, undef, undef, undef]
/-- the temporaries behind the first comparison -/
def aTmps2 (v x : V) (s s4 s5 p s10 s11 gw ll C B Bx j : Nat) (stop : Int) (y u : Int × V) (sm : Bool) : Array Value := #[Value.agg #[Value.int IntKind.i64 v.k, Value.int IntKind.u64 v.n, Value.string v.s, Value.slice v.a v.l.length v.c, Value.int IntKind.i64 v.e], Value.int IntKind.i64 stop, Value.pointer (some ⟨s, 0, none⟩), undef, Value.pointer (some ⟨s + 1, 0, none⟩), Value.bool true, Value.bool false, Value.pointer (some ⟨s4, 0, none⟩), Value.pointer (some ⟨s5, 0, none⟩), Value.pointer (some ⟨p + 1, 0, none⟩), Value.bool true, Value.bool true, Value.bool true, Value.pointer (some ⟨s10, 0, none⟩), Value.bool true, Value.pointer (some ⟨s11, 0, none⟩), Value.int IntKind.i64 y.1, Value.pointer (some ⟨Bx, 0, none⟩), Value.bool sm, undef, undef, undef, undef, Value.bool true, Value.bool true, Value.bool false, Value.agg #[Value.int IntKind.i64 v.k, Value.int IntKind.u64 v.n, Value.string v.s, Value.slice v.a v.l.length v.c, Value.int IntKind.i64 v.e], Value.bool false, Value.bool false, Value.agg #[Value.int IntKind.i64 v.k, Value.int IntKind.u64 v.n, Value.string v.s, Value.slice v.a v.l.length v.c, Value.int IntKind.i64 v.e], Value.bool false, Value.bool false, Value.bool false, Value.agg #[Value.int IntKind.i64 v.k, Value.int IntKind.u64 v.n, Value.string v.s, Value.slice v.a v.l.length v.c, Value.int IntKind.i64 v.e], Value.slice (some ⟨gw, 0, none⟩) ll C, Value.agg #[Value.int IntKind.i64 v.k, Value.int IntKind.u64 v.n, Value.string v.s, Value.slice v.a v.l.length v.c, Value.int IntKind.i64 v.e], Value.agg #[Value.int IntKind.i64 x.k, Value.int IntKind.u64 x.n, Value.string x.s, Value.slice x.a x.l.length x.c, Value.int IntKind.i64 x.e], Value.agg #[Value.slice none 0 0], Value.pointer (some ⟨p, 0, none⟩), Value.agg #[Value.int IntKind.i64 x.k, Value.int IntKind.u64 x.n, Value.string x.s, Value.slice x.a x.l.length x.c, Value.int IntKind.i64 x.e], Value.slice (some ⟨gw, 0, none⟩) ll C, Value.int IntKind.i64 stop, Value.pointer (some ⟨p, 0, none⟩), Value.bool true, Value.agg #[Value.int IntKind.i64 x.k, Value.int IntKind.u64 x.n, Value.string x.s, Value.slice x.a x.l.length x.c, Value.int IntKind.i64 x.e], Value.slice (some ⟨gw, 0, none⟩) ll C, Value.pointer (some ⟨p, 0, none⟩), Value.bool true, Value.agg #[Value.int IntKind.i64 x.k, Value.int IntKind.u64 x.n, Value.string x.s, Value.slice x.a x.l.length x.c, Value.int IntKind.i64 x.e], Value.agg #[Value.int IntKind.i64 v.k, Value.int IntKind.u64 v.n, Value.string v.s, Value.slice v.a v.l.length v.c, Value.int IntKind.i64 v.e], Value.bool true, Value.agg #[Value.int IntKind.i64 x.k, Value.int IntKind.u64 x.n, Value.string x.s, Value.slice x.a x.l.length x.c, Value.int IntKind.i64 x.e], Value.func (Fn.func 44) #[] #[Value.pointer (some ⟨B, 0, none⟩)], Value.agg #[Value.int IntKind.i64 x.k, Value.int IntKind.u64 x.n, Value.string x.s, Value.slice x.a x.l.length x.c, Value.int IntKind.i64 x.e], Value.agg #[Value.int IntKind.i64 v.k, Value.int IntKind.u64 v.n, Value.string v.s, Value.slice v.a v.l.length v.c, Value.int IntKind.i64 v.e], Value.bool true, Value.bool true, Value.bool false, Value.bool false, Value.bool true, Value.bool false, Value.bool false, Value.bool false, Value.bool true, Value.bool false, Value.bool false, Value.bool false, Value.bool true, Value.bool false, Value.bool false, Value.bool false, Value.func (Fn.func 44) #[] #[Value.pointer (some ⟨B, 0, none⟩)], Value.bool false, Value.bool false, Value.func (Fn.func 44) #[] #[Value.pointer (some ⟨B, 0, none⟩)], Value.int IntKind.i64 y.1, Value.agg #[Value.int IntKind.i64 y.2.k, Value.int IntKind.u64 y.2.n, Value.string y.2.s, Value.slice y.2.a y.2.l.length y.2.c, Value.int IntKind.i64 y.2.e], Value.int IntKind.i64 (j : Int), Value.slice (some ⟨gw, 0, none⟩) ll C, Value.int IntKind.i64 (ll : Int), Value.bool true, Value.bool true, Value.agg #[Value.int IntKind.i64 y.2.k, Value.int IntKind.u64 y.2.n, Value.string y.2.s, Value.slice y.2.a y.2.l.length y.2.c, Value.int IntKind.i64 y.2.e], Value.slice (some ⟨gw, 0, none⟩) ll C, Value.int IntKind.i64 (j : Int), Value.pointer (some ⟨gw, j * 6, none⟩), Value.pointer (some ⟨gw, j * 6 + 1, none⟩), Value.agg #[Value.int IntKind.i64 u.2.k, Value.int IntKind.u64 u.2.n, Value.string u.2.s, Value.slice u.2.a u.2.l.length u.2.c, Value.int IntKind.i64 u.2.e], Value.bool sm, Value.bool sm, undef, undef, undef, undef, undef, undef, undef, undef, undef, undef, undef, undef, undef, undef, undef, undef, undef, undef, undef, undef, undef, undef, undef, undef, undef, undef, undef, undef, undef, undef, undef, undef, undef, undef, undef, undef, undef, undef, undef, undef, undef, undef, undef, undef, undef, undef, undef, undef, undef, undef, undef, undef, undef, undef, undef, undef, undef, undef, undef, undef, undef, undef, undef, undef, undef, undef, undef, undef, undef, undef, undef, undef, undef, undef, undef, undef, undef, undef, undef, undef, undef, undef, undef, undef, undef, undef, undef, undef, undef, undef, undef]
/-- the temporaries at the range within -/
def aTmps3 (v x : V) (s s4 s5 p s10 s11 gw ll C B Bx j k5 : Nat) (stop : Int) (y u : Int × V) (t20 t21 t105 t106 : Value) : Array Value := #[Value.agg #[Value.int IntKind.i64 v.k, Value.int IntKind.u64 v.n, Value.string v.s, Value.slice v.a v.l.length v.c, Value.int IntKind.i64 v.e], Value.int IntKind.i64 stop, Value.pointer (some ⟨s, 0, none⟩), undef, Value.pointer (some ⟨s + 1, 0, none⟩), Value.bool true, Value.bool false, Value.pointer (some ⟨s4, 0, none⟩), Value.pointer (some ⟨s5, 0, none⟩), Value.pointer (some ⟨p + 1, 0, none⟩), Value.bool true, Value.bool true, Value.bool true, Value.pointer (some ⟨s10, 0, none⟩), Value.bool true, Value.pointer (some ⟨s11, 0, none⟩), Value.int IntKind.i64 u.1, Value.pointer (some ⟨Bx, 0, none⟩), Value.bool true, Value.pointer (some ⟨k5, 0, none⟩), t20, t21, undef, Value.bool true, Value.bool true, Value.bool false, Value.agg #[Value.int IntKind.i64 v.k, Value.int IntKind.u64 v.n, Value.string v.s, Value.slice v.a v.l.length v.c, Value.int IntKind.i64 v.e], Value.bool false, Value.bool false, Value.agg #[Value.int IntKind.i64 v.k, Value.int IntKind.u64 v.n, Value.string v.s, Value.slice v.a v.l.length v.c, Value.int IntKind.i64 v.e], Value.bool false, Value.bool false, Value.bool false, Value.agg #[Value.int IntKind.i64 v.k, Value.int IntKind.u64 v.n, Value.string v.s, Value.slice v.a v.l.length v.c, Value.int IntKind.i64 v.e], Value.slice (some ⟨gw, 0, none⟩) ll C, Value.agg #[Value.int IntKind.i64 v.k, Value.int IntKind.u64 v.n, Value.string v.s, Value.slice v.a v.l.length v.c, Value.int IntKind.i64 v.e], Value.agg #[Value.int IntKind.i64 x.k, Value.int IntKind.u64 x.n, Value.string x.s, Value.slice x.a x.l.length x.c, Value.int IntKind.i64 x.e], Value.agg #[Value.slice none 0 0], Value.pointer (some ⟨p, 0, none⟩), Value.agg #[Value.int IntKind.i64 x.k, Value.int IntKind.u64 x.n, Value.string x.s, Value.slice x.a x.l.length x.c, Value.int IntKind.i64 x.e], Value.slice (some ⟨gw, 0, none⟩) ll C, Value.int IntKind.i64 stop, Value.pointer (some ⟨p, 0, none⟩), Value.bool true, Value.agg #[Value.int IntKind.i64 x.k, Value.int IntKind.u64 x.n, Value.string x.s, Value.slice x.a x.l.length x.c, Value.int IntKind.i64 x.e], Value.slice (some ⟨gw, 0, none⟩) ll C, Value.pointer (some ⟨p, 0, none⟩), Value.bool true, Value.agg #[Value.int IntKind.i64 x.k, Value.int IntKind.u64 x.n, Value.string x.s, Value.slice x.a x.l.length x.c, Value.int IntKind.i64 x.e], Value.agg #[Value.int IntKind.i64 v.k, Value.int IntKind.u64 v.n, Value.string v.s, Value.slice v.a v.l.length v.c, Value.int IntKind.i64 v.e], Value.bool true, Value.agg #[Value.int IntKind.i64 x.k, Value.int IntKind.u64 x.n, Value.string x.s, Value.slice x.a x.l.length x.c, Value.int IntKind.i64 x.e], Value.func (Fn.func 44) #[] #[Value.pointer (some ⟨B, 0, none⟩)], Value.agg #[Value.int IntKind.i64 x.k, Value.int IntKind.u64 x.n, Value.string x.s, Value.slice x.a x.l.length x.c, Value.int IntKind.i64 x.e], Value.agg #[Value.int IntKind.i64 v.k, Value.int IntKind.u64 v.n, Value.string v.s, Value.slice v.a v.l.length v.c, Value.int IntKind.i64 v.e], Value.bool true, Value.bool true, Value.bool false, Value.bool false, Value.bool true, Value.bool false, Value.bool false, Value.bool false, Value.bool true, Value.bool false, Value.bool false, Value.bool false, Value.bool true, Value.bool false, Value.bool false, Value.bool false, Value.func (Fn.func 44) #[] #[Value.pointer (some ⟨B, 0, none⟩)], Value.bool false, Value.bool false, Value.func (Fn.func 44) #[] #[Value.pointer (some ⟨B, 0, none⟩)], Value.int IntKind.i64 u.1, Value.agg #[Value.int IntKind.i64 y.2.k, Value.int IntKind.u64 y.2.n, Value.string y.2.s, Value.slice y.2.a y.2.l.length y.2.c, Value.int IntKind.i64 y.2.e], Value.int IntKind.i64 (j : Int), Value.slice (some ⟨gw, 0, none⟩) ll C, Value.int IntKind.i64 (ll : Int), Value.bool true, Value.bool true, Value.agg #[Value.int IntKind.i64 y.2.k, Value.int IntKind.u64 y.2.n, Value.string y.2.s, Value.slice y.2.a y.2.l.length y.2.c, Value.int IntKind.i64 y.2.e], Value.slice (some ⟨gw, 0, none⟩) ll C, Value.int IntKind.i64 (j : Int), Value.pointer (some ⟨gw, j * 6, none⟩), Value.pointer (some ⟨gw, j * 6 + 1, none⟩), Value.agg #[Value.int IntKind.i64 u.2.k, Value.int IntKind.u64 u.2.n, Value.string u.2.s, Value.slice u.2.a u.2.l.length u.2.c, Value.int IntKind.i64 u.2.e], Value.bool true, Value.bool true, Value.bool true, Value.bool false, Value.bool false, Value.int IntKind.i64 u.1, Value.slice (some ⟨gw, 0, none⟩) ll C, Value.int IntKind.i64 (j : Int), Value.pointer (some ⟨gw, j * 6, none⟩), Value.pointer (some ⟨gw, j * 6, none⟩), Value.int IntKind.i64 u.1, Value.bool false, Value.bool false, Value.pointer (some ⟨p, 0, none⟩), Value.agg #[Value.int IntKind.i64 y.2.k, Value.int IntKind.u64 y.2.n, Value.string y.2.s, Value.slice y.2.a y.2.l.length y.2.c, Value.int IntKind.i64 y.2.e], Value.tuple #[], Value.func (Fn.func 44) #[] #[Value.pointer (some ⟨B, 0, none⟩)], t105, t106, undef, undef, undef, undef, undef, undef, undef, undef, undef, undef, undef, undef, undef, undef, undef, undef, undef, undef, undef, undef, undef, undef, undef, undef, undef, undef, undef, undef, undef, undef, undef, undef, undef, undef, undef, undef, undef, undef, undef, undef, undef, undef, undef, undef, undef, undef, undef, undef, undef, undef, undef, undef, undef, undef, undef, undef, undef, undef, undef, undef, undef, undef, undef, undef, undef, undef, undef, undef, undef, undef, undef, undef, undef, undef]
set_option maxRecDepth 100000 in
set_option maxHeartbeats 40000000 in
theorem alls_walk (v : V) (stop : Int) (w : World) (hv : Lies w.heap.size w v) :
    Calls Tryd.prog 5 #[v.val, .int .i64 stop] w fun e w' => e = .returned (.bool true) ∧ Below w.heap.size w w' := by
  refine (callsIn_wide (n := 3)).1 ?_
  have hdd : ∀ k : Nat, (Fence.wide.depth.isSome = true → 1 ≤ k) := fun k h => by cases h
  have HV := hide hv
  clear hv
  rw [V.val_eq]
  refine callsIn_of_wp_marks Tryd.func5 rfl trivial ?_ rfl
  simp only [Tryd.ntmps5, List.size_toArray, List.length_cons, List.length_nil, Nat.reduceAdd, Nat.reduceSub, Array.replicate_succ, Array.replicate_zero, List.push_toArray, List.append_toArray, List.nil_append, List.cons_append]
  gi_wp2_with fail
  obtain ⟨W0, hW0⟩ : ∃ W0, (w.alloc (Obj.cells #[.int .i64 v.k, .int .u64 v.n, .string v.s, .slice v.a v.l.length v.c, .int .i64 v.e] 25)).alloc (Obj.cells #[.bool false] 4) = W0 := ⟨_, rfl⟩
  have hs0 : W0.heap.size = w.heap.size + 2 := by rw [← hW0]; simp
  have hb0 : Below w.heap.size w W0 := by rw [← hW0]; exact bel2 (Below.refl _ _) (Nat.le_refl _) _ _
  have xv : BoxV W0 w.heap.size v := by rw [← hW0]; exact heap_past (World.alloc_heap_new _ _) _
  have xr : Boxed W0 (w.heap.size + 1) 4 (.bool false) := by rw [← hW0]; exact heap_at1 _ _ _
  rw [hW0]
  clear hW0
  refine ⟨trivial, ?_⟩
  refine (callsIn_wide.2 (awake_any W0)).mono ?_
  rintro e w1 ⟨rfl, hb1⟩
  have hs1 := hb1.size
  have hbw1 : Below w.heap.size w w1 := belOn hb0 (by omega) hb1
  obtain ⟨v0, v1, v2, v3, v4⟩ := (xv.below hb1 (by omega)).cells
  gi_wp2_with fail
  refine ⟨trivial, ?_⟩
  have q := great_any v w.heap.size w1 (by omega) (HV.out.keep hbw1 (Nat.le_refl _))
  rw [V.val_eq] at q
  refine (callsIn_wide.2 q).mono ?_
  clear q
  have RET : ∀ W, Below W0.heap.size W0 W → Hid (Boxed W (w.heap.size + 1) 4 (.bool false) ∧ Below w.heap.size w (W.setCell ⟨w.heap.size + 1, 0, none⟩ (.bool true))) := fun W h => ⟨(h.block _ (by omega)).trans xr, (belOn hb0 (by omega) h).setCell (p := ⟨w.heap.size + 1, 0, none⟩) (by show w.heap.size ≤ w.heap.size + 1; omega) _⟩
  rintro e w2 (⟨rfl, hb2⟩ | ⟨rfl, hwt, hb2⟩)
  · have hR := RET w2 (hb1.trans (hb2.mono hs1))
    have r2 := hR.out.1.cell
    have rf2 := hR.out.1.frozen
    gi_wp2_with fail
    refine ⟨trivial, ?_⟩
    gi_wp2
    refine ⟨.bool true, ?_, rfl, hR.out.2⟩
    simp only [results, Tryd.f5, go_sem]
    simp [(hR.out.1.set (.bool true)).cell]
  have hs2 := hb2.size
  have hbW2 : Below W0.heap.size W0 w2 := hb1.trans (hb2.mono hs1)
  have hbw2 : Below w.heap.size w w2 := belOn hb0 (by omega) hbW2
  clear v0 v1 v2 v3 v4 hb2
  obtain ⟨v0, v1, v2, v3, v4⟩ := (xv.below hbW2 (by omega)).cells
  gi_wp2_with fail
  refine ⟨trivial, ?_⟩
  have q := long_any v w.heap.size w2 (by omega) (HV.out.keep hbw2 (Nat.le_refl _))
  rw [V.val_eq] at q
  refine (callsIn_wide.2 q).mono ?_
  clear q
  rintro e w3 (⟨rfl, hb3⟩ | ⟨rfl, hb3⟩)
  · have hR := RET w3 (hbW2.trans (hb3.mono (by omega)))
    have r2 := hR.out.1.cell
    have rf2 := hR.out.1.frozen
    gi_wp2
    refine ⟨.bool true, ?_, rfl, hR.out.2⟩
    simp only [results, Tryd.f5, go_sem]
    simp [(hR.out.1.set (.bool true)).cell]
  clear RET
  have hs3 := hb3.size
  have hbW3 : Below W0.heap.size W0 w3 := hbW2.trans (hb3.mono (by omega))
  have hbw3 : Below w.heap.size w w3 := belOn hb0 (by omega) hbW3
  clear v0 v1 v2 v3 v4 hb3 hbW2 hbw2
  obtain ⟨v0, v1, v2, v3, v4⟩ := (xv.below hbW3 (by omega)).cells
  gi_wp2_with fail
  refine ⟨trivial, ?_⟩
  have q := rall_any v w.heap.size w3 (by omega) (HV.out.keep hbw3 (Nat.le_refl _)) hwt
  rw [V.val_eq] at q
  refine (callsIn_wide.2 q).mono ?_
  clear q
  obtain ⟨L, hL⟩ : ∃ L, v.all 1 = L := ⟨_, rfl⟩
  have HLL := hide hL
  rw [hL]
  clear hL
  rintro e w4 ⟨gw, C, rfl, HGW, hb4⟩
  have hs4 := hb4.size
  have hbW4 : Below W0.heap.size W0 w4 := hbW3.trans (hb4.mono (by omega))
  have hbw4 : Below w.heap.size w w4 := belOn hb0 (by omega) hbW4
  clear v0 v1 v2 v3 v4 hb4 hbW3 hbw3
  obtain ⟨v0, v1, v2, v3, v4⟩ := (xv.below hbW4 (by omega)).cells
  have hvlt4 : w.heap.size < w4.heap.size := by omega
  gi_wp2_with fail
  obtain ⟨W4, hW4⟩ : ∃ W4, w4.alloc (Obj.cells #[.slice (some ⟨gw, 0, none⟩) L.length C] 41) = W4 := ⟨_, rfl⟩
  have hS4 : W4.heap.size = w4.heap.size + 1 := by rw [← hW4]; simp
  have hc4 : Below w4.heap.size w4 W4 := by rw [← hW4]; exact bel1 (Below.refl _ _) (Nat.le_refl _) _
  have xw : Boxed W4 w4.heap.size 41 (.slice (some ⟨gw, 0, none⟩) L.length C) := by rw [← hW4]; exact World.alloc_heap_new _ _
  rw [hW4]
  clear hW4 v0 v1 v2 v3 v4
  have hcW4 : Below W0.heap.size W0 W4 := belOn hbW4 (by omega) hc4
  have hcw4 : Below w.heap.size w W4 := belOn hb0 (by omega) hcW4
  refine ⟨trivial, ?_⟩
  have q := lent_any v hwt w.heap.size W4 (by omega) (HV.out.keep hcw4 (Nat.le_refl _))
  rw [V.val_eq] at q
  refine (callsIn_wide.2 q).mono ?_
  clear q
  rintro e w5 ⟨x, rfl, HX, hb5⟩
  have hs5 := hb5.size
  have hbW5 : Below W0.heap.size W0 w5 := belOn hcW4 (by omega) hb5
  have hbw5 : Below w.heap.size w w5 := belOn hb0 (by omega) hbW5
  have xw5 : Boxed w5 w4.heap.size 41 (.slice (some ⟨gw, 0, none⟩) L.length C) := (hb5.block _ (by omega)).trans xw
  have hwl5 : w4.heap.size < w5.heap.size := by omega
  have hwl5a : w4.heap.size < w5.heap.size + 1 := by omega
  have hwl5b : w4.heap.size < w5.heap.size + 1 + 1 := by omega
  have hw0 := xw5.cell
  gi_wp2_with fail
  obtain ⟨W6, hW6⟩ : ∃ W6, ((w5.alloc (Obj.cells #[.int .i64 x.k, .int .u64 x.n, .string x.s, .slice x.a x.l.length x.c, .int .i64 x.e] 25)).alloc (Obj.cells #[.slice none 0 0] 37)).alloc (Obj.cells #[.pointer (some ⟨w5.heap.size + 1, 0, none⟩)] 34) = W6 := ⟨_, rfl⟩
  have hS6a : W6.heap.size ≤ w5.heap.size + 3 := by rw [← hW6]; simp
  have hS6b : w5.heap.size + 3 ≤ W6.heap.size := by rw [← hW6]; simp
  have hb6 : Below w5.heap.size w5 W6 := by rw [← hW6]; exact bel1 (bel2 (Below.refl _ _) (Nat.le_refl _) _ _) (by simp; omega) _
  have xx6 : BoxV W6 w5.heap.size x := by rw [← hW6]; exact heap_past (heap_past (World.alloc_heap_new _ _) _) _
  have xB6 : W6.heap[w5.heap.size + 1]? = some (.cells #[.slice none 0 0] 37 (0, 0)) := by rw [← hW6]; exact heap_past (heap_at1 _ _ _) _
  have xb6 : Boxed W6 (w5.heap.size + 1 + 1) 34 (.pointer (some ⟨w5.heap.size + 1, 0, none⟩)) := by
    rw [← hW6]
    have := World.alloc_heap_new ((w5.alloc (Obj.cells #[.int .i64 x.k, .int .u64 x.n, .string x.s, .slice x.a x.l.length x.c, .int .i64 x.e] 25)).alloc (Obj.cells #[.slice none 0 0] 37)) (Obj.cells #[.pointer (some ⟨w5.heap.size + 1, 0, none⟩)] 34)
    simp only [World.size_alloc] at this
    exact this
  rw [hW6]
  clear hW6 hw0
  have hbW6 : Below W0.heap.size W0 W6 := belOn hbW5 (by omega) hb6
  have hbw6 : Below w.heap.size w W6 := belOn hb0 (by omega) hbW6
  have xw6 : Boxed W6 w4.heap.size 41 (.slice (some ⟨gw, 0, none⟩) L.length C) := (hb6.block _ (by omega)).trans xw5
  have xv6 : BoxV W6 w.heap.size v := xv.below hbW6 (by omega)
  have xr6 : Boxed W6 (w.heap.size + 1) 4 (.bool false) := (hbW6.block _ (by omega)).trans xr
  obtain ⟨hxt, hxl⟩ := HX.out
  have HXE := hide hxl
  have hxt' := hide hxt
  have HXL : Hid (LiesIn (fun b => b < w5.heap.size) W6 x) := LiesIn.keep hxl.lies (fun b hb o => hb6.cell (p := ⟨b, o, none⟩) hb.2) (fun b hb => hb.2)
  have HVL : Hid (LiesIn (fun b => b < w5.heap.size) W6 v) := LiesIn.keep HV.out (fun b hb o => hbw6.cell (p := ⟨b, o, none⟩) hb) (fun b hb => by have : b < w.heap.size := hb; show b < w5.heap.size; omega)
  have hgw4 := ownsRow_lt HGW.out (g := gw) rfl
  have HWA : Hid (Wants gw L W6) := (wants_row HGW.out).kept (fun o ho => (hb6.block _ (by omega)).trans ((hb5.block _ (by omega)).trans ((hc4.block _ hgw4.2).trans ho)))
  clear hxl HX
  obtain ⟨p, hp⟩ : ∃ p, w5.heap.size + 1 = p := ⟨_, rfl⟩
  have hpa : w5.heap.size + 1 ≤ p := by omega
  have hpb : p ≤ w5.heap.size + 1 := by omega
  rw [hp] at xB6 xb6 ⊢
  clear hp
  refine ⟨trivial, ?_⟩
  have hbk6 : ∀ M, BkR p none M [] W6 := fun M => ⟨none, 0, xB6, World.ownsRow_nil _ _ _ _, .inl rfl⟩
  have q := goes_any v x L gw C p w5.heap.size stop none [] W6 (by omega) HXL.out hxt HLL.out.symm HVL.out hwt HWA.out (by omega) (hbk6 _) ⟨by simp, by simp [blocksOf]⟩ (by simp) (by simp) (by omega) (fun g h => by cases h) (by omega)
  rw [V.val_eq] at q
  refine (callsIn_wide.2 q).mono ?_
  clear q
  rintro e w7 ⟨rfl, HG1⟩
  obtain ⟨S1, g1, g2, g3, g4, g5, g6, g7, g8, g9⟩ := HG1.out
  have hs7 := g6.1
  have kp7 : Hid (∀ b o, b < W6.heap.size → b ≠ p → W6.heap[b]? = some o → w7.heap[b]? = some o) := fun b o h1 h2 h3 => g6.2 b o (fun h => h.elim h2 (fun h => by cases h)) (.inl h1) h3
  have G5 : Hid (∀ g ∈ blocksOf S1, W6.heap.size ≤ g) := fun g hg => (g5 g hg).elim (fun h => by simp [blocksOf] at h) id
  have O7 : Hid (Out W6 w7) := ⟨g7, g8, g9⟩
  have BK1 := hide g1
  have OW1 := hide g2
  have SM1 := hide g4
  clear HG1 g1 g2 g4 g5 g6 g7 g8 g9 hbk6
  have hw7 := (show Boxed w7 w4.heap.size 41 (.slice (some ⟨gw, 0, none⟩) L.length C) from kp7.out _ _ (by omega) (by omega) xw6).cell
  have hb7 := (show Boxed w7 (p + 1) 34 (.pointer (some ⟨p, 0, none⟩)) from kp7.out _ _ (by omega) (by omega) xb6).cell
  obtain ⟨x0, x1, x2, x3, x4⟩ := (show BoxV w7 w5.heap.size x from kp7.out _ _ (by omega) (by omega) xx6).cells
  gi_wp2_with fail
  refine ⟨trivial, ?_⟩
  obtain ⟨A1, BK1', hA1, hA1l⟩ := BK1.out.here
  have hA1g : ∀ g, A1 = some g → W6.heap.size ≤ g := fun g hg => by
    rcases hA1 with h | ⟨g', h, hg'⟩
    · rw [h] at hg; cases hg
    · rw [h] at hg; cases hg; exact hg'
  have q := goes_any v x L gw C p w5.heap.size (-1) A1 S1 w7 (by omega) (lies_objs HXL.out (fun b o hb => kp7.out b o (by omega) (by omega))) hxt HLL.out.symm (lies_objs HVL.out (fun b o hb => kp7.out b o (by omega) (by omega))) hwt (HWA.out.kept (fun o => kp7.out gw o (by omega) (by omega))) (by omega) (BK1' _) OW1.out (by simp at g3; omega) SM1.out (by omega) (fun g h => ⟨by have := hA1g g h; omega, (hA1l g h).2, by have := hA1g g h; omega⟩) (by omega)
  rw [V.val_eq] at q
  refine (callsIn_wide.2 q).mono ?_
  clear q x0 x1 x2 x3 x4 hw7 hb7
  rintro e w8 ⟨rfl, HG2⟩
  obtain ⟨S2, k1, k2, k3, k4, k5, k6, k7, k8, k9⟩ := HG2.out
  have hs8 := k6.1
  have kp8 : Hid (∀ b o, b < W6.heap.size → b ≠ p → W6.heap[b]? = some o → w8.heap[b]? = some o) := fun b o h1 h2 h3 => k6.2 b o (fun h => h.elim h2 (fun h => by have := hA1g b h; omega)) (.inl (by omega)) (kp7.out b o h1 h2 h3)
  have H5 : Hid (∀ g ∈ blocksOf S2, W6.heap.size ≤ g) := fun g hg => (k5 g hg).elim (G5.out g) (fun h => by omega)
  have O8 : Hid (Out W6 w8) := O7.out.trans ⟨k7, k8, k9⟩
  obtain ⟨A2, BK2, hA2, hA2l⟩ := k1.here
  have hA2g : ∀ g, A2 = some g → W6.heap.size ≤ g := fun g hg => by
    rcases hA2 with h | ⟨g', h, hg'⟩
    · exact hA1g g (h.symm.trans hg)
    · rw [h] at hg; cases hg; omega
  have BK2' := hide BK2
  have OW2 := hide k2
  have SM2 := hide k4
  have L2 : S2.length ≤ 20000000000 := by simp at g3; omega
  clear HG2 k1 k2 k3 k4 k5 k6 k7 k8 k9 kp7 G5 O7 BK1 OW1 SM1 BK2 BK1' hA1 hA1l hA1g hA2 g3
  have yx8 : BoxV w8 w5.heap.size x := kp8.out _ _ (by omega) (by omega) xx6
  have yv8 : BoxV w8 w.heap.size v := kp8.out _ _ (by omega) (by omega) xv6
  obtain ⟨x0, x1, x2, x3, x4⟩ := yx8.cells
  obtain ⟨v0, v1, v2, v3, v4⟩ := yv8.cells
  gi_wp2_with fail
  refine ⟨trivial, ?_⟩
  have q := requal_any x v w5.heap.size w8 (by omega) (lies_objs HXL.out (fun b o hb => kp8.out b o (by omega) (by omega))) (lies_objs HVL.out (fun b o hb => kp8.out b o (by omega) (by omega)))
  rw [V.val_eq, V.val_eq, hxt, eqT_selfS] at q
  refine (callsIn_wide.2 q).mono ?_
  clear q x0 x1 x2 x3 x4 v0 v1 v2 v3 v4
  rintro e w9 ⟨rfl, hb9⟩
  have hs9 := hb9.size
  have yx9 := yx8.below hb9 yx8.lt
  obtain ⟨x0, x1, x2, x3, x4⟩ := yx9.cells
  gi_wp2_with fail
  refine ⟨trivial, ?_⟩
  refine (callsIn_wide.2 (allf_any x w5.heap.size w9 (by omega) (LiesIn.keep (lies_objs HXL.out (fun b o hb => kp8.out b o (by omega) (by omega))) (fun b hb o => hb9.cell (p := ⟨b, o, none⟩) (by show b < w8.heap.size; have : b < w5.heap.size := hb; omega)) (fun _ h => h)))).mono ?_
  rintro e w10 ⟨B, y2, rfl, HY2, hb10⟩
  have hs10 := hb10.size
  have hb810 : Below w8.heap.size w8 w10 := belOn hb9 hs9 hb10
  clear x0 x1 x2 x3 x4
  obtain ⟨x0, x1, x2, x3, x4⟩ := (yx8.below hb810 yx8.lt).cells
  obtain ⟨v0, v1, v2, v3, v4⟩ := (yv8.below hb810 yv8.lt).cells
  have heq : ∀ u, (binOp BinOp.eql 45 (.func (.func 44) #[] #[.pointer (some ⟨B, 0, none⟩)]) .nilFunc).run Tryd.prog u = .ok (.bool false) u := fun u => by
    first | rfl | (simp [binOp, Tryd.underlying45, go_sem]; done)
  have hx10 : w5.heap.size < w10.heap.size := by omega
  have hv10 : w.heap.size < w10.heap.size := by omega
  gi_wp2_with fail
  obtain ⟨V10, hV10⟩ : ∃ V10, w10.alloc (Obj.cells #[.func (.func 44) #[] #[.pointer (some ⟨B, 0, none⟩)]] 45) = V10 := ⟨_, rfl⟩
  have hS10a : V10.heap.size ≤ w10.heap.size + 1 := by rw [← hV10]; simp
  have hS10b : w10.heap.size + 1 ≤ V10.heap.size := by rw [← hV10]; simp
  have hc10 : Below w10.heap.size w10 V10 := by rw [← hV10]; exact bel1 (Below.refl _ _) (Nat.le_refl _) _
  have xal : Boxed V10 w10.heap.size 45 (.func (.func 44) #[] #[.pointer (some ⟨B, 0, none⟩)]) := by rw [← hV10]; exact World.alloc_heap_new _ _
  rw [hV10]
  clear hV10
  have hc810 : Below w8.heap.size w8 V10 := belOn hb810 (by omega) hc10
  refine ⟨trivial, ?_⟩
  have q := asLent_any x v W4.heap.size w5.heap.size (fun b => b < w.heap.size) V10 (HXE.out.keep (fun b o q1 q2 q3 => (hc810.block b (by omega)).trans (kp8.out b o (by omega) (by omega) ((hb6.block b q2).trans q3)))) (by omega) (LiesIn.keep (lies_objs (LiesIn.keep HV.out (fun b hb o => hbw6.cell (p := ⟨b, o, none⟩) hb) (fun _ h => h)) (fun b o hb => kp8.out b o (by omega) (by omega))) (fun b hb o => hc810.cell (p := ⟨b, o, none⟩) (by show b < w8.heap.size; have : b < w.heap.size := hb; omega)) (fun _ h => h)) (fun b hb => ⟨by omega, by omega⟩) hxt
  rw [V.val_eq, V.val_eq] at q
  refine (callsIn_wide.2 q).mono ?_
  clear q x0 x1 x2 x3 x4 v0 v1 v2 v3 v4
  rintro e w11 ⟨rfl, ht11⟩
  have hs11 := ht11.size
  have xal11 : Boxed w11 w10.heap.size 45 (.func (.func 44) #[] #[.pointer (some ⟨B, 0, none⟩)]) := (ht11.block _ (by omega) (by omega)).trans xal
  have hal11 := xal11.cell
  have hal11l : w10.heap.size < w11.heap.size := by omega
  gi_wp2_with fail
  rename_i Q' K hKK
  obtain ⟨W12, hW12⟩ : ∃ W12, w11.alloc (Obj.cells #[.int .i64 0] 3) = W12 := ⟨_, rfl⟩
  have hS12a : W12.heap.size ≤ w11.heap.size + 1 := by rw [← hW12]; simp
  have hS12b : w11.heap.size + 1 ≤ W12.heap.size := by rw [← hW12]; simp
  have hc12 : Below w11.heap.size w11 W12 := by rw [← hW12]; exact bel1 (Below.refl _ _) (Nat.le_refl _) _
  have xn12 : Boxed W12 w11.heap.size 3 (.int .i64 0) := by rw [← hW12]; exact World.alloc_heap_new _ _
  rw [hW12]
  clear hW12
  -- what stays from the worlds before
  have up8 : ∀ b o, b < w8.heap.size → ¬ (W4.heap.size ≤ b ∧ b < w5.heap.size) → w8.heap[b]? = some o → W12.heap[b]? = some o := fun b o h1 h2 h3 => (hc12.block b (by omega)).trans ((ht11.block b (by omega) h2).trans ((hc810.block b h1).trans h3))
  have up6 : ∀ b o, b < W6.heap.size → b ≠ p → ¬ (W4.heap.size ≤ b ∧ b < w5.heap.size) → W6.heap[b]? = some o → W12.heap[b]? = some o := fun b o h1 h2 h3 h4 => up8 b o (by omega) h3 (kp8.out b o h1 h2 h4)
  have yw : Boxed W12 w4.heap.size 41 (.slice (some ⟨gw, 0, none⟩) L.length C) := up6 _ _ (by omega) (by omega) (by omega) xw6
  have yb : Boxed W12 (p + 1) 34 (.pointer (some ⟨p, 0, none⟩)) := up6 _ _ (by omega) (by omega) (by omega) xb6
  have yr : Boxed W12 (w.heap.size + 1) 4 (.bool false) := up6 _ _ (by omega) (by omega) (by omega) xr6
  have yal : Boxed W12 w10.heap.size 45 (.func (.func 44) #[] #[.pointer (some ⟨B, 0, none⟩)]) := (hc12.block _ (by omega)).trans xal11
  have HWA12 : Hid (Wants gw L W12) := HWA.out.kept (fun o => up6 gw o (by omega) (by omega) (by omega))
  have HV12 : Hid (Lies w.heap.size W12 v) := lies_objs (LiesIn.keep HV.out (fun b hb o => hbw6.cell (p := ⟨b, o, none⟩) hb) (fun _ h => h)) (fun b o hb => up6 b o (by omega) (by omega) (by omega))
  have HBK12 : Hid (BkR p A2 W12.heap.size S2 W12) := (BK2'.out W12.heap.size).on (fun o => up8 p o ((BK2'.out 0).lt) (by omega)) (fun g hg o ho => up8 g o (Array.getElem?_eq_some_iff.1 ho).1 (fun hh => by
      have hgl := (Array.getElem?_eq_some_iff.1 ho).1
      rcases hg with hg | hg
      · have := hA2g g hg; omega
      · omega) ho)
  have HOW12 : Hid (OwnsX W12 S2) := OW2.out.keep (fun g hg => by
    obtain ⟨cs, hc⟩ := owns_type OW2.out g hg
    have := H5.out g hg
    rw [up8 g _ (Array.getElem?_eq_some_iff.1 hc).1 (by omega) hc, hc])
  obtain ⟨hy2, hB2, hB3, hl2⟩ := HY2.out
  have hBlt := hB2.lt
  have hB12 : BoxV W12 B y2 := (hc12.block _ (by omega)).trans ((ht11.block _ (by omega) (by omega)).trans ((hc10.block _ hBlt).trans hB2))
  have hl12 : LiesIn (fun b => w9.heap.size ≤ b ∧ b < w10.heap.size) W12 y2 := lies_objs hl2 (fun b o hb ho => (hc12.block _ (by omega)).trans ((ht11.block _ (by omega) (by omega)).trans ((hc10.block _ hb.2).trans ho)))
  have hA2w : ∀ g, A2 = some g → g < w8.heap.size := fun g h => (hA2l g h).2
  have hpl : p < w8.heap.size := (BK2'.out 0).lt
  have hO12 : Out w W12 := by
    have h1 : Out w W6 := ⟨hbw6.os, hbw6.tape, hbw6.output⟩
    exact (((h1.trans O8.out).below hc810).trans ⟨ht11.os, ht11.tape, ht11.output⟩).below hc12
  have hbw12 : Below w.heap.size w W12 := ⟨hO12.1, hO12.2.1, hO12.2.2, by omega, fun b hb => by
    cases hh : w.heap[b]? with
    | none => rw [Array.getElem?_eq_none_iff] at hh; omega
    | some ob => exact up6 b ob (by omega) (by omega) (by omega) ((hbw6.block b hb).trans hh)⟩
  have YR := hide yr
  have HS2B : Hid (∀ g ∈ blocksOf S2, w.heap.size ≤ g) := fun g hg => by have := H5.out g hg; omega
  clear up8 up6 kp8 HWA HXL HVL HXE BK2' OW2 H5 O8 hb810 hc810 ht11 xw xw5 xw6 xb6 xx6 xv6 xr6 yx8 yv8 yx9 hbW6 hbw6 hb6 hbW5 hbw5 xal xal11 hal11 hc4 hcW4 hcw4 hbW4 hbw4 hb5 hl2 hB2 HY2
  have hst := all_seq W12.heap.size (fun b => b = w11.heap.size ∨ b = p ∨ A2 = some b) (fun b => (b = w11.heap.size ∨ b = p ∨ A2 = some b) ∨ b = w.heap.size + 1) (fun b => w9.heap.size ≤ b ∧ b < w10.heap.size) (fun _ h => .inl h) (fun b h1 h2 => by rcases h2 with h | h | h <;> first | omega | (have := hA2w b h; omega)) y2 B (fun h => by rcases h with h | h | h <;> first | omega | (have := hA2w B h; omega)) W12 hB12 hl12 (fun b h => by omega) (fun b h => by omega) (fun b h => by rcases h with (h | h | h) | h <;> first | omega | (have := hA2w b h; omega))
  have hll : (y2.all 1).length = L.length := by
    rw [← HLL.out]
    have := congrArg List.length (all_bareS y2 v 1 (hy2.trans hxt'.out))
    simpa [bare] using this
  have hL100 : L.length ≤ 100000 := by
    have := all_len v 1
    rw [HLL.out] at this
    omega
  have RESTO : ∀ (D : Nat) (W : World) (xs : List (Int × V)), W12.heap.size ≤ D → W.heap[D]? = some (.deferred (some [])) → Boxed W w11.heap.size 3 (.int .i64 (xs.length : Int)) → (∀ y ∈ xs, Sml w.heap.size y) → BkR p A2 W12.heap.size (S2 ++ V.slotss (xs.map Prod.snd)) W → OwnsX W (S2 ++ V.slotss (xs.map Prod.snd)) → KpX W12.heap.size (fun b => b = w11.heap.size ∨ b = p ∨ A2 = some b) W12 W → Out W12 W → 0 < xs.length → ((xs.length < 40 ∧ xs.length = L.length) ∨ (xs.length = 40 ∧ 40 ≤ L.length)) →
      K { tmps := aTmps v x w.heap.size w4.heap.size w5.heap.size p w10.heap.size w11.heap.size gw L.length C B stop undef undef undef undef, defers := [{ target := .collected D, args := #[] }] } W := by
    intro D W xs hD hDr i1 i2 i3 i4 i5 i6 hpos hor
    refine hKK _ _ ?_
    clear hKK
    have hsz := i5.1
    have kW : ∀ b, b < W12.heap.size → b ≠ w11.heap.size → b ≠ p → (∀ g, A2 = some g → b ≠ g) → ∀ o, W12.heap[b]? = some o → W.heap[b]? = some o := fun b h1 h2 h3 h4 o ho => i5.2 b o (fun h => h.elim h2 (fun h => h.elim h3 (fun h => h4 b h rfl))) (.inl h1) ho
    have zw : Boxed W w4.heap.size 41 (.slice (some ⟨gw, 0, none⟩) L.length C) := kW _ (by omega) (by omega) (by omega) (fun g hg => by have := hA2g g hg; omega) _ yw
    have zb : Boxed W (p + 1) 34 (.pointer (some ⟨p, 0, none⟩)) := kW _ (by omega) (by omega) (by omega) (fun g hg => by have := hA2g g hg; omega) _ yb
    have zr : Boxed W (w.heap.size + 1) 4 (.bool false) := kW _ (by omega) (by omega) (by omega) (fun g hg => by have := hA2g g hg; omega) _ YR.out
    have hbwW : Below w.heap.size w W := ⟨i6.1.trans hbw12.os, i6.2.1.trans hbw12.tape, i6.2.2.trans hbw12.output, by omega, fun b hb => by
      cases hh : w.heap[b]? with
      | none => rw [Array.getElem?_eq_none_iff] at hh; omega
      | some ob => exact kW b (by omega) (by omega) (by omega) (fun g hg => by have := hA2g g hg; omega) ob ((hbw12.block b hb).trans hh)⟩
    have hSb : ∀ g ∈ blocksOf (S2 ++ V.slotss (xs.map Prod.snd)), w.heap.size ≤ g := fun g hg => by
      rw [blocksOf_append] at hg
      refine (List.mem_append.1 hg).elim (HS2B.out g) (fun hg => ?_)
      obtain ⟨s, hs, he⟩ := List.mem_filterMap.1 hg
      unfold V.slotss at hs
      obtain ⟨S', hS', hm⟩ := List.mem_flatten.1 hs
      obtain ⟨q, hq, rfl⟩ := List.mem_map.1 hS'
      obtain ⟨q', hq', rfl⟩ := List.mem_map.1 hq
      exact (i2 q' hq').2 g (List.mem_filterMap.2 ⟨s, hm, he⟩)
    have hlen : (V.slotss (xs.map Prod.snd)).length ≤ 4000000 := by
      have h1 := slotss_len' (xs.map Prod.snd) 100000 (fun z hz => by
        obtain ⟨q, hq, rfl⟩ := List.mem_map.1 hz
        exact (i2 q hq).1)
      rw [List.length_map] at h1
      have h3 : xs.length * 100000 ≤ 40 * 100000 := Nat.mul_le_mul_right _ (by omega)
      omega
    have hpS : 0 < (S2 ++ V.slotss (xs.map Prod.snd)).length := by
      cases xs with
      | nil => simp at hpos
      | cons q xs =>
        have := slots_pos q.2
        simp [V.slotss]
        omega
    have hmin : ((xs.length : Int) == min 40 (L.length : Int)) = true := by
      have : min 40 (L.length : Int) = (xs.length : Int) := by omega
      rw [this]; simp
    have hn0 := i1.cell
    have hw0 := zw.cell
    have hb0' := zb.cell
    simp only [aTmps]
    gi_wp2_with fail
    refine ⟨trivial, ?_⟩
    refine (callsIn_wide.2 (owned_st i3 i4 hpS (by rw [List.length_append]; omega) (fun z hz a m c e => (List.mem_append.1 hz).elim (fun h => by have := SM2.out z h a m c e; omega) (fun h => by have := slotss_small (xs.map Prod.snd) 100000 (fun q hq => by obtain ⟨q', hq', rfl⟩ := List.mem_map.1 hq; exact (i2 q' hq').1) z h a m c e; omega)))).mono ?_
    rintro e F ⟨rfl, HT⟩
    have hT := HT.out
    have hsF := hT.size
    have hkF : ∀ b o, (∀ cs, o ≠ Obj.cells cs 25 (0, 0)) → W.heap[b]? = some o → F.heap[b]? = some o := fun b o hne hb => (hT.block b (Array.getElem?_eq_some_iff.1 hb).1 (fun hm => by
      obtain ⟨cs, hc⟩ := owns_type i4 b hm
      rw [hb] at hc
      cases hc
      exact hne _ rfl)).trans hb
    have fn : Boxed F w11.heap.size 3 (.int .i64 (xs.length : Int)) := hkF _ _ (fun cs h => by cases h) i1
    have fw : Boxed F w4.heap.size 41 (.slice (some ⟨gw, 0, none⟩) L.length C) := hkF _ _ (fun cs h => by cases h) zw
    have fr : Boxed F (w.heap.size + 1) 4 (.bool false) := hkF _ _ (fun cs h => by cases h) zr
    have fD : F.heap[D]? = some (.deferred (some [])) := hkF _ _ (fun cs h => by cases h) hDr
    have hbF : Below w.heap.size w F := hbwW.trans (hT.keep (by omega) hSb)
    have hK' := (KeepsOthers.setCell F ⟨w.heap.size + 1, 0, none⟩ (.bool true)).same D _ fD rfl
    have FR := hide fr
    have HBF := hide hbF
    have fn0 := fn.cell
    have fw0 := fw.cell
    have fr0 := fr.cell
    have frf := fr.frozen
    clear hkF hT HT i1 i2 i3 i4 i5 i6 zw zb zr kW hSb hbwW hn0 hw0 hb0' fn fw fr hbF hpS hlen hpos
    rcases hor with ⟨h40, hxl'⟩ | ⟨h40, hLl⟩
    · have hb1 : ((xs.length : Int) == (L.length : Int)) = true := by simp [hxl']
      have hLi : (L.length : Int) < 40 := by omega
      clear hxl' h40
      gi_wp2
      refine ⟨by simp, .inl ⟨_, _, rfl, run_takeDeferred hK', ?_⟩⟩
      have hc5 := cell_kept (FR.out.set (.bool true)).cell (grownBy_putObj' _ D (.deferred none)) (fun r e => by cases e; exact ⟨_, hK', rfl⟩)
      refine ⟨.bool true, ?_, rfl, (HBF.out.setCell (p := ⟨w.heap.size + 1, 0, none⟩) (by show w.heap.size ≤ w.heap.size + 1; omega) _).trans (belowK_b (w := w) (Nat.le_refl _) _ D _ _ (by omega) hK' rfl rfl)⟩
      simp only [results, Tryd.f5, go_sem]
      simp [hc5]
    · have hb1 : ((xs.length : Int) == 40) = true := by simp [h40]
      have hLi : (40 : Int) ≤ (L.length : Int) := by omega
      clear h40 hLl
      gi_wp2
      refine ⟨by simp, .inl ⟨_, _, rfl, run_takeDeferred hK', ?_⟩⟩
      have hc5 := cell_kept (FR.out.set (.bool true)).cell (grownBy_putObj' _ D (.deferred none)) (fun r e => by cases e; exact ⟨_, hK', rfl⟩)
      refine ⟨.bool true, ?_, rfl, (HBF.out.setCell (p := ⟨w.heap.size + 1, 0, none⟩) (by show w.heap.size ≤ w.heap.size + 1; omega) _).trans (belowK_b (w := w) (Nat.le_refl _) _ D _ _ (by omega) hK' rfl rfl)⟩
      simp only [results, Tryd.f5, go_sem]
      simp [hc5]
  clear hKK
  refine range_own (gf := 44) (lb := #[.pointer (some ⟨B, 0, none⟩)]) rfl (enters_of Tryd.func44 (by kernel_rfl) rfl) hst (fun b h => by rcases h with h | h | h <;> first | omega | (have := hA2w b h; omega)) (fun _ h => .inl h) (fun b h => by rcases h with (h | h | h) | h <;> first | omega | (have := hA2w b h; omega)) (fun _ => rfl)
    (fun pre W => (pre.length < 40 ∧ Boxed W w11.heap.size 3 (.int .i64 (pre.length : Int))) ∧ ((∀ y ∈ pre, Sml w.heap.size y) ∧ BkR p A2 W12.heap.size (S2 ++ V.slotss (pre.map Prod.snd)) W ∧ OwnsX W (S2 ++ V.slotss (pre.map Prod.snd))) ∧ (KpX W12.heap.size (fun b => b = w11.heap.size ∨ b = p ∨ A2 = some b) W12 W ∧ Out W12 W))
    (fun c pre W => (c = .ret ∧ ∃ (q : List (Int × V)) (y : Int × V), pre = q ++ [y] ∧ ¬ (∃ h : q.length < L.length, eqT y.2.t (L[q.length]'h).2.t = true ∧ y.1 = (L[q.length]'h).1)) ∨
      (c = .exit 0 ∧ (pre.length = 40 ∧ Boxed W w11.heap.size 3 (.int .i64 (pre.length : Int))) ∧ ((∀ y ∈ pre, Sml w.heap.size y) ∧ BkR p A2 W12.heap.size (S2 ++ V.slotss (pre.map Prod.snd)) W ∧ OwnsX W (S2 ++ V.slotss (pre.map Prod.snd))) ∧ (KpX W12.heap.size (fun b => b = w11.heap.size ∨ b = p ∨ A2 = some b) W12 W ∧ Out W12 W)))
    ?hI ?hIx ⟨⟨by simp, xn12⟩, ⟨by simp, by simpa [V.slotss] using HBK12.out, by simpa [V.slotss] using HOW12.out⟩, KpX.refl _ _ _, Out.refl _⟩
    (fun pre y a' W => (∃ lo, LiesIn (fun b => lo ≤ b ∧ b < W.heap.size) W y.2 ∧ Owns W lo W.heap.size y.2.slots ∧ Frs p lo (S2 ++ V.slotss (pre.map Prod.snd)) W ∧ Sml w.heap.size y) ∧ ∃ Bx, BoxV W Bx y.2 ∧ a' = { tmps := aTmps v x w.heap.size w4.heap.size w5.heap.size p w10.heap.size w11.heap.size gw L.length C B stop (.int .i64 y.1) (.pointer (some ⟨Bx, 0, none⟩)) (.int .i64 y.1) (.agg #[.int .i64 y.2.k, .int .u64 y.2.n, .string y.2.s, .slice y.2.a y.2.l.length y.2.c, .int .i64 y.2.e]), defers := [] })
    ?hAx ?assign ?body ?done ?stop
  case hI =>
    rintro pre A B' row ⟨⟨h0, h1⟩, ⟨h2, h3, h4⟩, h5, h6⟩ hg hr
    have hr' : ∀ r, row = some r → ∃ o : Obj, A.heap[r]? = some o ∧ o.isCells = false := fun r e => (hr r e).2
    exact ⟨⟨h0, grown_cells hg hr' h1⟩, ⟨h2, h3.grown hg hr', owns_grown h4 hg hr'⟩, kp_grown h5 hg hr (Nat.le_refl _), h6.grown hg⟩
  case hIx =>
    rintro c pre A B' row (h | ⟨h0, ⟨h00, h1⟩, ⟨h2, h3, h4⟩, h5, h6⟩) hg hr
    · exact .inl h
    · have hr' : ∀ r, row = some r → ∃ o : Obj, A.heap[r]? = some o ∧ o.isCells = false := fun r e => (hr r e).2
      exact .inr ⟨h0, ⟨h00, grown_cells hg hr' h1⟩, ⟨h2, h3.grown hg hr', owns_grown h4 hg hr'⟩, kp_grown h5 hg hr (Nat.le_refl _), h6.grown hg⟩
  case hAx =>
    rintro pre y a' _ A B' row ⟨⟨lo, h1, h2, h3, h4⟩, Bx, h5, h6⟩ hg hr
    have hr' : ∀ r, row = some r → ∃ o : Obj, A.heap[r]? = some o ∧ o.isCells = false := fun r e => (hr r e).2
    exact ⟨⟨lo, lies_some (fun q u hq => cell_kept hq hg hr') (fun b hb => ⟨hb.1, Nat.lt_of_lt_of_le hb.2 hg.size⟩) y.2 h1, ownsI_grown h2 hg hr', h3.grown hg hr', h4⟩, Bx, grown_cells hg hr' h5, h6⟩
  case assign =>
    rintro l' pre y Wp W K' ⟨⟨i0, i1⟩, ⟨i2, i3, i4⟩, i5, i6⟩ hbp ⟨r1, r2, q, hq, hq1, hq2⟩ ⟨⟨j0, j1⟩, ⟨j2, j3, j4⟩, j5, j6⟩ hK
    simp only [encV, V.val_eq]
    have hsz := j5.1
    have hwty : T.wt y.2.t ≤ 100000 := by
      have h1 := (all_sub y2 1 q (by omega) (by rw [hy2, hxt'.out]; omega) hq).1.2
      have h2 := (all_sub y2 1 q (by omega) (by rw [hy2, hxt'.out]; omega) hq).1.1
      rw [← hq2]
      rw [hy2, hxt'.out] at h1
      omega
    have hba := bel1 (Below.refl W.heap.size W) (Nat.le_refl _) (Obj.cells #[.int .i64 y.2.k, .int .u64 y.2.n, .string y.2.s, .slice y.2.a y.2.l.length y.2.c, .int .i64 y.2.e] 25)
    have hfr := ((i3.fresh i4).below hbp).below hba
    gi_wp2
    exact hK _ _ ((KpX.refl _ _ W).alloc _) ⟨⟨j0, j1.alloc _⟩, ⟨j2, j3.below hba, owns_below j4 hba⟩, j5.alloc _, j6.below hba⟩ ⟨⟨Wp.heap.size, LiesIn.keep r1 (fun b hb o => hba.cell (p := ⟨b, o, none⟩) hb.2) (fun b hb => ⟨hb.1, by have := hb.2; simp; omega⟩), r2.keep (fun b _ hb => hba.block b hb) (Nat.le_refl _) (by simp), hfr, hwty, fun g hg => by have := (r2.mem hg).1; have := i5.1; omega⟩, W.heap.size, BoxV.new W y.2, rfl⟩
  case body =>
    rintro l' pre y a' W hl' ⟨r, hr⟩ ⟨⟨i0, i1⟩, ⟨i2, i3, i4⟩, i5, i6⟩ ⟨⟨lo, a1, a2, a3, a4⟩, Bx, bX, rfl⟩ hlt
    rw [hll] at hlt
    simp only [aTmps]
    have hsz := i5.1
    have kW : ∀ b, b < W12.heap.size → b ≠ w11.heap.size → b ≠ p → (∀ g, A2 = some g → b ≠ g) → ∀ o, W12.heap[b]? = some o → W.heap[b]? = some o := fun b h1 h2 h3 h4 o ho => i5.2 b o (fun h => h.elim h2 (fun h => h.elim h3 (fun h => h4 b h rfl))) (.inl h1) ho
    have zw : Boxed W w4.heap.size 41 (.slice (some ⟨gw, 0, none⟩) L.length C) := kW _ (by omega) (by omega) (by omega) (fun g hg => by have := hA2g g hg; omega) _ yw
    have zb : Boxed W (p + 1) 34 (.pointer (some ⟨p, 0, none⟩)) := kW _ (by omega) (by omega) (by omega) (fun g hg => by have := hA2g g hg; omega) _ yb
    have zr : Boxed W (w.heap.size + 1) 4 (.bool false) := kW _ (by omega) (by omega) (by omega) (fun g hg => by have := hA2g g hg; omega) _ YR.out
    have zal : Boxed W w10.heap.size 45 (.func (.func 44) #[] #[.pointer (some ⟨B, 0, none⟩)]) := kW _ (by omega) (by omega) (by omega) (fun g hg => by have := hA2w g hg; omega) _ yal
    have hWW : Wants gw L W := HWA12.out.kept (fun o => kW gw (by omega) (by omega) (by omega) (fun g hg => by have := hA2g g hg; omega) o)
    have HLV : Hid (Lies w.heap.size W v) := lies_objs HV12.out (fun b o hb => kW b (by omega) (by omega) (by omega) (fun g hg => by have := hA2g g hg; omega) o)
    have HB2W : Hid (BoxV W B y2) := kW _ (by omega) (by omega) (by omega) (fun g hg => by have := hA2w g hg; omega) _ hB12
    have HL2W : Hid (LiesIn (fun b => w9.heap.size ≤ b ∧ b < w10.heap.size) W y2) := lies_objs hl12 (fun b o hb => kW b (by omega) (by omega) (by omega) (fun g hg => by have := hA2w g hg; omega) o)
    obtain ⟨c0, c1, c2, c3, c4, c5⟩ := hWW pre.length hlt
    have HWW := hide hWW
    obtain ⟨b0, b1, b2, b3, b4⟩ := bX.cells
    have hbx := bX.lt
    have hn0 := i1.cell
    have hw0 := zw.cell
    have hlt' : ((pre.length : Int) < (L.length : Int)) := by omega
    have I1 := hide i1
    have I3 := hide i3
    have I4 := hide i4
    have I5 := hide i5
    have A1' := hide a1
    have A2' := hide a2
    have A3' := hide a3
    have HR := hide hr
    have hmx : Tryd.prog.follows .mixedOrders = true := by kernel_rfl
    have HLN : Hid (Lies w.heap.size W L[pre.length].2) := all_lies 1 v HLV.out _ (by rw [HLL.out]; exact List.getElem_mem hlt)
    obtain ⟨sm, hsm⟩ : ∃ sm, eqT y.2.t L[pre.length].2.t = sm := ⟨_, rfl⟩
    have HSM := hide hsm
    have HQ : Hid (∀ W3, Below W.heap.size W W3 → Calls Tryd.prog 13 #[.agg #[.int .i64 y.2.k, .int .u64 y.2.n, .string y.2.s, .slice y.2.a y.2.l.length y.2.c, .int .i64 y.2.e], .agg #[.int .i64 L[pre.length].2.k, .int .u64 L[pre.length].2.n, .string L[pre.length].2.s, .slice L[pre.length].2.a L[pre.length].2.l.length L[pre.length].2.c, .int .i64 L[pre.length].2.e]] W3 fun e W4 => e = .returned (.bool sm) ∧ Below W.heap.size W W4) := by
      intro W3 hb3
      have hs3 := hb3.size
      have q := requal_any y.2 L[pre.length].2 W.heap.size W3 hs3 (LiesIn.keep A1'.out (fun b hb o => hb3.cell (p := ⟨b, o, none⟩) hb.2) (fun b hb => hb.2)) (LiesIn.keep HLN.out (fun b hb o => hb3.cell (p := ⟨b, o, none⟩) (by show b < W.heap.size; have : b < w.heap.size := hb; omega)) (fun b hb => by show b < W.heap.size; have : b < w.heap.size := hb; omega))
      rw [V.val_eq, V.val_eq, hsm] at q
      refine q.mono ?_
      rintro e W4 ⟨h1, h2⟩
      exact ⟨h1, belOn hb3 hs3 h2⟩
    clear hWW kW i1 i3 i4 i5 a1 a2 a3 hsm hr
    obtain ⟨u, hu⟩ : ∃ u, L[pre.length]'hlt = u := ⟨_, rfl⟩
    have HU := hide hu
    rw [hu] at c0 c1 c2 c3 c4 c5 HQ HSM HLN
    clear hu
    gi_wp2_with fail
    rename_i K2 hK2
    have REST : ∀ W4, Below W.heap.size W W4 → K2 { tmps := aTmps2 v x w.heap.size w4.heap.size w5.heap.size p w10.heap.size w11.heap.size gw L.length C B Bx pre.length stop y u sm, defers := [] } W4 := by
      intro W4 hb4
      refine hK2 _ _ ?_
      clear hK2 HQ b0 b1 b2 b3 b4 hn0 hw0
      simp only [aTmps2]
      have hs4' := hb4.size
      have xn4 : Boxed W4 w11.heap.size 3 (.int .i64 (pre.length : Int)) := (hb4.block _ I1.out.lt).trans I1.out
      have xw4 : Boxed W4 w4.heap.size 41 (.slice (some ⟨gw, 0, none⟩) L.length C) := (hb4.block _ zw.lt).trans zw
      have xb4 : Boxed W4 (p + 1) 34 (.pointer (some ⟨p, 0, none⟩)) := (hb4.block _ zb.lt).trans zb
      have xr4 : Boxed W4 (w.heap.size + 1) 4 (.bool false) := (hb4.block _ zr.lt).trans zr
      have xal4 : Boxed W4 w10.heap.size 45 (.func (.func 44) #[] #[.pointer (some ⟨B, 0, none⟩)]) := (hb4.block _ zal.lt).trans zal
      have hn4 := xn4.cell
      have hw4 := xw4.cell
      have hp4 := xb4.cell
      have hr4 := xr4.cell
      have hrf4 := xr4.frozen
      have d0 := (hb4.cell (p := ⟨gw, pre.length * 6, none⟩) (by show gw < W.heap.size; omega)).trans c0
      obtain ⟨b0, b1, b2, b3, b4⟩ := (bX.below hb4 hbx).cells
      clear c0 c1 c2 c3 c4 c5
      have hbad : ¬ (sm = true ∧ y.1 = u.1) → ∃ (q : List (Int × V)) (y' : Int × V), pre ++ [y] = q ++ [y'] ∧ ¬ (∃ h : q.length < L.length, eqT y'.2.t (L[q.length]'h).2.t = true ∧ y'.1 = (L[q.length]'h).1) := fun hne => ⟨pre, y, rfl, fun ⟨h, e1, e2⟩ => hne (by
        rw [HU.out] at e1 e2
        rw [HSM.out] at e1
        exact ⟨e1, e2⟩)⟩
      have HBAD := hide hbad
      clear hbad
      cases sm with
      | false =>
        gi_wp2
        first
          | exact ⟨KpX.setCell (KpX.of_below hb4) (.inr rfl) _ _, .inl ⟨rfl, HBAD.out (by simp)⟩⟩
          | (obtain ⟨q, ⟨ya, yb'⟩, h1, h2⟩ := HBAD.out (by simp); exact ⟨KpX.setCell (KpX.of_below hb4) (.inr rfl) _ _, .inl ⟨rfl, q, ya, yb', h1, fun h e1 e2 => h2 ⟨h, e1, e2⟩⟩⟩)
      | true =>
        by_cases hd : y.1 = u.1
        · have hdb : (y.1 != u.1) = false := by simp [hd]
          gi_wp2_with fail
          refine ⟨trivial, ?_⟩
          have hlen : (V.slotss (pre.map Prod.snd)).length ≤ 4000000 := by
            have h1 := slotss_len' (pre.map Prod.snd) 100000 (fun z hz => by
              obtain ⟨q, hq, rfl⟩ := List.mem_map.1 hz
              exact (i2 q hq).1)
            rw [List.length_map] at h1
            have h3 : pre.length * 100000 ≤ 40 * 100000 := Nat.mul_le_mul_right _ (by omega)
            omega
          have q := take_st (M := W12.heap.size) (lo := lo) (by omega) (I3.out.below hb4) (owns_below I4.out hb4) (A3'.out.below hb4) y.2 (LiesIn.keep A1'.out (fun b hb o => hb4.cell (p := ⟨b, o, none⟩) hb.2) (fun b hb => ⟨hb.1, by have := hb.2; omega⟩)) (A2'.out.keep (fun b _ hb => hb4.block b hb) (Nat.le_refl _) hs4') (by rw [List.length_append]; have := a4.1; omega)
          rw [V.val_eq] at q
          refine (CallsIn.inRound l' (callsIn_wide.2 q)).mono ?_
          clear q b0 b1 b2 b3 b4 hn4 hw4 hp4 hr4 hrf4 d0
          rintro e W5 ⟨rfl, HT⟩
          have hs5' := (HT.out.2.2.1 (fun b => b = p ∨ A2 = some b) (.inl rfl) (fun g h => .inr h)).1
          have hk5 : Hid (∀ b o, W4.heap[b]? = some o → b ≠ p → (∀ g, A2 = some g → b ≠ g) → (b < W12.heap.size ∨ Keeps o) → W5.heap[b]? = some o) := fun b o ho h1 h2 h3 => (HT.out.2.2.1 (fun b => b = p ∨ A2 = some b) (.inl rfl) (fun g h => .inr h)).2 b o (fun h => h.elim h1 (fun h => h2 b h rfl)) h3 ho
          have zal5 : Boxed W5 w10.heap.size 45 (.func (.func 44) #[] #[.pointer (some ⟨B, 0, none⟩)]) := hk5.out _ _ xal4 (by omega) (fun g hg => by have := hA2w g hg; omega) (.inl (by omega))
          have hal5 := zal5.cell
          have hal5l : w10.heap.size < W5.heap.size := zal5.lt
          gi_wp2_with fail
          rename_i K3 hK3
          obtain ⟨V5, hV5⟩ : ∃ V5, W5.alloc (Obj.cells #[.int .i64 0] 3) = V5 := ⟨_, rfl⟩
          have hS5a : V5.heap.size ≤ W5.heap.size + 1 := by rw [← hV5]; simp
          have hS5b : W5.heap.size + 1 ≤ V5.heap.size := by rw [← hV5]; simp
          have hc5 : Below W5.heap.size W5 V5 := by rw [← hV5]; exact bel1 (Below.refl _ _) (Nat.le_refl _) _
          have xk5 : Boxed V5 W5.heap.size 3 (.int .i64 0) := by rw [← hV5]; exact World.alloc_heap_new _ _
          rw [hV5]
          clear hV5
          have up5 : ∀ b o, W4.heap[b]? = some o → b ≠ p → (∀ g, A2 = some g → b ≠ g) → (b < W12.heap.size ∨ Keeps o) → V5.heap[b]? = some o := fun b o ho h1 h2 h3 => by
            have h5 := hk5.out b o ho h1 h2 h3
            exact (hc5.block b (Array.getElem?_eq_some_iff.1 h5).1).trans h5
          have vn5 : Boxed V5 w11.heap.size 3 (.int .i64 (pre.length : Int)) := up5 _ _ xn4 (by omega) (fun g hg => by have := hA2w g hg; omega) (.inl (by omega))
          have vw5 : Boxed V5 w4.heap.size 41 (.slice (some ⟨gw, 0, none⟩) L.length C) := up5 _ _ xw4 (by omega) (fun g hg => by have := hA2g g hg; omega) (.inl (by omega))
          have vr5 : Boxed V5 (w.heap.size + 1) 4 (.bool false) := up5 _ _ xr4 (by omega) (fun g hg => by have := hA2g g hg; omega) (.inl (by omega))
          have HW5 : Hid (Wants gw L V5) := HWW.out.kept (fun o ho => up5 gw o ((hb4.block gw (by omega)).trans ho) (by omega) (fun g hg => by have := hA2g g hg; omega) (.inl (by omega)))
          have vB5 : BoxV V5 B y2 := up5 _ _ ((hb4.block _ (by omega)).trans HB2W.out) (by omega) (fun g hg => by have := hA2w g hg; omega) (.inl (by omega))
          have vL5 : LiesIn (fun b => w9.heap.size ≤ b ∧ b < w10.heap.size) V5 y2 := lies_objs HL2W.out (fun b o hb ho => up5 b o ((hb4.block _ (by omega)).trans ho) (by omega) (fun g hg => by have := hA2w g hg; omega) (.inl (by omega)))
          have hl5 : V5.heap[l']? = some (.loop r) := up5 l' _ ((hb4.block _ (Array.getElem?_eq_some_iff.1 HR.out).1).trans HR.out) (by omega) (fun g hg => by have := hA2w g hg; omega) (.inr (keeps_not rfl))
          have k05 : KpX W12.heap.size (fun b => b = w11.heap.size ∨ b = p ∨ A2 = some b) W V5 := ((KpX.of_below hb4).trans (HT.out.2.2.1 _ (.inr (.inl rfl)) (fun g h => .inr (.inr h)))).trans (KpX.of_below hc5)
          have bk5 : BkR p A2 W12.heap.size (S2 ++ V.slotss (pre.map Prod.snd) ++ y.2.slots) V5 := HT.out.1.below hc5
          have ow5 : OwnsX V5 (S2 ++ V.slotss (pre.map Prod.snd) ++ y.2.slots) := owns_below HT.out.2.1 hc5
          have ou5 : Out W12 V5 := ((i6.below hb4).trans HT.out.2.2.2).below hc5
          have K05 := hide k05
          have BK5 := hide bk5
          have OW5 := hide ow5
          have OU5 := hide ou5
          clear k05 bk5 ow5 ou5 up5 hk5 HT zal5 hal5 xn4 xw4 xb4 xr4 xal4 HBAD hlen
          have TAIL : ∀ W6, KpX V5.heap.size (fun b => b = W5.heap.size) V5 W6 → Out V5 W6 → Boxed W6 W5.heap.size 3 (.int .i64 ((pre.length : Int) + 1)) → K3 { tmps := aTmps3 v x w.heap.size w4.heap.size w5.heap.size p w10.heap.size w11.heap.size gw L.length C B Bx pre.length W5.heap.size stop y u undef undef undef undef, defers := [] } W6 := by
            intro W6 k6 o6 xk6
            refine hK3 _ _ ?_
            clear hK3
            simp only [aTmps3]
            have hsz6 := k6.1
            have k7 : ∀ b o, b < V5.heap.size → b ≠ W5.heap.size → V5.heap[b]? = some o → W6.heap[b]? = some o := fun b o h1 h2 h3 => k6.2 b o h2 (.inl h1) h3
            have un : Boxed W6 w11.heap.size 3 (.int .i64 (pre.length : Int)) := k7 _ _ (by omega) (by omega) vn5
            have uw : Boxed W6 w4.heap.size 41 (.slice (some ⟨gw, 0, none⟩) L.length C) := k7 _ _ (by omega) (by omega) vw5
            have un0 := un.cell
            have unf := un.frozen
            have uw0 := uw.cell
            have uk0 := xk6.cell
            have hmin : ((pre.length : Int) + 1 != min ((pre.length : Int) + 1) (L.length : Int)) = false := by
              have : min ((pre.length : Int) + 1) (L.length : Int) = (pre.length : Int) + 1 := by omega
              rw [this]; simp
            have hWk : W.heap.size ≤ W5.heap.size := by omega
            have KX : Hid (KpX W12.heap.size (fun b => b = w11.heap.size ∨ b = p ∨ A2 = some b) W (W6.setCell ⟨w11.heap.size, 0, none⟩ (.int .i64 ((pre.length : Int) + 1)))) := (kp_new K05.out k6 (Nat.le_refl _) hWk).setCell (.inl rfl) _ _
            have e1 : ((pre ++ [y]).length : Int) = (pre.length : Int) + 1 := by simp
            have e2 : (pre ++ [y]).length = pre.length + 1 := by simp
            have G1 : Hid (Boxed (W6.setCell ⟨w11.heap.size, 0, none⟩ (.int .i64 ((pre.length : Int) + 1))) w11.heap.size 3 (.int .i64 ((pre ++ [y]).length : Int))) := by
              show Boxed _ _ _ _
              rw [e1]; exact un.set _
            have G2 : Hid ((∀ z ∈ pre ++ [y], Sml w.heap.size z) ∧ BkR p A2 W12.heap.size (S2 ++ V.slotss ((pre ++ [y]).map Prod.snd)) (W6.setCell ⟨w11.heap.size, 0, none⟩ (.int .i64 ((pre.length : Int) + 1))) ∧ OwnsX (W6.setCell ⟨w11.heap.size, 0, none⟩ (.int .i64 ((pre.length : Int) + 1))) (S2 ++ V.slotss ((pre ++ [y]).map Prod.snd))) := by
              show _ ∧ _ ∧ _
              rw [snd_append, ← List.append_assoc]
              exact ⟨fun z hz => (List.mem_append.1 hz).elim (i2 z) (fun h => by simp at h; subst h; exact a4), (BK5.out.kp1 k6 (Nat.le_refl _) xk5).set un (by decide) (by decide) _ _, owns_set (owns_kp1 OW5.out k6 (Nat.le_refl _) xk5) un (by decide) _ _⟩
            have G3 : Hid (KpX W12.heap.size (fun b => b = w11.heap.size ∨ b = p ∨ A2 = some b) W12 (W6.setCell ⟨w11.heap.size, 0, none⟩ (.int .i64 ((pre.length : Int) + 1))) ∧ Out W12 (W6.setCell ⟨w11.heap.size, 0, none⟩ (.int .i64 ((pre.length : Int) + 1)))) := ⟨I5.out.trans KX.out, (OU5.out.trans o6).trans ⟨rfl, rfl, rfl⟩⟩
            have E2 := hide e2
            clear k7 un uw e1 e2
            by_cases h20 : (pre.length : Int) < 20
            · have h20d : decide ((pre.length : Int) < 20) = true := by simp; omega
              have h40 : ((pre.length : Int) + 1 == 40) = false := by simp; omega
              gi_wp2
              first | exact ⟨KX.out, ⟨by rw [E2.out]; omega, G1.out⟩, G2.out, G3.out⟩ | exact ⟨KX.out, ⟨by rw [E2.out]; omega, G1.out⟩, ⟨fun a b h => G2.out.1 (a, b) h, G2.out.2⟩, G3.out⟩
            · have h20d : decide ((pre.length : Int) < 20) = false := by simp; omega
              by_cases h4 : (pre.length : Int) + 1 = 40
              · have h40 : ((pre.length : Int) + 1 == 40) = true := by simp [h4]
                have H4 := hide h4
                clear h4
                gi_wp2
                first | exact ⟨KX.out.wider (fun b h => Or.inl h), .inr ⟨rfl, ⟨by rw [E2.out]; have := H4.out; omega, G1.out⟩, G2.out, G3.out⟩⟩ | exact ⟨KX.out.wider (fun b h => Or.inl h), .inr ⟨rfl, ⟨by rw [E2.out]; have := H4.out; omega, G1.out⟩, ⟨fun a b h => G2.out.1 (a, b) h, G2.out.2⟩, G3.out⟩⟩
              · have h40 : ((pre.length : Int) + 1 == 40) = false := by simp [h4]
                gi_wp2
                first | exact ⟨KX.out, ⟨by rw [E2.out]; omega, G1.out⟩, G2.out, G3.out⟩ | exact ⟨KX.out, ⟨by rw [E2.out]; omega, G1.out⟩, ⟨fun a b h => G2.out.1 (a, b) h, G2.out.2⟩, G3.out⟩
          clear hK3
          have hst5 := all_seq V5.heap.size (fun b => b = W5.heap.size) (fun b => b = W5.heap.size) (fun b => w9.heap.size ≤ b ∧ b < w10.heap.size) (fun _ h => h) (fun b h1 h2 => by omega) y2 B (by show ¬ B = W5.heap.size; omega) V5 vB5 vL5 (fun b h => by omega) (fun b h => by omega) (fun b h => by omega)
          refine range_in hl5 (gf := 44) (lb := #[.pointer (some ⟨B, 0, none⟩)]) rfl (enters_of Tryd.func44 (by kernel_rfl) rfl) hst5 (fun b h => by omega) (fun _ h => h) (fun b h => by omega) (fun _ => rfl)
            (fun pr W' => (pr.length ≤ pre.length + 1 ∧ Boxed W' W5.heap.size 3 (.int .i64 (pr.length : Int))) ∧ KpX V5.heap.size (fun b => b = W5.heap.size) V5 W' ∧ Out V5 W')
            (fun c pr W' => c = .exit 2 ∧ (∃ (q : List (Int × V)) (z : Int × V), pr = q ++ [z] ∧ q.length ≤ pre.length + 1 ∧ Boxed W' W5.heap.size 3 (.int .i64 (q.length : Int)) ∧ (pre.length < q.length ∨ ¬ (∃ h : q.length < L.length, z.1 = (L[q.length]'h).1 ∧ z.2.k = (L[q.length]'h).2.k ∧ z.2.n = (L[q.length]'h).2.n ∧ z.2.l.length = (L[q.length]'h).2.l.length))) ∧ KpX V5.heap.size (fun b => b = W5.heap.size) V5 W' ∧ Out V5 W')
            ?jI ?jIx ⟨⟨by simp, xk5⟩, KpX.refl _ _ _, Out.refl _⟩
            (fun pr z a' W' => ∃ Bz, BoxV W' Bz z.2 ∧ a' = { tmps := aTmps3 v x w.heap.size w4.heap.size w5.heap.size p w10.heap.size w11.heap.size gw L.length C B Bx pre.length W5.heap.size stop y u (.int .i64 z.1) (.pointer (some ⟨Bz, 0, none⟩)) (.int .i64 z.1) (.agg #[.int .i64 z.2.k, .int .u64 z.2.n, .string z.2.s, .slice z.2.a z.2.l.length z.2.c, .int .i64 z.2.e]), defers := [] })
            ?jAx ?jassign ?jbody ?jdone ?jstop
          case jI =>
            rintro pr A B' row ⟨⟨h0, h1⟩, h5, h6⟩ hg hr
            have hr' : ∀ r, row = some r → ∃ o : Obj, A.heap[r]? = some o ∧ o.isCells = false := fun r e => (hr r e).2
            exact ⟨⟨h0, grown_cells hg hr' h1⟩, kp_grown h5 hg hr (Nat.le_refl _), h6.grown hg⟩
          case jIx =>
            rintro c pr A B' row ⟨h0, ⟨q, z, e1, e2, h1, e3⟩, h5, h6⟩ hg hr
            have hr' : ∀ r, row = some r → ∃ o : Obj, A.heap[r]? = some o ∧ o.isCells = false := fun r e => (hr r e).2
            exact ⟨h0, ⟨q, z, e1, e2, grown_cells hg hr' h1, e3⟩, kp_grown h5 hg hr (Nat.le_refl _), h6.grown hg⟩
          case jAx =>
            rintro pr z a' _ A B' row ⟨Bz, h5, h6⟩ hg hr
            have hr' : ∀ r, row = some r → ∃ o : Obj, A.heap[r]? = some o ∧ o.isCells = false := fun r e => (hr r e).2
            exact ⟨Bz, grown_cells hg hr' h5, h6⟩
          case jassign =>
            rintro l2 pr z Wp W' K' _ _ _ ⟨⟨j0, j1⟩, j5, j6⟩ hK
            simp only [encV, V.val_eq]
            have hba := bel1 (Below.refl W'.heap.size W') (Nat.le_refl _) (Obj.cells #[.int .i64 z.2.k, .int .u64 z.2.n, .string z.2.s, .slice z.2.a z.2.l.length z.2.c, .int .i64 z.2.e] 25)
            gi_wp2
            exact hK _ _ ((KpX.refl _ _ W').alloc _) ⟨⟨j0, j1.alloc _⟩, j5.alloc _, j6.below hba⟩ ⟨W'.heap.size, BoxV.new W' z.2, rfl⟩
          case jbody =>
            rintro l2 pr z a' W' hl2' _ ⟨⟨j0, j1⟩, j5, j6⟩ ⟨Bz, bZ, rfl⟩ hlt2
            have hsz5 := j5.1
            have kj : ∀ b o, b < V5.heap.size → b ≠ W5.heap.size → V5.heap[b]? = some o → W'.heap[b]? = some o := fun b o h1 h2 h3 => j5.2 b o h2 (.inl h1) h3
            have wn := (show Boxed W' w11.heap.size 3 (.int .i64 (pre.length : Int)) from kj _ _ (by omega) (by omega) vn5).cell
            have ww := (show Boxed W' w4.heap.size 41 (.slice (some ⟨gw, 0, none⟩) L.length C) from kj _ _ (by omega) (by omega) vw5).cell
            have wk := j1.cell
            have wkf := j1.frozen
            obtain ⟨z0, z1, z2, z3, z4⟩ := bZ.cells
            have HWj : Hid (Wants gw L W') := HW5.out.kept (fun o => kj gw o (by omega) (by omega))
            have J5 := hide j5
            have J1 := hide j1
            have J6 := hide j6
            simp only [aTmps3]
            by_cases hkn : pre.length < pr.length
            · have hkb : ((pre.length : Int) < (pr.length : Int)) := by omega
              have hkd : decide ((pre.length : Int) < (pr.length : Int)) = true := by simp; omega
              clear kj j5 j1 j6
              gi_wp2_with fail
              refine region_quiet (by kernel_rfl) (by assumption) (by kernel_rfl) ?_
              repeat (gi_big_quiet_step (fail))
              refine wpQuietIn_nil ?_
              intro _ hw'
              obtain ⟨nq, hw''⟩ := hw'
              subst hw''
              have hdn := below_drewN W' nq
              gi_wp2
              exact ⟨KpX.refl _ _ _, rfl, ⟨pr, z, rfl, j0, J1.out, .inl hkn⟩, J5.out, J6.out⟩
            · have hkL : pr.length < L.length := by omega
              obtain ⟨c0, c1, c2, c3, c4, c5⟩ := HWj.out pr.length hkL
              obtain ⟨t, ht⟩ : ∃ t, L[pr.length]'hkL = t := ⟨_, rfl⟩
              have HTT := hide ht
              rw [ht] at c0 c1 c2 c3 c4 c5
              clear ht kj j5 j1 j6
              have hkb : ¬ ((pre.length : Int) < (pr.length : Int)) := by omega
              have hkd : decide ((pre.length : Int) < (pr.length : Int)) = false := by simp; omega
              have hp100 : pr.length ≤ 100000 := by omega
              have hIx : ¬ (z.1 = t.1 ∧ z.2.k = t.2.k ∧ z.2.n = t.2.n ∧ z.2.l.length = t.2.l.length) → ∃ (q : List (Int × V)) (z' : Int × V), pr ++ [z] = q ++ [z'] ∧ q.length ≤ pre.length + 1 ∧ Boxed W' W5.heap.size 3 (.int .i64 (q.length : Int)) ∧ (pre.length < q.length ∨ ¬ (∃ h : q.length < L.length, z'.1 = (L[q.length]'h).1 ∧ z'.2.k = (L[q.length]'h).2.k ∧ z'.2.n = (L[q.length]'h).2.n ∧ z'.2.l.length = (L[q.length]'h).2.l.length)) := fun hne => ⟨pr, z, rfl, j0, J1.out, .inr (fun ⟨h, e⟩ => hne (by rw [HTT.out] at e; exact e))⟩
              have HIX := hide hIx
              clear hIx
              by_cases m1 : z.1 = t.1
              · have m1b : (z.1 != t.1) = false := by simp [m1]
                by_cases m2 : z.2.k = t.2.k
                · have m2b : (z.2.k != t.2.k) = false := by simp [m2]
                  by_cases m3 : z.2.n = t.2.n
                  · have m3b : (z.2.n != t.2.n) = false := by simp [m3]
                    by_cases m4 : z.2.l.length = t.2.l.length
                    · have m4b : ((z.2.l.length : Int) != (t.2.l.length : Int)) = false := by simp [m4]
                      clear m1 m2 m3 m4
                      gi_wp2_with fail
                      refine region_quiet (by kernel_rfl) (by assumption) (by kernel_rfl) ?_
                      repeat (gi_big_quiet_step (fail))
                      refine wpQuietIn_nil ?_
                      intro _ hw'
                      obtain ⟨nq, hw''⟩ := hw'
                      subst hw''
                      have hdn := below_drewN W' nq
                      gi_wp2
                      have e1 : ((pr ++ [z]).length : Int) = (pr.length : Int) + 1 := by simp
                      refine ⟨KpX.setCell (X := fun b => b = W5.heap.size) (KpX.of_below hdn) rfl _ _, ⟨by simp; omega, ?_⟩, (J5.out.trans (KpX.of_below hdn)).setCell (X := fun b => b = W5.heap.size) rfl _ _, (J6.out.below hdn).trans ⟨rfl, rfl, rfl⟩⟩
                      rw [e1]
                      exact (show Boxed (W'.drewN nq) W5.heap.size 3 (.int .i64 (pr.length : Int)) from J1.out).set _
                    · have m4b : ((z.2.l.length : Int) != (t.2.l.length : Int)) = true := by simp; omega
                      have M4 := hide m4
                      clear m1 m2 m3 m4
                      gi_wp2_with fail
                      refine region_quiet (by kernel_rfl) (by assumption) (by kernel_rfl) ?_
                      repeat (gi_big_quiet_step (fail))
                      refine wpQuietIn_nil ?_
                      intro _ hw'
                      obtain ⟨nq, hw''⟩ := hw'
                      subst hw''
                      have hdn := below_drewN W' nq
                      gi_wp2
                      exact ⟨KpX.of_below hdn, rfl, HIX.out (fun h => M4.out h.2.2.2), J5.out, J6.out⟩
                  · have m3b : (z.2.n != t.2.n) = true := by simp [m3]
                    have M3 := hide m3
                    clear m1 m2 m3
                    gi_wp2_with fail
                    refine region_quiet (by kernel_rfl) (by assumption) (by kernel_rfl) ?_
                    repeat (gi_big_quiet_step (fail))
                    refine wpQuietIn_nil ?_
                    intro _ hw'
                    obtain ⟨nq, hw''⟩ := hw'
                    subst hw''
                    have hdn := below_drewN W' nq
                    gi_wp2
                    exact ⟨KpX.of_below hdn, rfl, HIX.out (fun h => M3.out h.2.2.1), J5.out, J6.out⟩
                · have m2b : (z.2.k != t.2.k) = true := by simp [m2]
                  have M2 := hide m2
                  clear m1 m2
                  gi_wp2_with fail
                  refine region_quiet (by kernel_rfl) (by assumption) (by kernel_rfl) ?_
                  repeat (gi_big_quiet_step (fail))
                  refine wpQuietIn_nil ?_
                  intro _ hw'
                  obtain ⟨nq, hw''⟩ := hw'
                  subst hw''
                  have hdn := below_drewN W' nq
                  gi_wp2
                  exact ⟨KpX.of_below hdn, rfl, HIX.out (fun h => M2.out h.2.1), J5.out, J6.out⟩
              · have m1b : (z.1 != t.1) = true := by simp [m1]
                have M1 := hide m1
                clear m1
                gi_wp2_with fail
                refine region_quiet (by kernel_rfl) (by assumption) (by kernel_rfl) ?_
                repeat (gi_big_quiet_step (fail))
                refine wpQuietIn_nil ?_
                intro _ hw'
                obtain ⟨nq, hw''⟩ := hw'
                subst hw''
                have hdn := below_drewN W' nq
                gi_wp2
                exact ⟨KpX.of_below hdn, rfl, HIX.out (fun h => M1.out h.1), J5.out, J6.out⟩
          case jdone =>
            rintro xs W6 hxs ⟨⟨h0, h1⟩, h5, h6⟩
            have hxl : xs.length = L.length := by
              have := congrArg List.length hxs
              simp [bare] at this
              omega
            have he : (xs.length : Int) = (pre.length : Int) + 1 := by omega
            rw [he] at h1
            exact TAIL W6 h5 h6 h1
          case jstop =>
            rintro c pr W6 hpr ⟨rfl, ⟨q, z, rfl, h0, h1, hor⟩, h5, h6⟩
            have hql : pre.length < q.length := by
              refine hor.resolve_right (fun hn => hn ?_)
              have hbe := all_bareS y2 v 1 (hy2.trans hxt'.out)
              rw [hbe, HLL.out] at hpr
              obtain ⟨r2, hr2⟩ := hpr
              have hb : bare (q ++ [z]) = bare q ++ [(z.1, z.2.t)] := by unfold bare; simp
              rw [hb, List.append_assoc] at hr2
              have hq : (bare q).length = q.length := by simp [bare]
              have hlt3 : q.length < L.length := by
                have := congrArg List.length hr2
                simp [bare] at this
                omega
              refine ⟨hlt3, ?_⟩
              have hg : (bare L)[q.length]? = some (z.1, z.2.t) := by
                rw [← hr2, List.getElem?_append_right (by omega), hq]
                simp
              unfold bare at hg
              rw [List.getElem?_map, List.getElem?_eq_getElem hlt3] at hg
              simp only [Option.map_some, Option.some.injEq, Prod.mk.injEq] at hg
              refine ⟨hg.1.symm, ?_⟩
              exact same_head hg.2.symm
            have he : (q.length : Int) = (pre.length : Int) + 1 := by omega
            rw [he] at h1
            gi_wp2
            exact TAIL W6 h5 h6 h1
        · have hdb : (y.1 != u.1) = true := by simp [hd]
          gi_wp2
          first
            | exact ⟨KpX.setCell (KpX.of_below hb4) (.inr rfl) _ _, .inl ⟨rfl, HBAD.out (fun h => hd h.2)⟩⟩
            | (obtain ⟨q, ⟨ya, yb'⟩, h1, h2⟩ := HBAD.out (fun h => hd h.2); exact ⟨KpX.setCell (KpX.of_below hb4) (.inr rfl) _ _, .inl ⟨rfl, q, ya, yb', h1, fun h e1 e2 => h2 ⟨h, e1, e2⟩⟩⟩)
    have hgwW : gw < W.heap.size := by omega
    have hw4W : w4.heap.size < W.heap.size := zw.lt
    have hnW : w11.heap.size < W.heap.size := I1.out.lt
    have mb0 : ∀ m : Grw W, m.w.cell? ⟨Bx, 0, none⟩ = some (.int .i64 y.2.k) := fun m => (m.h.cell (p := ⟨Bx, 0, none⟩) hbx).trans b0
    have mb1 : ∀ m : Grw W, m.w.cell? ⟨Bx, 1, none⟩ = some (.int .u64 y.2.n) := fun m => (m.h.cell (p := ⟨Bx, 1, none⟩) hbx).trans b1
    have mb2 : ∀ m : Grw W, m.w.cell? ⟨Bx, 2, none⟩ = some (.string y.2.s) := fun m => (m.h.cell (p := ⟨Bx, 2, none⟩) hbx).trans b2
    have mb3 : ∀ m : Grw W, m.w.cell? ⟨Bx, 3, none⟩ = some (.slice y.2.a y.2.l.length y.2.c) := fun m => (m.h.cell (p := ⟨Bx, 3, none⟩) hbx).trans b3
    have mb4 : ∀ m : Grw W, m.w.cell? ⟨Bx, 4, none⟩ = some (.int .i64 y.2.e) := fun m => (m.h.cell (p := ⟨Bx, 4, none⟩) hbx).trans b4
    have mw : ∀ m : Grw W, m.w.cell? ⟨w4.heap.size, 0, none⟩ = some (.slice (some ⟨gw, 0, none⟩) L.length C) := fun m => (m.h.cell (p := ⟨w4.heap.size, 0, none⟩) hw4W).trans hw0
    have mn : ∀ m : Grw W, m.w.cell? ⟨w11.heap.size, 0, none⟩ = some (.int .i64 (pre.length : Int)) := fun m => (m.h.cell (p := ⟨w11.heap.size, 0, none⟩) hnW).trans hn0
    have mc1 : ∀ m : Grw W, m.w.cell? ⟨gw, pre.length * 6 + 1, none⟩ = some (.int .i64 u.2.k) := fun m => (m.h.cell (p := ⟨gw, pre.length * 6 + 1, none⟩) hgwW).trans c1
    have mc2 : ∀ m : Grw W, m.w.cell? ⟨gw, pre.length * 6 + 2, none⟩ = some (.int .u64 u.2.n) := fun m => (m.h.cell (p := ⟨gw, pre.length * 6 + 2, none⟩) hgwW).trans c2
    have mc3 : ∀ m : Grw W, m.w.cell? ⟨gw, pre.length * 6 + 3, none⟩ = some (.string u.2.s) := fun m => (m.h.cell (p := ⟨gw, pre.length * 6 + 3, none⟩) hgwW).trans c3
    have mc4 : ∀ m : Grw W, m.w.cell? ⟨gw, pre.length * 6 + 4, none⟩ = some (.slice u.2.a u.2.l.length u.2.c) := fun m => (m.h.cell (p := ⟨gw, pre.length * 6 + 4, none⟩) hgwW).trans c4
    have mc5 : ∀ m : Grw W, m.w.cell? ⟨gw, pre.length * 6 + 5, none⟩ = some (.int .i64 u.2.e) := fun m => (m.h.cell (p := ⟨gw, pre.length * 6 + 5, none⟩) hgwW).trans c5
    have hltd : decide ((pre.length : Int) < (L.length : Int)) = true := by simp; omega
    clear hK2 RESTO hst HB2W HL2W I1 I3 I4 I5 A1' A2' A3' HR HLN HSM HWW HLV HV12 HWA12 HBK12 HOW12 hB12 hl12 hO12 hbw12 YR HS2B yw yb yal zb zr zal bX i2 i6 a4 HU HLL SM2 b0 b1 b2 b3 b4 c0 c1 c2 c3 c4 c5 hw0 hn0
    have hfw : ∀ f, Fence.wide.fn f := fun _ => trivial
    have hfi : ∀ f, (Fence.wide.inRound l').fn f := fun _ => trivial
    haveI hgn : Nonempty (Grw W) := ⟨⟨W, Below.refl _ _⟩⟩
    refine region_class (β := Grw W) (fun m => m.w) ⟨W.drewN 1, below_drewN W 1⟩ rfl (by kernel_rfl) (by assumption) (by kernel_rfl) ?_
    repeat (gi_big_quiet_step ((gi_at_call 13; refine (CallsIn.inRound l' (callsIn_wide.2 (HQ.out _ (Grw.h _)))).mono ?_; rintro e W4 ⟨rfl, hb4⟩; exact ⟨rfl, ⟨_, hb4⟩, rfl⟩)))
    refine wpQuietIn_nil ?_
    rintro _ ⟨m, rfl⟩
    exact REST m.w m.h
  case done =>
    rintro D xs W hD hxs ⟨⟨i0, i1⟩, ⟨i2, i3, i4⟩, i5, i6⟩ hDr
    have hxl : xs.length = L.length := by
      have := congrArg List.length hxs
      simp [bare] at this
      omega
    have hpos : 0 < xs.length := by
      rw [hxl, ← HLL.out]
      obtain ⟨k, n, s, a, c, e, l, rfl⟩ := V.ex v
      rw [V.all_of]; simp
    exact RESTO D W xs hD hDr i1 i2 i3 i4 i5 i6 hpos (.inl ⟨i0, hxl⟩)
  case stop =>
    rintro D c pre W hD hpre (⟨rfl, q, y, rfl, hbad⟩ | ⟨rfl, ⟨i0, i1⟩, ⟨i2, i3, i4⟩, i5, i6⟩) hDr
    · exfalso
      apply hbad
      have hbe := all_bareS y2 v 1 (hy2.trans hxt'.out)
      rw [hbe, HLL.out] at hpre
      obtain ⟨r, hr⟩ := hpre
      have hb : bare (q ++ [y]) = bare q ++ [(y.1, y.2.t)] := by unfold bare; simp
      rw [hb, List.append_assoc] at hr
      have hq : (bare q).length = q.length := by simp [bare]
      have hlt : q.length < L.length := by
        have := congrArg List.length hr
        simp [bare] at this
        omega
      refine ⟨hlt, ?_⟩
      have hg : (bare L)[q.length]? = some (y.1, y.2.t) := by
        rw [← hr, List.getElem?_append_right (by omega), hq]
        simp
      unfold bare at hg
      rw [List.getElem?_map, List.getElem?_eq_getElem hlt] at hg
      simp only [Option.map_some, Option.some.injEq, Prod.mk.injEq] at hg
      rw [← hg.2]
      exact ⟨eqT_selfS _, hg.1.symm⟩
    · have hxl : pre.length ≤ L.length := by
        have := hpre.length_le
        simp [bare] at this
        omega
      gi_wp2
      exact RESTO D W pre hD hDr i1 i2 i3 i4 i5 i6 (by omega) (.inr ⟨i0, by omega⟩)
end Go.Proofs.YtaedlnliglmomaaDoor.B
