
/- Stage 6: Take. -/
import Derived.Test.YtaijcnkmklibcaaSGo
namespace Go.Proofs.Ytaijcnkmklibcaa
open Go.RowKit Go.Deep Go.Shelf
set_option linter.unusedVariables false
set_option linter.unusedSimpArgs false
attribute [local go_sem] Oper.semAt_some

theorem cells_set {w : World} {b : Nat} {cs : Array Value} {ty : TypeId} {f : Nat × Nat} (h : w.heap[b]? = some (Obj.cells cs ty f)) (o : Nat) (u : Value) : (w.setCell ⟨b, o, none⟩ u).heap[b]? = some (Obj.cells (cs.setIfInBounds o u) ty f) := by
  have hb := (Array.getElem?_eq_some_iff.1 h)
  simp [World.setCell, Array.getElem?_modify, h]
/-- an item written over another one -/
def ibSix (w : World) (R : Nat) (u0 u1 u2 u3 u4 u5 : Value) : World := (((((w.setCell ⟨R, 0, none⟩ u0).setCell ⟨R, 1, none⟩ u1).setCell ⟨R, 2, none⟩ u2).setCell ⟨R, 3, none⟩ u3).setCell ⟨R, 4, none⟩ u4).setCell ⟨R, 5, none⟩ u5
theorem ib_six {w : World} {R : Nat} {v0 v1 v2 v3 v4 v5 : Value} (h : IB w R v0 v1 v2 v3 v4 v5) (u0 u1 u2 u3 u4 u5 : Value) : IB (ibSix w R u0 u1 u2 u3 u4 u5) R u0 u1 u2 u3 u4 u5 :=
  cells_set (cells_set (cells_set (cells_set (cells_set (cells_set h 0 u0) 1 u1) 2 u2) 3 u3) 4 u4) 5 u5
section
variable {S B : Nat} {M : Int} {X X' : Nat → Prop} {w0 : World} {v0 : Value} {s : Sg} {l : List Nat} {t t' : Nat × Sg} {A A' : World}
theorem Rn.wider (h : Rn S B M X w0 v0 s l t A) (hx : ∀ k, X k → X' k) : Rn S B M X' w0 v0 s l t A := by
  obtain ⟨h1, v, h4, h5, h6⟩ := h
  exact ⟨h1, v, h4, h5, Kp.mono h6 (fun k hk => hk.elim .inl (fun hk => .inr (hk.elim .inl (fun hk => .inr (hx k hk)))))⟩
theorem Rn.six (h : Rn S B M X w0 v0 s l t A) {R : Nat} {q0 q1 q2 q3 q4 q5 : Value} (hI : IB A R q0 q1 q2 q3 q4 q5) (hb : X R ∨ w0.heap.size ≤ R) (u0 u1 u2 u3 u4 u5 : Value) : Rn S B M X w0 v0 s l t (ibSix A R u0 u1 u2 u3 u4 u5) := by
  have e0 := cells_set hI 0 u0
  have e1 := cells_set e0 1 u1
  have e2 := cells_set e1 2 u2
  have e3 := cells_set e2 3 u3
  have e4 := cells_set e3 4 u4
  exact (((((h.set hb hI (by decide) (by decide) 0 u0).set hb e0 (by decide) (by decide) 1 u1).set hb e1 (by decide) (by decide) 2 u2).set hb e2 (by decide) (by decide) 3 u3).set hb e3 (by decide) (by decide) 4 u4).set hb e4 (by decide) (by decide) 5 u5
theorem Rn.out {w : World} (h : Rn S B M X w0 v0 s l t A) (hb : Below w.heap.size w w0) (hx : ∀ k, X k → w.heap.size ≤ k) : ∃ v, SR A S B M t.2 v ∧ OwnR w v0 v ∧ KX S v0 (fun _ => False) w A := by
  obtain ⟨h1, v, h4, h5, h6⟩ := h
  have hz := hb.size
  refine ⟨v, h4, h5.imp id (fun h => h.imp id (fun ⟨g, e, hg⟩ => ⟨g, e, by omega⟩)), h6.1.trans hb.os, h6.2.1.trans hb.tape, h6.2.2.1.trans hb.output, Nat.le_trans hz h6.2.2.2.1, fun k hk hq => (h6.2.2.2.2 k (by omega) (fun hh => hq ?_)).trans (hb.block k hk)⟩
  rcases hh with hh | hh | hh
  · exact .inl hh
  · exact .inr (.inl hh)
  · have := hx k hh
    omega
theorem ItI.set {x : Value} (h : ItI l t w0 A x) {b o : Nat} (hb : b < w0.heap.size) (u : Value) : ItI l t w0 (A.setCell ⟨b, o, none⟩ u) x := by
  obtain ⟨h1, o1, o2, h2, h3⟩ := h
  exact ⟨h1, o1, o2, h2, fun h4 => (h3 h4).set hb u⟩
theorem ItI.six {x : Value} (h : ItI l t w0 A x) {R : Nat} (hb : R < w0.heap.size) (u0 u1 u2 u3 u4 u5 : Value) : ItI l t w0 (ibSix A R u0 u1 u2 u3 u4 u5) x := (((((h.set hb u0).set hb u1).set hb u2).set hb u3).set hb u4).set hb u5
theorem ItI.base {x : Value} (h : ItI l t A A' x) (hw : w0.heap.size ≤ A.heap.size) : ItI l t w0 A' x := by
  obtain ⟨h1, o1, o2, h2, h3⟩ := h
  exact ⟨h1, o1, o2, h2, fun h4 => (h3 h4).base hw⟩
theorem ItI.grown {x : Value} (h : ItI l t w0 A x) {row : Option Nat} (hg : A.grownBy A' row) (hr : ∀ r, row = some r → ∃ o : Obj, A.heap[r]? = some o ∧ o.isCells = false) : ItI l t w0 A' x := by
  obtain ⟨h1, o1, o2, h2, h3⟩ := h
  refine ⟨h1, o1, o2, h2, fun h4 => ?_⟩
  obtain ⟨e1, e2, e3, e4, e5⟩ := h3 h4
  have hb : ∀ {g : Nat} {m : List Nat}, Bl A g m → Bl A' g m := fun {g m} hg' => by
    refine hg'.block (hg.block g hg'.lt (fun e => ?_))
    obtain ⟨o, q1, q2⟩ := hr g e.symm
    rw [show A.heap[g]? = _ from hg'] at q1
    cases q1
    cases q2
  exact ⟨e1, e2, fun g hg' => ⟨(e3 g hg').1, hb (e3 g hg').2⟩, fun g hg' => ⟨(e4 g hg').1, hb (e4 g hg').2⟩, e5⟩
end
/-- nothing came of the first i bytes -/
def Quiet (s : Sg) (l : List Nat) (i : Nat) : Prop := ∀ j, j < i → (s.go (l.take j)).er = 0 ∧ (s.go (l.take j)).K (l.getD j 0) = 0
/-- what Take answers: an item whole with byte i, or nothing -/
def TakeP (S B : Nat) (M : Int) (w : World) (v0 : Value) (s : Sg) (l : List Nat) (e : Ending) (W : World) : Prop :=
  ∃ (i : Nat) (v : Value), i ≤ l.length ∧ Quiet s l i ∧ OwnR w v0 v ∧ KX S v0 (fun _ => False) w W ∧
    ((FinI l (i, s.go (l.take i)) ∧ e = .returned (.tuple #[it0, .int .i64 (l.length : Int)]) ∧ SR W S B M (s.go l) v) ∨
     (i < l.length ∧ (s.go (l.take i)).er = 0 ∧ SR W S B M (s.go (l.take (i + 1))) v ∧ ∃ x, ItI l (i, s.go (l.take i)) w W x ∧ e = .returned (.tuple #[x, .int .i64 ((i + 1 : Nat) : Int)])))
set_option maxRecDepth 100000 in
set_option maxHeartbeats 400000 in
theorem take_any (S B : Nat) (M : Int) (s : Sg) (v0 : Value) (a : Option Addr) (c : Nat) (l : List Nat) (w : World) (h0 : SR w S B M s v0) (hr : Rd w a l.length l) (ha : 0 < l.length → ∀ b o, a = some ⟨b, o, none⟩ → b ≠ S ∧ v0.ownBlock ≠ some b) (ht0 : 0 ≤ s.1.2.1) (ht1 : s.1.2.1 + (l.length : Int) ≤ 281474976710656) :
    Calls Try.prog 19 #[.pointer (some ⟨S, 0, none⟩), .slice a l.length c] w (TakeP S B M w v0 s l) := by
  suffices h : ∀ n, CallsIn Fence.wide n Try.prog 19 #[.pointer (some ⟨S, 0, none⟩), .slice a l.length c] w (TakeP S B M w v0 s l) from callsIn_wide.1 (h 1)
  intro n
  have hdd : ∀ k : Nat, (Fence.wide.depth.isSome = true → 1 ≤ k) := fun k h => by cases h
  refine callsIn_of_wp_marks Try.func19 rfl trivial ?_ rfl
  simp only [Try.ntmps19, List.size_toArray, List.length_cons, List.length_nil, Nat.reduceAdd, Nat.reduceSub, Array.replicate_succ, Array.replicate_zero, List.push_toArray, List.append_toArray, List.nil_append, List.cons_append]
  gi_wp2_with ((first | refine ⟨trivial, hdd _, ?_⟩ | refine ⟨trivial, ?_⟩); gi_at_call 37; refine (callsIn_wide.2 (items_any _ _ _ _ _)).mono ?_; rintro e w' ⟨rfl, rfl⟩)
  obtain ⟨w0, hw0⟩ : ∃ w0, (((w.alloc (Obj.cells #[.int .i64 0, .int .i64 0, .int .i64 0, .int .i64 0, .slice none 0 0, .slice none 0 0] 51)).alloc (Obj.cells #[.int .i64 0] 3)).alloc (Obj.cells #[.pointer (some ⟨S, 0, none⟩)] 25)).alloc (Obj.cells #[.slice a l.length c] 33) = w0 := ⟨_, rfl⟩
  have hs0 : w0.heap.size = w.heap.size + 4 := by rw [← hw0]; simp
  have hb0 : Below w.heap.size w w0 := by rw [← hw0]; exact ((((Below.refl _ _).alloc (Nat.le_refl _) _).alloc (by simp) _).alloc (by simp; omega) _).alloc (by simp; omega) _
  have hR1 : IZ w0 w.heap.size := by rw [← hw0]; exact heap_past (heap_past (heap_past (World.alloc_heap_new _ _) _) _) _
  have hR2 : w0.heap[w.heap.size + 1]? = some (.cells #[.int .i64 0] 3 (0, 0)) := by rw [← hw0]; exact heap_past (heap_past (heap_at1 _ _ _) _) _
  have hBS : w0.heap[w.heap.size + 1 + 1]? = some (.cells #[.pointer (some ⟨S, 0, none⟩)] 25 (0, 0)) := by
    rw [← hw0]
    refine heap_past ?_ _
    have := heap_at1 (w.alloc (Obj.cells #[.int .i64 0, .int .i64 0, .int .i64 0, .int .i64 0, .slice none 0 0, .slice none 0 0] 51)) (Obj.cells #[.int .i64 0] 3) (Obj.cells #[.pointer (some ⟨S, 0, none⟩)] 25)
    rwa [World.size_alloc] at this
  have hBC : w0.heap[w.heap.size + 1 + 1 + 1]? = some (.cells #[.slice a l.length c] 33 (0, 0)) := by
    rw [← hw0]
    have := heap_at1 ((w.alloc (Obj.cells #[.int .i64 0, .int .i64 0, .int .i64 0, .int .i64 0, .slice none 0 0, .slice none 0 0] 51)).alloc (Obj.cells #[.int .i64 0] 3)) (Obj.cells #[.pointer (some ⟨S, 0, none⟩)] 25) (Obj.cells #[.slice a l.length c] 33)
    rwa [World.size_alloc, World.size_alloc] at this
  have h00 : SR w0 S B M s v0 := h0.keep (by omega) (fun k cs t f hk _ => hb0.block k (Array.getElem?_eq_some_iff.1 hk).1)
  have hr0 : Rd w0 a l.length l := hr.below hb0
  have ha0 : 0 < l.length → ∀ b o, a = some ⟨b, o, none⟩ → b < w0.heap.size → ¬ (b = S ∨ v0.ownBlock = some b ∨ False) := fun hn b o e _ => by
    obtain ⟨h2, h3⟩ := ha hn b o e
    rintro (h | h | h)
    · exact h2 h
    · exact h3 h
    · exact h
  rw [hw0]
  clear hw0
  refine range_j (gf := 47) (lb := #[.pointer (some ⟨w.heap.size + 1 + 1 + 1, 0, none⟩), .pointer (some ⟨w.heap.size + 1 + 1, 0, none⟩)]) rfl (enters_of Try.func47 (by kernel_rfl) rfl) (items_seq S B M (w.heap.size + 1 + 1 + 1) (w.heap.size + 1 + 1) a c l) (fun _ => rfl)
    (fun t W' => Rn S B M (fun _ => False) w0 v0 s l t W' ∧ Quiet s l t.1)
    (fun cd W' => cd = .ret ∧ ∃ (i : Nat) (k p ty ch : Int) (ax : Option Addr) (nx : Nat) (ay : Option Addr) (ny : Nat), i < l.length ∧ Quiet s l i ∧ (s.go (l.take i)).er = 0 ∧ Rn S B M (fun k => k = w.heap.size ∨ k = w.heap.size + 1) w0 v0 s l (i + 1, s.go (l.take (i + 1))) W' ∧ ItI l (i, s.go (l.take i)) w0 W' (itV k p ty ch (.slice ax nx nx) (.slice ay ny ny)) ∧ IB W' w.heap.size (.int .i64 k) (.int .i64 p) (.int .i64 ty) (.int .i64 ch) (.slice ax nx nx) (.slice ay ny ny) ∧ W'.heap[w.heap.size + 1]? = some (.cells #[.int .i64 ((i + 1 : Nat) : Int)] 3 (0, 0)))
    ?hI ?hIx (fun t A h => h.1.gi h00 hBC hBS id id hr0 ha0 ht0 ht1) (fun _ _ _ _ _ h => h.1.nc) (fun _ _ _ _ _ _ h => h.1.nc) ?hIs (0, s) ⟨Rn.start h00, fun j hj => absurd hj (by simp)⟩ rfl
    (fun t x t' A a' W' => TolI S B M l t x t' A W' ∧ (∃ k p ty ch ax nx ay ny, x.1 = itV k p ty ch (.slice ax nx nx) (.slice ay ny ny) ∧ ∃ Bx, A.heap.size ≤ Bx ∧ IB W' Bx (.int .i64 k) (.int .i64 p) (.int .i64 ty) (.int .i64 ch) (.slice ax nx nx) (.slice ay ny ny) ∧ a' = { tmps := #[.pointer (some ⟨S, 0, none⟩), .slice a l.length c, undef, undef, .pointer (some ⟨w.heap.size, 0, none⟩), .pointer (some ⟨w.heap.size + 1, 0, none⟩), .pointer (some ⟨Bx, 0, none⟩), .int .i64 (x.2 : Int), .pointer (some ⟨S, 0, none⟩), .slice a l.length c, .func (.func 47) #[] #[.pointer (some ⟨w.heap.size + 1 + 1 + 1, 0, none⟩), .pointer (some ⟨w.heap.size + 1 + 1, 0, none⟩)], itV k p ty ch (.slice ax nx nx) (.slice ay ny ny), .int .i64 (x.2 : Int), undef, undef, undef, undef, undef], defers := [] }))
    ?assign ?body ?done ?stop
  case hI =>
    rintro t A A2 row ⟨h1, h2⟩ hg hr
    exact ⟨h1.grown hg hr, h2⟩
  case hIx =>
    rintro cd _ A A2 row ⟨e0, i, k, p, ty, ch, ax, nx, ay, ny, e1, e2, e3, e4, e5, e6, e7⟩ hg hr
    have keep : ∀ {k : Nat} {cs : Array Value} {ty : TypeId} {f : Nat × Nat}, A.heap[k]? = some (Obj.cells cs ty f) → A2.heap[k]? = some (Obj.cells cs ty f) := fun {k cs ty f} hk => by
      refine (hg.block k (Array.getElem?_eq_some_iff.1 hk).1 (fun e => ?_)).trans hk
      obtain ⟨_, o, e1, e2⟩ := hr k e.symm
      rw [hk] at e1
      cases e1
      cases e2
    exact ⟨e0, i, k, p, ty, ch, ax, nx, ay, ny, e1, e2, e3, e4.grown hg hr, e5.grown hg (fun r e => (hr r e).2), keep e6, keep e7⟩
  case hIs =>
    rintro t t' A A' ⟨h1, h2⟩ hs
    refine ⟨h1.step hs.1, fun j hj => ?_⟩
    obtain ⟨⟨q1, q2, rfl, _⟩, hk⟩ := hs
    rcases Nat.lt_succ_iff_lt_or_eq.1 hj with h | rfl
    · exact h2 j h
    · rw [← h1.1.2.1]
      exact ⟨q2, hk⟩
  case assign =>
    rintro lp t x t' A A' K hI1 ⟨hs, hx2, hit⟩ hK
    obtain ⟨k, p, ty, ch, ax, nx, ay, ny, hx⟩ := hit.form
    have hsa := hs.alloc (Obj.cells #[.int .i64 k, .int .i64 p, .int .i64 ty, .int .i64 ch, .slice ax nx nx, .slice ay ny ny] 51)
    have hia := hit.alloc (Obj.cells #[.int .i64 k, .int .i64 p, .int .i64 ty, .int .i64 ch, .slice ax nx nx, .slice ay ny ny] 51)
    have hz : A.heap.size ≤ A'.heap.size := (hs.nc (Y := NcN)).1
    simp only [encI, hx, itV]
    have HX2 := hide hx2
    clear hx2
    gi_wp2
    exact hK _ _ ((KpB.refl _ A').alloc _) ⟨⟨hsa, HX2.out, hia⟩, k, p, ty, ch, ax, nx, ay, ny, hx, A'.heap.size, hz, World.alloc_heap_new _ _, rfl⟩
  case body =>
    rintro lp t x t' A a' W1 r r' hl' hA hW1 ⟨hRn, hQ⟩ ⟨⟨hst, hx2, hit⟩, k, p, ty, ch, ax, nx, ay, ny, hx, Bx, hBx, hIB, rfl⟩
    have hzA : w0.heap.size ≤ A.heap.size := by
      obtain ⟨_, v, _, _, h6⟩ := hRn
      exact h6.2.2.2.1
    have hRn1 := (hRn.step hst).put hl' hW1 rfl (.loop r')
    have hit1 := (hit.put (A := A) (o := .loop r) hW1 rfl (.loop r')).base (w0 := w0) (by simpa using hzA)
    obtain ⟨q1, q2, q3, _⟩ := hst
    have hte := hRn.1.2.1
    have keep : ∀ {k : Nat} {cs : Array Value} {ty : TypeId} {f : Nat × Nat}, W1.heap[k]? = some (Obj.cells cs ty f) → (W1.putObj lp (.loop r')).heap[k]? = some (Obj.cells cs ty f) := fun {k cs ty f} hk => by
      refine (World.putObj_heap_other (fun e => ?_)).trans hk
      subst e
      rw [hk] at hW1
      cases hW1
    have hIB1 : IB (W1.putObj lp (.loop r')) Bx (.int .i64 k) (.int .i64 p) (.int .i64 ty) (.int .i64 ch) (.slice ax nx nx) (.slice ay ny ny) := keep hIB
    have hz1 : IZ (W1.putObj lp (.loop r')) w.heap.size := hRn1.block h00 hR1 (by decide) (by decide) id
    have hz2 := hRn1.block h00 hR2 (by decide) (by decide) id
    have hlp : lp < (W1.putObj lp (.loop r')).heap.size := by simpa using (Array.getElem?_eq_some_iff.1 hW1).1
    clear hW1 keep hit hIB hA
    generalize W1.putObj lp (.loop r') = W2 at *
    obtain ⟨⟨c0, c1, c2, c3, c4, c5⟩, _⟩ := hIB1.facts
    obtain ⟨_, hf⟩ := hz1.facts
    have f0 := hf 0
    have f1 := hf 1
    have f2 := hf 2
    have f3 := hf 3
    have f4 := hf 4
    have f5 := hf 5
    have g0 : W2.frozen? ⟨w.heap.size + 1, 0, none⟩ = false := by simp [World.frozen?, hz2]
    have g1 : W2.cell? ⟨w.heap.size + 1, 0, none⟩ = some (.int .i64 0) := by simp [World.cell?, hz2]
    have hl1 : w.heap.size < W2.heap.size := hz1.lt
    have hl2 : w.heap.size + 1 < W2.heap.size := (Array.getElem?_eq_some_iff.1 hz2).1
    have hne1 : Bx ≠ w.heap.size := by omega
    have hne2 : Bx ≠ w.heap.size + 1 := by omega
    simp only [itV]
    clear hf
    have HRn := hide hRn1
    have HIt := hide hit1
    have HZ := hide (And.intro hz1 hz2)
    have HQ := hide (And.intro hQ (And.intro q1 (And.intro q2 (And.intro q3 (And.intro hx2 (And.intro hx hte))))))
    clear hRn1 hit1 hz1 hz2 hRn hQ q1 q2 q3 hx2 hx hte hIB1
    generalize hPQ : postJ w0.heap.size _ _ BodI t' W2 = Q
    have HPQ := hide hPQ
    clear hPQ
    clear h00 hr0 ha0 hBC hBS hR1 hR2 hb0 h0 hr ha ht0 ht1 hlp hzA
    gi_wp2_with fail
    rw [← HPQ.out]
    obtain ⟨e1, e2, e3, e4, e5, e6, e7⟩ := HQ.out
    have hR := (HRn.out.wider (X' := fun k => k = w.heap.size ∨ k = w.heap.size + 1) (fun _ h => h.elim)).six HZ.out.1 (.inl (.inl rfl)) (.int .i64 k) (.int .i64 p) (.int .i64 ty) (.int .i64 ch) (.slice ax nx nx) (.slice ay ny ny)
    have hI6 := ib_six HZ.out.1 (.int .i64 k) (.int .i64 p) (.int .i64 ty) (.int .i64 ch) (.slice ax nx nx) (.slice ay ny ny)
    have h26 : (ibSix W2 w.heap.size (.int .i64 k) (.int .i64 p) (.int .i64 ty) (.int .i64 ch) (.slice ax nx nx) (.slice ay ny ny)).heap[w.heap.size + 1]? = some (.cells #[.int .i64 0] 3 (0, 0)) := by
      unfold ibSix
      iterate 6 rw [blk_setCell_other _ _ _ _ (show w.heap.size + 1 ≠ w.heap.size by omega)]
      exact HZ.out.2
    have hk6 : KpB w0.heap.size W2 (ibSix W2 w.heap.size (.int .i64 k) (.int .i64 p) (.int .i64 ty) (.int .i64 ch) (.slice ax nx nx) (.slice ay ny ny)) := ((((((KpB.refl _ W2).set (by omega) _ _).set (by omega) _ _).set (by omega) _ _).set (by omega) _ _).set (by omega) _ _).set (by omega) _ _
    have ht' : t' = (t.1 + 1, s.go (l.take (t.1 + 1))) := by
      have := HRn.out.1.2.1
      rw [e4] at this ⊢
      simp only at this ⊢
      rw [this]
    refine ⟨hk6.set (by omega) _ _, rfl, t.1, k, p, ty, ch, ax, nx, ay, ny, e2, e1, by rw [← e7]; exact e3, ?_, ?_, hI6.setOther (by omega) _, ?_⟩
    · rw [← ht']
      exact hR.set (.inl (.inr rfl)) h26 (by decide) (by decide) _ _
    · have hh := (HIt.out.six (R := w.heap.size) (by omega) (.int .i64 k) (.int .i64 p) (.int .i64 ty) (.int .i64 ch) (.slice ax nx nx) (.slice ay ny ny)).set (b := w.heap.size + 1) (o := 0) (by omega) (.int .i64 (x.2 : Int))
      rw [e6] at hh
      rw [← e7]
      exact hh
    · rw [e5]
      exact cells_set h26 0 _
  case done =>
    rintro D t W' hD hF ⟨hRn, hQ⟩ hK
    have hz1 : IZ W' w.heap.size := hRn.block h00 hR1 (by decide) (by decide) id
    have hz2 := hRn.block h00 hR2 (by decide) (by decide) id
    obtain ⟨_, hf⟩ := hz1.facts
    have f0 := hf 0
    have f1 := hf 1
    have f2 := hf 2
    have f3 := hf 3
    have f4 := hf 4
    have f5 := hf 5
    have g0 : W'.frozen? ⟨w.heap.size + 1, 0, none⟩ = false := by simp [World.frozen?, hz2]
    have g1 : W'.cell? ⟨w.heap.size + 1, 0, none⟩ = some (.int .i64 0) := by simp [World.cell?, hz2]
    have hl1 : w.heap.size < W'.heap.size := hz1.lt
    have hl2 : w.heap.size + 1 < W'.heap.size := (Array.getElem?_eq_some_iff.1 hz2).1
    have HH := hide (And.intro hRn (And.intro hQ (And.intro hF (And.intro hz1 hz2))))
    have HK := hide hK
    have H0 := hide (And.intro h00 (And.intro hb0 (And.intro h0 hs0)))
    clear hRn hQ hF hz1 hz2 hf hK h00 hr0 ha0 hBC hBS hR1 hR2 hb0 h0 hr ha ht0 ht1
    gi_wp2_with fail
    obtain ⟨hRn, hQ, hF, hz1, hz2⟩ := HH.out
    obtain ⟨h00, hb0, h0, hs0⟩ := H0.out
    have hRw := (hRn.wider (X' := fun k => k = w.heap.size ∨ k = w.heap.size + 1) (fun _ h => h.elim)).six hz1 (.inl (.inl rfl)) (.int .i64 0) (.int .i64 0) (.int .i64 0) (.int .i64 0) (.slice none 0 0) (.slice none 0 0)
    have hI6 := ib_six hz1 (.int .i64 0) (.int .i64 0) (.int .i64 0) (.int .i64 0) (.slice none 0 0) (.slice none 0 0)
    have h26 : (ibSix W' w.heap.size (.int .i64 0) (.int .i64 0) (.int .i64 0) (.int .i64 0) (.slice none 0 0) (.slice none 0 0)).heap[w.heap.size + 1]? = some (.cells #[.int .i64 0] 3 (0, 0)) := by
      unfold ibSix
      iterate 6 rw [blk_setCell_other _ _ _ _ (show w.heap.size + 1 ≠ w.heap.size by omega)]
      exact hz2
    have hK6 : (ibSix W' w.heap.size (.int .i64 0) (.int .i64 0) (.int .i64 0) (.int .i64 0) (.slice none 0 0) (.slice none 0 0)).heap[D]? = some (.deferred (some [])) := by
      unfold ibSix
      iterate 6 rw [blk_setCell_other _ _ _ _ (show D ≠ w.heap.size by omega)]
      exact HK.out
    have hRx := hRw.set (b := w.heap.size + 1) (.inl (.inr rfl)) h26 (by decide) (by decide) 0 (.int .i64 (l.length : Int))
    have hIx := hI6.setOther (b := w.heap.size + 1) (o := 0) (by omega) (.int .i64 (l.length : Int))
    have h2x := cells_set h26 0 (.int .i64 (l.length : Int))
    have hKx := (blk_setCell_other (ibSix W' w.heap.size (.int .i64 0) (.int .i64 0) (.int .i64 0) (.int .i64 0) (.slice none 0 0) (.slice none 0 0)) ⟨w.heap.size + 1, 0, none⟩ (.int .i64 (l.length : Int)) D (show D ≠ w.heap.size + 1 by omega)).trans hK6
    have hrp := hRx.put hD hKx rfl (.deferred none)
    refine ⟨by simp, .inl ⟨_, _, rfl, run_takeDeferred hKx, ?_⟩⟩
    have hI4 : IB ((ibSix W' w.heap.size (.int .i64 0) (.int .i64 0) (.int .i64 0) (.int .i64 0) (.slice none 0 0) (.slice none 0 0)).setCell ⟨w.heap.size + 1, 0, none⟩ (.int .i64 (l.length : Int)) |>.putObj D (.deferred none)) w.heap.size (.int .i64 0) (.int .i64 0) (.int .i64 0) (.int .i64 0) (.slice none 0 0) (.slice none 0 0) := (World.putObj_heap_other (by omega)).trans hIx
    have h24 := (World.putObj_heap_other (w := (ibSix W' w.heap.size (.int .i64 0) (.int .i64 0) (.int .i64 0) (.int .i64 0) (.slice none 0 0) (.slice none 0 0)).setCell ⟨w.heap.size + 1, 0, none⟩ (.int .i64 (l.length : Int))) (o := .deferred none) (show w.heap.size + 1 ≠ D by omega)).trans h2x
    unfold ibSix at hI4 h24 hrp
    clear hKx hIx h2x hRx hRw hI6 h26 hK6
    generalize hW4 : World.putObj _ D (Obj.deferred none) = W4 at hI4 h24 hrp ⊢
    clear hW4
    obtain ⟨⟨c0, c1, c2, c3, c4, c5⟩, _⟩ := hI4.facts
    have c6 : W4.cell? ⟨w.heap.size + 1, 0, none⟩ = some (.int .i64 (l.length : Int)) := by simp [World.cell?, h24]
    refine ⟨.tuple #[it0, .int .i64 (l.length : Int)], by simp [results, Try.f19, go_sem, c0, c1, c2, c3, c4, c5, c6, it0, itV], ?_⟩
    obtain ⟨v, o1, o2, o3⟩ := hrp.out hb0 (by rintro k (rfl | rfl) <;> omega)
    refine ⟨t.1, v, hRn.1.1, hQ, o2, o3, .inl ⟨by rw [← hRn.1.2.1]; exact hF, rfl, ?_⟩⟩
    rw [← go_end s l t.1 (by rw [← hRn.1.2.1]; exact hF), ← hRn.1.2.1]
    exact o1
  case stop =>
    rintro D cd W' hD ⟨rfl, i, k, p, ty, ch, ax, nx, ay, ny, e1, e2, e3, e4, e5, e6, e7⟩ hK
    gi_wp2
    refine ⟨by simp, .inl ⟨_, _, rfl, run_takeDeferred hK, ?_⟩⟩
    have hrp := e4.put hD hK rfl (.deferred none)
    have e5p := e5.grown (grownBy_putObj' W' D (.deferred none)) (fun r e => by cases e; exact ⟨_, hK, rfl⟩)
    have hI4 : IB (W'.putObj D (.deferred none)) w.heap.size (.int .i64 k) (.int .i64 p) (.int .i64 ty) (.int .i64 ch) (.slice ax nx nx) (.slice ay ny ny) := (World.putObj_heap_other (by omega)).trans e6
    have h24 := (World.putObj_heap_other (w := W') (o := .deferred none) (show w.heap.size + 1 ≠ D by omega)).trans e7
    generalize W'.putObj D (.deferred none) = W4 at *
    obtain ⟨⟨c0, c1, c2, c3, c4, c5⟩, _⟩ := hI4.facts
    have c6 : W4.cell? ⟨w.heap.size + 1, 0, none⟩ = some (.int .i64 ((i + 1 : Nat) : Int)) := by simp [World.cell?, h24]
    refine ⟨.tuple #[itV k p ty ch (.slice ax nx nx) (.slice ay ny ny), .int .i64 ((i + 1 : Nat) : Int)], by simp [results, Try.f19, go_sem, c0, c1, c2, c3, c4, c5, c6, itV], ?_⟩
    obtain ⟨v, o1, o2, o3⟩ := hrp.out hb0 (by rintro k (rfl | rfl) <;> omega)
    exact ⟨i, v, Nat.le_of_lt e1, e2, o2, o3, .inr ⟨e1, e3, o1, _, e5p.base (by omega), rfl⟩⟩
end Go.Proofs.Ytaijcnkmklibcaa
