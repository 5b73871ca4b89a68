
/- Stage 6: the iterator that All makes. -/
import Derived.Test.YtaijcnkmklibcaaSIter
namespace Go.Proofs.Ytaijcnkmklibcaa
open Go.RowKit Go.Deep Go.Shelf
set_option linter.unusedVariables false
set_option linter.unusedSimpArgs false
attribute [local go_sem] Oper.semAt_some

/-- a stream stands as it stood where its block and its row lie as they lay -/
theorem SR.keep {W W' : World} {S B : Nat} {M : Int} {s : Sg} {v : Value} (h : SR W S B M s v) (hz : W.heap.size ≤ W'.heap.size) (hk : ∀ k cs t f, W.heap[k]? = some (.cells cs t f) → (k = S ∨ v.ownBlock = some k) → W'.heap[k]? = W.heap[k]?) : SR W' S B M s v := by
  obtain ⟨h1, h2, h3, h4, h5, h6⟩ := h
  refine ⟨(hk S _ _ _ h1 (.inl rfl)).trans h1, ?_, by omega, h4, h5, h6⟩
  obtain ⟨e1, e2⟩ := h2
  refine ⟨e1, e2.imp id ?_⟩
  rintro ⟨g, cap, cur, rfl, q1, q2, q3⟩
  exact ⟨g, cap, cur, rfl, q1, (hk g _ _ _ q2 (.inr rfl)).trans q2, q3⟩
theorem SR.put {W : World} {S B : Nat} {M : Int} {s : Sg} {v : Value} (h : SR W S B M s v) {l : Nat} {o : Obj} (hl : W.heap[l]? = some o) (ho : o.isCells = false) (o' : Obj) : SR (W.putObj l o') S B M s v := by
  refine h.keep (by simp) (fun k cs t f hk _ => World.putObj_heap_other (fun e => ?_))
  subst e
  rw [hl] at hk
  cases hk
  cases ho
theorem SR.grown {W W' : World} {S B : Nat} {M : Int} {s : Sg} {v : Value} (h : SR W S B M s v) {row : Option Nat} (hg : W.grownBy W' row) (hr : ∀ r, row = some r → ∃ o : Obj, W.heap[r]? = some o ∧ o.isCells = false) : SR W' S B M s v := by
  refine h.keep hg.size (fun k cs t f hk _ => hg.block k (Array.getElem?_eq_some_iff.1 hk).1 (fun e => ?_))
  obtain ⟨o, h1, h2⟩ := hr k e.symm
  rw [hk] at h1
  cases h1
  cases h2
/-- the stream's block, and its row, are cells -/
theorem SR.own_cells {W : World} {S B : Nat} {M : Int} {s : Sg} {v : Value} (h : SR W S B M s v) {k : Nat} (hk : k = S ∨ v.ownBlock = some k) : ∃ cs t f, W.heap[k]? = some (.cells cs t f) ∧ (t = 66 ∨ t = 5) := by
  rcases hk with rfl | hk
  · exact ⟨_, _, _, h.1, .inl rfl⟩
  · obtain ⟨_, (⟨rfl, _⟩ | ⟨g, cap, cur, rfl, q1, q2, q3⟩)⟩ := h.2.1
    · cases hk
    · simp [Value.ownBlock] at hk
      subst hk
      exact ⟨_, _, _, q2, .inr rfl⟩
section
variable {S B : Nat} {M : Int} {l : List Nat} {t t' : Nat × Sg} {A A' : World}
theorem StI.nc {Y : Nat → Prop} (h : StI S B M l t t' A A') : Nc Y A A' := by
  obtain ⟨_, _, _, v, v', h1, _, _, h4⟩ := h
  refine Nc.kp h4 (fun k hk _ => ?_)
  obtain ⟨cs, t, f, e, _⟩ := h1.own_cells hk
  exact ⟨cs, t, f, e⟩
theorem StI.box (h : StI S B M l t t' A A') {k : Nat} {cs : Array Value} {ty : TypeId} {f : Nat × Nat} (hk : A.heap[k]? = some (.cells cs ty f)) (h1 : ty ≠ 66) (h2 : ty ≠ 5) : A'.heap[k]? = some (.cells cs ty f) := by
  obtain ⟨_, _, _, v, v', q1, _, _, q4⟩ := h
  refine (q4.2.2.2.2 k (Array.getElem?_eq_some_iff.1 hk).1 (fun hh => ?_)).trans hk
  obtain ⟨cs', t', f', e, e2⟩ := q1.own_cells hh
  rw [hk] at e
  cases e
  exact e2.elim h1 h2
theorem StI.alloc (h : StI S B M l t t' A A') (o : Obj) : StI S B M l t t' A (A'.alloc o) := by
  obtain ⟨h1, h2, h3, v, v', q1, q2, q3, q4⟩ := h
  exact ⟨h1, h2, h3, v, v', q1, q2.alloc o, q3, Kp.below q4 (below_box A' o)⟩
theorem StI.put (h : StI S B M l t t' A A') {k : Nat} {o o2 : Obj} (ha : A.heap[k]? = some o) (ho : o.isCells = false) (hb : A'.heap[k]? = some o2) (ho2 : o2.isCells = false) (o' : Obj) : StI S B M l t t' (A.putObj k o') (A'.putObj k o') := by
  obtain ⟨h1, h2, h3, v, v', q1, q2, q3, q4⟩ := h
  refine ⟨h1, h2, h3, v, v', q1.put ha ho o', q2.put hb ho2 o', by simpa using q3, q4.1, q4.2.1, q4.2.2.1, by simpa using q4.2.2.2.1, fun k' hk hq => ?_⟩
  by_cases e : k' = k
  · subst e
    rw [World.putObj_heap_same (Array.getElem?_eq_some_iff.1 ha).1, World.putObj_heap_same (Array.getElem?_eq_some_iff.1 hb).1]
  · rw [World.putObj_heap_other e, World.putObj_heap_other e]
    exact q4.2.2.2.2 k' (by simpa using hk) hq
end
theorem mOut.put {w w1 w2 : World} {l : List Nat} {o1 o2 : Option Nat} (h : mOut w w1 l o1 o2) {k : Nat} {o : Obj} (hk : w1.heap[k]? = some o) (ho : o.isCells = false) (o' : Obj) (hw : w2.heap.size = w.heap.size) : mOut w2 (w1.putObj k o') l o1 o2 := by
  obtain ⟨h1, h2, h3, h4, h5⟩ := h
  have hb : ∀ {g : Nat} {m : List Nat}, Bl w1 g m → Bl (w1.putObj k o') g m := fun {g m} hg => by
    refine hg.block (World.putObj_heap_other (fun e => ?_))
    subst e
    rw [show w1.heap[g]? = _ from hg] at hk
    cases hk
    cases ho
  exact ⟨h1, h2, fun g hg => ⟨by have := (h3 g hg).1; omega, hb (h3 g hg).2⟩, fun g hg => ⟨by have := (h4 g hg).1; omega, hb (h4 g hg).2⟩, h5⟩
theorem ItI.alloc {l : List Nat} {t : Nat × Sg} {A A' : World} {x : Value} (h : ItI l t A A' x) (o : Obj) : ItI l t A (A'.alloc o) x := by
  obtain ⟨h1, o1, o2, h2, h3⟩ := h
  exact ⟨h1, o1, o2, h2, fun h4 => (h3 h4).alloc o⟩
theorem ItI.put {l : List Nat} {t : Nat × Sg} {A A' : World} {x : Value} (h : ItI l t A A' x) {k : Nat} {o o2 : Obj} (hb : A'.heap[k]? = some o2) (ho2 : o2.isCells = false) (o' : Obj) : ItI l t (A.putObj k o') (A'.putObj k o') x := by
  obtain ⟨h1, o1, o2, h2, h3⟩ := h
  exact ⟨h1, o1, o2, h2, fun h4 => (h3 h4).put hb ho2 o' (by simp)⟩
theorem ItI.form {l : List Nat} {t : Nat × Sg} {A A' : World} {x : Value} (h : ItI l t A A' x) : ∃ (k p ty ch : Int) (ax : Option Addr) (nx : Nat) (ay : Option Addr) (ny : Nat), x = itV k p ty ch (.slice ax nx nx) (.slice ay ny ny) := by
  obtain ⟨h1, o1, o2, rfl, h3⟩ := h
  obtain ⟨p, ty, ch, ax, nx, ay, ny, e⟩ := it_form t.2 (l.getD t.1 0) (o1.map (fun g => (⟨g, 0, none⟩ : Addr))) (o2.map (fun g => (⟨g, 0, none⟩ : Addr)))
  exact ⟨_, p, ty, ch, ax, nx, ay, ny, e⟩
def TolA (S B : Nat) (M : Int) (l : List Nat) (t : Nat × Sg) (x : Value) (t' : Nat × Sg) (A A' : World) : Prop := StI S B M l t t' A A' ∧ ItI l t A A' x
def encA (x : Value) : Array Value := #[x]

set_option maxRecDepth 100000 in
set_option maxHeartbeats 2000000 in
theorem all_seq (S B : Nat) (M : Int) (bO bS : Nat) (a : Option Addr) (c : Nat) (l : List Nat) :
    SeqJ Try.prog 36 #[.pointer (some ⟨bS, 0, none⟩), .pointer (some ⟨bO, 0, none⟩)] encA (GI S B M bO bS a c l) (SilI S B M l) (TolA S B M l) BodI (fun t => t.1 = 0) (FinI l) := by
  intro yl n t0 J Jx W hyl hJ hJx hG hS hY hini h0
  have hdd : ∀ k : Nat, (Fence.wide.depth.isSome = true → 1 ≤ k) := fun k h => by cases h
  obtain ⟨_, ⟨hbo, hbs⟩, _, _⟩ := hG _ _ h0
  have hO : W.cell? ⟨bO, 0, none⟩ = some (.slice a l.length c) := by simp [World.cell?, hbo]
  have hP : W.cell? ⟨bS, 0, none⟩ = some (.pointer (some ⟨S, 0, none⟩)) := by simp [World.cell?, hbs]
  have hlo : bO < W.heap.size := (Array.getElem?_eq_some_iff.1 hbo).1
  have hls : bS < W.heap.size := (Array.getElem?_eq_some_iff.1 hbs).1
  refine callsIn_of_wp_marks Try.func36 rfl trivial ?_ rfl
  simp only [Try.ntmps36, List.size_toArray, List.length_cons, List.length_nil, Nat.reduceAdd, Nat.reduceSub, Array.replicate_succ, Array.replicate_zero, List.push_toArray, List.append_toArray, List.nil_append, List.cons_append]
  gi_wp2_with ((first | refine ⟨trivial, hdd _, ?_⟩ | refine ⟨trivial, ?_⟩); gi_at_call 37; refine (callsIn_wide.2 (items_any _ _ _ _ _)).mono ?_; rintro e w' ⟨rfl, rfl⟩)
  obtain ⟨W0, hW0⟩ : ∃ W0, ((W.alloc (Obj.cells #[.func (.yield yl) #[] #[]] 83)).alloc (Obj.cells #[.pointer (some ⟨S, 0, none⟩)] 25)).alloc (Obj.cells #[.slice a l.length c] 33) = W0 := ⟨_, rfl⟩
  have hs0 : W0.heap.size = W.heap.size + 3 := by rw [← hW0]; simp
  have hY0 : W0.heap[W.heap.size]? = some (.cells #[.func (.yield yl) #[] #[]] 83 (0, 0)) := by rw [← hW0]; exact heap_past (heap_past (World.alloc_heap_new _ _) _) _
  have hS0 : W0.heap[W.heap.size + 1]? = some (.cells #[.pointer (some ⟨S, 0, none⟩)] 25 (0, 0)) := by rw [← hW0]; exact heap_past (heap_at1 _ _ _) _
  have hC0 : W0.heap[W.heap.size + 1 + 1]? = some (.cells #[.slice a l.length c] 33 (0, 0)) := by
    rw [← hW0]
    have := heap_at1 (W.alloc (Obj.cells #[.func (.yield yl) #[] #[]] 83)) (Obj.cells #[.pointer (some ⟨S, 0, none⟩)] 25) (Obj.cells #[.slice a l.length c] 33)
    rwa [World.size_alloc] at this
  have hJ0 : J t0 W0 := by rw [← hW0]; exact hJ.alloc _ (hJ.alloc _ (hJ.alloc _ h0))
  rw [hW0]
  clear hW0 hO hP
  refine range_j (gf := 47) (lb := #[.pointer (some ⟨W.heap.size + 1 + 1, 0, none⟩), .pointer (some ⟨W.heap.size + 1, 0, none⟩)]) rfl (enters_of Try.func47 (by kernel_rfl) rfl) (items_seq S B M (W.heap.size + 1 + 1) (W.heap.size + 1) a c l) (fun _ => rfl)
    (fun t W' => J t W' ∧ W'.heap[W.heap.size]? = some (.cells #[.func (.yield yl) #[] #[]] 83 (0, 0)) ∧ W'.heap[W.heap.size + 1]? = some (.cells #[.pointer (some ⟨S, 0, none⟩)] 25 (0, 0)) ∧ W'.heap[W.heap.size + 1 + 1]? = some (.cells #[.slice a l.length c] 33 (0, 0)))
    (fun c W' => c = .ret ∧ Jx W')
    ?hI ?hIx ?hIG (fun _ _ _ _ _ h => h.1.nc) (fun _ _ _ _ _ _ h => h.1.nc) ?hIs t0 ⟨hJ0, hY0, hS0, hC0⟩ hini
    (fun t x t' A a' W' => TolA S B M l t x.1 t' A W' ∧ (∃ k p ty ch ax nx ay ny, x.1 = itV k p ty ch (.slice ax nx nx) (.slice ay ny ny) ∧ ∃ Bx, IB W' Bx (.int .i64 k) (.int .i64 p) (.int .i64 ty) (.int .i64 ch) (.slice ax nx nx) (.slice ay ny ny) ∧ a' = { tmps := #[.func (.yield yl) #[] #[], .pointer (some ⟨bS, 0, none⟩), .pointer (some ⟨bO, 0, none⟩), .pointer (some ⟨W.heap.size, 0, none⟩), .pointer (some ⟨Bx, 0, none⟩), .pointer (some ⟨S, 0, none⟩), .slice a l.length c, .func (.func 47) #[] #[.pointer (some ⟨W.heap.size + 1 + 1, 0, none⟩), .pointer (some ⟨W.heap.size + 1, 0, none⟩)], itV k p ty ch (.slice ax nx nx) (.slice ay ny ny), .int .i64 (x.2 : Int), undef, undef, undef, undef], defers := [] }))
    ?assign ?body ?done ?stop
  case hI =>
    rintro t A A2 row ⟨h1, h2, h3, h4⟩ hg hr
    have keep : ∀ {k : Nat} {cs : Array Value} {ty : TypeId} {f : Nat × Nat}, A.heap[k]? = some (Obj.cells cs ty f) → A2.heap[k]? = some (Obj.cells cs ty f) := fun {k cs ty f} hk => by
      refine (hg.block k (Array.getElem?_eq_some_iff.1 hk).1 (fun e => ?_)).trans hk
      obtain ⟨_, o, e1, e2⟩ := hr k e.symm
      rw [hk] at e1
      cases e1
      cases e2
    exact ⟨hJ t A A2 row h1 hg (fun r e => ⟨by have := (hr r e).1; omega, (hr r e).2⟩), keep h2, keep h3, keep h4⟩
  case hIx =>
    rintro c _ A A2 row ⟨h0, h1⟩ hg hr
    exact ⟨h0, hJx () A A2 row h1 hg (fun r e => ⟨by have := (hr r e).1; omega, (hr r e).2⟩)⟩
  case hIG =>
    rintro t A ⟨h1, h2, h3, h4⟩
    obtain ⟨g1, g2, g3, g4⟩ := hG t A h1
    exact ⟨g1, ⟨h4, h3⟩, g3, g4⟩
  case hIs =>
    rintro t t' A A' ⟨h1, h2, h3, h4⟩ hs
    exact ⟨hS t t' A A' h1 hs, hs.1.box h2 (by decide) (by decide), hs.1.box h3 (by decide) (by decide), hs.1.box h4 (by decide) (by decide)⟩
  case assign =>
    rintro lp t x t' A A' K hI1 ⟨hs, hx2, hit⟩ hK
    obtain ⟨k, p, ty, ch, ax, nx, ay, ny, hx⟩ := hit.form
    have hsa := hs.alloc (Obj.cells #[.int .i64 k, .int .i64 p, .int .i64 ty, .int .i64 ch, .slice ax nx nx, .slice ay ny ny] 51)
    have hia := hit.alloc (Obj.cells #[.int .i64 k, .int .i64 p, .int .i64 ty, .int .i64 ch, .slice ax nx nx, .slice ay ny ny] 51)
    simp only [encI, hx, itV]
    clear hx2
    gi_wp2
    exact hK _ _ ((KpB.refl _ A').alloc _) ⟨⟨hsa, hia⟩, k, p, ty, ch, ax, nx, ay, ny, hx, A'.heap.size, World.alloc_heap_new _ _, rfl⟩
  case body =>
    rintro lp t x t' A a' W1 r r' hl' hA hW1 ⟨hJ1, hyb, hbx1, hbx2⟩ ⟨⟨hst, hit⟩, k, p, ty, ch, ax, nx, ay, ny, hx, Bx, hIB, rfl⟩
    have hJ2 : J t (A.putObj lp (.loop r')) := hJ.putObj _ hJ1 (by omega) hA rfl
    have hst2 := hst.put hA rfl hW1 rfl (.loop r')
    have hit2 := hit.put (A := A) (o := .loop r) hW1 rfl (.loop r')
    have keep : ∀ {k : Nat} {cs : Array Value} {ty : TypeId} {f : Nat × Nat}, W1.heap[k]? = some (Obj.cells cs ty f) → (W1.putObj lp (.loop r')).heap[k]? = some (Obj.cells cs ty f) := fun {k cs ty f} hk => by
      refine (World.putObj_heap_other (fun e => ?_)).trans hk
      subst e
      rw [hk] at hW1
      cases hW1
    have hyb1 := keep (hst.box hyb (by decide) (by decide))
    have hbx11 := keep (hst.box hbx1 (by decide) (by decide))
    have hbx21 := keep (hst.box hbx2 (by decide) (by decide))
    have hIB1 : IB (W1.putObj lp (.loop r')) Bx (.int .i64 k) (.int .i64 p) (.int .i64 ty) (.int .i64 ch) (.slice ax nx nx) (.slice ay ny ny) := keep hIB
    obtain ⟨⟨c0, c1, c2, c3, c4, c5⟩, _⟩ := hIB1.facts
    have hcy : (W1.putObj lp (.loop r')).cell? ⟨W.heap.size, 0, none⟩ = some (.func (.yield yl) #[] #[]) := by simp [World.cell?, hyb1]
    have hyy := YieldAt.mono (hY (n - 1) t x.1 t' _ _ hJ2 ⟨hst2, hit2⟩) (R' := fun e W3 => (e = .returned (.bool true) ∧ Hid (KpB W.heap.size (W1.putObj lp (.loop r')) W3 ∧ ∃ t'', BodI t' t'' ∧ J t'' W3)) ∨ (e = .returned (.bool false) ∧ Hid (KpB W.heap.size (W1.putObj lp (.loop r')) W3 ∧ Jx W3))) (by
      rintro e W3 ⟨hk, (⟨rfl, h1⟩ | ⟨rfl, h1⟩)⟩
      · exact .inl ⟨rfl, hk, h1⟩
      · exact .inr ⟨rfl, hk, h1⟩)
    obtain ⟨fn, tmps, assign, body, hy, hR⟩ := hyy
    simp only [encA, hx, itV] at hy
    simp only [itV]
    have HB := hide (And.intro hyb1 (And.intro hbx11 hbx21))
    clear hst hit hst2 hit2 hyb hbx1 hbx2 hyb1 hbx11 hbx21 hIB hIB1 hJ1 hJ2 hA hx hY hS hG hJ0 h0
    generalize W1.putObj lp (.loop r') = W2 at *
    gi_wp2_with ((try refine ⟨hdd _, ?_⟩); refine (round_in lp hR).mono ?_; clear hR; rintro e W3 (⟨rfl, HT⟩ | ⟨rfl, HT⟩))
    · obtain ⟨hkp, t'', b1, b2⟩ := HT.out
      exact ⟨hkp.mono (by omega), t'', b1, b2, hkp.2 _ _ (Nat.le_refl _) (by simp) HB.out.1, hkp.2 _ _ (by omega) (by simp) HB.out.2.1, hkp.2 _ _ (by omega) (by simp) HB.out.2.2⟩
    · exact ⟨HT.out.1.mono (by omega), rfl, HT.out.2⟩
  case done =>
    rintro D t W' hD hF ⟨h1, h2, h3, h4⟩ hK
    gi_wp2
    refine ⟨by simp, .inl ⟨_, _, rfl, run_takeDeferred hK, ?_⟩⟩
    exact ⟨.tuple #[], by simp [results, Try.f36, go_sem], ⟨_, rfl⟩, .inl ⟨t, hF, hJ.putObj _ h1 (by omega) hK rfl⟩⟩
  case stop =>
    rintro D c W' hD ⟨rfl, h1⟩ hK
    gi_wp2
    refine ⟨by simp, .inl ⟨_, _, rfl, run_takeDeferred hK, ?_⟩⟩
    exact ⟨.tuple #[], by simp [results, Try.f36, go_sem], ⟨_, rfl⟩, .inr (hJx.putObj (s := ()) _ h1 (by omega) hK rfl)⟩
end Go.Proofs.Ytaijcnkmklibcaa
