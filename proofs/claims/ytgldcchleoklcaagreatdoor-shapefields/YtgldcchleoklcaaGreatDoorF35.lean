/- HRTab, HRFa -/
import Derived.Test.YtgldcchleoklcaaGreatDoorF18
import Derived.Test.YtgldcchleoklcaaGreatDoorF31
import Derived.OwnWalk
import Derived.Deep.WholeRow
namespace Go.Proofs.YtgldcchleoklcaaGreatDoor
open Go.RowKit
set_option linter.unusedVariables false
set_option linter.unusedSimpArgs false
def flat9 (l : List Fd) : List Value := l.flatMap fun f => f.cs.toList
theorem Tryz.infoF : (Tryz.prog.info? 66).map (fun i => (i.zero, i.size, i.bytes)) = some (some (.agg #[.string ⟨#[]⟩, .int .i64 0, .slice none 0 0, .bool false, .int .i64 0, .int .u64 0, .string ⟨#[]⟩, .slice none 0 0, .int .i64 0]), 9, 120) := by kernel_rfl
def RTo (l : List FS) (B k : Nat) (v : Value) (w : World) : Prop :=
  ∃ fs : List Fd, fs.length = k ∧ w.ownsRow B 66 9 v k (flat9 fs) ∧ ∀ i (h : i < fs.length) (h' : i < l.length), FdIn B w fs[i] l[i] ∧ ∀ b o, fs[i].ka = some ⟨b, o, none⟩ → b < w.heap.size ∧ v.ownBlock ≠ some b
theorem RTo.start (l : List FS) (w : World) : RTo l w.heap.size 0 (.slice none 0 0) w := ⟨[], rfl, World.ownsRow_nil _ _ _ _, fun i h => absurd h (by simp)⟩
theorem Ints.same {w w' : World} {b : Nat} {l : List Int} (h : Ints w b l) (e : w'.heap[b]? = w.heap[b]?) : Ints w' b l := e.trans h
theorem RTo.next {l : List FS} {B k : Nat} {v v' : Value} {w w1 w2 : World} {fs : List Fd} (hk : fs.length = k) (hown : w.ownsRow B 66 9 v k (flat9 fs)) (hfd : ∀ i (h : i < fs.length) (h' : i < l.length), FdIn B w fs[i] l[i] ∧ ∀ b o, fs[i].ka = some ⟨b, o, none⟩ → b < w.heap.size ∧ v.ownBlock ≠ some b)
    (hB : B ≤ w.heap.size) (hb : Below w.heap.size w w1) (f : Fd) (hl : k < l.length) (hf : FdIn w.heap.size w1 f l[k]) (hks : ∀ b o, f.ka = some ⟨b, o, none⟩ → w.heap.size ≤ b ∧ b < w1.heap.size) (hg : w1.grownBy w2 v.ownBlock) (hown2 : w2.ownsRow B 66 9 v' (k + 1) (flat9 fs ++ f.cs.toList)) (hat : v'.ownBlock = v.ownBlock ∨ v'.ownBlock = some w1.heap.size) :
    RTo l B (k + 1) v' w2 ∧ Below B w w2 := by
  have hs1 := hb.size
  have hs2 := hg.size
  have hne : ∀ b, b < w.heap.size → v.ownBlock ≠ some b → w2.heap[b]? = w.heap[b]? := fun b h1 h2 => (hg.block b (by omega) (fun e => h2 e.symm)).trans (hb.block b h1)
  refine ⟨⟨fs ++ [f], by rw [List.length_append, hk]; rfl, by unfold flat9; rw [List.flatMap_append]; simpa [flat9] using hown2, fun i h h' => ?_⟩, (hb.mono hB).grown hg (by omega) (fun g hgg => (ownsRow_lt hown hgg).1)⟩
  by_cases hi : i < fs.length
  · rw [List.getElem_append_left hi]
    obtain ⟨⟨q1, q2, q3, q4, q5, q6, q7⟩, hq⟩ := hfd i hi h'
    refine ⟨⟨q1, q2, q3, q4, q5, q6, fun h0 => ?_⟩, fun b o e => ?_⟩
    · obtain ⟨b, e, r1, r2, r3⟩ := q7 h0
      exact ⟨b, e, r1, by omega, r3.same (hne b r2 (hq b 0 e).2)⟩
    · obtain ⟨r1, r2⟩ := hq b o e
      refine ⟨by omega, fun hv => ?_⟩
      rcases hat with e2 | e2
      · rw [e2] at hv; exact r2 hv
      · rw [e2] at hv
        have e3 : w1.heap.size = b := Option.some.inj hv
        omega
  · obtain rfl : i = fs.length := by
      rw [List.length_append] at h
      simp at h
      omega
    have e0 : (fs ++ [f])[fs.length]'h = f := by simp
    rw [e0]
    subst hk
    obtain ⟨q1, q2, q3, q4, q5, q6, q7⟩ := hf
    have hnv : ∀ b o, f.ka = some ⟨b, o, none⟩ → v.ownBlock ≠ some b := fun b o e hv => by
      have := (ownsRow_lt hown hv).2
      have := (hks b o e).1
      omega
    refine ⟨⟨q1, q2, q3, q4, q5, q6, fun h0 => ?_⟩, fun b o e => ?_⟩
    · obtain ⟨b, e, r1, r2, r3⟩ := q7 h0
      exact ⟨b, e, by omega, by omega, r3.same (hg.block b r2 (fun e' => hnv b 0 e e'.symm))⟩
    · have r := hks b o e
      refine ⟨by omega, fun hv => ?_⟩
      rcases hat with e2 | e2
      · rw [e2] at hv; exact hnv b o e hv
      · rw [e2] at hv
        have e3 : w1.heap.size = b := Option.some.inj hv
        omega
theorem add0 (g k : Nat) : (⟨g, 0, none⟩ : Addr).add k = ⟨g, k, none⟩ := by
  by_cases h : k = 0
  · subst h; rfl
  · simp [Addr.add, h]
theorem news9 (X : World) (f : Fd) (t : TypeId) : ∀ q u, (f.cs.toList)[q]? = some u → (X.alloc (.cells f.cs t)).cell? ((⟨X.heap.size, 0, none⟩ : Addr).add q) = some u := fun q u hq => by
  rw [add0]
  unfold World.cell?
  simp only [World.alloc_heap_new]
  rwa [Array.getElem?_toList] at hq
theorem one9 (f : Fd) : ∀ u ∈ f.cs.toList, u.oneCell' = true := by
  intro u hu
  simp only [Fd.cs, List.mem_cons, List.not_mem_nil, or_false] at hu
  rcases hu with rfl | rfl | rfl | rfl | rfl | rfl | rfl | rfl | rfl <;> rfl
theorem RTo.fields {l : List FS} {W w : World} {a : Option Addr} {c : Nat} (h : RTo l W.heap.size l.length (.slice a l.length c) w) : ∃ fs : List Fd, FieldsIn l W a fs w ∧ l.length ≤ c := by
  obtain ⟨fs, hk, hown, hfd⟩ := h
  have hrow : ∀ g, a = some ⟨g, 0, none⟩ → W.heap.size ≤ g ∧ g < w.heap.size ∧ FRow w g fs := fun g e => by
    subst e
    have hlt := ownsRow_lt hown (g := g) rfl
    refine ⟨hlt.1, hlt.2, fun i hi j hj => ?_⟩
    have h9 := nine fs i hi j hj
    have hsz : j < fs[i].cs.size := hj
    have hv : fs[i].cs[j]? = some fs[i].cs[j] := Array.getElem?_eq_getElem hsz
    rw [hv] at h9 ⊢
    have := hown.cells (g := g) rfl (i * 9 + j) _ h9
    rwa [add0] at this
  refine ⟨fs, ⟨hk, fun h0 => ?_, fun i hi hi' => (hfd i hi hi').1⟩, ?_⟩
  · rcases hown.2 with ⟨e, e0⟩ | ⟨g, cap, cur, e, _⟩
    · omega
    · simp only [Value.slice.injEq] at e
      obtain ⟨rfl, _, _⟩ := e
      obtain ⟨r1, r2, r3⟩ := hrow g rfl
      exact ⟨g, rfl, r1, r2, r3⟩
  · rcases hown.2 with ⟨e, e0⟩ | ⟨g, cap, cur, e, _, _, hnc, _⟩
    · omega
    · simp only [Value.slice.injEq] at e
      omega
def RRow (l : List FS) (W : World) (e : Ending) (w' : World) : Prop := ∃ (a : Option Addr) (c : Nat) (fs : List Fd), e = .returned (.slice a l.length c) ∧ Hid (FieldsIn l W a fs w') ∧ l.length ≤ c ∧ Below W.heap.size W w'
set_option maxRecDepth 100000 in
theorem composite_any (s : ByteArray) (a : Option Addr) (n c : Nat) (w : World) : Calls Tryz.prog 110 #[.string s, .slice a n c] w fun e w' => e = .returned (.agg #[.string s, .int .i64 102, .slice a n c, .bool false, .int .i64 0, .int .u64 0, .string ⟨#[]⟩, .slice none 0 0, .int .i64 0]) ∧ Below w.heap.size w w' := by
  go_enter Tryz.func110, Tryz.ntmps110
  go_wp2
  refine bodyPost_ret (v := .agg #[.string s, .int .i64 102, .slice a n c, .bool false, .int .i64 0, .int .u64 0, .string ⟨#[]⟩, .slice none 0 0, .int .i64 0]) (results_cell_row Tryz.results110 _ _ w.heap.size 66 _ (0, 0) _ rfl (heap_alloc_last w _) Tryz.underlying66 rfl (by kernel_rfl)) rfl ⟨rfl, bel1 (Below.refl _ _) (Nat.le_refl _) _⟩
set_option maxRecDepth 100000 in
theorem r_states (w : World) : Calls Tryz.prog 111 #[] w fun e w' => e = .returned (.slice (some ⟨w.heap.size, 0, none⟩) 7 7) ∧ w' = w.alloc (.cells #[.int .i64 35, .int .i64 36, .int .i64 37, .int .i64 38, .int .i64 39, .int .i64 51, .int .i64 52] 3) := by
  go_enter Tryz.func111, Tryz.ntmps111
  go_wp2
  go_ret
  exact ⟨rfl, rfl⟩
set_option maxRecDepth 100000 in
theorem r_outcomes (w : World) : Calls Tryz.prog 112 #[] w fun e w' => e = .returned (.slice (some ⟨w.heap.size, 0, none⟩) 4 4) ∧ w' = w.alloc (.cells #[.int .i64 36, .int .i64 37, .int .i64 38, .int .i64 39] 3) := by
  go_enter Tryz.func112, Tryz.ntmps112
  go_wp2
  go_ret
  exact ⟨rfl, rfl⟩
def rs_detach : List FS := [⟨⟨#[104, 97, 110, 100, 108, 101]⟩, 4, [], true, 0, 0, ⟨#[]⟩⟩, ⟨⟨#[99, 108, 111, 115, 101, 100]⟩, 1, [], false, 1, 0, ⟨#[]⟩⟩, ⟨⟨#[102, 97, 117, 108, 116]⟩, 102, [29], false, 0, 0, ⟨#[]⟩⟩]
set_option maxRecDepth 100000 in
set_option maxHeartbeats 8000000 in
theorem r_detach (w : World) : Calls Tryz.prog 79 #[] w (RRow rs_detach w) := by
  obtain ⟨i0, hi0, hzz⟩ := Option.map_eq_some_iff.1 Tryz.infoF
  simp only [Prod.mk.injEq] at hzz
  obtain ⟨hz0', hz1', hz2'⟩ := hzz
  have HI : Hid (i0.zero = _ ∧ i0.size = _ ∧ i0.bytes = _) := ⟨hz0', hz1', hz2'⟩
  have HI0 := hide hi0
  have HR0 : Hid (RTo rs_detach w.heap.size 0 (.slice none 0 0) w) := RTo.start _ _
  have HB0 : Hid (Below w.heap.size w w) := Below.refl _ _
  clear hz0' hz1' hz2' hi0
  go_enter Tryz.func79, Tryz.ntmps79
  go_wp2_with (first
    | (at_builtin; have HRk := HR2; obtain ⟨fs, hk, hown, hfd⟩ := HRk.out; refine wpList_append_own_at _ rfl (.tmp 11) (.tmp 14) 23 rfl w.heap.size 66 i0 _ 9 120 Tryz.underlying23 HI0.out HI.out.1 HI.out.2.1 HI.out.2.2 rfl (by decide) _ 2 (flat9 fs) rfl ((ownsRow_keep hown (fun g hg => HC2.out.block g (ownsRow_lt hown hg).2)).alloc _) ⟨c2.heap.size, 0, none⟩ 1 1 ((⟨⟨#[102, 97, 117, 108, 116]⟩, 102, (some ⟨w2.heap.size, 0, none⟩), 1, 1, false, leaf 0 0 ⟨#[]⟩⟩ : Fd).cs.toList) rfl rfl (news9 c2 ⟨⟨#[102, 97, 117, 108, 116]⟩, 102, (some ⟨w2.heap.size, 0, none⟩), 1, 1, false, leaf 0 0 ⟨#[]⟩⟩ _) (one9 _) (by decide) (by decide) (by have := HB2.out.size; have := HC2.out.size; simp <;> omega) ?_; intro v' w3 hown' hgrow _ hat; obtain ⟨g', cap', rfl⟩ := ownsRow_succ hown'; obtain ⟨hr3, hb3⟩ := RTo.next (l := rs_detach) hk hown hfd HB2.out.size (bel1 HC2.out HC2.out.size _) ⟨⟨#[102, 97, 117, 108, 116]⟩, 102, (some ⟨w2.heap.size, 0, none⟩), 1, 1, false, leaf 0 0 ⟨#[]⟩⟩ (by decide) (⟨rfl, rfl, rfl, rfl, rfl, rfl, fun _ => ⟨w2.heap.size, rfl, Nat.le_refl _, by have := HD2.out.1; simp <;> omega, heap_past HD2.out.2 _⟩⟩) (fun b o e => by cases e; exact ⟨Nat.le_refl _, by have := HD2.out.1; simp <;> omega⟩) hgrow hown' hat; have HR3 := hide hr3; have HB3 : Hid (Below w.heap.size w w3) := HB2.out.trans hb3; clear hr3 hb3 hown' hgrow hat hown hfd hk)
    | (go_at_call 110; have HRk := HR2; refine Calls.mono (composite_any _ _ _ _ _) ?_; rintro e c2 ⟨rfl, hc2⟩; have HC2 : Hid (Below w2.heap.size w2 c2) := belOn (bel1 (Below.refl _ _) (Nat.le_refl _) (.cells #[.int .i64 29] 3)) (by simp) hc2; have HD2 : Hid (w2.heap.size < c2.heap.size ∧ Ints c2 w2.heap.size [29]) := ⟨by have := hc2.size; simp at this; omega, (hc2.block w2.heap.size (by simp)).trans (World.alloc_heap_new _ _)⟩; clear hc2)
    | (at_builtin; have HRk := HR1; obtain ⟨fs, hk, hown, hfd⟩ := HRk.out; refine wpList_append_own_at _ rfl (.tmp 6) (.tmp 9) 23 rfl w.heap.size 66 i0 _ 9 120 Tryz.underlying23 HI0.out HI.out.1 HI.out.2.1 HI.out.2.2 rfl (by decide) _ 1 (flat9 fs) rfl (hown.alloc _) ⟨w1.heap.size, 0, none⟩ 1 1 ((⟨⟨#[99, 108, 111, 115, 101, 100]⟩, 1, none, 0, 0, false, leaf 1 0 ⟨#[]⟩⟩ : Fd).cs.toList) rfl rfl (news9 w1 ⟨⟨#[99, 108, 111, 115, 101, 100]⟩, 1, none, 0, 0, false, leaf 1 0 ⟨#[]⟩⟩ _) (one9 _) (by decide) (by decide) (by have := HB1.out.size; simp <;> omega) ?_; intro v' w2 hown' hgrow _ hat; obtain ⟨g', cap', rfl⟩ := ownsRow_succ hown'; obtain ⟨hr2, hb2⟩ := RTo.next (l := rs_detach) hk hown hfd HB1.out.size (bel1 (Below.refl _ _) (Nat.le_refl _) _) ⟨⟨#[99, 108, 111, 115, 101, 100]⟩, 1, none, 0, 0, false, leaf 1 0 ⟨#[]⟩⟩ (by decide) (⟨rfl, rfl, rfl, rfl, rfl, rfl, fun h => absurd h (by decide)⟩) (fun b o e => by cases e) hgrow hown' hat; have HR2 := hide hr2; have HB2 : Hid (Below w.heap.size w w2) := HB1.out.trans hb2; clear hr2 hb2 hown' hgrow hat hown hfd hk)
    | (at_builtin; have HRk := HR0; obtain ⟨fs, hk, hown, hfd⟩ := HRk.out; refine wpList_append_own_at _ rfl (.tmp 2) (.tmp 4) 23 rfl w.heap.size 66 i0 _ 9 120 Tryz.underlying23 HI0.out HI.out.1 HI.out.2.1 HI.out.2.2 rfl (by decide) _ 0 (flat9 fs) rfl (hown.alloc _) ⟨w.heap.size, 0, none⟩ 1 1 ((⟨⟨#[104, 97, 110, 100, 108, 101]⟩, 4, none, 0, 0, true, leaf 0 0 ⟨#[]⟩⟩ : Fd).cs.toList) rfl rfl (news9 w ⟨⟨#[104, 97, 110, 100, 108, 101]⟩, 4, none, 0, 0, true, leaf 0 0 ⟨#[]⟩⟩ _) (one9 _) (by decide) (by decide) (by have := HB0.out.size; simp <;> omega) ?_; intro v' w1 hown' hgrow _ hat; obtain ⟨g', cap', rfl⟩ := ownsRow_succ hown'; obtain ⟨hr1, hb1⟩ := RTo.next (l := rs_detach) hk hown hfd HB0.out.size (bel1 (Below.refl _ _) (Nat.le_refl _) _) ⟨⟨#[104, 97, 110, 100, 108, 101]⟩, 4, none, 0, 0, true, leaf 0 0 ⟨#[]⟩⟩ (by decide) (⟨rfl, rfl, rfl, rfl, rfl, rfl, fun h => absurd h (by decide)⟩) (fun b o e => by cases e) hgrow hown' hat; have HR1 := hide hr1; have HB1 : Hid (Below w.heap.size w w1) := HB0.out.trans hb1; clear hr1 hb1 hown' hgrow hat hown hfd hk))
  go_ret
  obtain ⟨fs, h1, h2⟩ := RTo.fields (l := rs_detach) HR3.out
  exact ⟨_, _, fs, rfl, hide h1, h2, HB3.out⟩
def rs_end : List FS := [⟨⟨#[102, 97, 117, 108, 116]⟩, 102, [29], false, 0, 0, ⟨#[]⟩⟩]
set_option maxRecDepth 100000 in
set_option maxHeartbeats 8000000 in
theorem r_end (w : World) : Calls Tryz.prog 80 #[] w (RRow rs_end w) := by
  obtain ⟨i0, hi0, hzz⟩ := Option.map_eq_some_iff.1 Tryz.infoF
  simp only [Prod.mk.injEq] at hzz
  obtain ⟨hz0', hz1', hz2'⟩ := hzz
  have HI : Hid (i0.zero = _ ∧ i0.size = _ ∧ i0.bytes = _) := ⟨hz0', hz1', hz2'⟩
  have HI0 := hide hi0
  have HR0 : Hid (RTo rs_end w.heap.size 0 (.slice none 0 0) w) := RTo.start _ _
  have HB0 : Hid (Below w.heap.size w w) := Below.refl _ _
  clear hz0' hz1' hz2' hi0
  go_enter Tryz.func80, Tryz.ntmps80
  go_wp2_with (first
    | (at_builtin; have HRk := HR0; obtain ⟨fs, hk, hown, hfd⟩ := HRk.out; refine wpList_append_own_at _ rfl (.tmp 2) (.tmp 5) 23 rfl w.heap.size 66 i0 _ 9 120 Tryz.underlying23 HI0.out HI.out.1 HI.out.2.1 HI.out.2.2 rfl (by decide) _ 0 (flat9 fs) rfl ((ownsRow_keep hown (fun g hg => HC0.out.block g (ownsRow_lt hown hg).2)).alloc _) ⟨c0.heap.size, 0, none⟩ 1 1 ((⟨⟨#[102, 97, 117, 108, 116]⟩, 102, (some ⟨w.heap.size, 0, none⟩), 1, 1, false, leaf 0 0 ⟨#[]⟩⟩ : Fd).cs.toList) rfl rfl (news9 c0 ⟨⟨#[102, 97, 117, 108, 116]⟩, 102, (some ⟨w.heap.size, 0, none⟩), 1, 1, false, leaf 0 0 ⟨#[]⟩⟩ _) (one9 _) (by decide) (by decide) (by have := HB0.out.size; have := HC0.out.size; simp <;> omega) ?_; intro v' w1 hown' hgrow _ hat; obtain ⟨g', cap', rfl⟩ := ownsRow_succ hown'; obtain ⟨hr1, hb1⟩ := RTo.next (l := rs_end) hk hown hfd HB0.out.size (bel1 HC0.out HC0.out.size _) ⟨⟨#[102, 97, 117, 108, 116]⟩, 102, (some ⟨w.heap.size, 0, none⟩), 1, 1, false, leaf 0 0 ⟨#[]⟩⟩ (by decide) (⟨rfl, rfl, rfl, rfl, rfl, rfl, fun _ => ⟨w.heap.size, rfl, Nat.le_refl _, by have := HD0.out.1; simp <;> omega, heap_past HD0.out.2 _⟩⟩) (fun b o e => by cases e; exact ⟨Nat.le_refl _, by have := HD0.out.1; simp <;> omega⟩) hgrow hown' hat; have HR1 := hide hr1; have HB1 : Hid (Below w.heap.size w w1) := HB0.out.trans hb1; clear hr1 hb1 hown' hgrow hat hown hfd hk)
    | (go_at_call 110; have HRk := HR0; refine Calls.mono (composite_any _ _ _ _ _) ?_; rintro e c0 ⟨rfl, hc0⟩; have HC0 : Hid (Below w.heap.size w c0) := belOn (bel1 (Below.refl _ _) (Nat.le_refl _) (.cells #[.int .i64 29] 3)) (by simp) hc0; have HD0 : Hid (w.heap.size < c0.heap.size ∧ Ints c0 w.heap.size [29]) := ⟨by have := hc0.size; simp at this; omega, (hc0.block w.heap.size (by simp)).trans (World.alloc_heap_new _ _)⟩; clear hc0))
  go_ret
  obtain ⟨fs, h1, h2⟩ := RTo.fields (l := rs_end) HR1.out
  exact ⟨_, _, fs, rfl, hide h1, h2, HB1.out⟩
def rs_fault : List FS := [⟨⟨#[99, 111, 110, 100]⟩, 20, [], true, 0, 0, ⟨#[]⟩⟩, ⟨⟨#[116, 101, 120, 116]⟩, 19, [], false, 0, 0, ⟨#[]⟩⟩, ⟨⟨#[105, 110, 102, 111]⟩, 22, [], false, 0, 0, ⟨#[]⟩⟩]
set_option maxRecDepth 100000 in
set_option maxHeartbeats 8000000 in
theorem r_fault (w : World) : Calls Tryz.prog 81 #[] w (RRow rs_fault w) := by
  obtain ⟨i0, hi0, hzz⟩ := Option.map_eq_some_iff.1 Tryz.infoF
  simp only [Prod.mk.injEq] at hzz
  obtain ⟨hz0', hz1', hz2'⟩ := hzz
  have HI : Hid (i0.zero = _ ∧ i0.size = _ ∧ i0.bytes = _) := ⟨hz0', hz1', hz2'⟩
  have HI0 := hide hi0
  have HR0 : Hid (RTo rs_fault w.heap.size 0 (.slice none 0 0) w) := RTo.start _ _
  have HB0 : Hid (Below w.heap.size w w) := Below.refl _ _
  clear hz0' hz1' hz2' hi0
  go_enter Tryz.func81, Tryz.ntmps81
  go_wp2_with (first
    | (at_builtin; have HRk := HR2; obtain ⟨fs, hk, hown, hfd⟩ := HRk.out; refine wpList_append_own_at _ rfl (.tmp 10) (.tmp 12) 23 rfl w.heap.size 66 i0 _ 9 120 Tryz.underlying23 HI0.out HI.out.1 HI.out.2.1 HI.out.2.2 rfl (by decide) _ 2 (flat9 fs) rfl (hown.alloc _) ⟨w2.heap.size, 0, none⟩ 1 1 ((⟨⟨#[105, 110, 102, 111]⟩, 22, none, 0, 0, false, leaf 0 0 ⟨#[]⟩⟩ : Fd).cs.toList) rfl rfl (news9 w2 ⟨⟨#[105, 110, 102, 111]⟩, 22, none, 0, 0, false, leaf 0 0 ⟨#[]⟩⟩ _) (one9 _) (by decide) (by decide) (by have := HB2.out.size; simp <;> omega) ?_; intro v' w3 hown' hgrow _ hat; obtain ⟨g', cap', rfl⟩ := ownsRow_succ hown'; obtain ⟨hr3, hb3⟩ := RTo.next (l := rs_fault) hk hown hfd HB2.out.size (bel1 (Below.refl _ _) (Nat.le_refl _) _) ⟨⟨#[105, 110, 102, 111]⟩, 22, none, 0, 0, false, leaf 0 0 ⟨#[]⟩⟩ (by decide) (⟨rfl, rfl, rfl, rfl, rfl, rfl, fun h => absurd h (by decide)⟩) (fun b o e => by cases e) hgrow hown' hat; have HR3 := hide hr3; have HB3 : Hid (Below w.heap.size w w3) := HB2.out.trans hb3; clear hr3 hb3 hown' hgrow hat hown hfd hk)
    | (at_builtin; have HRk := HR1; obtain ⟨fs, hk, hown, hfd⟩ := HRk.out; refine wpList_append_own_at _ rfl (.tmp 6) (.tmp 8) 23 rfl w.heap.size 66 i0 _ 9 120 Tryz.underlying23 HI0.out HI.out.1 HI.out.2.1 HI.out.2.2 rfl (by decide) _ 1 (flat9 fs) rfl (hown.alloc _) ⟨w1.heap.size, 0, none⟩ 1 1 ((⟨⟨#[116, 101, 120, 116]⟩, 19, none, 0, 0, false, leaf 0 0 ⟨#[]⟩⟩ : Fd).cs.toList) rfl rfl (news9 w1 ⟨⟨#[116, 101, 120, 116]⟩, 19, none, 0, 0, false, leaf 0 0 ⟨#[]⟩⟩ _) (one9 _) (by decide) (by decide) (by have := HB1.out.size; simp <;> omega) ?_; intro v' w2 hown' hgrow _ hat; obtain ⟨g', cap', rfl⟩ := ownsRow_succ hown'; obtain ⟨hr2, hb2⟩ := RTo.next (l := rs_fault) hk hown hfd HB1.out.size (bel1 (Below.refl _ _) (Nat.le_refl _) _) ⟨⟨#[116, 101, 120, 116]⟩, 19, none, 0, 0, false, leaf 0 0 ⟨#[]⟩⟩ (by decide) (⟨rfl, rfl, rfl, rfl, rfl, rfl, fun h => absurd h (by decide)⟩) (fun b o e => by cases e) hgrow hown' hat; have HR2 := hide hr2; have HB2 : Hid (Below w.heap.size w w2) := HB1.out.trans hb2; clear hr2 hb2 hown' hgrow hat hown hfd hk)
    | (at_builtin; have HRk := HR0; obtain ⟨fs, hk, hown, hfd⟩ := HRk.out; refine wpList_append_own_at _ rfl (.tmp 2) (.tmp 4) 23 rfl w.heap.size 66 i0 _ 9 120 Tryz.underlying23 HI0.out HI.out.1 HI.out.2.1 HI.out.2.2 rfl (by decide) _ 0 (flat9 fs) rfl (hown.alloc _) ⟨w.heap.size, 0, none⟩ 1 1 ((⟨⟨#[99, 111, 110, 100]⟩, 20, none, 0, 0, true, leaf 0 0 ⟨#[]⟩⟩ : Fd).cs.toList) rfl rfl (news9 w ⟨⟨#[99, 111, 110, 100]⟩, 20, none, 0, 0, true, leaf 0 0 ⟨#[]⟩⟩ _) (one9 _) (by decide) (by decide) (by have := HB0.out.size; simp <;> omega) ?_; intro v' w1 hown' hgrow _ hat; obtain ⟨g', cap', rfl⟩ := ownsRow_succ hown'; obtain ⟨hr1, hb1⟩ := RTo.next (l := rs_fault) hk hown hfd HB0.out.size (bel1 (Below.refl _ _) (Nat.le_refl _) _) ⟨⟨#[99, 111, 110, 100]⟩, 20, none, 0, 0, true, leaf 0 0 ⟨#[]⟩⟩ (by decide) (⟨rfl, rfl, rfl, rfl, rfl, rfl, fun h => absurd h (by decide)⟩) (fun b o e => by cases e) hgrow hown' hat; have HR1 := hide hr1; have HB1 : Hid (Below w.heap.size w w1) := HB0.out.trans hb1; clear hr1 hb1 hown' hgrow hat hown hfd hk))
  go_ret
  obtain ⟨fs, h1, h2⟩ := RTo.fields (l := rs_fault) HR3.out
  exact ⟨_, _, fs, rfl, hide h1, h2, HB3.out⟩
def rs_received : List FS := [⟨⟨#[115, 101, 99, 116, 105, 111, 110]⟩, 4, [], true, 0, 0, ⟨#[]⟩⟩, ⟨⟨#[111, 102, 102, 115, 101, 116]⟩, 5, [], true, 0, 0, ⟨#[]⟩⟩]
set_option maxRecDepth 100000 in
set_option maxHeartbeats 8000000 in
theorem r_received (w : World) : Calls Tryz.prog 82 #[] w (RRow rs_received w) := by
  obtain ⟨i0, hi0, hzz⟩ := Option.map_eq_some_iff.1 Tryz.infoF
  simp only [Prod.mk.injEq] at hzz
  obtain ⟨hz0', hz1', hz2'⟩ := hzz
  have HI : Hid (i0.zero = _ ∧ i0.size = _ ∧ i0.bytes = _) := ⟨hz0', hz1', hz2'⟩
  have HI0 := hide hi0
  have HR0 : Hid (RTo rs_received w.heap.size 0 (.slice none 0 0) w) := RTo.start _ _
  have HB0 : Hid (Below w.heap.size w w) := Below.refl _ _
  clear hz0' hz1' hz2' hi0
  go_enter Tryz.func82, Tryz.ntmps82
  go_wp2_with (first
    | (at_builtin; have HRk := HR1; obtain ⟨fs, hk, hown, hfd⟩ := HRk.out; refine wpList_append_own_at _ rfl (.tmp 6) (.tmp 8) 23 rfl w.heap.size 66 i0 _ 9 120 Tryz.underlying23 HI0.out HI.out.1 HI.out.2.1 HI.out.2.2 rfl (by decide) _ 1 (flat9 fs) rfl (hown.alloc _) ⟨w1.heap.size, 0, none⟩ 1 1 ((⟨⟨#[111, 102, 102, 115, 101, 116]⟩, 5, none, 0, 0, true, leaf 0 0 ⟨#[]⟩⟩ : Fd).cs.toList) rfl rfl (news9 w1 ⟨⟨#[111, 102, 102, 115, 101, 116]⟩, 5, none, 0, 0, true, leaf 0 0 ⟨#[]⟩⟩ _) (one9 _) (by decide) (by decide) (by have := HB1.out.size; simp <;> omega) ?_; intro v' w2 hown' hgrow _ hat; obtain ⟨g', cap', rfl⟩ := ownsRow_succ hown'; obtain ⟨hr2, hb2⟩ := RTo.next (l := rs_received) hk hown hfd HB1.out.size (bel1 (Below.refl _ _) (Nat.le_refl _) _) ⟨⟨#[111, 102, 102, 115, 101, 116]⟩, 5, none, 0, 0, true, leaf 0 0 ⟨#[]⟩⟩ (by decide) (⟨rfl, rfl, rfl, rfl, rfl, rfl, fun h => absurd h (by decide)⟩) (fun b o e => by cases e) hgrow hown' hat; have HR2 := hide hr2; have HB2 : Hid (Below w.heap.size w w2) := HB1.out.trans hb2; clear hr2 hb2 hown' hgrow hat hown hfd hk)
    | (at_builtin; have HRk := HR0; obtain ⟨fs, hk, hown, hfd⟩ := HRk.out; refine wpList_append_own_at _ rfl (.tmp 2) (.tmp 4) 23 rfl w.heap.size 66 i0 _ 9 120 Tryz.underlying23 HI0.out HI.out.1 HI.out.2.1 HI.out.2.2 rfl (by decide) _ 0 (flat9 fs) rfl (hown.alloc _) ⟨w.heap.size, 0, none⟩ 1 1 ((⟨⟨#[115, 101, 99, 116, 105, 111, 110]⟩, 4, none, 0, 0, true, leaf 0 0 ⟨#[]⟩⟩ : Fd).cs.toList) rfl rfl (news9 w ⟨⟨#[115, 101, 99, 116, 105, 111, 110]⟩, 4, none, 0, 0, true, leaf 0 0 ⟨#[]⟩⟩ _) (one9 _) (by decide) (by decide) (by have := HB0.out.size; simp <;> omega) ?_; intro v' w1 hown' hgrow _ hat; obtain ⟨g', cap', rfl⟩ := ownsRow_succ hown'; obtain ⟨hr1, hb1⟩ := RTo.next (l := rs_received) hk hown hfd HB0.out.size (bel1 (Below.refl _ _) (Nat.le_refl _) _) ⟨⟨#[115, 101, 99, 116, 105, 111, 110]⟩, 4, none, 0, 0, true, leaf 0 0 ⟨#[]⟩⟩ (by decide) (⟨rfl, rfl, rfl, rfl, rfl, rfl, fun h => absurd h (by decide)⟩) (fun b o e => by cases e) hgrow hown' hat; have HR1 := hide hr1; have HB1 : Hid (Below w.heap.size w w1) := HB0.out.trans hb1; clear hr1 hb1 hown' hgrow hat hown hfd hk))
  go_ret
  obtain ⟨fs, h1, h2⟩ := RTo.fields (l := rs_received) HR2.out
  exact ⟨_, _, fs, rfl, hide h1, h2, HB2.out⟩
def rs_rejected : List FS := [⟨⟨#[102, 97, 117, 108, 116]⟩, 102, [29], false, 0, 0, ⟨#[]⟩⟩]
set_option maxRecDepth 100000 in
set_option maxHeartbeats 8000000 in
theorem r_rejected (w : World) : Calls Tryz.prog 83 #[] w (RRow rs_rejected w) := by
  obtain ⟨i0, hi0, hzz⟩ := Option.map_eq_some_iff.1 Tryz.infoF
  simp only [Prod.mk.injEq] at hzz
  obtain ⟨hz0', hz1', hz2'⟩ := hzz
  have HI : Hid (i0.zero = _ ∧ i0.size = _ ∧ i0.bytes = _) := ⟨hz0', hz1', hz2'⟩
  have HI0 := hide hi0
  have HR0 : Hid (RTo rs_rejected w.heap.size 0 (.slice none 0 0) w) := RTo.start _ _
  have HB0 : Hid (Below w.heap.size w w) := Below.refl _ _
  clear hz0' hz1' hz2' hi0
  go_enter Tryz.func83, Tryz.ntmps83
  go_wp2_with (first
    | (at_builtin; have HRk := HR0; obtain ⟨fs, hk, hown, hfd⟩ := HRk.out; refine wpList_append_own_at _ rfl (.tmp 2) (.tmp 5) 23 rfl w.heap.size 66 i0 _ 9 120 Tryz.underlying23 HI0.out HI.out.1 HI.out.2.1 HI.out.2.2 rfl (by decide) _ 0 (flat9 fs) rfl ((ownsRow_keep hown (fun g hg => HC0.out.block g (ownsRow_lt hown hg).2)).alloc _) ⟨c0.heap.size, 0, none⟩ 1 1 ((⟨⟨#[102, 97, 117, 108, 116]⟩, 102, (some ⟨w.heap.size, 0, none⟩), 1, 1, false, leaf 0 0 ⟨#[]⟩⟩ : Fd).cs.toList) rfl rfl (news9 c0 ⟨⟨#[102, 97, 117, 108, 116]⟩, 102, (some ⟨w.heap.size, 0, none⟩), 1, 1, false, leaf 0 0 ⟨#[]⟩⟩ _) (one9 _) (by decide) (by decide) (by have := HB0.out.size; have := HC0.out.size; simp <;> omega) ?_; intro v' w1 hown' hgrow _ hat; obtain ⟨g', cap', rfl⟩ := ownsRow_succ hown'; obtain ⟨hr1, hb1⟩ := RTo.next (l := rs_rejected) hk hown hfd HB0.out.size (bel1 HC0.out HC0.out.size _) ⟨⟨#[102, 97, 117, 108, 116]⟩, 102, (some ⟨w.heap.size, 0, none⟩), 1, 1, false, leaf 0 0 ⟨#[]⟩⟩ (by decide) (⟨rfl, rfl, rfl, rfl, rfl, rfl, fun _ => ⟨w.heap.size, rfl, Nat.le_refl _, by have := HD0.out.1; simp <;> omega, heap_past HD0.out.2 _⟩⟩) (fun b o e => by cases e; exact ⟨Nat.le_refl _, by have := HD0.out.1; simp <;> omega⟩) hgrow hown' hat; have HR1 := hide hr1; have HB1 : Hid (Below w.heap.size w w1) := HB0.out.trans hb1; clear hr1 hb1 hown' hgrow hat hown hfd hk)
    | (go_at_call 110; have HRk := HR0; refine Calls.mono (composite_any _ _ _ _ _) ?_; rintro e c0 ⟨rfl, hc0⟩; have HC0 : Hid (Below w.heap.size w c0) := belOn (bel1 (Below.refl _ _) (Nat.le_refl _) (.cells #[.int .i64 29] 3)) (by simp) hc0; have HD0 : Hid (w.heap.size < c0.heap.size ∧ Ints c0 w.heap.size [29]) := ⟨by have := hc0.size; simp at this; omega, (hc0.block w.heap.size (by simp)).trans (World.alloc_heap_new _ _)⟩; clear hc0))
  go_ret
  obtain ⟨fs, h1, h2⟩ := RTo.fields (l := rs_rejected) HR1.out
  exact ⟨_, _, fs, rfl, hide h1, h2, HB1.out⟩
def rs_modified : List FS := [⟨⟨#[102, 97, 105, 108, 101, 100]⟩, 1, [], false, 0, 0, ⟨#[]⟩⟩, ⟨⟨#[101, 108, 115, 101, 119, 104, 101, 114, 101]⟩, 1, [], false, 0, 0, ⟨#[]⟩⟩, ⟨⟨#[97, 110, 110]⟩, 22, [], false, 0, 0, ⟨#[]⟩⟩]
set_option maxRecDepth 100000 in
set_option maxHeartbeats 8000000 in
theorem r_modified (w : World) : Calls Tryz.prog 84 #[] w (RRow rs_modified w) := by
  obtain ⟨i0, hi0, hzz⟩ := Option.map_eq_some_iff.1 Tryz.infoF
  simp only [Prod.mk.injEq] at hzz
  obtain ⟨hz0', hz1', hz2'⟩ := hzz
  have HI : Hid (i0.zero = _ ∧ i0.size = _ ∧ i0.bytes = _) := ⟨hz0', hz1', hz2'⟩
  have HI0 := hide hi0
  have HR0 : Hid (RTo rs_modified w.heap.size 0 (.slice none 0 0) w) := RTo.start _ _
  have HB0 : Hid (Below w.heap.size w w) := Below.refl _ _
  clear hz0' hz1' hz2' hi0
  go_enter Tryz.func84, Tryz.ntmps84
  go_wp2_with (first
    | (at_builtin; have HRk := HR2; obtain ⟨fs, hk, hown, hfd⟩ := HRk.out; refine wpList_append_own_at _ rfl (.tmp 10) (.tmp 12) 23 rfl w.heap.size 66 i0 _ 9 120 Tryz.underlying23 HI0.out HI.out.1 HI.out.2.1 HI.out.2.2 rfl (by decide) _ 2 (flat9 fs) rfl (hown.alloc _) ⟨w2.heap.size, 0, none⟩ 1 1 ((⟨⟨#[97, 110, 110]⟩, 22, none, 0, 0, false, leaf 0 0 ⟨#[]⟩⟩ : Fd).cs.toList) rfl rfl (news9 w2 ⟨⟨#[97, 110, 110]⟩, 22, none, 0, 0, false, leaf 0 0 ⟨#[]⟩⟩ _) (one9 _) (by decide) (by decide) (by have := HB2.out.size; simp <;> omega) ?_; intro v' w3 hown' hgrow _ hat; obtain ⟨g', cap', rfl⟩ := ownsRow_succ hown'; obtain ⟨hr3, hb3⟩ := RTo.next (l := rs_modified) hk hown hfd HB2.out.size (bel1 (Below.refl _ _) (Nat.le_refl _) _) ⟨⟨#[97, 110, 110]⟩, 22, none, 0, 0, false, leaf 0 0 ⟨#[]⟩⟩ (by decide) (⟨rfl, rfl, rfl, rfl, rfl, rfl, fun h => absurd h (by decide)⟩) (fun b o e => by cases e) hgrow hown' hat; have HR3 := hide hr3; have HB3 : Hid (Below w.heap.size w w3) := HB2.out.trans hb3; clear hr3 hb3 hown' hgrow hat hown hfd hk)
    | (at_builtin; have HRk := HR1; obtain ⟨fs, hk, hown, hfd⟩ := HRk.out; refine wpList_append_own_at _ rfl (.tmp 6) (.tmp 8) 23 rfl w.heap.size 66 i0 _ 9 120 Tryz.underlying23 HI0.out HI.out.1 HI.out.2.1 HI.out.2.2 rfl (by decide) _ 1 (flat9 fs) rfl (hown.alloc _) ⟨w1.heap.size, 0, none⟩ 1 1 ((⟨⟨#[101, 108, 115, 101, 119, 104, 101, 114, 101]⟩, 1, none, 0, 0, false, leaf 0 0 ⟨#[]⟩⟩ : Fd).cs.toList) rfl rfl (news9 w1 ⟨⟨#[101, 108, 115, 101, 119, 104, 101, 114, 101]⟩, 1, none, 0, 0, false, leaf 0 0 ⟨#[]⟩⟩ _) (one9 _) (by decide) (by decide) (by have := HB1.out.size; simp <;> omega) ?_; intro v' w2 hown' hgrow _ hat; obtain ⟨g', cap', rfl⟩ := ownsRow_succ hown'; obtain ⟨hr2, hb2⟩ := RTo.next (l := rs_modified) hk hown hfd HB1.out.size (bel1 (Below.refl _ _) (Nat.le_refl _) _) ⟨⟨#[101, 108, 115, 101, 119, 104, 101, 114, 101]⟩, 1, none, 0, 0, false, leaf 0 0 ⟨#[]⟩⟩ (by decide) (⟨rfl, rfl, rfl, rfl, rfl, rfl, fun h => absurd h (by decide)⟩) (fun b o e => by cases e) hgrow hown' hat; have HR2 := hide hr2; have HB2 : Hid (Below w.heap.size w w2) := HB1.out.trans hb2; clear hr2 hb2 hown' hgrow hat hown hfd hk)
    | (at_builtin; have HRk := HR0; obtain ⟨fs, hk, hown, hfd⟩ := HRk.out; refine wpList_append_own_at _ rfl (.tmp 2) (.tmp 4) 23 rfl w.heap.size 66 i0 _ 9 120 Tryz.underlying23 HI0.out HI.out.1 HI.out.2.1 HI.out.2.2 rfl (by decide) _ 0 (flat9 fs) rfl (hown.alloc _) ⟨w.heap.size, 0, none⟩ 1 1 ((⟨⟨#[102, 97, 105, 108, 101, 100]⟩, 1, none, 0, 0, false, leaf 0 0 ⟨#[]⟩⟩ : Fd).cs.toList) rfl rfl (news9 w ⟨⟨#[102, 97, 105, 108, 101, 100]⟩, 1, none, 0, 0, false, leaf 0 0 ⟨#[]⟩⟩ _) (one9 _) (by decide) (by decide) (by have := HB0.out.size; simp <;> omega) ?_; intro v' w1 hown' hgrow _ hat; obtain ⟨g', cap', rfl⟩ := ownsRow_succ hown'; obtain ⟨hr1, hb1⟩ := RTo.next (l := rs_modified) hk hown hfd HB0.out.size (bel1 (Below.refl _ _) (Nat.le_refl _) _) ⟨⟨#[102, 97, 105, 108, 101, 100]⟩, 1, none, 0, 0, false, leaf 0 0 ⟨#[]⟩⟩ (by decide) (⟨rfl, rfl, rfl, rfl, rfl, rfl, fun h => absurd h (by decide)⟩) (fun b o e => by cases e) hgrow hown' hat; have HR1 := hide hr1; have HB1 : Hid (Below w.heap.size w w1) := HB0.out.trans hb1; clear hr1 hb1 hown' hgrow hat hown hfd hk))
  go_ret
  obtain ⟨fs, h1, h2⟩ := RTo.fields (l := rs_modified) HR3.out
  exact ⟨_, _, fs, rfl, hide h1, h2, HB3.out⟩
def rs_coordinator : List FS := [⟨⟨#[99, 97, 112, 115]⟩, 101, [], false, 0, 0, ⟨#[]⟩⟩]
set_option maxRecDepth 100000 in
set_option maxHeartbeats 8000000 in
theorem r_coordinator (w : World) : Calls Tryz.prog 87 #[] w (RRow rs_coordinator w) := by
  obtain ⟨i0, hi0, hzz⟩ := Option.map_eq_some_iff.1 Tryz.infoF
  simp only [Prod.mk.injEq] at hzz
  obtain ⟨hz0', hz1', hz2'⟩ := hzz
  have HI : Hid (i0.zero = _ ∧ i0.size = _ ∧ i0.bytes = _) := ⟨hz0', hz1', hz2'⟩
  have HI0 := hide hi0
  have HR0 : Hid (RTo rs_coordinator w.heap.size 0 (.slice none 0 0) w) := RTo.start _ _
  have HB0 : Hid (Below w.heap.size w w) := Below.refl _ _
  clear hz0' hz1' hz2' hi0
  go_enter Tryz.func87, Tryz.ntmps87
  go_wp2_with (first
    | (at_builtin; have HRk := HR0; obtain ⟨fs, hk, hown, hfd⟩ := HRk.out; refine wpList_append_own_at _ rfl (.tmp 2) (.tmp 4) 23 rfl w.heap.size 66 i0 _ 9 120 Tryz.underlying23 HI0.out HI.out.1 HI.out.2.1 HI.out.2.2 rfl (by decide) _ 0 (flat9 fs) rfl (hown.alloc _) ⟨w.heap.size, 0, none⟩ 1 1 ((⟨⟨#[99, 97, 112, 115]⟩, 101, none, 0, 0, false, leaf 0 0 ⟨#[]⟩⟩ : Fd).cs.toList) rfl rfl (news9 w ⟨⟨#[99, 97, 112, 115]⟩, 101, none, 0, 0, false, leaf 0 0 ⟨#[]⟩⟩ _) (one9 _) (by decide) (by decide) (by have := HB0.out.size; simp <;> omega) ?_; intro v' w1 hown' hgrow _ hat; obtain ⟨g', cap', rfl⟩ := ownsRow_succ hown'; obtain ⟨hr1, hb1⟩ := RTo.next (l := rs_coordinator) hk hown hfd HB0.out.size (bel1 (Below.refl _ _) (Nat.le_refl _) _) ⟨⟨#[99, 97, 112, 115]⟩, 101, none, 0, 0, false, leaf 0 0 ⟨#[]⟩⟩ (by decide) (⟨rfl, rfl, rfl, rfl, rfl, rfl, fun h => absurd h (by decide)⟩) (fun b o e => by cases e) hgrow hown' hat; have HR1 := hide hr1; have HB1 : Hid (Below w.heap.size w w1) := HB0.out.trans hb1; clear hr1 hb1 hown' hgrow hat hown hfd hk))
  go_ret
  obtain ⟨fs, h1, h2⟩ := RTo.fields (l := rs_coordinator) HR1.out
  exact ⟨_, _, fs, rfl, hide h1, h2, HB1.out⟩
def rs_discharge : List FS := [⟨⟨#[116, 120, 110]⟩, 18, [], true, 0, 0, ⟨#[]⟩⟩, ⟨⟨#[102, 97, 105, 108]⟩, 1, [], false, 1, 0, ⟨#[]⟩⟩]
set_option maxRecDepth 100000 in
set_option maxHeartbeats 8000000 in
theorem r_discharge (w : World) : Calls Tryz.prog 88 #[] w (RRow rs_discharge w) := by
  obtain ⟨i0, hi0, hzz⟩ := Option.map_eq_some_iff.1 Tryz.infoF
  simp only [Prod.mk.injEq] at hzz
  obtain ⟨hz0', hz1', hz2'⟩ := hzz
  have HI : Hid (i0.zero = _ ∧ i0.size = _ ∧ i0.bytes = _) := ⟨hz0', hz1', hz2'⟩
  have HI0 := hide hi0
  have HR0 : Hid (RTo rs_discharge w.heap.size 0 (.slice none 0 0) w) := RTo.start _ _
  have HB0 : Hid (Below w.heap.size w w) := Below.refl _ _
  clear hz0' hz1' hz2' hi0
  go_enter Tryz.func88, Tryz.ntmps88
  go_wp2_with (first
    | (at_builtin; have HRk := HR1; obtain ⟨fs, hk, hown, hfd⟩ := HRk.out; refine wpList_append_own_at _ rfl (.tmp 6) (.tmp 9) 23 rfl w.heap.size 66 i0 _ 9 120 Tryz.underlying23 HI0.out HI.out.1 HI.out.2.1 HI.out.2.2 rfl (by decide) _ 1 (flat9 fs) rfl (hown.alloc _) ⟨w1.heap.size, 0, none⟩ 1 1 ((⟨⟨#[102, 97, 105, 108]⟩, 1, none, 0, 0, false, leaf 1 0 ⟨#[]⟩⟩ : Fd).cs.toList) rfl rfl (news9 w1 ⟨⟨#[102, 97, 105, 108]⟩, 1, none, 0, 0, false, leaf 1 0 ⟨#[]⟩⟩ _) (one9 _) (by decide) (by decide) (by have := HB1.out.size; simp <;> omega) ?_; intro v' w2 hown' hgrow _ hat; obtain ⟨g', cap', rfl⟩ := ownsRow_succ hown'; obtain ⟨hr2, hb2⟩ := RTo.next (l := rs_discharge) hk hown hfd HB1.out.size (bel1 (Below.refl _ _) (Nat.le_refl _) _) ⟨⟨#[102, 97, 105, 108]⟩, 1, none, 0, 0, false, leaf 1 0 ⟨#[]⟩⟩ (by decide) (⟨rfl, rfl, rfl, rfl, rfl, rfl, fun h => absurd h (by decide)⟩) (fun b o e => by cases e) hgrow hown' hat; have HR2 := hide hr2; have HB2 : Hid (Below w.heap.size w w2) := HB1.out.trans hb2; clear hr2 hb2 hown' hgrow hat hown hfd hk)
    | (at_builtin; have HRk := HR0; obtain ⟨fs, hk, hown, hfd⟩ := HRk.out; refine wpList_append_own_at _ rfl (.tmp 2) (.tmp 4) 23 rfl w.heap.size 66 i0 _ 9 120 Tryz.underlying23 HI0.out HI.out.1 HI.out.2.1 HI.out.2.2 rfl (by decide) _ 0 (flat9 fs) rfl (hown.alloc _) ⟨w.heap.size, 0, none⟩ 1 1 ((⟨⟨#[116, 120, 110]⟩, 18, none, 0, 0, true, leaf 0 0 ⟨#[]⟩⟩ : Fd).cs.toList) rfl rfl (news9 w ⟨⟨#[116, 120, 110]⟩, 18, none, 0, 0, true, leaf 0 0 ⟨#[]⟩⟩ _) (one9 _) (by decide) (by decide) (by have := HB0.out.size; simp <;> omega) ?_; intro v' w1 hown' hgrow _ hat; obtain ⟨g', cap', rfl⟩ := ownsRow_succ hown'; obtain ⟨hr1, hb1⟩ := RTo.next (l := rs_discharge) hk hown hfd HB0.out.size (bel1 (Below.refl _ _) (Nat.le_refl _) _) ⟨⟨#[116, 120, 110]⟩, 18, none, 0, 0, true, leaf 0 0 ⟨#[]⟩⟩ (by decide) (⟨rfl, rfl, rfl, rfl, rfl, rfl, fun h => absurd h (by decide)⟩) (fun b o e => by cases e) hgrow hown' hat; have HR1 := hide hr1; have HB1 : Hid (Below w.heap.size w w1) := HB0.out.trans hb1; clear hr1 hb1 hown' hgrow hat hown hfd hk))
  go_ret
  obtain ⟨fs, h1, h2⟩ := RTo.fields (l := rs_discharge) HR2.out
  exact ⟨_, _, fs, rfl, hide h1, h2, HB2.out⟩
def rs_declared : List FS := [⟨⟨#[116, 120, 110]⟩, 18, [], true, 0, 0, ⟨#[]⟩⟩]
set_option maxRecDepth 100000 in
set_option maxHeartbeats 8000000 in
theorem r_declared (w : World) : Calls Tryz.prog 89 #[] w (RRow rs_declared w) := by
  obtain ⟨i0, hi0, hzz⟩ := Option.map_eq_some_iff.1 Tryz.infoF
  simp only [Prod.mk.injEq] at hzz
  obtain ⟨hz0', hz1', hz2'⟩ := hzz
  have HI : Hid (i0.zero = _ ∧ i0.size = _ ∧ i0.bytes = _) := ⟨hz0', hz1', hz2'⟩
  have HI0 := hide hi0
  have HR0 : Hid (RTo rs_declared w.heap.size 0 (.slice none 0 0) w) := RTo.start _ _
  have HB0 : Hid (Below w.heap.size w w) := Below.refl _ _
  clear hz0' hz1' hz2' hi0
  go_enter Tryz.func89, Tryz.ntmps89
  go_wp2_with (first
    | (at_builtin; have HRk := HR0; obtain ⟨fs, hk, hown, hfd⟩ := HRk.out; refine wpList_append_own_at _ rfl (.tmp 2) (.tmp 4) 23 rfl w.heap.size 66 i0 _ 9 120 Tryz.underlying23 HI0.out HI.out.1 HI.out.2.1 HI.out.2.2 rfl (by decide) _ 0 (flat9 fs) rfl (hown.alloc _) ⟨w.heap.size, 0, none⟩ 1 1 ((⟨⟨#[116, 120, 110]⟩, 18, none, 0, 0, true, leaf 0 0 ⟨#[]⟩⟩ : Fd).cs.toList) rfl rfl (news9 w ⟨⟨#[116, 120, 110]⟩, 18, none, 0, 0, true, leaf 0 0 ⟨#[]⟩⟩ _) (one9 _) (by decide) (by decide) (by have := HB0.out.size; simp <;> omega) ?_; intro v' w1 hown' hgrow _ hat; obtain ⟨g', cap', rfl⟩ := ownsRow_succ hown'; obtain ⟨hr1, hb1⟩ := RTo.next (l := rs_declared) hk hown hfd HB0.out.size (bel1 (Below.refl _ _) (Nat.le_refl _) _) ⟨⟨#[116, 120, 110]⟩, 18, none, 0, 0, true, leaf 0 0 ⟨#[]⟩⟩ (by decide) (⟨rfl, rfl, rfl, rfl, rfl, rfl, fun h => absurd h (by decide)⟩) (fun b o e => by cases e) hgrow hown' hat; have HR1 := hide hr1; have HB1 : Hid (Below w.heap.size w w1) := HB0.out.trans hb1; clear hr1 hb1 hown' hgrow hat hown hfd hk))
  go_ret
  obtain ⟨fs, h1, h2⟩ := RTo.fields (l := rs_declared) HR1.out
  exact ⟨_, _, fs, rfl, hide h1, h2, HB1.out⟩
end Go.Proofs.YtgldcchleoklcaaGreatDoor
