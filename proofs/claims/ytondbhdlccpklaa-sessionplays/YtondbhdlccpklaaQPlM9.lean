import Derived.Test.YtondbhdlccpklaaQStp2M9
import Derived.Test.YtondbhdlccpklaaQStaM9

/- SessionPlays: two pairs of sessions and the book. -/
namespace Go.Proofs.Ytondbhdlccpklaa
open Go.RowKit Go.Maps
set_option linter.unusedVariables false
set_option linter.unusedSimpArgs false

theorem new_ok {ki iw no ow hm : Int} {n : Nat} (hf : four ki iw no ow hm = true) : (newSn iw no ow hm n).ok := by
  simp [four, isW] at hf
  refine ⟨?_, ?_, ?_, ?_, ?_, ?_, ?_, ?_, ?_, ?_⟩ <;> simp [newSn] <;> omega
theorem std_new {w : World} {n g' : Nat} {ki iw no ow hm : Int} (hf : four ki iw no ow hm = true) (a : Ses w (n + 4) (newSn iw no ow hm n) [] [] [] []) (b : RB w g' (newSn iw no ow hm 0) nilS nilS nilS nilS) (hg : n + 4 < g') :
    Std w (n + 4) g' (fun k => n ≤ k ∧ k < w.heap.size) := by
  have hn : ∀ x : Nat, nilS.ownBlock ≠ some x := fun x e => by cases e
  have nilA : ∀ v, apartV nilS v := fun v k e => by cases e
  have hb := (Array.getElem?_eq_some_iff.1 b).1
  refine ⟨newSn iw no ow hm n, [], [], [], [], nilS, nilS, nilS, nilS, [], [], [], [], ⟨a, ⟨b.any, ⟨rfl, .inl ⟨rfl, rfl⟩⟩, ⟨rfl, .inl ⟨rfl, rfl⟩⟩, ⟨rfl, .inl ⟨rfl, rfl⟩⟩, ⟨rfl, .inl ⟨rfl, rfl⟩⟩, nilA _, nilA _, nilA _, nilA _, nilA _, nilA _⟩, ?_, new_ok hf, ?_⟩, ?_, ?_, fun k e => e.2⟩
  · rintro k (rfl | e | e | e | e) hk
    · rcases hk with e | e | e | e | e <;> (try simp only [newSn] at e) <;> omega
    all_goals exact absurd e (hn k)
  · exact ⟨List.Perm.refl _, List.Perm.refl _, List.Perm.refl _, List.Perm.refl _, List.nodup_nil, List.nodup_nil, List.nodup_nil, List.nodup_nil, fun q h => (by cases h), fun q h => (by cases h), fun q h => (by cases h), fun q h => (by cases h), fun _ _ h => (by cases h), fun _ _ h => (by cases h), fun q h => (by cases h)⟩
  · exact ⟨Nat.zero_le _, fun p h => by cases h⟩
  · rintro k (e | e)
    · refine ⟨?_, a.ltB e⟩
      rcases e with e | e | e | e | e <;> (try simp only [newSn] at e) <;> omega
    · rcases e with rfl | e | e | e | e
      · exact ⟨by omega, hb⟩
      all_goals exact absurd e (hn k)
/-- New at both -/
theorem news_yes (o : Opd) (hf : four o.bk o.b o.a o.c o.d = true) (w : World) : ∃ M : Nat → World → Prop, Calls Try.prog 11 #[.agg o.begin] w (fun e w1 => ∃ g, e = .returned (.pointer (some ⟨g, 0, none⟩)) ∧ M g w1 ∧ Below w.heap.size w w1) ∧ ∀ g w1, M g w1 → Calls Try.prog 12 #[.agg o.begin] w1 fun e w2 => ∃ g', e = .returned (.pointer (some ⟨g', 0, none⟩)) ∧ (∃ B, Std w2 g g' B ∧ ∀ k, B k → w.heap.size ≤ k) ∧ Below w1.heap.size w1 w2 := by
  refine ⟨fun g w1 => ∃ n, g = n + 4 ∧ w.heap.size ≤ n ∧ Ses w1 (n + 4) (newSn o.b o.a o.c o.d n) [] [] [] [], (new_yes o.begin o.bk 0 o.b o.a o.c o.d (begin_pf o) hf w).mono ?_, ?_⟩
  · rintro e w1 ⟨n, rfl, h1, h2, h3⟩
    exact ⟨n + 4, rfl, ⟨n, rfl, h1, h2⟩, h3⟩
  · rintro g w1 ⟨n, rfl, h1, h2⟩
    refine (rnew_yes o.begin o.bk 0 o.b o.a o.c o.d (begin_pf o) hf w1).mono ?_
    rintro e w2 ⟨g', rfl, h3, h4, h5⟩
    refine ⟨g', rfl, ⟨_, std_new hf (h2.below h5) h4 ?_, fun k e => Nat.le_trans h1 e.1⟩, h5⟩
    have := h2.sb.lt
    omega
theorem bok_new (w : World) : Bok (w.alloc (.cells #[.int .i64 0, .slice none 0 0, .slice none 0 0] 54)) w.heap.size 0 (fun k => k = w.heap.size) := by
  refine ⟨[], [], .slice none 0 0, .slice none 0 0, ⟨heap_alloc_last w _, ⟨rfl, .inl ⟨rfl, rfl⟩⟩, ⟨rfl, .inl ⟨rfl, rfl⟩⟩, fun v h => (by cases h), fun v h => (by cases h), fun i v u h => (by simp at h), fun k e => (by cases e), fun v h => (by rcases h with h | h <;> cases h), List.Pairwise.nil⟩, rfl, Nat.le_refl _, fun k e => ?_, fun k e => by subst e; simp⟩
  rcases e with e | e | e | ⟨v, h, e⟩
  · exact e
  · cases e
  · cases e
  · rcases h with h | h <;> cases h
/-- two pairs, the book, behind j steps -/
def Pl (w0 wr : World) (s t u v kb j : Nat) : Prop := ∃ B1 B2 D N, Std wr s t B1 ∧ Std wr u v B2 ∧ Bok wr kb N D ∧ N ≤ j ∧ (∀ k, B1 k → ¬ B2 k) ∧ (∀ k, B1 k → ¬ D k) ∧ (∀ k, B2 k → ¬ D k) ∧ (∀ k, B1 k ∨ B2 k ∨ D k → w0.heap.size ≤ k) ∧ Below w0.heap.size w0 wr
section
variable {w0 wr : World} {s t u v kb j : Nat}
theorem Pl.swap (h : Pl w0 wr s t u v kb j) : Pl w0 wr u v s t kb j := by
  obtain ⟨B1, B2, D, N, h1, h2, h3, h4, h5, h6, h7, h8, h9⟩ := h
  exact ⟨B2, B1, D, N, h2, h1, h3, h4, fun k e e' => h5 k e' e, h7, h6, fun k e => h8 k (by rcases e with e | e | e; exact .inr (.inl e); exact .inl e; exact .inr (.inr e)), h9⟩
theorem Pl.step (h : Pl w0 wr s t u v kb j) (hj : j ≤ 2000000000000) (o : Opd) (ho : o.wf) :
    Calls Try.prog 18 #[.pointer (some ⟨kb, 0, none⟩), .pointer (some ⟨s, 0, none⟩), .pointer (some ⟨t, 0, none⟩), .agg o.cells] wr fun e w' => e = .returned (.bool true) ∧ Pl w0 w' s t u v kb (j + 1) := by
  obtain ⟨B1, B2, D, N, h1, h2, h3, h4, h5, h6, h7, h8, h9⟩ := h
  refine (step_any kb N o ho h1 h3 h6 (by omega)).mono ?_
  rintro e w' ⟨e1, B', D', N', a1, a2, a3, a4, a5, a6, a7⟩
  refine ⟨e1, B', B2, D', N', a1, h2.keep a4 fun k e e' => ?_, a2, by omega, fun k e e' => ?_, a7, fun k e e' => ?_, fun k e => ?_, h9.trans (a4.toBelow h9.size fun k hk e => ?_)⟩
  · rcases e' with e' | e'
    · exact h5 k e' e
    · exact h7 k e e'
  · rcases a5 k e with e2 | e2
    · exact h5 k e2 e'
    · have := h2.out e'
      omega
  · rcases a6 k e' with e2 | e2
    · exact h7 k e e2
    · have := h2.out e
      omega
  · have hs := h9.size
    rcases e with e | e | e
    · rcases a5 k e with e2 | e2
      · exact h8 k (.inl e2)
      · omega
    · exact h8 k (.inr (.inl e))
    · rcases a6 k e with e2 | e2
      · exact h8 k (.inr (.inr e2))
      · omega
  · rcases e with e | e
    · have := h8 k (.inl e)
      omega
    · have := h8 k (.inr (.inr e))
      omega
/-- at the end -/
theorem Pl.ends (h : Pl w0 wr s t u v kb j) (hj : j ≤ 1954687338220) :
    Calls Try.prog 19 #[.pointer (some ⟨kb, 0, none⟩)] wr fun e w' => e = .returned (.bool true) ∧ (∃ B, Std w' s t B) ∧ (∃ B, Std w' u v B) ∧ Below w0.heap.size w0 w' := by
  obtain ⟨B1, B2, D, N, h1, h2, h3, h4, h5, h6, h7, h8, h9⟩ := h
  refine (stands_any kb N D wr h3 (by omega)).mono ?_
  rintro e w' ⟨e1, k1⟩
  exact ⟨e1, ⟨B1, h1.keep k1 h6⟩, ⟨B2, h2.keep k1 h7⟩, h9.trans (k1.toBelow h9.size fun k hk e => by have := h8 k (.inr (.inr e)); omega)⟩
theorem Pl.start {w7 : World} {B1 B2 : Nat → Prop} (h1 : Std w7 s t B1) (h2 : Std w7 u v B2) (h5 : ∀ k, B1 k → ¬ B2 k) (h8 : ∀ k, B1 k ∨ B2 k → w0.heap.size ≤ k) (h9 : Below w0.heap.size w0 w7) : Pl w0 (w7.alloc (.cells #[.int .i64 0, .slice none 0 0, .slice none 0 0] 54)) s t u v w7.heap.size 0 := by
  have hb := bel1 (Below.refl w7.heap.size w7) (Nat.le_refl _) (.cells #[.int .i64 0, .slice none 0 0, .slice none 0 0] 54)
  refine ⟨B1, B2, _, 0, h1.below hb, h2.below hb, bok_new w7, Nat.le_refl _, h5, fun k e e' => ?_, fun k e e' => ?_, fun k e => ?_, bel1 h9 h9.size _⟩
  · have := h1.out e
    omega
  · have := h2.out e
    omega
  · rcases e with e | e | e
    · exact h8 k (.inl e)
    · exact h8 k (.inr e)
    · have := h9.size
      omega
end
end Go.Proofs.Ytondbhdlccpklaa
