
/- The document's way to see that a pattern lacks a topic: places of a pattern, words that matter. -/
import Derived.Test.YtmanfakdbmlfeaaDoorRPiece
namespace Go.Proofs.YtmanfakdbmlfeaaDoor
set_option linter.unusedVariables false
set_option linter.unusedSimpArgs false
theorem fit_app : ∀ (ps qs t : List ByteArray), fitP (ps ++ qs) t = true ↔ ∃ a b, t = a ++ b ∧ fitP ps a = true ∧ fitP qs b = true := by
  intro ps
  induction ps with
  | nil =>
    intro qs t
    constructor
    · intro h; exact ⟨[], t, rfl, rfl, h⟩
    · rintro ⟨a, b, rfl, h1, h2⟩
      cases a with
      | nil => exact h2
      | cons _ _ => simp [fit_nil] at h1
  | cons p ps ih =>
    intro qs t
    by_cases e : p = bHash
    · subst e
      rw [List.cons_append]
      induction t with
      | nil =>
        rw [fit_hash_nil, ih]
        constructor
        · rintro ⟨a, b, h, h1, h2⟩
          refine ⟨a, b, h, ?_, h2⟩
          have : a = [] := (List.append_eq_nil_iff.1 h.symm).1
          subst this
          rw [fit_hash_nil]; exact h1
        · rintro ⟨a, b, h, h1, h2⟩
          refine ⟨a, b, h, ?_, h2⟩
          have : a = [] := (List.append_eq_nil_iff.1 h.symm).1
          subst this
          rw [fit_hash_nil] at h1; exact h1
      | cons x xs ihx =>
        rw [fit_hash_cons, Bool.or_eq_true, ih, ihx]
        constructor
        · rintro (⟨a, b, h, h1, h2⟩ | ⟨a, b, h, h1, h2⟩)
          · exact ⟨a, b, h, by have := fit_skip ps [] a h1; simpa using this, h2⟩
          · exact ⟨x :: a, b, by rw [h]; rfl, by rw [fit_hash_cons, h1, Bool.or_true], h2⟩
        · rintro ⟨a, b, h, h1, h2⟩
          cases a with
          | nil => exact .inl ⟨[], b, h, by rwa [fit_hash_nil] at h1, h2⟩
          | cons y ys =>
            rw [List.cons_append, List.cons.injEq] at h
            obtain ⟨rfl, rfl⟩ := h
            rw [fit_hash_cons, Bool.or_eq_true] at h1
            rcases h1 with h1 | h1
            · exact .inl ⟨x :: ys, b, rfl, h1, h2⟩
            · exact .inr ⟨ys, b, rfl, h1, h2⟩
    · rw [List.cons_append]
      cases t with
      | nil =>
        rw [fit_one_nil e]
        constructor
        · intro h; exact absurd h (by decide)
        · rintro ⟨a, b, h, h1, h2⟩
          have : a = [] := (List.append_eq_nil_iff.1 h.symm).1
          subst this
          rw [fit_one_nil e] at h1
          exact absurd h1 (by decide)
      | cons x xs =>
        rw [fit_one_cons e, Bool.and_eq_true, ih]
        constructor
        · rintro ⟨h0, a, b, rfl, h1, h2⟩
          exact ⟨x :: a, b, rfl, by rw [fit_one_cons e, h0, h1]; rfl, h2⟩
        · rintro ⟨a, b, h, h1, h2⟩
          cases a with
          | nil => rw [fit_one_nil e] at h1; exact absurd h1 (by decide)
          | cons y ys =>
            rw [List.cons_append, List.cons.injEq] at h
            obtain ⟨rfl, rfl⟩ := h
            rw [fit_one_cons e, Bool.and_eq_true] at h1
            exact ⟨h1.1, ys, b, rfl, h1.2, h2⟩
theorem fit_all (t : List ByteArray) : fitP [bHash] t = true := by
  have := fit_skip [] t [] rfl
  rwa [List.append_nil] at this
theorem snoc_hash (ps u : List ByteArray) (w : ByteArray) : fitP (ps ++ [bHash]) (u ++ [w]) = (fitP ps (u ++ [w]) || fitP (ps ++ [bHash]) u) := by
  rw [Bool.eq_iff_iff, Bool.or_eq_true, fit_app, fit_app]
  constructor
  · rintro ⟨a, b, h, h1, h2⟩
    rcases List.eq_nil_or_concat b with rfl | ⟨b', y, rfl⟩
    · rw [List.append_nil] at h
      rw [h]; exact .inl h1
    · rw [List.concat_eq_append, ← List.append_assoc] at h
      obtain ⟨h3, h4⟩ := List.append_inj' h rfl
      exact .inr ⟨a, b', h3, h1, fit_all _⟩
  · rintro (h | ⟨a, b, h, h1, h2⟩)
    · exact ⟨u ++ [w], [], by simp, h, fit_all _⟩
    · exact ⟨a, b ++ [w], by rw [h]; simp, h1, fit_all _⟩
theorem fit_single {p : ByteArray} (hp : p ≠ bHash) (t : List ByteArray) : fitP [p] t = true ↔ ∃ x, t = [x] ∧ (p = bStar ∨ p = x) := by
  cases t with
  | nil => rw [fit_one_nil hp]; simp
  | cons x xs =>
    rw [fit_one_cons hp, fit_nil]
    cases xs with
    | nil => simp
    | cons _ _ => simp
theorem snoc_one {p : ByteArray} (hp : p ≠ bHash) (ps u : List ByteArray) (w : ByteArray) : fitP (ps ++ [p]) (u ++ [w]) = ((decide (p = bStar) || decide (p = w)) && fitP ps u) := by
  rw [Bool.eq_iff_iff, fit_app]
  simp only [Bool.and_eq_true, Bool.or_eq_true, decide_eq_true_eq]
  constructor
  · rintro ⟨a, b, h, h1, h2⟩
    obtain ⟨x, rfl, hx⟩ := (fit_single hp b).1 h2
    obtain ⟨h3, h4⟩ := List.append_inj' h rfl
    rw [List.cons.injEq] at h4
    rw [h3, h4.1]
    exact ⟨hx, h1⟩
  · rintro ⟨h1, h2⟩
    exact ⟨u, [w], rfl, h2, (fit_single hp _).2 ⟨w, rfl, h1⟩⟩
theorem snoc_hash_nil (ps : List ByteArray) : fitP (ps ++ [bHash]) [] = fitP ps [] := by
  rw [Bool.eq_iff_iff, fit_app]
  constructor
  · rintro ⟨a, b, h, h1, h2⟩
    have : a = [] := (List.append_eq_nil_iff.1 h.symm).1
    subst this
    exact h1
  · intro h; exact ⟨[], [], rfl, h, rfl⟩
theorem snoc_one_nil {p : ByteArray} (hp : p ≠ bHash) (ps : List ByteArray) : fitP (ps ++ [p]) [] = false := by
  rw [Bool.eq_false_iff]
  intro h
  obtain ⟨a, b, h, h1, h2⟩ := (fit_app _ _ _).1 h
  have : b = [] := (List.append_eq_nil_iff.1 h.symm).2
  subst this
  rw [fit_one_nil hp] at h2
  exact absurd h2 (by decide)
/-- a place of a pattern that words lead to -/
def AtP (a u : List ByteArray) (k : Nat) : Bool := if a[k]? = some bHash then fitP (a.take (k + 1)) u else fitP (a.take k) u
theorem take_snoc {a : List ByteArray} {j : Nat} {p : ByteArray} (h : a[j]? = some p) : a.take (j + 1) = a.take j ++ [p] := by
  rw [List.take_add_one, h]; rfl
theorem atP_zero (a u : List ByteArray) (w : ByteArray) : AtP a (u ++ [w]) 0 = (decide (a[0]? = some bHash) && AtP a u 0) := by
  unfold AtP
  by_cases h : a[0]? = some bHash
  · rw [if_pos h, if_pos h, take_snoc h, List.take_zero, List.nil_append, fit_all, fit_all]; simp [h]
  · rw [if_neg h, if_neg h, List.take_zero, fit_nil]; simp [h]
theorem atP_hash {a u : List ByteArray} {j : Nat} (h : a[j]? = some bHash) (hn : a[j + 1]? ≠ some bHash) : AtP a u (j + 1) = AtP a u j := by
  simp [AtP, h, hn]
theorem atP_succ {a u : List ByteArray} {w p : ByteArray} {j : Nat} (hj : a[j]? = some p) : AtP a (u ++ [w]) (j + 1) = ((decide (p = bHash) && AtP a (u ++ [w]) j) || (decide (p ≠ bHash) && (decide (p = bStar) || decide (p = w)) && AtP a u j) || (decide (a[j + 1]? = some bHash) && AtP a u (j + 1))) := by
  by_cases hp : p = bHash
  · subst hp
    by_cases hn : a[j + 1]? = some bHash
    · have e1 : AtP a (u ++ [w]) (j + 1) = (fitP (a.take (j + 1)) (u ++ [w]) || fitP (a.take (j + 1 + 1)) u) := by
        unfold AtP
        rw [if_pos hn, take_snoc hn, snoc_hash]
      rw [e1]
      have e2 : AtP a (u ++ [w]) j = fitP (a.take (j + 1)) (u ++ [w]) := by simp [AtP, hj]
      have e3 : AtP a u (j + 1) = fitP (a.take (j + 1 + 1)) u := by simp [AtP, hn]
      rw [e2, e3]; simp [hn]
    · rw [atP_hash hj hn]; simp [hn]
  · have hj' : a[j]? ≠ some bHash := by rw [hj]; simpa using hp
    have e2 : AtP a u j = fitP (a.take j) u := by unfold AtP; rw [if_neg hj']
    by_cases hn : a[j + 1]? = some bHash
    · have e1 : AtP a (u ++ [w]) (j + 1) = (fitP (a.take (j + 1)) (u ++ [w]) || fitP (a.take (j + 1 + 1)) u) := by
        unfold AtP
        rw [if_pos hn, take_snoc hn, snoc_hash]
      have e3 : AtP a u (j + 1) = fitP (a.take (j + 1 + 1)) u := by simp [AtP, hn]
      rw [e1, take_snoc hj, snoc_one hp, e2, e3]
      simp [hp, hn]
    · have e1 : AtP a (u ++ [w]) (j + 1) = fitP (a.take (j + 1)) (u ++ [w]) := by unfold AtP; rw [if_neg hn]
      rw [e1, take_snoc hj, snoc_one hp, e2]
      simp [hp, hn]
theorem atN_zero (a : List ByteArray) : AtP a [] 0 = true := by
  unfold AtP
  by_cases h : a[0]? = some bHash
  · rw [if_pos h, take_snoc h, List.take_zero, List.nil_append, fit_all]
  · rw [if_neg h, List.take_zero]; rfl
theorem atN_succ {a : List ByteArray} {p : ByteArray} {j : Nat} (hj : a[j]? = some p) : AtP a [] (j + 1) = (decide (p = bHash) && AtP a [] j) := by
  have e1 : AtP a [] (j + 1) = fitP (a.take (j + 1)) [] := by
    unfold AtP
    by_cases h : a[j + 1]? = some bHash
    · rw [if_pos h, take_snoc h, snoc_hash_nil]
    · rw [if_neg h]
  by_cases hp : p = bHash
  · subst hp
    rw [e1]
    simp [AtP, hj]
  · rw [e1, take_snoc hj, snoc_one_nil hp]; simp [hp]
theorem at_end (a u : List ByteArray) : AtP a u a.length = fitP a u := by simp [AtP]
/-- there is a way on to a topic that the second one fits and the first one does not -/
def Lk (ws a b u : List ByteArray) : Prop := ∃ t, (∀ x, x ∈ t → x ∈ ws) ∧ (u ++ t).length ≤ 8 ∧ u ++ t ≠ [] ∧ fitP b t = true ∧ fitP a (u ++ t) = false
theorem lk_nil {ws a u : List ByteArray} (hu : u.length ≤ 8) : Lk ws a [] u ↔ (u ≠ [] ∧ fitP a u = false) := by
  constructor
  · rintro ⟨t, h1, h2, h3, h4, h5⟩
    cases t with
    | nil => rw [List.append_nil] at h3 h5; exact ⟨h3, h5⟩
    | cons _ _ => simp [fit_nil] at h4
  · rintro ⟨h1, h2⟩
    exact ⟨[], by simp, by simpa using hu, by simpa using h1, rfl, by simpa using h2⟩
theorem lk_hash {ws a b u : List ByteArray} : Lk ws a (bHash :: b) u ↔ Lk ws a b u ∨ (u.length < 8 ∧ ∃ w, w ∈ ws ∧ Lk ws a (bHash :: b) (u ++ [w])) := by
  constructor
  · rintro ⟨t, h1, h2, h3, h4, h5⟩
    cases t with
    | nil => exact .inl ⟨[], h1, h2, h3, by rwa [fit_hash_nil] at h4, h5⟩
    | cons x xs =>
      rw [fit_hash_cons, Bool.or_eq_true] at h4
      rcases h4 with h4 | h4
      · exact .inl ⟨x :: xs, h1, h2, h3, h4, h5⟩
      · refine .inr ⟨by simp at h2; omega, x, h1 x (List.mem_cons_self ..), xs, fun y hy => h1 y (List.mem_cons_of_mem _ hy), by simpa using h2, by simp, h4, ?_⟩
        rw [← h5]; simp
  · rintro (⟨t, h1, h2, h3, h4, h5⟩ | ⟨_, w, hw, t, h1, h2, h3, h4, h5⟩)
    · exact ⟨t, h1, h2, h3, by have := fit_skip b [] t h4; simpa using this, h5⟩
    · refine ⟨w :: t, ?_, by simpa using h2, by simp, by rw [fit_hash_cons, h4, Bool.or_true], by rw [← h5]; simp⟩
      intro x hx
      rcases List.mem_cons.1 hx with rfl | h
      · exact hw
      · exact h1 x h
theorem lk_one {ws a b u : List ByteArray} {p : ByteArray} (hp : p ≠ bHash) : Lk ws a (p :: b) u ↔ (u.length < 8 ∧ ∃ w, w ∈ ws ∧ (p = bStar ∨ p = w) ∧ Lk ws a b (u ++ [w])) := by
  constructor
  · rintro ⟨t, h1, h2, h3, h4, h5⟩
    cases t with
    | nil => rw [fit_one_nil hp] at h4; exact absurd h4 (by decide)
    | cons x xs =>
      rw [fit_one_cons hp] at h4
      simp only [Bool.and_eq_true, Bool.or_eq_true, decide_eq_true_eq] at h4
      refine ⟨by simp at h2; omega, x, h1 x (List.mem_cons_self ..), h4.1, xs, fun y hy => h1 y (List.mem_cons_of_mem _ hy), by simpa using h2, by simp, h4.2, ?_⟩
      rw [← h5]; simp
  · rintro ⟨_, w, hw, hm, t, h1, h2, h3, h4, h5⟩
    refine ⟨w :: t, ?_, by simpa using h2, by simp, ?_, by rw [← h5]; simp⟩
    · intro x hx
      rcases List.mem_cons.1 hx with rfl | h
      · exact hw
      · exact h1 x h
    · rw [fit_one_cons hp, h4, Bool.and_true]
      simpa using hm
def decMem (x : ByteArray) (ws : List ByteArray) : Decidable (x ∈ ws) := decidable_of_iff (ws.any (fun z => decide (z = x)) = true) (by simp)
/-- the words that matter -/
def alk (out : List ByteArray) : List ByteArray → List ByteArray
  | [] => out
  | p :: ps => alk (haveI := decMem p out; if p = bStar ∨ p = bHash ∨ p ∈ out then out else out ++ [p]) ps
theorem alk_mem : ∀ (ps out : List ByteArray) (x : ByteArray), x ∈ alk out ps ↔ x ∈ out ∨ (x ∈ ps ∧ x ≠ bStar ∧ x ≠ bHash) := by
  intro ps
  induction ps with
  | nil => intro out x; simp [alk]
  | cons p ps ih =>
    intro out x
    rw [alk, ih]
    by_cases h : p = bStar ∨ p = bHash ∨ p ∈ out
    · rw [if_pos h]
      constructor
      · rintro (h1 | ⟨h1, h2⟩)
        · exact .inl h1
        · exact .inr ⟨List.mem_cons_of_mem _ h1, h2⟩
      · rintro (h1 | ⟨h1, h2⟩)
        · exact .inl h1
        · rcases List.mem_cons.1 h1 with rfl | h3
          · rcases h with h | h | h
            · exact absurd h h2.1
            · exact absurd h h2.2
            · exact .inl h
          · exact .inr ⟨h3, h2⟩
    · rw [if_neg h]
      constructor
      · rintro (h1 | ⟨h1, h2⟩)
        · rcases List.mem_append.1 h1 with h3 | h3
          · exact .inl h3
          · rw [List.mem_singleton] at h3
            subst h3
            exact .inr ⟨List.mem_cons_self .., fun e => h (.inl e), fun e => h (.inr (.inl e))⟩
        · exact .inr ⟨List.mem_cons_of_mem _ h1, h2⟩
      · rintro (h1 | ⟨h1, h2⟩)
        · exact .inl (List.mem_append_left _ h1)
        · rcases List.mem_cons.1 h1 with rfl | h3
          · exact .inl (List.mem_append_right _ (List.mem_singleton.2 rfl))
          · exact .inr ⟨h3, h2⟩
def bNone : ByteArray := ⟨#[]⟩
theorem Wd.nnone {s : ByteArray} (h : Wd s) : s ≠ bNone := fun e => by subst e; exact absurd h.1 (by decide)
def wsOf (a : List ByteArray) : List ByteArray := alk [bNone] a
/-- a word, as it matters; a part, likewise -/
def col (ws : List ByteArray) (x : ByteArray) : ByteArray := haveI := decMem x ws; if x ∈ ws then x else bNone
def colp (ws : List ByteArray) (x : ByteArray) : ByteArray := haveI := decMem x ws; if x = bStar ∨ x = bHash ∨ x ∈ ws then x else bNone
theorem colp_word {ws : List ByteArray} {p : ByteArray} (h1 : p ≠ bStar) (h2 : p ≠ bHash) : colp ws p = col ws p := by
  unfold colp col
  by_cases d : p ∈ ws
  · rw [if_pos d, if_pos (.inr (.inr d))]
  · rw [if_neg d, if_neg (fun h => h.elim h1 (fun h => h.elim h2 d))]
theorem col_fit (ws : List ByteArray) (hw : ∀ x, x ∈ ws → x ≠ bStar ∧ x ≠ bHash) : ∀ (b t : List ByteArray), (∀ x, x ∈ t → Wd x) → fitP b t = true → fitP (b.map (colp ws)) (t.map (col ws)) = true := by
  intro b
  induction b with
  | nil =>
    intro t _ h
    cases t with
    | nil => rfl
    | cons _ _ => simp [fit_nil] at h
  | cons p ps ih =>
    intro t ht h
    by_cases e : p = bHash
    · subst e
      have e1 : colp ws bHash = bHash := by simp [colp]
      rw [List.map_cons, e1]
      induction t with
      | nil =>
        rw [List.map_nil, fit_hash_nil]
        rw [fit_hash_nil] at h
        exact ih [] (by simp) h
      | cons x xs ihx =>
        rw [List.map_cons, fit_hash_cons]
        rw [fit_hash_cons, Bool.or_eq_true] at h
        rcases h with h | h
        · have := ih (x :: xs) ht h
          rw [List.map_cons] at this
          rw [this]; rfl
        · rw [ihx (fun y hy => ht y (List.mem_cons_of_mem _ hy)) h, Bool.or_true]
    · cases t with
      | nil => rw [fit_one_nil e] at h; exact absurd h (by decide)
      | cons x xs =>
        rw [fit_one_cons e] at h
        simp only [Bool.and_eq_true, Bool.or_eq_true, decide_eq_true_eq] at h
        have hx := ht x (List.mem_cons_self ..)
        have e1 : colp ws p ≠ bHash := by
          unfold colp
          by_cases c : p = bStar ∨ p = bHash ∨ p ∈ ws
          · rw [if_pos c]; exact e
          · rw [if_neg c]; decide
        rw [List.map_cons, List.map_cons, fit_one_cons e1, ih xs (fun y hy => ht y (List.mem_cons_of_mem _ hy)) h.2, Bool.and_true]
        simp only [Bool.or_eq_true, decide_eq_true_eq]
        rcases h.1 with h1 | h1
        · exact .inl (by simp [colp, h1])
        · subst h1
          refine .inr ?_
          exact colp_word hx.nstar hx.nhash
theorem col_back (ws : List ByteArray) (z : ByteArray) (hz : Wd z) (hzw : z ∉ ws) (hw : ∀ x, x ∈ ws → x = bNone ∨ Wd x) : ∀ (b t : List ByteArray), (∀ p, p ∈ b → Pt p) → (∀ x, x ∈ t → x ∈ ws) → fitP (b.map (colp ws)) t = true → ∃ t', (∀ x, x ∈ t' → Wd x) ∧ Rel (fun x y => y = col ws x) t' t ∧ fitP b t' = true := by
  intro b
  have real : ∀ w, w ∈ ws → ∃ x, Wd x ∧ w = col ws x := by
    intro w h
    rcases hw w h with rfl | h1
    · exact ⟨z, hz, by simp [col, hzw]⟩
    · exact ⟨w, h1, by simp [col, h]⟩
  induction b with
  | nil =>
    intro t _ _ h
    cases t with
    | nil => exact ⟨[], by simp, trivial, rfl⟩
    | cons _ _ => simp [fit_nil] at h
  | cons p ps ih =>
    intro t hb ht h
    have hb' : ∀ q, q ∈ ps → Pt q := fun q hq => hb q (List.mem_cons_of_mem _ hq)
    by_cases e : p = bHash
    · subst e
      have e1 : colp ws bHash = bHash := by simp [colp]
      rw [List.map_cons, e1] at h
      induction t with
      | nil =>
        rw [fit_hash_nil] at h
        obtain ⟨t', h1, h2, h3⟩ := ih [] hb' (by simp) h
        exact ⟨t', h1, h2, by have := fit_skip ps [] t' h3; simpa using this⟩
      | cons x xs ihx =>
        rw [fit_hash_cons, Bool.or_eq_true] at h
        rcases h with h | h
        · obtain ⟨t', h1, h2, h3⟩ := ih _ hb' ht h
          exact ⟨t', h1, h2, by have := fit_skip ps [] t' h3; simpa using this⟩
        · obtain ⟨t', h1, h2, h3⟩ := ihx (fun y hy => ht y (List.mem_cons_of_mem _ hy)) h
          obtain ⟨y, hy, hc⟩ := real x (ht x (List.mem_cons_self ..))
          refine ⟨y :: t', ?_, ⟨hc, h2⟩, by rw [fit_hash_cons, h3, Bool.or_true]⟩
          intro v hv
          rcases List.mem_cons.1 hv with rfl | h4
          · exact hy
          · exact h1 v h4
    · have e1 : colp ws p ≠ bHash := by
        unfold colp
        by_cases c : p = bStar ∨ p = bHash ∨ p ∈ ws
        · rw [if_pos c]; exact e
        · rw [if_neg c]; decide
      cases t with
      | nil => rw [List.map_cons, fit_one_nil e1] at h; exact absurd h (by decide)
      | cons x xs =>
        rw [List.map_cons, fit_one_cons e1] at h
        simp only [Bool.and_eq_true, Bool.or_eq_true, decide_eq_true_eq] at h
        obtain ⟨t', h1, h2, h3⟩ := ih xs hb' (fun y hy => ht y (List.mem_cons_of_mem _ hy)) h.2
        have hx := ht x (List.mem_cons_self ..)
        obtain ⟨y, hy, hc, hm⟩ : ∃ y, Wd y ∧ x = col ws y ∧ (p = bStar ∨ p = y) := by
          by_cases c : p = bStar
          · obtain ⟨y, hy, hc⟩ := real x hx
            exact ⟨y, hy, hc, .inl c⟩
          · have hpw : Wd p := by
              rcases hb p (List.mem_cons_self ..) with h4 | h4 | h4
              · exact h4
              · exact absurd h4 c
              · exact absurd h4 e
            have hcp : colp ws p = col ws p := colp_word c e
            rcases h.1 with h4 | h4
            · exfalso
              rw [hcp] at h4
              unfold col at h4
              by_cases d : p ∈ ws
              · rw [if_pos d] at h4; exact c h4
              · rw [if_neg d] at h4; exact absurd h4 (by decide)
            · exact ⟨p, hpw, by rw [← h4, hcp], .inr rfl⟩
        refine ⟨y :: t', ?_, ⟨hc, h2⟩, by rw [fit_one_cons e, h3, Bool.and_true]; simpa using hm⟩
        intro v hv
        rcases List.mem_cons.1 hv with rfl | h4
        · exact hy
        · exact h1 v h4
theorem rel_col (ws : List ByteArray) : ∀ (t : List ByteArray), Rel (fun y x => y = col ws x) (t.map (col ws)) t
  | [] => trivial
  | _ :: xs => ⟨rfl, rel_col ws xs⟩
theorem lk_iff {a b : List ByteArray} (ha : Pat a) (hb : Pat b) : Lk (wsOf a) a (b.map (colp (wsOf a))) [] ↔ ¬ Cov a b := by
  have hmem : ∀ x, x ∈ wsOf a ↔ x = bNone ∨ (x ∈ a ∧ x ≠ bStar ∧ x ≠ bHash) := fun x => by
    unfold wsOf
    rw [alk_mem, List.mem_singleton]
  have hws : ∀ x, x ∈ wsOf a → x = bNone ∨ Wd x := fun x hx => by
    rcases (hmem x).1 hx with h | ⟨h, h1, h2⟩
    · exact .inl h
    · rcases ha.2.2.1 x h with h3 | h3 | h3
      · exact .inr h3
      · exact absurd h3 h1
      · exact absurd h3 h2
  constructor
  · rintro ⟨t, h1, h2, h3, h4, h5⟩ hc
    rw [List.nil_append] at h2 h3 h5
    obtain ⟨z, hz, hza⟩ := fresh a ha.2.1
    have hzw : z ∉ wsOf a := fun h => by
      rcases (hmem z).1 h with h | h
      · exact hz.nnone h
      · exact hza h.1
    obtain ⟨t', g1, g2, g3⟩ := col_back (wsOf a) z hz hzw hws b t hb.2.2.1 h1 h4
    have hl := g2.len
    have := hc t' ⟨fun e => by subst e; exact h3 (List.eq_nil_of_length_eq_zero hl.symm), by omega, g1⟩ g3
    have h6 : fitP a t = true := by
      refine fit_rel (fun x y => y = col (wsOf a) x ∧ Wd x) a ?_ t' t ?_ this
      · rintro p hp x y ⟨rfl, hx⟩ h
        rcases h with h | h
        · exact .inl h
        · subst h
          refine .inr ?_
          have : p ∈ wsOf a := (hmem p).2 (.inr ⟨hp, hx.nstar, hx.nhash⟩)
          simp [col, this]
      · clear this h5 h4 g3 hl h3 h2
        induction t' generalizing t with
        | nil => cases t with
          | nil => trivial
          | cons _ _ => exact g2.elim
        | cons x xs ihx => cases t with
          | nil => exact g2.elim
          | cons y ys => exact ⟨⟨g2.1, g1 x (List.mem_cons_self ..)⟩, ihx ys (fun v hv => h1 v (List.mem_cons_of_mem _ hv)) (fun v hv => g1 v (List.mem_cons_of_mem _ hv)) g2.2⟩
    rw [h6] at h5
    exact absurd h5 (by decide)
  · intro hn
    refine Classical.byContradiction fun hl => hn fun t ht hf => ?_
    rw [← Bool.not_eq_false]
    intro hfa
    refine hl ⟨t.map (col (wsOf a)), ?_, by simpa using ht.2.1, by simpa using ht.1, ?_, ?_⟩
    · intro x hx
      obtain ⟨y, _, rfl⟩ := List.mem_map.1 hx
      unfold col
      by_cases c : y ∈ wsOf a
      · rw [if_pos c]; exact c
      · rw [if_neg c]; exact (hmem _).2 (.inl rfl)
    · refine col_fit _ ?_ b t ht.2.2 hf
      intro x hx
      rcases hws x hx with rfl | h
      · exact ⟨by decide, by decide⟩
      · exact ⟨h.nstar, h.nhash⟩
    · rw [List.nil_append, ← Bool.not_eq_true]
      intro h
      have := fit_rel (fun y x => y = col (wsOf a) x) a ?_ _ _ (rel_col (wsOf a) t) h
      · rw [this] at hfa; exact absurd hfa (by decide)
      · rintro p hp y x rfl h
        rcases h with h | h
        · exact .inl h
        · by_cases c : x ∈ wsOf a
          · simp only [col, c, if_true] at h
            exact .inr h
          · simp only [col, c, if_false] at h
            rcases ha.2.2.1 p hp with h3 | h3 | h3
            · exact absurd h h3.nnone
            · exact .inl h3
            · rw [h3] at h; exact absurd h (by decide)
end Go.Proofs.YtmanfakdbmlfeaaDoor
