
/- Patterns and topics: the mathematics. -/
import Derived.Test.YtmanfakdbmlfeaaDoorProg
namespace Go.Proofs.YtmanfakdbmlfeaaDoor
set_option linter.unusedVariables false
set_option linter.unusedSimpArgs false
def bStar : ByteArray := ⟨#[42]⟩
def bHash : ByteArray := ⟨#[35]⟩
theorem star_ne : bStar ≠ bHash := by decide
/-- somewhere on -/
def anyS (f : List ByteArray → Bool) : List ByteArray → Bool
  | [] => f []
  | x :: xs => f (x :: xs) || anyS f xs
/-- can the parts be laid over the words? -/
def fitP : List ByteArray → List ByteArray → Bool
  | [], w => w.isEmpty
  | p :: ps, w => if p = bHash then anyS (fitP ps) w else match w with
    | [] => false
    | x :: xs => (decide (p = bStar) || decide (p = x)) && fitP ps xs
theorem fit_nil (w : List ByteArray) : fitP [] w = w.isEmpty := rfl
theorem fit_hash (ps w : List ByteArray) : fitP (bHash :: ps) w = anyS (fitP ps) w := by simp [fitP]
theorem fit_hash_nil (ps : List ByteArray) : fitP (bHash :: ps) [] = fitP ps [] := by rw [fit_hash]; rfl
theorem fit_hash_cons (ps : List ByteArray) (x : ByteArray) (xs : List ByteArray) : fitP (bHash :: ps) (x :: xs) = (fitP ps (x :: xs) || fitP (bHash :: ps) xs) := by rw [fit_hash, fit_hash]; rfl
theorem fit_one_nil {p : ByteArray} (h : p ≠ bHash) (ps : List ByteArray) : fitP (p :: ps) [] = false := by simp [fitP, h]
theorem fit_one_cons {p : ByteArray} (h : p ≠ bHash) (ps : List ByteArray) (x : ByteArray) (xs : List ByteArray) : fitP (p :: ps) (x :: xs) = ((decide (p = bStar) || decide (p = x)) && fitP ps xs) := by simp [fitP, h]
/-- place by place -/
def Rel (r : ByteArray → ByteArray → Prop) : List ByteArray → List ByteArray → Prop
  | [], [] => True
  | x :: xs, y :: ys => r x y ∧ Rel r xs ys
  | _, _ => False
theorem Rel.len {r : ByteArray → ByteArray → Prop} : ∀ {xs ys : List ByteArray}, Rel r xs ys → xs.length = ys.length
  | [], [], _ => rfl
  | _ :: _, _ :: _, h => by simp [Rel.len h.2]
  | [], _ :: _, h => h.elim
  | _ :: _, [], h => h.elim
theorem fit_rel (r : ByteArray → ByteArray → Prop) : ∀ (a : List ByteArray), (∀ p, p ∈ a → ∀ x y, r x y → (p = bStar ∨ p = x) → (p = bStar ∨ p = y)) → ∀ xs ys, Rel r xs ys → fitP a xs = true → fitP a ys = true := by
  intro a
  induction a with
  | nil =>
    intro _ xs ys h hf
    cases xs with
    | nil => cases ys with
      | nil => rfl
      | cons _ _ => exact h.elim
    | cons x xs => simp [fit_nil] at hf
  | cons p ps ih =>
    intro hp xs ys h hf
    have ih' := ih (fun q hq => hp q (List.mem_cons_of_mem _ hq))
    by_cases e : p = bHash
    · subst e
      induction xs generalizing ys with
      | nil =>
        cases ys with
        | nil => exact hf
        | cons _ _ => exact h.elim
      | cons x xs ihx =>
        cases ys with
        | nil => exact h.elim
        | cons y ys =>
          rw [fit_hash_cons] at hf ⊢
          rcases Bool.or_eq_true _ _ ▸ hf with h1 | h1
          · rw [ih' _ _ h h1]; rfl
          · rw [ihx ys h.2 h1, Bool.or_true]
    · cases xs with
      | nil => rw [fit_one_nil e] at hf; exact absurd hf (by decide)
      | cons x xs =>
        cases ys with
        | nil => exact h.elim
        | cons y ys =>
          rw [fit_one_cons e] at hf ⊢
          simp only [Bool.and_eq_true, Bool.or_eq_true, decide_eq_true_eq] at hf ⊢
          exact ⟨hp p (List.mem_cons_self ..) x y h.1 hf.1, ih' _ _ h.2 hf.2⟩
/-- what a pattern is spread out to: a star for each word that a hash takes -/
def Exp : List ByteArray → List ByteArray → Prop
  | [], t => t = []
  | p :: ps, t => if p = bHash then ∃ n t', t = List.replicate n bStar ++ t' ∧ Exp ps t' else ∃ t', t = p :: t' ∧ Exp ps t'
theorem exp_hash (ps t : List ByteArray) : Exp (bHash :: ps) t ↔ ∃ n t', t = List.replicate n bStar ++ t' ∧ Exp ps t' := by simp [Exp]
theorem exp_one {p : ByteArray} (h : p ≠ bHash) (ps t : List ByteArray) : Exp (p :: ps) t ↔ ∃ t', t = p :: t' ∧ Exp ps t' := by simp [Exp, h]
/-- a pattern is laid over every topic that goes on so -/
def FA (a u b : List ByteArray) : Prop := ∀ e, Exp b e → (u ++ e).length ≤ 8 → u ++ e ≠ [] → fitP a (u ++ e) = true
theorem FA.long {a u b : List ByteArray} (h : 8 < u.length) : FA a u b := fun e _ hl => by simp at hl; omega
theorem fa_nil {a u : List ByteArray} (h : u.length ≤ 8) : FA a u [] ↔ (u = [] ∨ fitP a u = true) := by
  constructor
  · intro hf
    by_cases e : u = []
    · exact .inl e
    · exact .inr (by simpa using hf [] rfl (by simpa using h) (by simpa using e))
  · rintro (rfl | hf) e he hl hn
    · cases he; exact absurd rfl hn
    · cases he; simpa using hf
theorem fa_hash {a u b : List ByteArray} : FA a u (bHash :: b) ↔ FA a u b ∧ FA a (u ++ [bStar]) (bHash :: b) := by
  constructor
  · intro hf
    refine ⟨fun e he => hf e ((exp_hash _ _).2 ⟨0, e, by simp, he⟩), fun e he hl hn => ?_⟩
    obtain ⟨n, t', rfl, ht⟩ := (exp_hash _ _).1 he
    have := hf (List.replicate (n + 1) bStar ++ t') ((exp_hash _ _).2 ⟨n + 1, t', rfl, ht⟩)
    rw [show u ++ [bStar] ++ (List.replicate n bStar ++ t') = u ++ (List.replicate (n + 1) bStar ++ t') by simp [List.replicate_succ]] at hl hn ⊢
    exact this hl hn
  · rintro ⟨h1, h2⟩ e he hl hn
    obtain ⟨n, t', rfl, ht⟩ := (exp_hash _ _).1 he
    cases n with
    | zero => exact h1 t' ht (by simpa using hl) (by simpa using hn)
    | succ n =>
      rw [show u ++ (List.replicate (n + 1) bStar ++ t') = u ++ [bStar] ++ (List.replicate n bStar ++ t') by simp [List.replicate_succ]] at hl hn ⊢
      exact h2 _ ((exp_hash _ _).2 ⟨n, t', rfl, ht⟩) hl hn
theorem fa_one {a u b : List ByteArray} {p : ByteArray} (hp : p ≠ bHash) : FA a u (p :: b) ↔ FA a (u ++ [p]) b := by
  constructor
  · intro hf e he hl hn
    rw [show u ++ [p] ++ e = u ++ (p :: e) by simp] at hl hn ⊢
    exact hf _ ((exp_one hp _ _).2 ⟨e, rfl, he⟩) hl hn
  · intro hf e he hl hn
    obtain ⟨t', rfl, ht⟩ := (exp_one hp _ _).1 he
    rw [show u ++ (p :: t') = u ++ [p] ++ t' by simp] at hl hn ⊢
    exact hf _ ht hl hn
/-- a byte of a word -/
def lb (c : Nat) : Bool := decide (97 ≤ c ∧ c ≤ 122) || decide (48 ≤ c ∧ c ≤ 57) || decide (c = 45)
def ltr (c : UInt8) : Bool := lb c.toNat
/-- a word -/
def Wd (s : ByteArray) : Prop := 1 ≤ s.size ∧ s.size ≤ 32 ∧ ∀ c, c ∈ s.data.toList → ltr c = true
theorem Wd.nstar {s : ByteArray} (h : Wd s) : s ≠ bStar := fun e => by subst e; exact absurd (h.2.2 42 (by decide)) (by decide)
theorem Wd.nhash {s : ByteArray} (h : Wd s) : s ≠ bHash := fun e => by subst e; exact absurd (h.2.2 35 (by decide)) (by decide)
/-- a part -/
def Pt (s : ByteArray) : Prop := Wd s ∨ s = bStar ∨ s = bHash
def hashes (l : List ByteArray) : Nat := (l.filter (fun p => decide (p = bHash))).length
def Pat (l : List ByteArray) : Prop := l ≠ [] ∧ l.length ≤ 8 ∧ (∀ p, p ∈ l → Pt p) ∧ hashes l ≤ 2
def Top (l : List ByteArray) : Prop := l ≠ [] ∧ l.length ≤ 8 ∧ ∀ p, p ∈ l → Wd p
theorem Top.pat {l : List ByteArray} (h : Top l) : Pat l := ⟨h.1, h.2.1, fun p hp => .inl (h.2.2 p hp), by
  unfold hashes
  rw [List.filter_eq_nil_iff.2 (fun p hp => by simp [(h.2.2 p hp).nhash])]
  exact Nat.zero_le _⟩
def Cov (a b : List ByteArray) : Prop := ∀ t, Top t → fitP b t = true → fitP a t = true
/-- more general -/
def gnr (x y : ByteArray) : Prop := x = y ∨ x = bStar
theorem rel_refl {r : ByteArray → ByteArray → Prop} (h : ∀ x, r x x) : ∀ l, Rel r l l
  | [] => trivial
  | x :: xs => ⟨h x, rel_refl h xs⟩
theorem rel_app {r : ByteArray → ByteArray → Prop} : ∀ {a b c d : List ByteArray}, Rel r a b → Rel r c d → Rel r (a ++ c) (b ++ d)
  | [], [], _, _, _, h => h
  | _ :: _, _ :: _, _, _, h, h' => ⟨h.1, rel_app h.2 h'⟩
  | [], _ :: _, _, _, h, _ => h.elim
  | _ :: _, [], _, _, h, _ => h.elim
theorem exp_of_fit : ∀ (b t : List ByteArray), fitP b t = true → ∃ e, Exp b e ∧ Rel gnr e t := by
  intro b
  induction b with
  | nil =>
    intro t h
    cases t with
    | nil => exact ⟨[], rfl, trivial⟩
    | cons _ _ => simp [fit_nil] at h
  | cons p ps ih =>
    intro t h
    by_cases e : p = bHash
    · subst e
      induction t with
      | nil =>
        obtain ⟨e, he, hr⟩ := ih [] (by rwa [fit_hash_nil] at h)
        exact ⟨e, (exp_hash _ _).2 ⟨0, e, by simp, he⟩, hr⟩
      | cons x xs ihx =>
        rw [fit_hash_cons] at h
        rcases Bool.or_eq_true _ _ ▸ h with h1 | h1
        · obtain ⟨e, he, hr⟩ := ih _ h1
          exact ⟨e, (exp_hash _ _).2 ⟨0, e, by simp, he⟩, hr⟩
        · obtain ⟨e, he, hr⟩ := ihx h1
          obtain ⟨n, t', rfl, ht⟩ := (exp_hash _ _).1 he
          exact ⟨bStar :: (List.replicate n bStar ++ t'), (exp_hash _ _).2 ⟨n + 1, t', by simp [List.replicate_succ], ht⟩, .inr rfl, hr⟩
    · cases t with
      | nil => rw [fit_one_nil e] at h; exact absurd h (by decide)
      | cons x xs =>
        rw [fit_one_cons e] at h
        simp only [Bool.and_eq_true, Bool.or_eq_true, decide_eq_true_eq] at h
        obtain ⟨e', he, hr⟩ := ih _ h.2
        exact ⟨p :: e', (exp_one e _ _).2 ⟨e', rfl, he⟩, h.1.elim .inr .inl, hr⟩
theorem fit_skip (ps : List ByteArray) : ∀ (l t : List ByteArray), fitP ps t = true → fitP (bHash :: ps) (l ++ t) = true := by
  intro l
  induction l with
  | nil =>
    intro t h
    cases t with
    | nil => rw [List.nil_append, fit_hash_nil]; exact h
    | cons x xs => rw [List.nil_append, fit_hash_cons, h]; rfl
  | cons x xs ih =>
    intro t h
    rw [List.cons_append, fit_hash_cons, ih t h, Bool.or_true]
def fill (z x : ByteArray) : ByteArray := if x = bStar then z else x
theorem fit_fill (z : ByteArray) : ∀ (b e : List ByteArray), Exp b e → fitP b (e.map (fill z)) = true := by
  intro b
  induction b with
  | nil => intro e h; cases h; rfl
  | cons p ps ih =>
    intro e h
    by_cases c : p = bHash
    · subst c
      obtain ⟨n, t', rfl, ht⟩ := (exp_hash _ _).1 h
      rw [List.map_append]
      exact fit_skip _ _ _ (ih _ ht)
    · obtain ⟨t', rfl, ht⟩ := (exp_one c _ _).1 h
      rw [List.map_cons, fit_one_cons c, ih _ ht, Bool.and_true]
      by_cases d : p = bStar
      · simp [d]
      · simp [fill, d]
theorem exp_mem : ∀ (b e : List ByteArray), Exp b e → ∀ x, x ∈ e → x = bStar ∨ (x ∈ b ∧ x ≠ bHash) := by
  intro b
  induction b with
  | nil => intro e h x hx; cases h; cases hx
  | cons p ps ih =>
    intro e h x hx
    by_cases c : p = bHash
    · subst c
      obtain ⟨n, t', rfl, ht⟩ := (exp_hash _ _).1 h
      rcases List.mem_append.1 hx with h1 | h1
      · exact .inl (List.eq_of_mem_replicate h1)
      · rcases ih _ ht x h1 with h2 | h2
        · exact .inl h2
        · exact .inr ⟨List.mem_cons_of_mem _ h2.1, h2.2⟩
    · obtain ⟨t', rfl, ht⟩ := (exp_one c _ _).1 h
      rcases List.mem_cons.1 hx with h1 | h1
      · subst h1; exact .inr ⟨List.mem_cons_self .., c⟩
      · rcases ih _ ht x h1 with h2 | h2
        · exact .inl h2
        · exact .inr ⟨List.mem_cons_of_mem _ h2.1, h2.2⟩
theorem nodup_sub_le {α : Type} [DecidableEq α] : ∀ (l m : List α), l.Nodup → (∀ x, x ∈ l → x ∈ m) → l.length ≤ m.length := by
  intro l
  induction l with
  | nil => intro m _ _; exact Nat.zero_le _
  | cons x xs ih =>
    intro m hn hs
    have h1 := List.nodup_cons.1 hn
    have hx := hs x (List.mem_cons_self ..)
    have := ih (m.erase x) h1.2 (fun y hy => (List.mem_erase_of_ne (fun e => by subst e; exact h1.1 hy)).2 (hs y (List.mem_cons_of_mem _ hy)))
    rw [List.length_erase_of_mem hx] at this
    have := List.length_pos_of_mem hx
    simp only [List.length_cons]
    omega
theorem fresh (a : List ByteArray) (h : a.length ≤ 8) : ∃ z, Wd z ∧ z ∉ a := by
  let ws : List ByteArray := [⟨#[97]⟩, ⟨#[98]⟩, ⟨#[99]⟩, ⟨#[100]⟩, ⟨#[101]⟩, ⟨#[102]⟩, ⟨#[103]⟩, ⟨#[104]⟩, ⟨#[105]⟩]
  have hw : ∀ z, z ∈ ws → Wd z := by
    intro z hz
    simp only [ws, List.mem_cons, List.not_mem_nil, or_false] at hz
    rcases hz with rfl | rfl | rfl | rfl | rfl | rfl | rfl | rfl | rfl <;> exact ⟨by decide, by decide, by intro c hc; simp at hc; subst hc; decide⟩
  refine Classical.byContradiction fun hn => ?_
  have : ws.length ≤ a.length := nodup_sub_le ws a (by decide) (fun z hz => Classical.byContradiction fun hna => hn ⟨z, hw z hz, hna⟩)
  have e : ws.length = 9 := rfl
  omega
theorem rel_fill {a : List ByteArray} (z : ByteArray) : ∀ (e : List ByteArray), Rel (fun x y => x = y ∨ (x = z ∧ y = bStar)) (e.map (fill z)) e
  | [] => trivial
  | x :: xs => ⟨by
      by_cases h : x = bStar
      · exact .inr ⟨by simp [fill, h], h⟩
      · exact .inl (by simp [fill, h]), rel_fill (a := a) z xs⟩
theorem cov_iff {a b : List ByteArray} (ha : Pat a) (hb : Pat b) : FA a [] b ↔ Cov a b := by
  constructor
  · intro hf t ht hfit
    obtain ⟨e, he, hr⟩ := exp_of_fit b t hfit
    have hl := hr.len
    refine fit_rel gnr a ?_ e t hr (hf e he (by rw [List.nil_append, hl]; exact ht.2.1) ?_)
    · rintro p _ x y (rfl | rfl) h
      · exact h
      · exact .inl (h.elim id id)
    · intro e0
      rw [List.nil_append] at e0
      subst e0
      exact ht.1 (List.eq_nil_of_length_eq_zero hl.symm)
  · intro hc e he hl hn
    rw [List.nil_append] at hl hn ⊢
    obtain ⟨z, hz, hza⟩ := fresh a ha.2.1
    have hf := hc (e.map (fill z)) ⟨by simpa using hn, by simpa using hl, by
      intro p hp
      obtain ⟨x, hx, rfl⟩ := List.mem_map.1 hp
      by_cases c : x = bStar
      · simp [fill, c, hz]
      · simp only [fill, c, if_false]
        rcases exp_mem b e he x hx with h1 | ⟨h1, h2⟩
        · exact absurd h1 c
        · rcases hb.2.2.1 x h1 with h3 | h3 | h3
          · exact h3
          · exact absurd h3 c
          · exact absurd h3 h2⟩ (fit_fill z b e he)
    refine fit_rel _ a ?_ _ _ (rel_fill (a := a) z e) hf
    rintro p hp x y (rfl | ⟨rfl, rfl⟩) h
    · exact h
    · rcases h with h | h
      · exact .inl h
      · subst h; exact absurd hp hza
theorem Cov.refl (a : List ByteArray) : Cov a a := fun _ _ h => h
theorem Cov.trans {a b c : List ByteArray} (h : Cov a b) (h' : Cov b c) : Cov a c := fun t ht hf => h t ht (h' t ht hf)
theorem cov_hash (a : List ByteArray) : Cov [bHash] a := fun t _ _ => by
  have := fit_skip [] t [] rfl
  rwa [List.append_nil] at this
theorem exp_top : ∀ {t e : List ByteArray}, (∀ p, p ∈ t → Wd p) → (Exp t e ↔ e = t) := by
  intro t
  induction t with
  | nil => intro e _; exact Iff.rfl
  | cons p ps ih =>
    intro e h
    rw [exp_one (h p (List.mem_cons_self ..)).nhash]
    constructor
    · rintro ⟨t', rfl, ht⟩
      rw [(ih (fun q hq => h q (List.mem_cons_of_mem _ hq))).1 ht]
    · rintro rfl
      exact ⟨ps, rfl, (ih (fun q hq => h q (List.mem_cons_of_mem _ hq))).2 rfl⟩
theorem fa_top {a t : List ByteArray} (h : Top t) : FA a [] t ↔ fitP a t = true := by
  constructor
  · intro hf
    exact hf t ((exp_top h.2.2).2 rfl) h.2.1 h.1
  · intro hf e he _ _
    rw [(exp_top h.2.2).1 he]
    exact hf
end Go.Proofs.YtmanfakdbmlfeaaDoor
