
/- Values as trees, and their order: no program. -/
import Derived.Test.YtiplidljlegcgaaVTree
namespace Go.Proofs.Ytiplidljlegcgaa
set_option linter.unusedSimpArgs false
set_option linter.unusedVariables false
/-- a value as the document sees it: a tree whose lists have no place -/
abbrev T := V
def T.of (k n : Int) (s : ByteArray) (e : Int) (l : List T) : T := V.of k n s none 0 e l

/-- of two numbers -/
def cmpZ (a b : Int) : Int := if a < b then -1 else if b < a then 1 else 0
/-- of two texts -/
def cmpB : List UInt8 → List UInt8 → Int
  | [], [] => 0
  | [], _ :: _ => -1
  | _ :: _, [] => 1
  | a :: x, b :: y => if a < b then -1 else if b < a then 1 else cmpB x y
def lex (a b : Int) : Int := if a = 0 then b else a

def ordsW : List (T → Int) → List T → Int
  | [], [] => 0
  | [], _ :: _ => -1
  | _ :: _, [] => 1
  | f :: l, y :: m => lex (f y) (ordsW l m)
def T.ord : T → T → Int := V.fold (fun p fs u => lex (cmpZ p.k u.k) (lex (cmpZ p.n u.n) (lex (cmpB p.s.toList u.s.toList) (lex (ordsW fs u.l) (cmpZ p.e u.e))))) (fun _ => 0)
def T.ords : List T → List T → Int
  | [], [] => 0
  | [], _ :: _ => -1
  | _ :: _, [] => 1
  | x :: l, y :: m => lex (T.ord x y) (T.ords l m)
theorem ordsW_map (l m : List T) : ordsW (l.map T.ord) m = T.ords l m := by
  induction l generalizing m with
  | nil => cases m <;> rfl
  | cons x l ih => cases m with
    | nil => rfl
    | cons y m => rw [List.map_cons, ordsW, T.ords, ih]
theorem T.ord_of (k n : Int) (s : ByteArray) (a : Option Addr) (c : Nat) (e : Int) (l : List V) (u : T) :
    T.ord (V.of k n s a c e l) u = lex (cmpZ k u.k) (lex (cmpZ n u.n) (lex (cmpB s.toList u.s.toList) (lex (T.ords l u.l) (cmpZ e u.e)))) := by
  rw [← ordsW_map]
  unfold T.ord
  rw [V.fold_of]

/-- it is -1, 0 or 1 -/
def Sgn (a : Int) : Prop := a = -1 ∨ a = 0 ∨ a = 1
theorem sgn_lex {a b : Int} (ha : Sgn a) (hb : Sgn b) : Sgn (lex a b) := by unfold lex; split <;> assumption
theorem sgn_cmpZ (a b : Int) : Sgn (cmpZ a b) := by unfold cmpZ Sgn; split <;> (try split) <;> simp
theorem sgn_cmpB (x y : List UInt8) : Sgn (cmpB x y) := by
  induction x generalizing y with
  | nil => cases y <;> simp [cmpB, Sgn]
  | cons a x ih => cases y with
    | nil => simp [cmpB, Sgn]
    | cons b y => unfold cmpB; split <;> (try split) <;> first | exact ih _ | simp [Sgn]
theorem sgn_ords (l : List T) (h : ∀ x ∈ l, ∀ u, Sgn (T.ord x u)) : ∀ m, Sgn (T.ords l m) := by
  induction l with
  | nil => intro m; cases m <;> simp [T.ords, Sgn]
  | cons x l ih =>
    intro m
    cases m with
    | nil => simp [T.ords, Sgn]
    | cons y m =>
      rw [T.ords]
      exact sgn_lex (h x (by simp) y) (ih (fun z hz => h z (by simp [hz])) m)
theorem sgn_ord : ∀ t u : T, Sgn (T.ord t u) := by
  refine V.ind ?_
  intro k n s a c e l ih u
  rw [T.ord_of]
  exact sgn_lex (sgn_cmpZ _ _) (sgn_lex (sgn_cmpZ _ _) (sgn_lex (sgn_cmpB _ _) (sgn_lex (sgn_ords l ih _) (sgn_cmpZ _ _))))

theorem neg_lex {a b a' b' : Int} (ha : a' = -a) (hb : b' = -b) : lex a' b' = -lex a b := by
  unfold lex; split <;> split <;> omega
theorem neg_cmpZ (a b : Int) : cmpZ b a = -cmpZ a b := by unfold cmpZ; split <;> split <;> (try split) <;> omega
theorem neg_cmpB (x y : List UInt8) : cmpB y x = -cmpB x y := by
  induction x generalizing y with
  | nil => cases y <;> simp [cmpB]
  | cons a x ih => cases y with
    | nil => simp [cmpB]
    | cons b y =>
      unfold cmpB
      by_cases h1 : a < b
      · have h2 : ¬ b < a := by simp [UInt8.lt_iff_toNat_lt] at *; omega
        rw [if_pos h1, if_neg h2, if_pos h1]; rfl
      · by_cases h2 : b < a
        · rw [if_pos h2, if_neg h1, if_pos h2]
        · rw [if_neg h2, if_neg h1, if_neg h1, if_neg h2]; exact ih y
theorem neg_ords (l : List T) (h : ∀ x ∈ l, ∀ u, T.ord u x = -T.ord x u) : ∀ m, T.ords m l = -T.ords l m := by
  induction l with
  | nil => intro m; cases m <;> simp [T.ords]
  | cons x l ih =>
    intro m
    cases m with
    | nil => simp [T.ords]
    | cons y m =>
      rw [T.ords, T.ords]
      exact neg_lex (h x (by simp) y) (ih (fun z hz => h z (by simp [hz])) m)
theorem neg_ord : ∀ t u : T, T.ord u t = -T.ord t u := by
  refine V.ind ?_
  intro k n s a c e l ih u
  obtain ⟨k', n', s', a', c', e', l', rfl⟩ := V.ex u
  rw [T.ord_of, T.ord_of, V.l_of, V.l_of]
  exact neg_lex (neg_cmpZ _ _) (neg_lex (neg_cmpZ _ _) (neg_lex (neg_cmpB _ _) (neg_lex (neg_ords l ih _) (neg_cmpZ _ _))))

/-- how three answers stand together -/
def Tri (x y z : Int) : Prop := (x ≤ 0 → y ≤ 0 → z ≤ 0 ∧ (z = 0 ↔ x = 0 ∧ y = 0)) ∧ (0 ≤ x → 0 ≤ y → 0 ≤ z ∧ (z = 0 ↔ x = 0 ∧ y = 0))
theorem tri_lex {x y z x' y' z' : Int} (h : Tri x y z) (h' : Tri x' y' z') : Tri (lex x x') (lex y y') (lex z z') := by
  obtain ⟨h1, h2⟩ := h
  obtain ⟨h3, h4⟩ := h'
  unfold lex
  constructor
  · intro p q
    have p' : x ≤ 0 := by split at p <;> omega
    have q' : y ≤ 0 := by split at q <;> omega
    have hz := h1 p' q'
    by_cases a : x = 0 <;> by_cases b : y = 0
    · rw [if_pos a] at p ⊢
      rw [if_pos b] at q ⊢
      rw [if_pos (by omega)]
      exact h3 p q
    · rw [if_neg b, if_neg (by omega)]
      omega
    · rw [if_neg a, if_neg (by omega)]
      omega
    · rw [if_neg a, if_neg (by omega)]
      omega
  · intro p q
    have p' : 0 ≤ x := by split at p <;> omega
    have q' : 0 ≤ y := by split at q <;> omega
    have hz := h2 p' q'
    by_cases a : x = 0 <;> by_cases b : y = 0
    · rw [if_pos a] at p ⊢
      rw [if_pos b] at q ⊢
      rw [if_pos (by omega)]
      exact h4 p q
    · rw [if_neg b, if_neg (by omega)]
      omega
    · rw [if_neg a, if_neg (by omega)]
      omega
    · rw [if_neg a, if_neg (by omega)]
      omega
theorem tri_cmpZ (a b c : Int) : Tri (cmpZ a b) (cmpZ b c) (cmpZ a c) := by
  unfold Tri cmpZ
  by_cases h1 : a < b <;> by_cases h2 : b < c <;> by_cases h3 : a < c <;> by_cases h4 : b < a <;> by_cases h5 : c < b <;> by_cases h6 : c < a <;> simp [h1, h2, h3, h4, h5, h6] <;> omega
theorem tri_cmpB (x y z : List UInt8) : Tri (cmpB x y) (cmpB y z) (cmpB x z) := by
  induction x generalizing y z with
  | nil => cases y <;> cases z <;> simp [cmpB, Tri]
  | cons a x ih =>
    cases y with
    | nil => cases z <;> simp [cmpB, Tri]
    | cons b y =>
      cases z with
      | nil => simp [cmpB, Tri]
      | cons c z =>
        have h := tri_lex (tri_cmpZ a.toNat b.toNat c.toNat) (ih y z)
        have e : ∀ (p q : UInt8) (l m : List UInt8), cmpB (p :: l) (q :: m) = lex (cmpZ p.toNat q.toNat) (cmpB l m) := by
          intro p q l m
          rw [cmpB]
          unfold lex cmpZ
          by_cases h1 : p < q
          · have : (p.toNat : Int) < q.toNat := by simp [UInt8.lt_iff_toNat_lt] at h1; omega
            simp [h1, this]
          · by_cases h2 : q < p
            · have e2 : (q.toNat : Int) < p.toNat := by simp [UInt8.lt_iff_toNat_lt] at h2; omega
              have e1 : ¬ (p.toNat : Int) < q.toNat := by omega
              simp [h1, h2, e1, e2]
            · have e2 : ¬ (q.toNat : Int) < p.toNat := by simp [UInt8.lt_iff_toNat_lt] at h2; omega
              have e1 : ¬ (p.toNat : Int) < q.toNat := by simp [UInt8.lt_iff_toNat_lt] at h1; omega
              simp [h1, h2, e1, e2]
        rw [e, e, e]
        exact h
theorem tri_ords (l : List T) (h : ∀ x ∈ l, ∀ u v, Tri (T.ord x u) (T.ord u v) (T.ord x v)) : ∀ m p, Tri (T.ords l m) (T.ords m p) (T.ords l p) := by
  induction l with
  | nil => intro m p; cases m <;> cases p <;> simp [T.ords, Tri]
  | cons x l ih =>
    intro m p
    cases m with
    | nil => cases p <;> simp [T.ords, Tri]
    | cons y m =>
      cases p with
      | nil => simp [T.ords, Tri]
      | cons z p =>
        rw [T.ords, T.ords, T.ords]
        exact tri_lex (h x (by simp) y z) (ih (fun z hz => h z (by simp [hz])) m p)
theorem tri_ord : ∀ t u v : T, Tri (T.ord t u) (T.ord u v) (T.ord t v) := by
  refine V.ind ?_
  intro k n s a c e l ih u v
  obtain ⟨k', n', s', a', c', e', l', rfl⟩ := V.ex u
  rw [T.ord_of, T.ord_of, T.ord_of, V.l_of]
  exact tri_lex (tri_cmpZ _ _ _) (tri_lex (tri_cmpZ _ _ _) (tri_lex (tri_cmpB _ _ _) (tri_lex (tri_ords l ih _ _) (tri_cmpZ _ _ _))))

/-- what the texts' own tests say -/
theorem cmpB_less (x y : List UInt8) : Op.bytesLess x y = decide (cmpB x y = -1) := by
  induction x generalizing y with
  | nil => cases y <;> simp [Op.bytesLess, cmpB]
  | cons a x ih =>
    cases y with
    | nil => simp [Op.bytesLess, cmpB]
    | cons b y =>
      unfold Op.bytesLess cmpB
      by_cases h1 : a < b
      · simp [h1]
      · by_cases h2 : b < a
        · have hne : (a == b) = false := by
            simp [UInt8.lt_iff_toNat_lt] at h2 ⊢
            intro h; rw [h] at h2; omega
          simp [h1, h2, hne]
        · have he : a = b := by
            have : a.toNat = b.toNat := by simp [UInt8.lt_iff_toNat_lt] at h1 h2; omega
            exact UInt8.toNat_inj.1 this
          subst he
          simp [h1, ih]
theorem cmpB_zero (x y : List UInt8) : cmpB x y = 0 ↔ x = y := by
  induction x generalizing y with
  | nil => cases y <;> simp [cmpB]
  | cons a x ih =>
    cases y with
    | nil => simp [cmpB]
    | cons b y =>
      unfold cmpB
      by_cases h1 : a < b
      · simp [h1]
        intro h; subst h; simp [UInt8.lt_iff_toNat_lt] at h1
      · by_cases h2 : b < a
        · simp [h1, h2]
          intro h; subst h; simp [UInt8.lt_iff_toNat_lt] at h2
        · have he : a = b := by
            have : a.toNat = b.toNat := by simp [UInt8.lt_iff_toNat_lt] at h1 h2; omega
            exact UInt8.toNat_inj.1 this
          subst he
          simp [h1, ih]
end Go.Proofs.Ytiplidljlegcgaa
