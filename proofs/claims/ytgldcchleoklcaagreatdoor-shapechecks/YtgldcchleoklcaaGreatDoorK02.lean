/- VTree, VMath -/
import GoSem.ClaimJoined
import GoSem.Op.String
namespace Go.Proofs.YtgldcchleoklcaaGreatDoor

set_option linter.unusedVariables false
set_option linter.unusedSimpArgs false
/-- a node's own words: its five fields, the list by its place and its room -/
structure Pl where
  k : Int
  n : Int
  s : ByteArray
  a : Option Addr
  c : Nat
  e : Int
/-- is a datum a tree, that is, each of its parts a row of trees with one node's words behind it? -/
def wfD : DataW Pl → Bool
  | .slice l [.held _] => (l.map wfD).all id
  | _ => false
/-- a value with its lists' places -/
structure V where
  d : DataW Pl
  h : wfD d = true
def kidsD : DataW Pl → List (DataW Pl)
  | .slice l [.held _] => l
  | _ => []
def plD : DataW Pl → Pl
  | .slice _ [.held p] => p
  | _ => ⟨0, 0, ⟨#[]⟩, none, 0, 0⟩
theorem wfD_kids {d : DataW Pl} (h : wfD d = true) : d = .slice (kidsD d) [.held (plD d)] ∧ ∀ x ∈ kidsD d, wfD x = true := by
  rw [wfD.eq_def] at h
  split at h
  · refine ⟨rfl, fun x hx => ?_⟩
    have h1 := List.all_eq_true.1 h (wfD x) (List.mem_map.2 ⟨x, hx, rfl⟩)
    exact h1
  · cases h
theorem wfD_mk {l : List (DataW Pl)} {p : Pl} (h : ∀ x ∈ l, wfD x = true) : wfD (.slice l [.held p]) = true := by
  rw [wfD]
  refine List.all_eq_true.2 fun b hb => ?_
  obtain ⟨x, hx, rfl⟩ := List.mem_map.1 hb
  exact h x hx

namespace V
def k (v : V) : Int := (plD v.d).k
def n (v : V) : Int := (plD v.d).n
def s (v : V) : ByteArray := (plD v.d).s
def a (v : V) : Option Addr := (plD v.d).a
def c (v : V) : Nat := (plD v.d).c
def e (v : V) : Int := (plD v.d).e
def l (v : V) : List V := (kidsD v.d).attach.map fun x => ⟨x.1, (wfD_kids v.h).2 x.1 x.2⟩
def mk' (p : Pl) (l : List V) : V := ⟨.slice (l.map V.d) [.held p], wfD_mk (fun x hx => by obtain ⟨y, _, rfl⟩ := List.mem_map.1 hx; exact y.h)⟩
def of (k n : Int) (s : ByteArray) (a : Option Addr) (c : Nat) (e : Int) (l : List V) : V := mk' ⟨k, n, s, a, c, e⟩ l
theorem same_d {x y : V} (h : x.d = y.d) : x = y := by cases x; cases y; cases h; rfl
theorem l_d (v : V) : v.l.map V.d = kidsD v.d := by
  unfold l
  rw [List.map_map]
  exact List.attach_map_subtype_val (kidsD v.d)
theorem map_d {l m : List V} (h : l.map V.d = m.map V.d) : l = m := by
  induction l generalizing m with
  | nil => cases m with
    | nil => rfl
    | cons y m => simp at h
  | cons x l ih => cases m with
    | nil => simp at h
    | cons y m =>
      simp only [List.map_cons, List.cons.injEq] at h
      rw [same_d h.1, ih h.2]
theorem l_of (k n : Int) (s : ByteArray) (a : Option Addr) (c : Nat) (e : Int) (l : List V) : (V.of k n s a c e l).l = l := map_d (by rw [l_d]; rfl)
theorem ex (v : V) : ∃ k n s a c e l, v = V.of k n s a c e l := by
  refine ⟨v.k, v.n, v.s, v.a, v.c, v.e, v.l, same_d ?_⟩
  refine (wfD_kids v.h).1.trans ?_
  show _ = DataW.slice (v.l.map V.d) _
  rw [l_d]
  rfl
theorem lt (v x : V) (h : x ∈ v.l) : SizeOf.sizeOf x.d < SizeOf.sizeOf v.d := by
  have h1 : x.d ∈ kidsD v.d := by rw [← l_d]; exact List.mem_map.2 ⟨x, h, rfl⟩
  have h2 := List.sizeOf_lt_of_mem h1
  have h3 := (wfD_kids v.h).1
  rw [h3]
  simp only [DataW.slice.sizeOf_spec]
  omega
theorem ind {Q : V → Prop} (h : ∀ k n s a c e l, (∀ x ∈ l, Q x) → Q (V.of k n s a c e l)) (v : V) : Q v := by
  generalize hn : SizeOf.sizeOf v.d = m
  induction m using Nat.strongRecOn generalizing v with
  | _ m ih =>
    obtain ⟨k, n, s, a, c, e, l, rfl⟩ := V.ex v
    refine h k n s a c e l fun x hx => ih _ ?_ x rfl
    have := V.lt (V.of k n s a c e l) x (by rw [l_of]; exact hx)
    omega
end V
/-- going through a tree -/
def foldD {β : Type} (g : Pl → List β → β) (z : β) : DataW Pl → β
  | .slice l [.held p] => g p (l.map (foldD g z))
  | _ => z
def V.fold {β : Type} (g : Pl → List β → β) (z : β) (v : V) : β := foldD g z v.d
theorem V.fold_of {β : Type} (g : Pl → List β → β) (z : β) (k n : Int) (s : ByteArray) (a : Option Addr) (c : Nat) (e : Int) (l : List V) :
    V.fold g z (V.of k n s a c e l) = g ⟨k, n, s, a, c, e⟩ (l.map (V.fold g z)) := by
  show foldD g z (.slice (l.map V.d) [.held ⟨k, n, s, a, c, e⟩]) = _
  rw [foldD, List.map_map]
  rfl
theorem V.k_of (k n : Int) (s : ByteArray) (a : Option Addr) (c : Nat) (e : Int) (l : List V) : (V.of k n s a c e l).k = k := rfl
theorem V.n_of (k n : Int) (s : ByteArray) (a : Option Addr) (c : Nat) (e : Int) (l : List V) : (V.of k n s a c e l).n = n := rfl
theorem V.s_of (k n : Int) (s : ByteArray) (a : Option Addr) (c : Nat) (e : Int) (l : List V) : (V.of k n s a c e l).s = s := rfl
theorem V.a_of (k n : Int) (s : ByteArray) (a : Option Addr) (c : Nat) (e : Int) (l : List V) : (V.of k n s a c e l).a = a := rfl
theorem V.c_of (k n : Int) (s : ByteArray) (a : Option Addr) (c : Nat) (e : Int) (l : List V) : (V.of k n s a c e l).c = c := rfl
theorem V.e_of (k n : Int) (s : ByteArray) (a : Option Addr) (c : Nat) (e : Int) (l : List V) : (V.of k n s a c e l).e = e := rfl
/-- going through a tree, with the parts themselves at hand -/
def V.both {β : Type} (g : Pl → List (V × β) → β) (z : β) : V → V × β := V.fold (fun p bs => (V.mk' p (bs.map Prod.fst), g p bs)) (V.of 0 0 ⟨#[]⟩ none 0 0 [], z)
def V.para {β : Type} (g : Pl → List (V × β) → β) (z : β) (v : V) : β := (V.both g z v).2
theorem V.both_fst {β : Type} (g : Pl → List (V × β) → β) (z : β) (v : V) : (V.both g z v).1 = v := by
  refine V.ind (Q := fun v => (V.both g z v).1 = v) ?_ v
  intro k n s a c e l ih
  unfold V.both
  rw [V.fold_of]
  show V.mk' _ _ = _
  have : (l.map (V.both g z)).map Prod.fst = l := by
    rw [List.map_map]
    conv => rhs; rw [← List.map_id l]
    exact List.map_congr_left fun x hx => ih x hx
  exact congrArg (V.mk' _) this
theorem V.para_of {β : Type} (g : Pl → List (V × β) → β) (z : β) (k n : Int) (s : ByteArray) (a : Option Addr) (c : Nat) (e : Int) (l : List V) :
    V.para g z (V.of k n s a c e l) = g ⟨k, n, s, a, c, e⟩ (l.map fun x => (x, V.para g z x)) := by
  unfold V.para
  conv => lhs; unfold V.both; rw [V.fold_of]
  show g _ (l.map (V.both g z)) = _
  refine congrArg (g _) (List.map_congr_left fun x _ => ?_)
  exact Prod.ext (V.both_fst g z x) rfl
theorem V.of_inj {k n : Int} {s : ByteArray} {a : Option Addr} {c : Nat} {e : Int} {l : List V} {k' n' : Int} {s' : ByteArray} {a' : Option Addr} {c' : Nat} {e' : Int} {l' : List V}
    (h : V.of k n s a c e l = V.of k' n' s' a' c' e' l') : k = k' ∧ n = n' ∧ s = s' ∧ a = a' ∧ c = c' ∧ e = e' ∧ l = l' := by
  have h1 := congrArg V.k h
  have h2 := congrArg V.n h
  have h3 := congrArg V.s h
  have h4 := congrArg V.a h
  have h5 := congrArg V.c h
  have h6 := congrArg V.e h
  have h7 := congrArg V.l h
  rw [V.l_of, V.l_of] at h7
  exact ⟨h1, h2, h3, h4, h5, h6, h7⟩
end Go.Proofs.YtgldcchleoklcaaGreatDoor
namespace Go.Proofs.YtgldcchleoklcaaGreatDoor

set_option linter.unusedSimpArgs false
set_option linter.unusedVariables false
/-- a value as the document sees it: a tree whose lists have no place -/
abbrev T := V
def T.of (k n : Int) (s : ByteArray) (e : Int) (l : List T) : T := V.of k n s none 0 e l

/-- of two numbers -/
def cmpZ (a b : Int) : Int := if a < b then -1 else if b < a then 1 else 0
/-- of two texts -/
def cmpB : List UInt8 → List UInt8 → Int
  | [], [] => 0
  | [], _ :: _ => -1
  | _ :: _, [] => 1
  | a :: x, b :: y => if a < b then -1 else if b < a then 1 else cmpB x y
def lex (a b : Int) : Int := if a = 0 then b else a

def ordsW : List (T → Int) → List T → Int
  | [], [] => 0
  | [], _ :: _ => -1
  | _ :: _, [] => 1
  | f :: l, y :: m => lex (f y) (ordsW l m)
def T.ord : T → T → Int := V.fold (fun p fs u => lex (cmpZ p.k u.k) (lex (cmpZ p.n u.n) (lex (cmpB p.s.toList u.s.toList) (lex (ordsW fs u.l) (cmpZ p.e u.e))))) (fun _ => 0)
def T.ords : List T → List T → Int
  | [], [] => 0
  | [], _ :: _ => -1
  | _ :: _, [] => 1
  | x :: l, y :: m => lex (T.ord x y) (T.ords l m)
theorem ordsW_map (l m : List T) : ordsW (l.map T.ord) m = T.ords l m := by
  induction l generalizing m with
  | nil => cases m <;> rfl
  | cons x l ih => cases m with
    | nil => rfl
    | cons y m => rw [List.map_cons, ordsW, T.ords, ih]
theorem T.ord_of (k n : Int) (s : ByteArray) (a : Option Addr) (c : Nat) (e : Int) (l : List V) (u : T) :
    T.ord (V.of k n s a c e l) u = lex (cmpZ k u.k) (lex (cmpZ n u.n) (lex (cmpB s.toList u.s.toList) (lex (T.ords l u.l) (cmpZ e u.e)))) := by
  rw [← ordsW_map]
  unfold T.ord
  rw [V.fold_of]

/-- it is -1, 0 or 1 -/
def Sgn (a : Int) : Prop := a = -1 ∨ a = 0 ∨ a = 1
theorem sgn_cmpB (x y : List UInt8) : Sgn (cmpB x y) := by
  induction x generalizing y with
  | nil => cases y <;> simp [cmpB, Sgn]
  | cons a x ih => cases y with
    | nil => simp [cmpB, Sgn]
    | cons b y => unfold cmpB; split <;> (try split) <;> first | exact ih _ | simp [Sgn]
theorem neg_lex {a b a' b' : Int} (ha : a' = -a) (hb : b' = -b) : lex a' b' = -lex a b := by
  unfold lex; split <;> split <;> omega
theorem neg_cmpZ (a b : Int) : cmpZ b a = -cmpZ a b := by unfold cmpZ; split <;> split <;> (try split) <;> omega
theorem neg_cmpB (x y : List UInt8) : cmpB y x = -cmpB x y := by
  induction x generalizing y with
  | nil => cases y <;> simp [cmpB]
  | cons a x ih => cases y with
    | nil => simp [cmpB]
    | cons b y =>
      unfold cmpB
      by_cases h1 : a < b
      · have h2 : ¬ b < a := by simp [UInt8.lt_iff_toNat_lt] at *; omega
        rw [if_pos h1, if_neg h2, if_pos h1]; rfl
      · by_cases h2 : b < a
        · rw [if_pos h2, if_neg h1, if_pos h2]
        · rw [if_neg h2, if_neg h1, if_neg h1, if_neg h2]; exact ih y
theorem neg_ords (l : List T) (h : ∀ x ∈ l, ∀ u, T.ord u x = -T.ord x u) : ∀ m, T.ords m l = -T.ords l m := by
  induction l with
  | nil => intro m; cases m <;> simp [T.ords]
  | cons x l ih =>
    intro m
    cases m with
    | nil => simp [T.ords]
    | cons y m =>
      rw [T.ords, T.ords]
      exact neg_lex (h x (by simp) y) (ih (fun z hz => h z (by simp [hz])) m)
theorem neg_ord : ∀ t u : T, T.ord u t = -T.ord t u := by
  refine V.ind ?_
  intro k n s a c e l ih u
  obtain ⟨k', n', s', a', c', e', l', rfl⟩ := V.ex u
  rw [T.ord_of, T.ord_of, V.l_of, V.l_of]
  exact neg_lex (neg_cmpZ _ _) (neg_lex (neg_cmpZ _ _) (neg_lex (neg_cmpB _ _) (neg_lex (neg_ords l ih _) (neg_cmpZ _ _))))

/-- how three answers stand together -/
def Tri (x y z : Int) : Prop := (x ≤ 0 → y ≤ 0 → z ≤ 0 ∧ (z = 0 ↔ x = 0 ∧ y = 0)) ∧ (0 ≤ x → 0 ≤ y → 0 ≤ z ∧ (z = 0 ↔ x = 0 ∧ y = 0))
theorem tri_lex {x y z x' y' z' : Int} (h : Tri x y z) (h' : Tri x' y' z') : Tri (lex x x') (lex y y') (lex z z') := by
  obtain ⟨h1, h2⟩ := h
  obtain ⟨h3, h4⟩ := h'
  unfold lex
  constructor
  · intro p q
    have p' : x ≤ 0 := by split at p <;> omega
    have q' : y ≤ 0 := by split at q <;> omega
    have hz := h1 p' q'
    by_cases a : x = 0 <;> by_cases b : y = 0
    · rw [if_pos a] at p ⊢
      rw [if_pos b] at q ⊢
      rw [if_pos (by omega)]
      exact h3 p q
    · rw [if_neg b, if_neg (by omega)]
      omega
    · rw [if_neg a, if_neg (by omega)]
      omega
    · rw [if_neg a, if_neg (by omega)]
      omega
  · intro p q
    have p' : 0 ≤ x := by split at p <;> omega
    have q' : 0 ≤ y := by split at q <;> omega
    have hz := h2 p' q'
    by_cases a : x = 0 <;> by_cases b : y = 0
    · rw [if_pos a] at p ⊢
      rw [if_pos b] at q ⊢
      rw [if_pos (by omega)]
      exact h4 p q
    · rw [if_neg b, if_neg (by omega)]
      omega
    · rw [if_neg a, if_neg (by omega)]
      omega
    · rw [if_neg a, if_neg (by omega)]
      omega
theorem tri_cmpZ (a b c : Int) : Tri (cmpZ a b) (cmpZ b c) (cmpZ a c) := by
  unfold Tri cmpZ
  by_cases h1 : a < b <;> by_cases h2 : b < c <;> by_cases h3 : a < c <;> by_cases h4 : b < a <;> by_cases h5 : c < b <;> by_cases h6 : c < a <;> simp [h1, h2, h3, h4, h5, h6] <;> omega
theorem tri_cmpB (x y z : List UInt8) : Tri (cmpB x y) (cmpB y z) (cmpB x z) := by
  induction x generalizing y z with
  | nil => cases y <;> cases z <;> simp [cmpB, Tri]
  | cons a x ih =>
    cases y with
    | nil => cases z <;> simp [cmpB, Tri]
    | cons b y =>
      cases z with
      | nil => simp [cmpB, Tri]
      | cons c z =>
        have h := tri_lex (tri_cmpZ a.toNat b.toNat c.toNat) (ih y z)
        have e : ∀ (p q : UInt8) (l m : List UInt8), cmpB (p :: l) (q :: m) = lex (cmpZ p.toNat q.toNat) (cmpB l m) := by
          intro p q l m
          rw [cmpB]
          unfold lex cmpZ
          by_cases h1 : p < q
          · have : (p.toNat : Int) < q.toNat := by simp [UInt8.lt_iff_toNat_lt] at h1; omega
            simp [h1, this]
          · by_cases h2 : q < p
            · have e2 : (q.toNat : Int) < p.toNat := by simp [UInt8.lt_iff_toNat_lt] at h2; omega
              have e1 : ¬ (p.toNat : Int) < q.toNat := by omega
              simp [h1, h2, e1, e2]
            · have e2 : ¬ (q.toNat : Int) < p.toNat := by simp [UInt8.lt_iff_toNat_lt] at h2; omega
              have e1 : ¬ (p.toNat : Int) < q.toNat := by simp [UInt8.lt_iff_toNat_lt] at h1; omega
              simp [h1, h2, e1, e2]
        rw [e, e, e]
        exact h
theorem tri_ords (l : List T) (h : ∀ x ∈ l, ∀ u v, Tri (T.ord x u) (T.ord u v) (T.ord x v)) : ∀ m p, Tri (T.ords l m) (T.ords m p) (T.ords l p) := by
  induction l with
  | nil => intro m p; cases m <;> cases p <;> simp [T.ords, Tri]
  | cons x l ih =>
    intro m p
    cases m with
    | nil => cases p <;> simp [T.ords, Tri]
    | cons y m =>
      cases p with
      | nil => simp [T.ords, Tri]
      | cons z p =>
        rw [T.ords, T.ords, T.ords]
        exact tri_lex (h x (by simp) y z) (ih (fun z hz => h z (by simp [hz])) m p)
theorem tri_ord : ∀ t u v : T, Tri (T.ord t u) (T.ord u v) (T.ord t v) := by
  refine V.ind ?_
  intro k n s a c e l ih u v
  obtain ⟨k', n', s', a', c', e', l', rfl⟩ := V.ex u
  rw [T.ord_of, T.ord_of, T.ord_of, V.l_of]
  exact tri_lex (tri_cmpZ _ _ _) (tri_lex (tri_cmpZ _ _ _) (tri_lex (tri_cmpB _ _ _) (tri_lex (tri_ords l ih _ _) (tri_cmpZ _ _ _))))

/-- what the texts' own tests say -/
theorem cmpB_less (x y : List UInt8) : Op.bytesLess x y = decide (cmpB x y = -1) := by
  induction x generalizing y with
  | nil => cases y <;> simp [Op.bytesLess, cmpB]
  | cons a x ih =>
    cases y with
    | nil => simp [Op.bytesLess, cmpB]
    | cons b y =>
      unfold Op.bytesLess cmpB
      by_cases h1 : a < b
      · simp [h1]
      · by_cases h2 : b < a
        · have hne : (a == b) = false := by
            simp [UInt8.lt_iff_toNat_lt] at h2 ⊢
            intro h; rw [h] at h2; omega
          simp [h1, h2, hne]
        · have he : a = b := by
            have : a.toNat = b.toNat := by simp [UInt8.lt_iff_toNat_lt] at h1 h2; omega
            exact UInt8.toNat_inj.1 this
          subst he
          simp [h1, ih]
theorem cmpB_zero (x y : List UInt8) : cmpB x y = 0 ↔ x = y := by
  induction x generalizing y with
  | nil => cases y <;> simp [cmpB]
  | cons a x ih =>
    cases y with
    | nil => simp [cmpB]
    | cons b y =>
      unfold cmpB
      by_cases h1 : a < b
      · simp [h1]
        intro h; subst h; simp [UInt8.lt_iff_toNat_lt] at h1
      · by_cases h2 : b < a
        · simp [h1, h2]
          intro h; subst h; simp [UInt8.lt_iff_toNat_lt] at h2
        · have he : a = b := by
            have : a.toNat = b.toNat := by simp [UInt8.lt_iff_toNat_lt] at h1 h2; omega
            exact UInt8.toNat_inj.1 this
          subst he
          simp [h1, ih]
end Go.Proofs.YtgldcchleoklcaaGreatDoor
