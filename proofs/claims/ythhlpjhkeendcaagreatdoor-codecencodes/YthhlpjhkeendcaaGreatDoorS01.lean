/- VTree, VMath, VMem, VPut5 -/
import GoSem.ClaimJoined
import GoSem.Op.String
import Derived.WalkKit
import Derived.RangeFuncRecord
import Derived.Laws.IdiomCopy
namespace Go.Proofs.YthhlpjhkeendcaaGreatDoor
set_option linter.unusedVariables false
set_option linter.unusedSimpArgs false
structure Pl where
  k : Int
  n : Int
  s : ByteArray
  a : Option Addr
  c : Nat
  e : Int
def wfD : DataW Pl → Bool
  | .slice l [.held _] => (l.map wfD).all id
  | _ => false
structure V where
  d : DataW Pl
  h : wfD d = true
def kidsD : DataW Pl → List (DataW Pl)
  | .slice l [.held _] => l
  | _ => []
def plD : DataW Pl → Pl
  | .slice _ [.held p] => p
  | _ => ⟨0, 0, ⟨#[]⟩, none, 0, 0⟩
theorem wfD_kids {d : DataW Pl} (h : wfD d = true) : d = .slice (kidsD d) [.held (plD d)] ∧ ∀ x ∈ kidsD d, wfD x = true := by
  rw [wfD.eq_def] at h
  split at h
  · refine ⟨rfl, fun x hx => ?_⟩
    have h1 := List.all_eq_true.1 h (wfD x) (List.mem_map.2 ⟨x, hx, rfl⟩)
    exact h1
  · cases h
theorem wfD_mk {l : List (DataW Pl)} {p : Pl} (h : ∀ x ∈ l, wfD x = true) : wfD (.slice l [.held p]) = true := by
  rw [wfD]
  refine List.all_eq_true.2 fun b hb => ?_
  obtain ⟨x, hx, rfl⟩ := List.mem_map.1 hb
  exact h x hx
namespace V
def k (v : V) : Int := (plD v.d).k
def n (v : V) : Int := (plD v.d).n
def s (v : V) : ByteArray := (plD v.d).s
def a (v : V) : Option Addr := (plD v.d).a
def c (v : V) : Nat := (plD v.d).c
def e (v : V) : Int := (plD v.d).e
def l (v : V) : List V := (kidsD v.d).attach.map fun x => ⟨x.1, (wfD_kids v.h).2 x.1 x.2⟩
def mk' (p : Pl) (l : List V) : V := ⟨.slice (l.map V.d) [.held p], wfD_mk (fun x hx => by obtain ⟨y, _, rfl⟩ := List.mem_map.1 hx; exact y.h)⟩
def of (k n : Int) (s : ByteArray) (a : Option Addr) (c : Nat) (e : Int) (l : List V) : V := mk' ⟨k, n, s, a, c, e⟩ l
theorem same_d {x y : V} (h : x.d = y.d) : x = y := by cases x; cases y; cases h; rfl
theorem l_d (v : V) : v.l.map V.d = kidsD v.d := by
  unfold l
  rw [List.map_map]
  exact List.attach_map_subtype_val (kidsD v.d)
theorem map_d {l m : List V} (h : l.map V.d = m.map V.d) : l = m := by
  induction l generalizing m with
  | nil => cases m with
    | nil => rfl
    | cons y m => simp at h
  | cons x l ih => cases m with
    | nil => simp at h
    | cons y m =>
      simp only [List.map_cons, List.cons.injEq] at h
      rw [same_d h.1, ih h.2]
theorem l_of (k n : Int) (s : ByteArray) (a : Option Addr) (c : Nat) (e : Int) (l : List V) : (V.of k n s a c e l).l = l := map_d (by rw [l_d]; rfl)
theorem ex (v : V) : ∃ k n s a c e l, v = V.of k n s a c e l := by
  refine ⟨v.k, v.n, v.s, v.a, v.c, v.e, v.l, same_d ?_⟩
  refine (wfD_kids v.h).1.trans ?_
  show _ = DataW.slice (v.l.map V.d) _
  rw [l_d]
  rfl
theorem lt (v x : V) (h : x ∈ v.l) : SizeOf.sizeOf x.d < SizeOf.sizeOf v.d := by
  have h1 : x.d ∈ kidsD v.d := by rw [← l_d]; exact List.mem_map.2 ⟨x, h, rfl⟩
  have h2 := List.sizeOf_lt_of_mem h1
  have h3 := (wfD_kids v.h).1
  rw [h3]
  simp only [DataW.slice.sizeOf_spec]
  omega
theorem ind {Q : V → Prop} (h : ∀ k n s a c e l, (∀ x ∈ l, Q x) → Q (V.of k n s a c e l)) (v : V) : Q v := by
  generalize hn : SizeOf.sizeOf v.d = m
  induction m using Nat.strongRecOn generalizing v with
  | _ m ih =>
    obtain ⟨k, n, s, a, c, e, l, rfl⟩ := V.ex v
    refine h k n s a c e l fun x hx => ih _ ?_ x rfl
    have := V.lt (V.of k n s a c e l) x (by rw [l_of]; exact hx)
    omega
end V
def foldD {β : Type} (g : Pl → List β → β) (z : β) : DataW Pl → β
  | .slice l [.held p] => g p (l.map (foldD g z))
  | _ => z
def V.fold {β : Type} (g : Pl → List β → β) (z : β) (v : V) : β := foldD g z v.d
theorem V.fold_of {β : Type} (g : Pl → List β → β) (z : β) (k n : Int) (s : ByteArray) (a : Option Addr) (c : Nat) (e : Int) (l : List V) :
    V.fold g z (V.of k n s a c e l) = g ⟨k, n, s, a, c, e⟩ (l.map (V.fold g z)) := by
  show foldD g z (.slice (l.map V.d) [.held ⟨k, n, s, a, c, e⟩]) = _
  rw [foldD, List.map_map]
  rfl
theorem V.k_of (k n : Int) (s : ByteArray) (a : Option Addr) (c : Nat) (e : Int) (l : List V) : (V.of k n s a c e l).k = k := rfl
theorem V.n_of (k n : Int) (s : ByteArray) (a : Option Addr) (c : Nat) (e : Int) (l : List V) : (V.of k n s a c e l).n = n := rfl
theorem V.s_of (k n : Int) (s : ByteArray) (a : Option Addr) (c : Nat) (e : Int) (l : List V) : (V.of k n s a c e l).s = s := rfl
theorem V.a_of (k n : Int) (s : ByteArray) (a : Option Addr) (c : Nat) (e : Int) (l : List V) : (V.of k n s a c e l).a = a := rfl
theorem V.c_of (k n : Int) (s : ByteArray) (a : Option Addr) (c : Nat) (e : Int) (l : List V) : (V.of k n s a c e l).c = c := rfl
theorem V.e_of (k n : Int) (s : ByteArray) (a : Option Addr) (c : Nat) (e : Int) (l : List V) : (V.of k n s a c e l).e = e := rfl
def V.both {β : Type} (g : Pl → List (V × β) → β) (z : β) : V → V × β := V.fold (fun p bs => (V.mk' p (bs.map Prod.fst), g p bs)) (V.of 0 0 ⟨#[]⟩ none 0 0 [], z)
def V.para {β : Type} (g : Pl → List (V × β) → β) (z : β) (v : V) : β := (V.both g z v).2
theorem V.both_fst {β : Type} (g : Pl → List (V × β) → β) (z : β) (v : V) : (V.both g z v).1 = v := by
  refine V.ind (Q := fun v => (V.both g z v).1 = v) ?_ v
  intro k n s a c e l ih
  unfold V.both
  rw [V.fold_of]
  show V.mk' _ _ = _
  have : (l.map (V.both g z)).map Prod.fst = l := by
    rw [List.map_map]
    conv => rhs; rw [← List.map_id l]
    exact List.map_congr_left fun x hx => ih x hx
  exact congrArg (V.mk' _) this
theorem V.para_of {β : Type} (g : Pl → List (V × β) → β) (z : β) (k n : Int) (s : ByteArray) (a : Option Addr) (c : Nat) (e : Int) (l : List V) :
    V.para g z (V.of k n s a c e l) = g ⟨k, n, s, a, c, e⟩ (l.map fun x => (x, V.para g z x)) := by
  unfold V.para
  conv => lhs; unfold V.both; rw [V.fold_of]
  show g _ (l.map (V.both g z)) = _
  refine congrArg (g _) (List.map_congr_left fun x _ => ?_)
  exact Prod.ext (V.both_fst g z x) rfl
theorem V.of_inj {k n : Int} {s : ByteArray} {a : Option Addr} {c : Nat} {e : Int} {l : List V} {k' n' : Int} {s' : ByteArray} {a' : Option Addr} {c' : Nat} {e' : Int} {l' : List V}
    (h : V.of k n s a c e l = V.of k' n' s' a' c' e' l') : k = k' ∧ n = n' ∧ s = s' ∧ a = a' ∧ c = c' ∧ e = e' ∧ l = l' := by
  have h1 := congrArg V.k h
  have h2 := congrArg V.n h
  have h3 := congrArg V.s h
  have h4 := congrArg V.a h
  have h5 := congrArg V.c h
  have h6 := congrArg V.e h
  have h7 := congrArg V.l h
  rw [V.l_of, V.l_of] at h7
  exact ⟨h1, h2, h3, h4, h5, h6, h7⟩
abbrev T := V
def T.of (k n : Int) (s : ByteArray) (e : Int) (l : List T) : T := V.of k n s none 0 e l
def cmpZ (a b : Int) : Int := if a < b then -1 else if b < a then 1 else 0
def cmpB : List UInt8 → List UInt8 → Int
  | [], [] => 0
  | [], _ :: _ => -1
  | _ :: _, [] => 1
  | a :: x, b :: y => if a < b then -1 else if b < a then 1 else cmpB x y
def lex (a b : Int) : Int := if a = 0 then b else a
def ordsW : List (T → Int) → List T → Int
  | [], [] => 0
  | [], _ :: _ => -1
  | _ :: _, [] => 1
  | f :: l, y :: m => lex (f y) (ordsW l m)
def T.ord : T → T → Int := V.fold (fun p fs u => lex (cmpZ p.k u.k) (lex (cmpZ p.n u.n) (lex (cmpB p.s.toList u.s.toList) (lex (ordsW fs u.l) (cmpZ p.e u.e))))) (fun _ => 0)
def T.ords : List T → List T → Int
  | [], [] => 0
  | [], _ :: _ => -1
  | _ :: _, [] => 1
  | x :: l, y :: m => lex (T.ord x y) (T.ords l m)
theorem ordsW_map (l m : List T) : ordsW (l.map T.ord) m = T.ords l m := by
  induction l generalizing m with
  | nil => cases m <;> rfl
  | cons x l ih => cases m with
    | nil => rfl
    | cons y m => rw [List.map_cons, ordsW, T.ords, ih]
theorem T.ord_of (k n : Int) (s : ByteArray) (a : Option Addr) (c : Nat) (e : Int) (l : List V) (u : T) :
    T.ord (V.of k n s a c e l) u = lex (cmpZ k u.k) (lex (cmpZ n u.n) (lex (cmpB s.toList u.s.toList) (lex (T.ords l u.l) (cmpZ e u.e)))) := by
  rw [← ordsW_map]
  unfold T.ord
  rw [V.fold_of]
def Sgn (a : Int) : Prop := a = -1 ∨ a = 0 ∨ a = 1
theorem sgn_cmpB (x y : List UInt8) : Sgn (cmpB x y) := by
  induction x generalizing y with
  | nil => cases y <;> simp [cmpB, Sgn]
  | cons a x ih => cases y with
    | nil => simp [cmpB, Sgn]
    | cons b y => unfold cmpB; split <;> (try split) <;> first | exact ih _ | simp [Sgn]
theorem neg_lex {a b a' b' : Int} (ha : a' = -a) (hb : b' = -b) : lex a' b' = -lex a b := by
  unfold lex; split <;> split <;> omega
theorem neg_cmpZ (a b : Int) : cmpZ b a = -cmpZ a b := by unfold cmpZ; split <;> split <;> (try split) <;> omega
theorem neg_cmpB (x y : List UInt8) : cmpB y x = -cmpB x y := by
  induction x generalizing y with
  | nil => cases y <;> simp [cmpB]
  | cons a x ih => cases y with
    | nil => simp [cmpB]
    | cons b y =>
      unfold cmpB
      by_cases h1 : a < b
      · have h2 : ¬ b < a := by simp [UInt8.lt_iff_toNat_lt] at *; omega
        rw [if_pos h1, if_neg h2, if_pos h1]; rfl
      · by_cases h2 : b < a
        · rw [if_pos h2, if_neg h1, if_pos h2]
        · rw [if_neg h2, if_neg h1, if_neg h1, if_neg h2]; exact ih y
theorem neg_ords (l : List T) (h : ∀ x ∈ l, ∀ u, T.ord u x = -T.ord x u) : ∀ m, T.ords m l = -T.ords l m := by
  induction l with
  | nil => intro m; cases m <;> simp [T.ords]
  | cons x l ih =>
    intro m
    cases m with
    | nil => simp [T.ords]
    | cons y m =>
      rw [T.ords, T.ords]
      exact neg_lex (h x (by simp) y) (ih (fun z hz => h z (by simp [hz])) m)
theorem neg_ord : ∀ t u : T, T.ord u t = -T.ord t u := by
  refine V.ind ?_
  intro k n s a c e l ih u
  obtain ⟨k', n', s', a', c', e', l', rfl⟩ := V.ex u
  rw [T.ord_of, T.ord_of, V.l_of, V.l_of]
  exact neg_lex (neg_cmpZ _ _) (neg_lex (neg_cmpZ _ _) (neg_lex (neg_cmpB _ _) (neg_lex (neg_ords l ih _) (neg_cmpZ _ _))))
def Tri (x y z : Int) : Prop := (x ≤ 0 → y ≤ 0 → z ≤ 0 ∧ (z = 0 ↔ x = 0 ∧ y = 0)) ∧ (0 ≤ x → 0 ≤ y → 0 ≤ z ∧ (z = 0 ↔ x = 0 ∧ y = 0))
theorem tri_lex {x y z x' y' z' : Int} (h : Tri x y z) (h' : Tri x' y' z') : Tri (lex x x') (lex y y') (lex z z') := by
  obtain ⟨h1, h2⟩ := h
  obtain ⟨h3, h4⟩ := h'
  unfold lex
  constructor
  · intro p q
    have p' : x ≤ 0 := by split at p <;> omega
    have q' : y ≤ 0 := by split at q <;> omega
    have hz := h1 p' q'
    by_cases a : x = 0 <;> by_cases b : y = 0
    · rw [if_pos a] at p ⊢
      rw [if_pos b] at q ⊢
      rw [if_pos (by omega)]
      exact h3 p q
    · rw [if_neg b, if_neg (by omega)]
      omega
    · rw [if_neg a, if_neg (by omega)]
      omega
    · rw [if_neg a, if_neg (by omega)]
      omega
  · intro p q
    have p' : 0 ≤ x := by split at p <;> omega
    have q' : 0 ≤ y := by split at q <;> omega
    have hz := h2 p' q'
    by_cases a : x = 0 <;> by_cases b : y = 0
    · rw [if_pos a] at p ⊢
      rw [if_pos b] at q ⊢
      rw [if_pos (by omega)]
      exact h4 p q
    · rw [if_neg b, if_neg (by omega)]
      omega
    · rw [if_neg a, if_neg (by omega)]
      omega
    · rw [if_neg a, if_neg (by omega)]
      omega
theorem tri_cmpZ (a b c : Int) : Tri (cmpZ a b) (cmpZ b c) (cmpZ a c) := by
  unfold Tri cmpZ
  by_cases h1 : a < b <;> by_cases h2 : b < c <;> by_cases h3 : a < c <;> by_cases h4 : b < a <;> by_cases h5 : c < b <;> by_cases h6 : c < a <;> simp [h1, h2, h3, h4, h5, h6] <;> omega
theorem tri_cmpB (x y z : List UInt8) : Tri (cmpB x y) (cmpB y z) (cmpB x z) := by
  induction x generalizing y z with
  | nil => cases y <;> cases z <;> simp [cmpB, Tri]
  | cons a x ih =>
    cases y with
    | nil => cases z <;> simp [cmpB, Tri]
    | cons b y =>
      cases z with
      | nil => simp [cmpB, Tri]
      | cons c z =>
        have h := tri_lex (tri_cmpZ a.toNat b.toNat c.toNat) (ih y z)
        have e : ∀ (p q : UInt8) (l m : List UInt8), cmpB (p :: l) (q :: m) = lex (cmpZ p.toNat q.toNat) (cmpB l m) := by
          intro p q l m
          rw [cmpB]
          unfold lex cmpZ
          by_cases h1 : p < q
          · have : (p.toNat : Int) < q.toNat := by simp [UInt8.lt_iff_toNat_lt] at h1; omega
            simp [h1, this]
          · by_cases h2 : q < p
            · have e2 : (q.toNat : Int) < p.toNat := by simp [UInt8.lt_iff_toNat_lt] at h2; omega
              have e1 : ¬ (p.toNat : Int) < q.toNat := by omega
              simp [h1, h2, e1, e2]
            · have e2 : ¬ (q.toNat : Int) < p.toNat := by simp [UInt8.lt_iff_toNat_lt] at h2; omega
              have e1 : ¬ (p.toNat : Int) < q.toNat := by simp [UInt8.lt_iff_toNat_lt] at h1; omega
              simp [h1, h2, e1, e2]
        rw [e, e, e]
        exact h
theorem tri_ords (l : List T) (h : ∀ x ∈ l, ∀ u v, Tri (T.ord x u) (T.ord u v) (T.ord x v)) : ∀ m p, Tri (T.ords l m) (T.ords m p) (T.ords l p) := by
  induction l with
  | nil => intro m p; cases m <;> cases p <;> simp [T.ords, Tri]
  | cons x l ih =>
    intro m p
    cases m with
    | nil => cases p <;> simp [T.ords, Tri]
    | cons y m =>
      cases p with
      | nil => simp [T.ords, Tri]
      | cons z p =>
        rw [T.ords, T.ords, T.ords]
        exact tri_lex (h x (by simp) y z) (ih (fun z hz => h z (by simp [hz])) m p)
theorem tri_ord : ∀ t u v : T, Tri (T.ord t u) (T.ord u v) (T.ord t v) := by
  refine V.ind ?_
  intro k n s a c e l ih u v
  obtain ⟨k', n', s', a', c', e', l', rfl⟩ := V.ex u
  rw [T.ord_of, T.ord_of, T.ord_of, V.l_of]
  exact tri_lex (tri_cmpZ _ _ _) (tri_lex (tri_cmpZ _ _ _) (tri_lex (tri_cmpB _ _ _) (tri_lex (tri_ords l ih _ _) (tri_cmpZ _ _ _))))
theorem cmpB_less (x y : List UInt8) : Op.bytesLess x y = decide (cmpB x y = -1) := by
  induction x generalizing y with
  | nil => cases y <;> simp [Op.bytesLess, cmpB]
  | cons a x ih =>
    cases y with
    | nil => simp [Op.bytesLess, cmpB]
    | cons b y =>
      unfold Op.bytesLess cmpB
      by_cases h1 : a < b
      · simp [h1]
      · by_cases h2 : b < a
        · have hne : (a == b) = false := by
            simp [UInt8.lt_iff_toNat_lt] at h2 ⊢
            intro h; rw [h] at h2; omega
          simp [h1, h2, hne]
        · have he : a = b := by
            have : a.toNat = b.toNat := by simp [UInt8.lt_iff_toNat_lt] at h1 h2; omega
            exact UInt8.toNat_inj.1 this
          subst he
          simp [h1, ih]
theorem cmpB_zero (x y : List UInt8) : cmpB x y = 0 ↔ x = y := by
  induction x generalizing y with
  | nil => cases y <;> simp [cmpB]
  | cons a x ih =>
    cases y with
    | nil => simp [cmpB]
    | cons b y =>
      unfold cmpB
      by_cases h1 : a < b
      · simp [h1]
        intro h; subst h; simp [UInt8.lt_iff_toNat_lt] at h1
      · by_cases h2 : b < a
        · simp [h1, h2]
          intro h; subst h; simp [UInt8.lt_iff_toNat_lt] at h2
        · have he : a = b := by
            have : a.toNat = b.toNat := by simp [UInt8.lt_iff_toNat_lt] at h1 h2; omega
            exact UInt8.toNat_inj.1 this
          subst he
          simp [h1, ih]
open Go.RowKit
namespace V
def val (v : V) : Value := .agg #[.int .i64 v.k, .int .u64 v.n, .string v.s, .slice v.a v.l.length v.c, .int .i64 v.e]
theorem val_eq (v : V) : v.val = .agg #[.int .i64 v.k, .int .u64 v.n, .string v.s, .slice v.a v.l.length v.c, .int .i64 v.e] := rfl
theorem val_of (k n : Int) (s : ByteArray) (a : Option Addr) (c : Nat) (e : Int) (l : List V) : (V.of k n s a c e l).val = .agg #[.int .i64 k, .int .u64 n, .string s, .slice a l.length c, .int .i64 e] := by
  rw [val_eq, V.l_of]; rfl
end V
def V.t : V → T := V.fold (fun p ts => T.of p.k p.n p.s p.e ts) (T.of 0 0 ⟨#[]⟩ 0 [])
def V.ts : List V → List T
  | [] => []
  | x :: l => x.t :: V.ts l
theorem V.ts_map (l : List V) : V.ts l = l.map V.t := by
  induction l with
  | nil => rfl
  | cons x l ih => rw [V.ts, ih]; rfl
theorem V.t_of (k n : Int) (s : ByteArray) (a : Option Addr) (c : Nat) (e : Int) (l : List V) : (V.of k n s a c e l).t = T.of k n s e (V.ts l) := by
  rw [V.ts_map]
  unfold V.t
  rw [V.fold_of]
theorem V.ts_length (l : List V) : (V.ts l).length = l.length := by rw [V.ts_map]; simp
def Row (W : World) (b o : Nat) (l : List V) : Prop :=
  ∀ i (h : i < l.length), W.cell? ⟨b, o + i * 5, none⟩ = some (.int .i64 l[i].k) ∧ W.cell? ⟨b, o + i * 5 + 1, none⟩ = some (.int .u64 l[i].n) ∧ W.cell? ⟨b, o + i * 5 + 2, none⟩ = some (.string l[i].s) ∧
    W.cell? ⟨b, o + i * 5 + 3, none⟩ = some (.slice l[i].a l[i].l.length l[i].c) ∧ W.cell? ⟨b, o + i * 5 + 4, none⟩ = some (.int .i64 l[i].e)
structure Ok (k n : Int) (s : ByteArray) (c : Nat) (e : Int) (len : Nat) : Prop where
  k : -9223372036854775808 ≤ k ∧ k ≤ 9223372036854775807
  n : 0 ≤ n ∧ n ≤ 18446744073709551615
  s : s.size ≤ 281474976710656
  e : -9223372036854775808 ≤ e ∧ e ≤ 9223372036854775807
  l : len ≤ c
  c : len ≤ 2199023255552
def LiesIn (Q : Nat → Prop) (W : World) : V → Prop :=
  V.para (fun p bs => Ok p.k p.n p.s p.c p.e bs.length ∧ (0 < bs.length → ∃ b o, p.a = some ⟨b, o, none⟩ ∧ Q b ∧ Row W b o (bs.map Prod.fst)) ∧ ∀ b ∈ bs, b.2) True
theorem LiesIn.iff (Q : Nat → Prop) (W : World) (k n : Int) (s : ByteArray) (a : Option Addr) (c : Nat) (e : Int) (l : List V) :
    LiesIn Q W (V.of k n s a c e l) ↔ Ok k n s c e l.length ∧ (0 < l.length → ∃ b o, a = some ⟨b, o, none⟩ ∧ Q b ∧ Row W b o l) ∧ ∀ x ∈ l, LiesIn Q W x := by
  unfold LiesIn
  rw [V.para_of]
  simp only [List.length_map, List.map_map]
  have h1 : (l.map (Prod.fst ∘ fun x => (x, V.para (fun p bs => Ok p.k p.n p.s p.c p.e bs.length ∧ (0 < bs.length → ∃ b o, p.a = some ⟨b, o, none⟩ ∧ Q b ∧ Row W b o (bs.map Prod.fst)) ∧ ∀ b ∈ bs, b.2) True x))) = l := by
    conv => rhs; rw [← List.map_id l]
    rfl
  rw [h1]
  refine and_congr Iff.rfl (and_congr Iff.rfl ⟨fun h x hx => h (x, _) (List.mem_map.2 ⟨x, hx, rfl⟩), fun h b hb => ?_⟩)
  obtain ⟨x, hx, rfl⟩ := List.mem_map.1 hb
  exact h x hx
theorem LiesIn.mk {Q : Nat → Prop} {W : World} {k n : Int} {s : ByteArray} {a : Option Addr} {c : Nat} {e : Int} {l : List V} (ok : Ok k n s c e l.length)
    (row : 0 < l.length → ∃ b o, a = some ⟨b, o, none⟩ ∧ Q b ∧ Row W b o l) (sub : ∀ x ∈ l, LiesIn Q W x) : LiesIn Q W (V.of k n s a c e l) := (LiesIn.iff _ _ _ _ _ _ _ _ _).2 ⟨ok, row, sub⟩
def Lies (n₀ : Nat) (W : World) (v : V) : Prop := LiesIn (fun b => b < n₀) W v
def Same (W w : World) (b : Nat) : Prop := ∀ o, w.cell? ⟨b, o, none⟩ = W.cell? ⟨b, o, none⟩
theorem Row.same {W w : World} {b o : Nat} {l : List V} (h : Row W b o l) (hb : Same W w b) : Row w b o l := fun i hi => by
  obtain ⟨h0, h1, h2, h3, h4⟩ := h i hi
  exact ⟨(hb _).trans h0, (hb _).trans h1, (hb _).trans h2, (hb _).trans h3, (hb _).trans h4⟩
theorem Row.below {B : Nat} {W w : World} {b o : Nat} {l : List V} (h : Row W b o l) (hb : Below B W w) (hlt : b < B) : Row w b o l := h.same fun o => hb.cell (p := ⟨b, o, none⟩) hlt
theorem LiesIn.keep {Q Q' : Nat → Prop} {W w : World} {v : V} (h : LiesIn Q W v) (hs : ∀ b, Q b → Same W w b) (hq : ∀ b, Q b → Q' b) : LiesIn Q' w v := by
  refine V.ind (Q := fun v => LiesIn Q W v → LiesIn Q' w v) ?_ v h
  intro k n s a c e l ih h
  obtain ⟨ok, row, sub⟩ := (LiesIn.iff _ _ _ _ _ _ _ _ _).1 h
  refine .mk ok (fun h0 => ?_) (fun x hx => ih x hx (sub x hx))
  obtain ⟨b, o, ha, hlt, hr⟩ := row h0
  exact ⟨b, o, ha, hq _ hlt, hr.same (hs _ hlt)⟩
theorem LiesIn.row {Q : Nat → Prop} {W : World} {k n : Int} {s : ByteArray} {a : Option Addr} {c : Nat} {e : Int} {l : List V} (h : LiesIn Q W (.of k n s a c e l)) : 0 < l.length → ∃ b o, a = some ⟨b, o, none⟩ ∧ Q b ∧ Row W b o l := ((LiesIn.iff _ _ _ _ _ _ _ _ _).1 h).2.1
theorem LiesIn.sub {Q : Nat → Prop} {W : World} {k n : Int} {s : ByteArray} {a : Option Addr} {c : Nat} {e : Int} {l : List V} (h : LiesIn Q W (.of k n s a c e l)) : ∀ x ∈ l, LiesIn Q W x := ((LiesIn.iff _ _ _ _ _ _ _ _ _).1 h).2.2
theorem LiesIn.ok {Q : Nat → Prop} {W : World} {k n : Int} {s : ByteArray} {a : Option Addr} {c : Nat} {e : Int} {l : List V} (h : LiesIn Q W (.of k n s a c e l)) : Ok k n s c e l.length := ((LiesIn.iff _ _ _ _ _ _ _ _ _).1 h).1
theorem Lies.keep {B n₀ : Nat} {W w : World} {v : V} (h : Lies n₀ W v) (hb : Below B W w) (hn : n₀ ≤ B) : Lies n₀ w v :=
  LiesIn.keep h (fun b hq o => hb.cell (p := ⟨b, o, none⟩) (Nat.lt_of_lt_of_le hq hn)) (fun _ h => h)
theorem Lies.mono {n₀ n₁ : Nat} {W : World} {v : V} (h : Lies n₀ W v) (hn : n₀ ≤ n₁) : Lies n₁ W v :=
  LiesIn.keep h (fun b hq o => rfl) (fun _ h => Nat.lt_of_lt_of_le h hn)
theorem Lies.mk {n₀ : Nat} {W : World} {k n : Int} {s : ByteArray} {a : Option Addr} {c : Nat} {e : Int} {l : List V} (ok : Ok k n s c e l.length)
    (row : 0 < l.length → ∃ b o, a = some ⟨b, o, none⟩ ∧ b < n₀ ∧ Row W b o l) (sub : ∀ x ∈ l, Lies n₀ W x) : Lies n₀ W (V.of k n s a c e l) := LiesIn.mk ok row sub
theorem Lies.row {n₀ : Nat} {W : World} {k n : Int} {s : ByteArray} {a : Option Addr} {c : Nat} {e : Int} {l : List V} (h : Lies n₀ W (.of k n s a c e l)) : 0 < l.length → ∃ b o, a = some ⟨b, o, none⟩ ∧ b < n₀ ∧ Row W b o l := LiesIn.row h
theorem Lies.sub {n₀ : Nat} {W : World} {k n : Int} {s : ByteArray} {a : Option Addr} {c : Nat} {e : Int} {l : List V} (h : Lies n₀ W (.of k n s a c e l)) : ∀ x ∈ l, Lies n₀ W x := LiesIn.sub h
theorem Lies.ok {n₀ : Nat} {W : World} {k n : Int} {s : ByteArray} {a : Option Addr} {c : Nat} {e : Int} {l : List V} (h : Lies n₀ W (.of k n s a c e l)) : Ok k n s c e l.length := LiesIn.ok h
def Blk (w : World) (b : Nat) (t : TypeId) (m : Nat) : Prop := ∃ cs : Array Value, w.heap[b]? = some (.cells cs t (0, 0)) ∧ cs.size = m
theorem Blk.lt {w : World} {b : Nat} {t : TypeId} {m : Nat} (h : Blk w b t m) : b < w.heap.size := by
  obtain ⟨cs, h, _⟩ := h
  exact (Array.getElem?_eq_some_iff.1 h).1
theorem Blk.below {B : Nat} {W w : World} {b : Nat} {t : TypeId} {m : Nat} (h : Blk W b t m) (hb : Below B W w) (hlt : b < B) : Blk w b t m := by
  obtain ⟨cs, h1, h2⟩ := h
  exact ⟨cs, (hb.block b hlt).trans h1, h2⟩
theorem Blk.some {w : World} {b : Nat} {t : TypeId} {m : Nat} (h : Blk w b t m) (j : Nat) (hj : j < m) : ∃ v, w.cell? ⟨b, j, none⟩ = some v := by
  obtain ⟨cs, h1, h2⟩ := h
  exact ⟨cs[j]'(by omega), by simp [World.cell?, h1, Array.getElem?_eq_getElem (show j < cs.size by omega)]⟩
theorem Blk.free {w : World} {b : Nat} {t : TypeId} {m : Nat} (h : Blk w b t m) (j : Nat) : w.frozen? ⟨b, j, none⟩ = false := by
  obtain ⟨cs, h1, h2⟩ := h
  simp [World.frozen?, h1]
theorem bel1 {B : Nat} {w wr : World} (h : Below B w wr) (hB : B ≤ wr.heap.size) (o : Obj) : Below B w (wr.alloc o) := h.alloc hB o
theorem bel2 {B : Nat} {w wr : World} (h : Below B w wr) (hB : B ≤ wr.heap.size) (o p : Obj) : Below B w ((wr.alloc o).alloc p) := (h.alloc hB o).alloc (by simp; omega) p
theorem belOn {B : Nat} {w w1 w2 : World} (h : Below B w w1) (hB : B ≤ w1.heap.size) (k : Below w1.heap.size w1 w2) : Below B w w2 := h.trans (k.mono hB)
theorem bcell {W w1 : World} (hb : Below W.heap.size W w1) : (∀ b o, b < W.heap.size → w1.cell? ⟨b, o, none⟩ = W.cell? ⟨b, o, none⟩) ∧ (∀ b o, b < W.heap.size → w1.frozen? ⟨b, o, none⟩ = W.frozen? ⟨b, o, none⟩) :=
  ⟨fun b o h => hb.cell (p := ⟨b, o, none⟩) h, fun b o h => hb.frozen (p := ⟨b, o, none⟩) h⟩
theorem box_cells {w w1 : World} {A B : Array Value} {t t' : TypeId} (hb : Below ((w.alloc (.cells A t)).alloc (.cells B t')).heap.size ((w.alloc (.cells A t)).alloc (.cells B t')) w1) :
    (∀ o, w1.cell? ⟨w.heap.size, o, none⟩ = A[o]?) ∧ (∀ o, w1.cell? ⟨w.heap.size + 1, o, none⟩ = B[o]?) ∧ (∀ o, w1.frozen? ⟨w.heap.size, o, none⟩ = false) ∧ (∀ o, w1.frozen? ⟨w.heap.size + 1, o, none⟩ = false) := by
  have e1 : ((w.alloc (.cells A t)).alloc (.cells B t')).heap[w.heap.size]? = some (.cells A t) := by
    rw [Below.heap_alloc _ _ _ (by simp)]; exact World.alloc_heap_new _ _
  have e2 : ((w.alloc (.cells A t)).alloc (.cells B t')).heap[w.heap.size + 1]? = some (.cells B t') := by
    have : w.heap.size + 1 = (w.alloc (.cells A t)).heap.size := by simp
    rw [this]; exact World.alloc_heap_new _ _
  have f1 := (hb.block w.heap.size (by simp; omega)).trans e1
  have f2 := (hb.block (w.heap.size + 1) (by simp)).trans e2
  refine ⟨fun o => ?_, fun o => ?_, fun o => ?_, fun o => ?_⟩ <;> simp [World.cell?, World.frozen?, f1, f2]
theorem heap_at1 (w : World) (o p : Obj) : ((w.alloc o).alloc p).heap[w.heap.size + 1]? = some p := by
  have := World.alloc_heap_new (w.alloc o) p
  rwa [World.size_alloc] at this
theorem heap_at2 (w : World) (o p q : Obj) : (((w.alloc o).alloc p).alloc q).heap[w.heap.size + 1 + 1]? = some q := by
  have := World.alloc_heap_new ((w.alloc o).alloc p) q
  rwa [World.size_alloc, World.size_alloc] at this
theorem heap_past {w : World} {b : Nat} {x : Obj} (h : w.heap[b]? = some x) (o : Obj) : (w.alloc o).heap[b]? = some x := (Below.heap_alloc _ _ _ (Array.getElem?_eq_some_iff.1 h).1).trans h
theorem hide {p : Prop} (h : p) : Hid p := h
theorem ret_int {k : IntKind} {a b : Int} (h : a = b) : Ending.returned (.int k a) = .returned (.int k b) := by rw [h]
def words (y : V) : List Value := [.int .i64 y.k, .int .u64 y.n, .string y.s, .slice y.a y.l.length y.c, .int .i64 y.e]
def put5 (w : World) (b o : Nat) (y : V) : World := w.setCells b o (words y)
theorem put5_eq (w : World) (b o : Nat) (y : V) :
    (((((w.setCell ⟨b, o, none⟩ (.int .i64 y.k)).setCell ⟨b, o + 1, none⟩ (.int .u64 y.n)).setCell ⟨b, o + 2, none⟩ (.string y.s)).setCell ⟨b, o + 3, none⟩ (.slice y.a y.l.length y.c)).setCell ⟨b, o + 4, none⟩ (.int .i64 y.e)) = put5 w b o y := rfl
theorem put5_of (w : World) (b o : Nat) (k n : Int) (s : ByteArray) (a : Option Addr) (c : Nat) (e : Int) (l : List V) :
    (((((w.setCell ⟨b, o, none⟩ (.int .i64 k)).setCell ⟨b, o + 1, none⟩ (.int .u64 n)).setCell ⟨b, o + 2, none⟩ (.string s)).setCell ⟨b, o + 3, none⟩ (.slice a l.length c)).setCell ⟨b, o + 4, none⟩ (.int .i64 e)) = put5 w b o (V.of k n s a c e l) := by
  rw [← put5_eq, V.l_of]; rfl
theorem put5_below {B : Nat} {w w1 : World} {b o : Nat} {y : V} (h : Below B w w1) (hB : B ≤ b) : Below B w (put5 w1 b o y) := by
  rw [← put5_eq]
  exact ((((h.setCell hB _).setCell hB _).setCell hB _).setCell hB _).setCell hB _
theorem put5_size (w : World) (b o : Nat) (y : V) : (put5 w b o y).heap.size = w.heap.size := by
  rw [← put5_eq]; simp [World.setCell]
theorem put5_same (w : World) (b o b' : Nat) (y : V) (h : b' ≠ b) : Same w (put5 w b o y) b' := fun k =>
  World.cell?_setCells_out b (words y) o w ⟨b', k, none⟩ (fun e => absurd e h)
theorem Blk.setCell {w : World} {b : Nat} {t : TypeId} {m : Nat} (h : Blk w b t m) (o : Nat) (v : Value) : Blk (w.setCell ⟨b, o, none⟩ v) b t m := by
  obtain ⟨cs, h1, h2⟩ := h
  refine ⟨cs.setIfInBounds o v, ?_, by simpa using h2⟩
  simp [World.setCell, Array.getElem?_modify, h1]
theorem put5_blk {w : World} {b : Nat} {t : TypeId} {m : Nat} (h : Blk w b t m) (o : Nat) (y : V) : Blk (put5 w b o y) b t m := by
  rw [← put5_eq]
  exact ((((h.setCell _ _).setCell _ _).setCell _ _).setCell _ _).setCell _ _
theorem put5_cell {w : World} {b o : Nat} {y : V} {t : TypeId} {m : Nat} (h : Blk w b t m) (hm : o + 5 ≤ m) (j : Nat) (hj : j < 5) : (put5 w b o y).cell? ⟨b, o + j, none⟩ = (words y)[j]? := by
  have := World.cell?_setCells_in b (words y) o w (fun k hk => by
    have hk5 : k < 5 := by simpa [words] using hk
    obtain ⟨v, hv⟩ := h.some (o + k) (by omega)
    rw [hv]; rfl) j (by simpa [words] using hj)
  rw [List.getElem?_eq_getElem (by simpa [words] using hj)]
  exact this
theorem put5_row {w : World} {b : Nat} {l : List V} {y : V} {t : TypeId} {m : Nat} (h : Blk w b t m) (hr : Row w b 0 l) (hm : l.length * 5 + 5 ≤ m) : Row (put5 w b (l.length * 5) y) b 0 (l ++ [y]) := by
  intro i hi
  by_cases h1 : i < l.length
  · have e : (l ++ [y])[i] = l[i] := List.getElem_append_left h1
    rw [e]
    obtain ⟨h0, h2, h3, h4, h5⟩ := hr i h1
    have hs : ∀ q, q < 5 → (put5 w b (l.length * 5) y).cell? ⟨b, 0 + i * 5 + q, none⟩ = w.cell? ⟨b, 0 + i * 5 + q, none⟩ := fun q hq =>
      World.cell?_setCells_out b (words y) _ w _ (fun _ _ => .inl (by simp; omega))
    exact ⟨(hs 0 (by omega)).trans h0, (hs 1 (by omega)).trans h2, (hs 2 (by omega)).trans h3, (hs 3 (by omega)).trans h4, (hs 4 (by omega)).trans h5⟩
  · obtain rfl : i = l.length := by simp at hi; omega
    have e : (l ++ [y])[l.length] = y := by simp
    rw [e]
    simp only [Nat.zero_add]
    exact ⟨put5_cell h hm 0 (by omega), put5_cell h hm 1 (by omega), put5_cell h hm 2 (by omega), put5_cell h hm 3 (by omega), put5_cell h hm 4 (by omega)⟩
end Go.Proofs.YthhlpjhkeendcaaGreatDoor
