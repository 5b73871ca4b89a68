
/- Values as trees: a type of trees out of the model's own data. -/
import GoSem.ClaimJoined
import GoSem.Op.String
namespace Go.Proofs.Ytiplidljlegcgaa
set_option linter.unusedVariables false
set_option linter.unusedSimpArgs false
/-- a node's own words: its five fields, the list by its place and its room -/
structure Pl where
  k : Int
  n : Int
  s : ByteArray
  a : Option Addr
  c : Nat
  e : Int
/-- is a datum a tree, that is, each of its parts a row of trees with one node's words behind it? -/
def wfD : DataW Pl → Bool
  | .slice l [.held _] => (l.map wfD).all id
  | _ => false
/-- a value with its lists' places -/
structure V where
  d : DataW Pl
  h : wfD d = true
def kidsD : DataW Pl → List (DataW Pl)
  | .slice l [.held _] => l
  | _ => []
def plD : DataW Pl → Pl
  | .slice _ [.held p] => p
  | _ => ⟨0, 0, ⟨#[]⟩, none, 0, 0⟩
theorem wfD_kids {d : DataW Pl} (h : wfD d = true) : d = .slice (kidsD d) [.held (plD d)] ∧ ∀ x ∈ kidsD d, wfD x = true := by
  rw [wfD.eq_def] at h
  split at h
  · refine ⟨rfl, fun x hx => ?_⟩
    have h1 := List.all_eq_true.1 h (wfD x) (List.mem_map.2 ⟨x, hx, rfl⟩)
    exact h1
  · cases h
theorem wfD_mk {l : List (DataW Pl)} {p : Pl} (h : ∀ x ∈ l, wfD x = true) : wfD (.slice l [.held p]) = true := by
  rw [wfD]
  refine List.all_eq_true.2 fun b hb => ?_
  obtain ⟨x, hx, rfl⟩ := List.mem_map.1 hb
  exact h x hx

namespace V
def k (v : V) : Int := (plD v.d).k
def n (v : V) : Int := (plD v.d).n
def s (v : V) : ByteArray := (plD v.d).s
def a (v : V) : Option Addr := (plD v.d).a
def c (v : V) : Nat := (plD v.d).c
def e (v : V) : Int := (plD v.d).e
def l (v : V) : List V := (kidsD v.d).attach.map fun x => ⟨x.1, (wfD_kids v.h).2 x.1 x.2⟩
def mk' (p : Pl) (l : List V) : V := ⟨.slice (l.map V.d) [.held p], wfD_mk (fun x hx => by obtain ⟨y, _, rfl⟩ := List.mem_map.1 hx; exact y.h)⟩
def of (k n : Int) (s : ByteArray) (a : Option Addr) (c : Nat) (e : Int) (l : List V) : V := mk' ⟨k, n, s, a, c, e⟩ l
theorem same_d {x y : V} (h : x.d = y.d) : x = y := by cases x; cases y; cases h; rfl
theorem l_d (v : V) : v.l.map V.d = kidsD v.d := by
  unfold l
  rw [List.map_map]
  exact List.attach_map_subtype_val (kidsD v.d)
theorem map_d {l m : List V} (h : l.map V.d = m.map V.d) : l = m := by
  induction l generalizing m with
  | nil => cases m with
    | nil => rfl
    | cons y m => simp at h
  | cons x l ih => cases m with
    | nil => simp at h
    | cons y m =>
      simp only [List.map_cons, List.cons.injEq] at h
      rw [same_d h.1, ih h.2]
theorem l_of (k n : Int) (s : ByteArray) (a : Option Addr) (c : Nat) (e : Int) (l : List V) : (V.of k n s a c e l).l = l := map_d (by rw [l_d]; rfl)
theorem ex (v : V) : ∃ k n s a c e l, v = V.of k n s a c e l := by
  refine ⟨v.k, v.n, v.s, v.a, v.c, v.e, v.l, same_d ?_⟩
  refine (wfD_kids v.h).1.trans ?_
  show _ = DataW.slice (v.l.map V.d) _
  rw [l_d]
  rfl
theorem lt (v x : V) (h : x ∈ v.l) : SizeOf.sizeOf x.d < SizeOf.sizeOf v.d := by
  have h1 : x.d ∈ kidsD v.d := by rw [← l_d]; exact List.mem_map.2 ⟨x, h, rfl⟩
  have h2 := List.sizeOf_lt_of_mem h1
  have h3 := (wfD_kids v.h).1
  rw [h3]
  simp only [DataW.slice.sizeOf_spec]
  omega
theorem ind {Q : V → Prop} (h : ∀ k n s a c e l, (∀ x ∈ l, Q x) → Q (V.of k n s a c e l)) (v : V) : Q v := by
  generalize hn : SizeOf.sizeOf v.d = m
  induction m using Nat.strongRecOn generalizing v with
  | _ m ih =>
    obtain ⟨k, n, s, a, c, e, l, rfl⟩ := V.ex v
    refine h k n s a c e l fun x hx => ih _ ?_ x rfl
    have := V.lt (V.of k n s a c e l) x (by rw [l_of]; exact hx)
    omega
end V
/-- going through a tree -/
def foldD {β : Type} (g : Pl → List β → β) (z : β) : DataW Pl → β
  | .slice l [.held p] => g p (l.map (foldD g z))
  | _ => z
def V.fold {β : Type} (g : Pl → List β → β) (z : β) (v : V) : β := foldD g z v.d
theorem V.fold_of {β : Type} (g : Pl → List β → β) (z : β) (k n : Int) (s : ByteArray) (a : Option Addr) (c : Nat) (e : Int) (l : List V) :
    V.fold g z (V.of k n s a c e l) = g ⟨k, n, s, a, c, e⟩ (l.map (V.fold g z)) := by
  show foldD g z (.slice (l.map V.d) [.held ⟨k, n, s, a, c, e⟩]) = _
  rw [foldD, List.map_map]
  rfl
theorem V.k_of (k n : Int) (s : ByteArray) (a : Option Addr) (c : Nat) (e : Int) (l : List V) : (V.of k n s a c e l).k = k := rfl
theorem V.n_of (k n : Int) (s : ByteArray) (a : Option Addr) (c : Nat) (e : Int) (l : List V) : (V.of k n s a c e l).n = n := rfl
theorem V.s_of (k n : Int) (s : ByteArray) (a : Option Addr) (c : Nat) (e : Int) (l : List V) : (V.of k n s a c e l).s = s := rfl
theorem V.a_of (k n : Int) (s : ByteArray) (a : Option Addr) (c : Nat) (e : Int) (l : List V) : (V.of k n s a c e l).a = a := rfl
theorem V.c_of (k n : Int) (s : ByteArray) (a : Option Addr) (c : Nat) (e : Int) (l : List V) : (V.of k n s a c e l).c = c := rfl
theorem V.e_of (k n : Int) (s : ByteArray) (a : Option Addr) (c : Nat) (e : Int) (l : List V) : (V.of k n s a c e l).e = e := rfl
/-- going through a tree, with the parts themselves at hand -/
def V.both {β : Type} (g : Pl → List (V × β) → β) (z : β) : V → V × β := V.fold (fun p bs => (V.mk' p (bs.map Prod.fst), g p bs)) (V.of 0 0 ⟨#[]⟩ none 0 0 [], z)
def V.para {β : Type} (g : Pl → List (V × β) → β) (z : β) (v : V) : β := (V.both g z v).2
theorem V.both_fst {β : Type} (g : Pl → List (V × β) → β) (z : β) (v : V) : (V.both g z v).1 = v := by
  refine V.ind (Q := fun v => (V.both g z v).1 = v) ?_ v
  intro k n s a c e l ih
  unfold V.both
  rw [V.fold_of]
  show V.mk' _ _ = _
  have : (l.map (V.both g z)).map Prod.fst = l := by
    rw [List.map_map]
    conv => rhs; rw [← List.map_id l]
    exact List.map_congr_left fun x hx => ih x hx
  exact congrArg (V.mk' _) this
theorem V.para_of {β : Type} (g : Pl → List (V × β) → β) (z : β) (k n : Int) (s : ByteArray) (a : Option Addr) (c : Nat) (e : Int) (l : List V) :
    V.para g z (V.of k n s a c e l) = g ⟨k, n, s, a, c, e⟩ (l.map fun x => (x, V.para g z x)) := by
  unfold V.para
  conv => lhs; unfold V.both; rw [V.fold_of]
  show g _ (l.map (V.both g z)) = _
  refine congrArg (g _) (List.map_congr_left fun x _ => ?_)
  exact Prod.ext (V.both_fst g z x) rfl
theorem V.of_inj {k n : Int} {s : ByteArray} {a : Option Addr} {c : Nat} {e : Int} {l : List V} {k' n' : Int} {s' : ByteArray} {a' : Option Addr} {c' : Nat} {e' : Int} {l' : List V}
    (h : V.of k n s a c e l = V.of k' n' s' a' c' e' l') : k = k' ∧ n = n' ∧ s = s' ∧ a = a' ∧ c = c' ∧ e = e' ∧ l = l' := by
  have h1 := congrArg V.k h
  have h2 := congrArg V.n h
  have h3 := congrArg V.s h
  have h4 := congrArg V.a h
  have h5 := congrArg V.c h
  have h6 := congrArg V.e h
  have h7 := congrArg V.l h
  rw [V.l_of, V.l_of] at h7
  exact ⟨h1, h2, h3, h4, h5, h6, h7⟩
end Go.Proofs.Ytiplidljlegcgaa
