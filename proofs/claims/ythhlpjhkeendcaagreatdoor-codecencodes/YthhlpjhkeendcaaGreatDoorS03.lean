/- CDef, CRead -/
import Derived.Test.YthhlpjhkeendcaaGreatDoorS01
namespace Go.Proofs.YthhlpjhkeendcaaGreatDoor
set_option linter.unusedVariables false
set_option linter.unusedSimpArgs false
/-! ### numbers as bytes -/
def dig (N k : Nat) : Nat := N / 256 ^ k % 256
def digs (N k : Nat) : List Nat := (List.range k).map (fun i => dig N (k - 1 - i))
def getN (l : List Nat) : Nat := l.foldl (fun m c => m * 256 + c) 0
theorem digs_length (N k : Nat) : (digs N k).length = k := by simp [digs]
theorem digs_lt (N k : Nat) : ∀ c ∈ digs N k, c < 256 := by
  intro c hc
  obtain ⟨i, _, rfl⟩ := List.mem_map.1 hc
  exact Nat.mod_lt _ (by omega)
theorem digs_getD (N k i : Nat) (h : i < k) : (digs N k).getD i 0 = dig N (k - 1 - i) := by simp [digs, List.getD_eq_getElem?_getD, h]
theorem digs_succ (N k : Nat) : digs N (k + 1) = dig N k :: digs N k := by
  unfold digs
  rw [List.range_succ_eq_map, List.map_cons, List.map_map]
  congr 1
  apply List.map_congr_left
  intro i hi
  have := List.mem_range.1 hi
  simp only [Function.comp]
  congr 1
  omega
theorem getN_snoc (l : List Nat) (c : Nat) : getN (l ++ [c]) = getN l * 256 + c := by unfold getN; rw [List.foldl_append]; rfl
theorem fold_lt (l : List Nat) (m : Nat) (h : ∀ c ∈ l, c < 256) : l.foldl (fun m c => m * 256 + c) m + 1 ≤ (m + 1) * 256 ^ l.length := by
  induction l generalizing m with
  | nil => simp
  | cons c l ih =>
    have h1 := ih (m * 256 + c) (fun d hd => h d (by simp [hd]))
    have h2 := h c (by simp)
    rw [List.foldl_cons, List.length_cons, Nat.pow_succ, Nat.mul_comm (256 ^ l.length) 256, ← Nat.mul_assoc]
    exact Nat.le_trans h1 (Nat.mul_le_mul_right _ (by omega))
theorem getN_lt (l : List Nat) (h : ∀ c ∈ l, c < 256) : getN l < 256 ^ l.length := by
  have := fold_lt l 0 h
  unfold getN
  omega
theorem fold_eq (l : List Nat) (m : Nat) : l.foldl (fun m c => m * 256 + c) m = m * 256 ^ l.length + getN l := by
  induction l generalizing m with
  | nil => simp [getN]
  | cons c l ih =>
    unfold getN
    rw [List.foldl_cons, List.foldl_cons, ih, ih, List.length_cons, Nat.pow_succ]
    simp only [Nat.zero_mul, Nat.zero_add]
    rw [Nat.add_mul, Nat.mul_assoc, Nat.mul_comm 256, Nat.add_assoc]
theorem getN_digs (N k : Nat) : getN (digs N k) = N % 256 ^ k := by
  induction k with
  | zero => simp [digs, getN, Nat.mod_one]
  | succ k ih =>
    rw [digs_succ]
    have : getN (dig N k :: digs N k) = dig N k * 256 ^ (digs N k).length + getN (digs N k) := by
      unfold getN
      rw [List.foldl_cons, fold_eq]
      simp [getN]
    rw [this, ih, digs_length]
    unfold dig
    rw [Nat.pow_succ, Nat.mod_mul, Nat.mul_comm (N / 256 ^ k % 256), Nat.add_comm]
/-! ### constructors -/
def codeS : List Nat := [64, 86, 80, 96, 82, 83, 81, 97, 84, 85, 114, 130, 116, 132, 148, 115, 131, 152, 160, 161, 163, 192, 193, 224, 0]
def codeL : List Nat := [64, 86, 80, 96, 112, 128, 81, 97, 113, 129, 114, 130, 116, 132, 148, 115, 131, 152, 176, 177, 179, 208, 209, 240, 0]
def pickC (k : Nat) (b : Bool) : Nat := if b then codeS.getD k 0 else codeL.getD k 0
def kindC (c : Nat) : Option Nat :=
  if c = 65 ∨ c = 66 then some 1 else if c = 67 then some 4 else if c = 68 then some 5 else if c = 69 then some 21
  else (List.range 25).find? (fun k => decide (c = codeS.getD k 0) || decide (c = codeL.getD k 0))
def nwid (c : Nat) : Nat := if c / 16 = 5 then 1 else if c / 16 = 6 then 2 else if c / 16 = 7 then 4 else 8
def headC (c : Nat) : Nat :=
  if c / 16 = 0 then 0 else if c / 16 = 4 then 0 else if c / 16 = 9 then 16 else if c / 16 = 10 then 1 else if c / 16 = 11 then 4
  else if c / 16 = 12 then 2 else if c / 16 = 14 then 2 else if c / 16 = 13 then 8 else if c / 16 = 15 then 8 else nwid c
def standsC (c : Nat) : Bool := (kindC c).isSome && (decide (c / 16 ≠ 4) && decide (c / 16 ≠ 0))
def smallC (k n : Int) (body : Nat) : Bool :=
  if k = 4 ∨ k = 5 then decide (n ≤ 255) else if k = 8 ∨ k = 9 then decide (n ≤ 127 ∨ 18446744073709551488 ≤ n)
  else if k = 18 ∨ k = 19 ∨ k = 20 then decide (body ≤ 255) else if k = 21 ∨ k = 22 ∨ k = 23 then decide (1 + body ≤ 255) else true
def codeG (k n : Int) (len body : Nat) : Nat :=
  if k = 1 then (if n = 1 then 65 else 66) else if k = 4 ∧ n = 0 then 67 else if k = 5 ∧ n = 0 then 68 else if k = 21 ∧ len = 0 then 69
  else pickC k.toNat (smallC k n body)
def acodeG (e : Int) (bs : List (V × Nat)) : Nat := pickC e.toNat (bs.all fun b => smallC b.1.k b.1.n b.2)
def bodyG (p : Pl) (bs : List (V × Nat)) : Nat :=
  if p.k = 18 ∨ p.k = 19 ∨ p.k = 20 then p.s.size
  else if p.k = 23 then 1 + ((bs.map Prod.snd).sum + bs.length * headC (acodeG p.e bs))
  else (bs.map fun b => 1 + headC (codeG b.1.k b.1.n b.1.l.length b.2) + b.2).sum
def T.body : T → Nat := V.para bodyG 0
theorem body_of (k n : Int) (s : ByteArray) (a : Option Addr) (c : Nat) (e : Int) (l : List V) : T.body (V.of k n s a c e l) = bodyG ⟨k, n, s, a, c, e⟩ (l.map fun x => (x, T.body x)) := by
  unfold T.body
  rw [V.para_of]
def T.code (t : T) : Nat := codeG t.k t.n t.l.length t.body
def T.len (t : T) : Nat := 1 + headC t.code + t.body
def T.acode (t : T) : Nat := acodeG t.e (t.l.map fun x => (x, T.body x))
def txt (s : ByteArray) : List Nat := s.data.toList.map UInt8.toNat
def dataG (p : Pl) (bs : List (V × (Nat → List Nat))) (c : Nat) : List Nat :=
  if c / 16 = 4 then []
  else if c / 16 = 10 then digs (bodyG p (bs.map fun b => (b.1, T.body b.1))) 1 ++ txt p.s
  else if c / 16 = 11 then digs (bodyG p (bs.map fun b => (b.1, T.body b.1))) 4 ++ txt p.s
  else if c / 16 = 9 then txt p.s
  else if c / 16 = 14 then digs (1 + bodyG p (bs.map fun b => (b.1, T.body b.1))) 1 ++ (digs bs.length 1 ++ (acodeG p.e (bs.map fun b => (b.1, T.body b.1)) :: (bs.map fun b => b.2 (acodeG p.e (bs.map fun b => (b.1, T.body b.1)))).flatten))
  else if c / 16 = 15 then digs (4 + bodyG p (bs.map fun b => (b.1, T.body b.1))) 4 ++ (digs bs.length 4 ++ (acodeG p.e (bs.map fun b => (b.1, T.body b.1)) :: (bs.map fun b => b.2 (acodeG p.e (bs.map fun b => (b.1, T.body b.1)))).flatten))
  else if c / 16 = 12 then digs (1 + bodyG p (bs.map fun b => (b.1, T.body b.1))) 1 ++ (digs bs.length 1 ++ (bs.map fun b => T.code b.1 :: b.2 (T.code b.1)).flatten)
  else if c / 16 = 13 then digs (4 + bodyG p (bs.map fun b => (b.1, T.body b.1))) 4 ++ (digs bs.length 4 ++ (bs.map fun b => T.code b.1 :: b.2 (T.code b.1)).flatten)
  else if c / 16 = 0 then (bs.map fun b => T.code b.1 :: b.2 (T.code b.1)).flatten
  else digs p.n.toNat (nwid c)
def T.data : T → Nat → List Nat := V.para dataG (fun _ => [])
def T.enc (t : T) : List Nat := t.code :: t.data t.code
def encs (l : List T) : List Nat := (l.map T.enc).flatten
def datas (c : Nat) (l : List T) : List Nat := (l.map fun x => T.data x c).flatten
theorem bs_map (l : List V) (f : V → Nat → List Nat) : (l.map fun x => (x, f x)).map (fun b => (b.1, T.body b.1)) = l.map fun x => (x, T.body x) := by rw [List.map_map]; rfl
theorem data_of (k n : Int) (s : ByteArray) (a : Option Addr) (c0 : Nat) (e : Int) (l : List V) (c : Nat) : T.data (V.of k n s a c0 e l) c =
    (if c / 16 = 4 then []
    else if c / 16 = 10 then digs (T.body (V.of k n s a c0 e l)) 1 ++ txt s
    else if c / 16 = 11 then digs (T.body (V.of k n s a c0 e l)) 4 ++ txt s
    else if c / 16 = 9 then txt s
    else if c / 16 = 14 then digs (1 + T.body (V.of k n s a c0 e l)) 1 ++ (digs l.length 1 ++ (T.acode (V.of k n s a c0 e l) :: datas (T.acode (V.of k n s a c0 e l)) l))
    else if c / 16 = 15 then digs (4 + T.body (V.of k n s a c0 e l)) 4 ++ (digs l.length 4 ++ (T.acode (V.of k n s a c0 e l) :: datas (T.acode (V.of k n s a c0 e l)) l))
    else if c / 16 = 12 then digs (1 + T.body (V.of k n s a c0 e l)) 1 ++ (digs l.length 1 ++ encs l)
    else if c / 16 = 13 then digs (4 + T.body (V.of k n s a c0 e l)) 4 ++ (digs l.length 4 ++ encs l)
    else if c / 16 = 0 then encs l
    else digs n.toNat (nwid c)) := by
  have e1 : T.data (V.of k n s a c0 e l) = dataG ⟨k, n, s, a, c0, e⟩ (l.map fun x => (x, T.data x)) := by
    unfold T.data
    rw [V.para_of]
  have e2 : T.acode (V.of k n s a c0 e l) = acodeG e (l.map fun x => (x, T.body x)) := by unfold T.acode; rw [V.e_of, V.l_of]
  rw [e1, e2, body_of]
  unfold dataG
  simp only [bs_map, List.length_map, List.map_map]
  unfold datas encs T.enc
  rfl
/-! ### reading -/
abbrev Res (α : Type) := Except (Int × Int) α
def shortC (n : Nat) (sz : Int) : Int × Int := if sz = -1 then ((n : Int), 10) else (sz, 32)
def mkS (l : List Nat) : ByteArray := ⟨(l.map UInt8.ofNat).toArray⟩
def sext (w m : Nat) : Nat := if w = 1 then (if m < 128 then m else m + 18446744073709551360) else if w = 2 then (if m < 32768 then m else m + 18446744073709486080)
  else if w = 4 then (if m < 2147483648 then m else m + 18446744069414584320) else m
def formC (k m : Nat) : Bool := if k = 1 then decide (m ≤ 1) else if k = 15 then decide (m ≤ 1114111 ∧ (m < 55296 ∨ 57343 < m)) else true
section
variable (B : Nat → ByteArray → Int) (W : List T → Bool) (l : List Nat)
def rnum (p fin : Nat) (sz : Int) (w : Nat) : Res Nat := if p + w ≤ fin then .ok (getN ((l.drop p).take w)) else .error (shortC l.length sz)
def rbytes (p fin : Nat) (sz : Int) (n : Nat) : Res (List Nat) := if p + n ≤ fin then .ok ((l.drop p).take n) else .error (shortC l.length sz)
def rvalG (D : Nat → Nat → Nat → Nat → Nat → Int → Res (T × Nat)) (f p fin : Nat) (sz : Int) : Res (T × Nat) :=
  match rnum l p fin sz 1 with
  | .error x => .error x
  | .ok c => match kindC c with
    | none => .error ((p : Int), 30)
    | some k => if f = 0 then .error ((p : Int), 26) else D k c p (p + 1) fin sz
def rmany (R : Nat → Res (T × Nat)) : Nat → Nat → Res (List T × Nat)
  | 0, p => .ok ([], p)
  | n + 1, p => match R p with
    | .error x => .error x
    | .ok (x, q) => match rmany R n q with
      | .error x => .error x
      | .ok (xs, q) => .ok (x :: xs, q)
def rspan {α : Type} (w least p fin : Nat) (sz : Int) (inner : Nat → Nat → Nat → Int → Res (α × Nat)) : Res (α × Nat) :=
  match rnum l p fin sz w with
  | .error x => .error x
  | .ok size =>
    if size < least then .error ((p : Int), 32)
    else if fin < p + w + size then .error (shortC l.length sz)
    else match rnum l (p + w) (p + w + size) p w with
      | .error x => .error x
      | .ok count => match inner count (p + w + w) (p + w + size) p with
        | .error x => .error x
        | .ok (x, q) => if q < p + w + size then .error ((p : Int), 32) else .ok (x, q)
def relems (R : Nat → Nat → Int → Res (T × Nat)) (k w place p fin : Nat) (sz : Int) : Res (List T × Nat) :=
  match rspan l w w p fin sz (fun count q fin sz => if k = 22 ∧ count % 2 ≠ 0 then .error ((place : Int), 34) else if k = 22 ∧ 1024 < count / 2 then .error ((place : Int), 2) else rmany (fun r => R r fin sz) count q) with
  | .error x => .error x
  | .ok (xs, q) => if k = 22 ∧ W xs = true then .error ((place : Int), 34) else .ok (xs, q)
def rarr (D : Nat → Nat → Nat → Nat → Nat → Int → Res (T × Nat)) (f w p fin : Nat) (sz : Int) : Res ((Nat × List T) × Nat) :=
  rspan l w (w + 1) p fin sz fun count q fin sz => match rnum l q fin sz 1 with
    | .error x => .error x
    | .ok c => if standsC c = true then
        match rmany (fun r => if f = 0 then .error ((r : Int), 26) else D ((kindC c).getD 0) c r r fin sz) count (q + 1) with
        | .error x => .error x
        | .ok (xs, q) => .ok (((kindC c).getD 0, xs), q)
      else .error ((q : Int), 30)
def rtext (k w p fin : Nat) (sz : Int) : Res (ByteArray × Nat) :=
  match rnum l p fin sz w with
  | .error x => .error x
  | .ok n => match rbytes l (p + w) fin sz n with
    | .error x => .error x
    | .ok s => if 0 ≤ B k (mkS s) then .error (((p + w : Nat) : Int) + B k (mkS s), 33) else .ok (mkS s, p + w + n)
def rnumber (k w p fin : Nat) (sz : Int) : Res (Nat × Nat) :=
  match rnum l p fin sz w with
  | .error x => .error x
  | .ok m => if k = 6 ∨ k = 7 ∨ k = 8 ∨ k = 9 then .ok (sext w m, p + w) else if formC k m = true then .ok (m, p + w) else .error ((p : Int), 31)
def e0 : ByteArray := ⟨#[]⟩
def rdat : Nat → Nat → Nat → Nat → Nat → Nat → Int → Res (T × Nat)
  | 0, _, _, _, _, _, _ => .error (0, 0)
  | f + 1, k, c, place, p, fin, sz =>
    if c / 16 = 0 then
      match rvalG l (rdat f) f p fin sz with
      | .error x => .error x
      | .ok (d, q) => match rvalG l (rdat f) f q fin sz with
        | .error x => .error x
        | .ok (v, q) => .ok (T.of k 0 e0 0 [d, v], q)
    else if c / 16 = 4 then .ok (T.of k (if c = 65 then 1 else 0) e0 0 [], p)
    else if c / 16 = 9 then match rbytes l p fin sz 16 with
      | .error x => .error x
      | .ok s => .ok (T.of k 0 (mkS s) 0 [], p + 16)
    else if c / 16 = 10 ∨ c / 16 = 11 then match rtext B l k (if c / 16 = 10 then 1 else 4) p fin sz with
      | .error x => .error x
      | .ok (s, q) => .ok (T.of k 0 s 0 [], q)
    else if c / 16 = 12 ∨ c / 16 = 13 then match relems W l (rvalG l (rdat f) f) k (if c / 16 = 12 then 1 else 4) place p fin sz with
      | .error x => .error x
      | .ok (xs, q) => .ok (T.of k 0 e0 0 xs, q)
    else if c / 16 = 14 ∨ c / 16 = 15 then match rarr l (rdat f) f (if c / 16 = 14 then 1 else 4) p fin sz with
      | .error x => .error x
      | .ok ((e, xs), q) => .ok (T.of k 0 e0 e xs, q)
    else match rnumber l k (nwid c) p fin sz with
      | .error x => .error x
      | .ok (n, q) => .ok (T.of k n e0 0 [], q)
def rval (f p fin : Nat) (sz : Int) : Res (T × Nat) := rvalG l (rdat B W l f) f p fin sz
def rdec (p : Nat) : Res (T × Nat) :=
  match rval B W l 32 p l.length (-1) with
  | .error x => .error x
  | .ok (v, q) => if p + 1048576 < q then .error ((p : Int), 2) else .ok (v, q)
end
structure OwnG (B : Nat → ByteArray → Int) (W : List T → Bool) (k n : Int) (s : ByteArray) (e : Int) (l : List V) : Prop where
  k0 : 0 ≤ k
  k1 : k ≤ 24
  n0 : 0 ≤ n
  n1 : n < 18446744073709551616
  isNull : k = 0 → n = 0
  isText : k = 14 ∨ k = 17 ∨ k = 18 ∨ k = 19 ∨ k = 20 → n = 0 ∧ l = [] ∧ e = 0
  isList : k = 21 ∨ k = 22 ∨ k = 24 → n = 0 ∧ s = e0 ∧ e = 0
  isArr : k = 23 → n = 0 ∧ s = e0 ∧ 0 < e ∧ e < 24 ∧ ∀ x ∈ l, x.k = e
  isNum : k < 14 ∨ k = 15 ∨ k = 16 → s = e0 ∧ l = [] ∧ e = 0
  num : (k = 1 → n ≤ 1) ∧ (k = 2 → n ≤ 255) ∧ (k = 3 → n ≤ 65535) ∧ (k = 4 ∨ k = 10 ∨ k = 12 → n ≤ 4294967295) ∧ (k = 6 → n ≤ 127 ∨ 18446744073709551488 ≤ n) ∧ (k = 7 → n ≤ 32767 ∨ 18446744073709518848 ≤ n)
    ∧ (k = 8 → n ≤ 2147483647 ∨ 18446744071562067968 ≤ n) ∧ (k = 15 → n ≤ 1114111 ∧ (n < 55296 ∨ 57343 < n))
  six : k = 14 ∨ k = 17 → s.size = 16
  utf : k = 18 ∨ k = 19 ∨ k = 20 → B k.toNat s < 0
  map : k = 22 → l.length % 2 = 0 ∧ l.length / 2 ≤ 1024 ∧ W l = false
  desc : k = 24 → l.length = 2
def Gd (B : Nat → ByteArray → Int) (W : List T → Bool) : T → Nat → Prop :=
  V.para (fun (p : Pl) (bs : List (V × (Nat → Prop))) (f : Nat) => 0 < f ∧ OwnG B W p.k p.n p.s p.e (bs.map Prod.fst) ∧ ∀ b ∈ bs, b.2 (f - 1)) (fun _ => True)
theorem Gd_of (B : Nat → ByteArray → Int) (W : List T → Bool) (k n : Int) (s : ByteArray) (a : Option Addr) (c : Nat) (e : Int) (l : List V) (f : Nat) :
    Gd B W (V.of k n s a c e l) f ↔ 0 < f ∧ OwnG B W k n s e l ∧ ∀ x ∈ l, Gd B W x (f - 1) := by
  unfold Gd
  rw [V.para_of]
  simp only [List.map_map]
  have h1 : (l.map (Prod.fst ∘ fun x => (x, V.para (fun (p : Pl) (bs : List (V × (Nat → Prop))) (f : Nat) => 0 < f ∧ OwnG B W p.k p.n p.s p.e (bs.map Prod.fst) ∧ ∀ b ∈ bs, b.2 (f - 1)) (fun _ => True) x))) = l := by
    conv => rhs; rw [← List.map_id l]
    rfl
  rw [h1]
  refine and_congr Iff.rfl (and_congr Iff.rfl ⟨fun h x hx => h (x, _) (List.mem_map.2 ⟨x, hx, rfl⟩), fun h b hb => ?_⟩)
  obtain ⟨x, hx, rfl⟩ := List.mem_map.1 hb
  exact h x hx
/-! ### constructors' facts -/
theorem kind_pick : ∀ k, k < 25 → ∀ b, kindC (pickC k b) = some k := by decide
theorem pick_lt : ∀ k, k < 25 → ∀ b, pickC k b < 256 := by decide
def FitsC (t : T) (c : Nat) : Prop := c = t.code ∨ c = pickC t.k.toNat false ∨ (c = pickC t.k.toNat true ∧ smallC t.k t.n t.body = true)
theorem codeG_cases (k n : Int) (len body : Nat) : (k = 1 ∧ n = 1 ∧ codeG k n len body = 65) ∨ (k = 1 ∧ n ≠ 1 ∧ codeG k n len body = 66) ∨ (k = 4 ∧ n = 0 ∧ codeG k n len body = 67) ∨ (k = 5 ∧ n = 0 ∧ codeG k n len body = 68) ∨
    (k = 21 ∧ len = 0 ∧ codeG k n len body = 69) ∨ (codeG k n len body = pickC k.toNat (smallC k n body)) := by
  unfold codeG
  by_cases h1 : k = 1
  · by_cases h2 : n = 1
    · simp [h1, h2]
    · simp [h1, h2]
  · by_cases h2 : k = 4 ∧ n = 0
    · obtain ⟨rfl, rfl⟩ := h2; simp
    · by_cases h3 : k = 5 ∧ n = 0
      · obtain ⟨rfl, rfl⟩ := h3; simp
      · by_cases h4 : k = 21 ∧ len = 0
        · obtain ⟨rfl, rfl⟩ := h4; simp
        · simp [h1, h2, h3, h4]
theorem fits_cases {t : T} {c : Nat} (h : FitsC t c) : (t.k = 1 ∧ t.n = 1 ∧ c = 65) ∨ (t.k = 1 ∧ t.n ≠ 1 ∧ c = 66) ∨ (t.k = 4 ∧ t.n = 0 ∧ c = 67) ∨ (t.k = 5 ∧ t.n = 0 ∧ c = 68) ∨ (t.k = 21 ∧ t.l.length = 0 ∧ c = 69) ∨
    c = pickC t.k.toNat false ∨ (c = pickC t.k.toNat true ∧ smallC t.k t.n t.body = true) := by
  rcases h with rfl | h | h
  · unfold T.code
    rcases codeG_cases t.k t.n t.l.length t.body with h | h | h | h | h | h
    · exact .inl h
    · exact .inr (.inl h)
    · exact .inr (.inr (.inl h))
    · exact .inr (.inr (.inr (.inl h)))
    · exact .inr (.inr (.inr (.inr (.inl h))))
    · rw [h]
      cases hs : smallC t.k t.n t.body
      · exact .inr (.inr (.inr (.inr (.inr (.inl rfl)))))
      · exact .inr (.inr (.inr (.inr (.inr (.inr ⟨rfl, rfl⟩)))))
  · exact .inr (.inr (.inr (.inr (.inr (.inl h)))))
  · exact .inr (.inr (.inr (.inr (.inr (.inr h)))))
theorem kind_code {t : T} {c : Nat} (h : FitsC t c) (h0 : 0 ≤ t.k) (h1 : t.k ≤ 24) : kindC c = some t.k.toNat ∧ c < 256 := by
  rcases fits_cases h with ⟨hk, _, rfl⟩ | ⟨hk, _, rfl⟩ | ⟨hk, _, rfl⟩ | ⟨hk, _, rfl⟩ | ⟨hk, _, rfl⟩ | rfl | ⟨rfl, _⟩
  · rw [hk]; decide
  · rw [hk]; decide
  · rw [hk]; decide
  · rw [hk]; decide
  · rw [hk]; decide
  · exact ⟨kind_pick _ (by omega) _, pick_lt _ (by omega) _⟩
  · exact ⟨kind_pick _ (by omega) _, pick_lt _ (by omega) _⟩
/-! ### lengths -/
theorem txt_length (s : ByteArray) : (txt s).length = s.size := by
  unfold txt
  rw [List.length_map]
  rfl
theorem txt_lt (s : ByteArray) : ∀ c ∈ txt s, c < 256 := by
  intro c hc
  obtain ⟨b, _, rfl⟩ := List.mem_map.1 hc
  exact b.toNat_lt
theorem sum_flat (l : List V) (f : V → List Nat) (g : V → Nat) (h : ∀ x ∈ l, (f x).length = g x) : ((l.map f).flatten).length = (l.map g).sum := by
  induction l with
  | nil => rfl
  | cons x l ih =>
    rw [List.map_cons, List.flatten_cons, List.length_append, h x (by simp), ih (fun y hy => h y (by simp [hy]))]
    simp
theorem body_enc (k n : Int) (s : ByteArray) (a : Option Addr) (c : Nat) (e : Int) (l : List V) (h : k = 21 ∨ k = 22 ∨ k = 24) : T.body (V.of k n s a c e l) = (l.map T.len).sum := by
  rw [body_of]
  unfold bodyG
  rw [if_neg (by simp; omega), if_neg (by simp; omega), List.map_map]
  rfl
theorem body_arr (n : Int) (s : ByteArray) (a : Option Addr) (c : Nat) (e : Int) (l : List V) : T.body (V.of 23 n s a c e l) = 1 + ((l.map T.body).sum + l.length * headC (T.acode (V.of 23 n s a c e l))) := by
  rw [body_of]
  unfold bodyG T.acode
  rw [if_neg (by simp), if_pos rfl, V.l_of, V.e_of, List.map_map, List.length_map]
  rfl
theorem body_txt (k n : Int) (s : ByteArray) (a : Option Addr) (c : Nat) (e : Int) (l : List V) (h : k = 18 ∨ k = 19 ∨ k = 20) : T.body (V.of k n s a c e l) = s.size := by
  rw [body_of]
  unfold bodyG
  rw [if_pos h]
theorem body_none (k n : Int) (s : ByteArray) (a : Option Addr) (c : Nat) (e : Int) (h : k < 18 ∨ k = 21 ∨ k = 22 ∨ k = 24) : T.body (V.of k n s a c e []) = 0 := by
  rw [body_of]
  unfold bodyG
  rw [if_neg (by simp; omega), if_neg (by simp; omega)]
  rfl
theorem sum_plus (l : List V) (g : V → Nat) (m : Nat) : (l.map fun x => m + g x).sum = (l.map g).sum + l.length * m := by
  induction l with
  | nil => simp
  | cons x l ih => simp [ih, Nat.succ_mul]; omega
theorem fits_acode {n : Int} {s : ByteArray} {a : Option Addr} {c : Nat} {e : Int} {l : List V} (h : ∀ x ∈ l, x.k = e) : ∀ x ∈ l, FitsC x (T.acode (V.of 23 n s a c e l)) := by
  intro x hx
  have he := h x hx
  unfold T.acode acodeG
  rw [V.e_of, V.l_of]
  cases hs : (l.map fun x => (x, T.body x)).all (fun b => smallC b.1.k b.1.n b.2)
  · exact .inr (.inl (by rw [he]))
  · refine .inr (.inr ⟨by rw [he], ?_⟩)
    exact List.all_eq_true.1 hs (x, T.body x) (List.mem_map.2 ⟨x, hx, rfl⟩)
set_option maxRecDepth 10000 in
set_option maxHeartbeats 4000000 in
theorem data_len (B : Nat → ByteArray → Int) (W : List T → Bool) : ∀ t : T, ∀ f c, Gd B W t f → FitsC t c → (T.data t c).length = headC c + t.body := by
  refine V.ind ?_
  intro k n s a c0 e l ih f c hg hc
  obtain ⟨hf, own, sub⟩ := (Gd_of _ _ _ _ _ _ _ _ _ _).1 hg
  have hk := kind_code hc own.k0 own.k1
  rw [data_of]
  have hc' := fits_cases hc
  rw [V.k_of, V.n_of, V.l_of] at hc'
  have henc : ∀ x ∈ l, (T.enc x).length = T.len x := fun x hx => by
    unfold T.enc T.len
    rw [List.length_cons, ih x hx (f - 1) (T.code x) (sub x hx) (.inl rfl)]
    omega
  have hes : (encs l).length = (l.map T.len).sum := sum_flat l _ _ henc
  have k0 := own.k0
  have k1 := own.k1
  by_cases hl : k = 21 ∨ k = 22 ∨ k = 24
  · have hb := body_enc k n s a c0 e l hl
    rw [← hes] at hb
    have hcs : c = 69 ∧ l.length = 0 ∨ c = 192 ∨ c = 208 ∨ c = 193 ∨ c = 209 ∨ c = 0 := by
      rcases hl with rfl | rfl | rfl
      · have : pickC (21 : Int).toNat false = 208 ∧ pickC (21 : Int).toNat true = 192 := by decide
        rw [this.1, this.2] at hc'; omega
      · have : pickC (22 : Int).toNat false = 209 ∧ pickC (22 : Int).toNat true = 193 := by decide
        rw [this.1, this.2] at hc'; omega
      · have : pickC (24 : Int).toNat false = 0 ∧ pickC (24 : Int).toNat true = 0 := by decide
        rw [this.1, this.2] at hc'; omega
    rcases hcs with ⟨rfl, h0⟩ | rfl | rfl | rfl | rfl | rfl
    · obtain rfl : l = [] := List.eq_nil_of_length_eq_zero h0
      rw [hb]; simp [headC, encs]
    all_goals simp [headC, hb, digs_length]; try omega
  by_cases ha : k = 23
  · subst ha
    have hb := body_arr n s a c0 e l
    have hd : (datas (T.acode (V.of 23 n s a c0 e l)) l).length = (l.map T.body).sum + l.length * headC (T.acode (V.of 23 n s a c0 e l)) := by
      unfold datas
      rw [sum_flat l _ (fun x => headC (T.acode (V.of 23 n s a c0 e l)) + T.body x) (fun x hx => ih x hx (f - 1) _ (sub x hx) (fits_acode (own.isArr rfl).2.2.2.2 x hx)), sum_plus]
    have hcs : c = 224 ∨ c = 240 := by
      have : pickC (23 : Int).toNat false = 240 ∧ pickC (23 : Int).toNat true = 224 := by decide
      rw [this.1, this.2] at hc'; omega
    have h2 : headC 224 = 2 ∧ headC 240 = 8 := by decide
    rcases hcs with rfl | rfl
    · rw [h2.1, hb]; simp [digs_length, hd]; omega
    · rw [h2.2, hb]; simp [digs_length, hd]; omega
  by_cases ht : k = 18 ∨ k = 19 ∨ k = 20
  · have hb := body_txt k n s a c0 e l ht
    have hcs : c = 160 ∨ c = 161 ∨ c = 163 ∨ c = 176 ∨ c = 177 ∨ c = 179 := by
      rcases ht with rfl | rfl | rfl <;> simp [pickC, codeS, codeL] at hc' <;> omega
    rcases hcs with rfl | rfl | rfl | rfl | rfl | rfl <;> simp [headC, digs_length, txt_length, hb]
  by_cases h6 : k = 14 ∨ k = 17
  · have hl0 := (own.isText (by omega)).2.1
    subst hl0
    have hb := body_none k n s a c0 e (by omega)
    have hcs : c = 148 ∨ c = 152 := by
      rcases h6 with rfl | rfl <;> simp [pickC, codeS, codeL] at hc' <;> omega
    rcases hcs with rfl | rfl <;> simp [headC, txt_length, hb, own.six h6]
  · have hl0 := (own.isNum (by omega)).2.1
    subst hl0
    have hb := body_none k n s a c0 e (by omega)
    rw [hb]
    have hcs : c / 16 = 4 ∨ c / 16 = 5 ∨ c / 16 = 6 ∨ c / 16 = 7 ∨ c / 16 = 8 := by
      have : k = 0 ∨ k = 1 ∨ k = 2 ∨ k = 3 ∨ k = 4 ∨ k = 5 ∨ k = 6 ∨ k = 7 ∨ k = 8 ∨ k = 9 ∨ k = 10 ∨ k = 11 ∨ k = 12 ∨ k = 13 ∨ k = 15 ∨ k = 16 := by omega
      rcases this with rfl | rfl | rfl | rfl | rfl | rfl | rfl | rfl | rfl | rfl | rfl | rfl | rfl | rfl | rfl | rfl <;> simp [pickC, codeS, codeL] at hc' <;> omega
    rcases hcs with h | h | h | h | h <;> simp [headC, h, nwid, digs_length]
theorem enc_len (B : Nat → ByteArray → Int) (W : List T → Bool) (t : T) (f : Nat) (h : Gd B W t f) : (T.enc t).length = T.len t := by
  unfold T.enc T.len
  rw [List.length_cons, data_len B W t f t.code h (.inl rfl)]
  omega
theorem mem_sum {l : List V} {g : V → Nat} {x : V} (h : x ∈ l) : g x ≤ (l.map g).sum := by
  induction l with
  | nil => simp at h
  | cons y l ih =>
    rcases List.mem_cons.1 h with rfl | h
    · simp
    · have := ih h; simp; omega
section
variable (B : Nat → ByteArray → Int) (W : List T → Bool)
theorem t_mem {l : List V} {x : T} (h : x ∈ V.ts l) : ∃ y ∈ l, y.t = x := by rw [V.ts_map] at h; exact List.mem_map.1 h
theorem T_k (k n : Int) (s : ByteArray) (e : Int) (l : List T) : (T.of k n s e l).k = k := rfl
end
section
variable (B : Nat → ByteArray → Int) (W : List T → Bool)
end
section
variable (B : Nat → ByteArray → Int) (W : List T → Bool)
end
end Go.Proofs.YthhlpjhkeendcaaGreatDoor
