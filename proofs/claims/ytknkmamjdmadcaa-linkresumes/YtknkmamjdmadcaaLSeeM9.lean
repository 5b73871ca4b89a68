import Derived.Maps.RangeWalk
import Derived.OwnWalk
import Derived.Test.YtknkmamjdmadcaaLHearM9
import Derived.StringKeys

/- Tables: maps by texts, told by lists of pairs. -/
namespace Go.Proofs.Ytknkmamjdmadcaa
open Go.RowKit Go.Maps
set_option linter.unusedVariables false
set_option linter.unusedSimpArgs false

def Rp {A : Type} (mk : A → Value) (D : DataW Value) (l : List (ByteArray × A)) : Prop :=
  (l.map (·.1)).Nodup ∧ ∃ es, D = .map es ∧ es.Perm (l.map fun p => (Lit.string p.1.data.toList, DataW.held (mk p.2)))

section
variable {A : Type} {mk : A → Value} {D : DataW Value} {l l' : List (ByteArray × A)} {k : ByteArray} {x : A}

theorem Rp.nil : Rp mk (.map []) ([] : List (ByteArray × A)) := ⟨by simp, [], rfl, .nil⟩

theorem Rp.perm (h : Rp mk D l) (hp : l.Perm l') : Rp mk D l' := by
  obtain ⟨hn, es, rfl, he⟩ := h
  exact ⟨(hp.map _).nodup_iff.1 hn, es, rfl, he.trans (hp.map _)⟩

theorem Rp.size (h : Rp mk D l) : Maps.size D = l.length := by
  obtain ⟨hn, es, rfl, he⟩ := h
  simpa [Maps.size_eq] using he.length_eq

theorem ba_eq {a b : ByteArray} (h : a.data.toList = b.data.toList) : a = b := by
  cases a; cases b
  simp at h
  rw [h]
theorem lit_same (a b : ByteArray) : (Lit.string a.data.toList).sameKey (.string b.data.toList) = decide (a = b) := by
  simp only [Lit.sameKey]
  by_cases h : a = b
  · simp [h]
  · have : (a.data.toList == b.data.toList) = false := by rw [beq_eq_false_iff_ne]; exact fun e => h (ba_eq e)
    rw [this]
    simp [h]

theorem Rp.has (h : Rp mk D l) (k : ByteArray) : Maps.has D (.string k.data.toList) = l.any (fun p => decide (p.1 = k)) := by
  obtain ⟨hn, es, rfl, he⟩ := h
  rw [Maps.has_eq, he.any_eq, List.any_map]
  congr 1
  funext p
  simp [lit_same]

theorem any_iff {l : List (ByteArray × A)} {k : ByteArray} : l.any (fun p => decide (p.1 = k)) = true ↔ k ∈ l.map (·.1) := by
  simp [List.any_eq_true]

theorem any_not {l : List (ByteArray × A)} {k : ByteArray} : l.any (fun p => decide (p.1 = k)) = false ↔ k ∉ l.map (·.1) := by
  rw [← Bool.not_eq_true, any_iff]

theorem Rp.at (h : Rp mk D l) (hx : (k, x) ∈ l) (z : DataW Value) : D.atKey (.string k.data.toList) z = .held (mk x) := by
  obtain ⟨hn, es, rfl, he⟩ := h
  simp only [DataW.atKey]
  have hm : (Lit.string k.data.toList, DataW.held (mk x)) ∈ es := he.mem_iff.2 (List.mem_map.2 ⟨(k, x), hx, rfl⟩)
  cases hf : es.find? (fun p => p.1.sameKey (.string k.data.toList)) with
  | none =>
    have := List.find?_eq_none.1 hf _ hm
    simp [lit_same] at this
  | some p =>
    have hp := List.mem_of_find?_eq_some hf
    have hk := List.find?_some hf
    obtain ⟨q, hq, rfl⟩ := List.mem_map.1 (he.mem_iff.1 hp)
    simp [lit_same] at hk
    have : q = (k, x) := by
      have hinj : ∀ (l : List (ByteArray × A)), (l.map (·.1)).Nodup → ∀ a ∈ l, ∀ b ∈ l, a.1 = b.1 → a = b := by
        intro l
        induction l with
        | nil => intro _ a ha; cases ha
        | cons c t ih =>
          intro hnd a ha b hb hab
          simp only [List.map_cons, List.nodup_cons] at hnd
          rcases List.mem_cons.1 ha with ea | ha2
          · rcases List.mem_cons.1 hb with eb | hb2
            · rw [ea, eb]
            · exact absurd (ea ▸ hab ▸ List.mem_map_of_mem hb2) hnd.1
          · rcases List.mem_cons.1 hb with eb | hb2
            · exact absurd (eb ▸ hab ▸ List.mem_map_of_mem ha2) hnd.1
            · exact ih hnd.2 a ha2 b hb2 hab
      exact hinj l hn q hq (k, x) hx hk
    simp [this]

theorem Rp.at_none (h : Rp mk D l) (hx : k ∉ l.map (·.1)) (z : DataW Value) : D.atKey (.string k.data.toList) z = z :=
  Maps.atKey_of_not_has (by rw [h.has, any_not]; exact hx) z

theorem nodup_filter {l : List (ByteArray × A)} (h : (l.map (·.1)).Nodup) (f : ByteArray × A → Bool) : ((l.filter f).map (·.1)).Nodup :=
  List.Nodup.sublist (List.Sublist.map _ List.filter_sublist) h

theorem Rp.del (h : Rp mk D l) (k : ByteArray) : Rp mk (D.del (.string k.data.toList)) (l.filter fun p => !decide (p.1 = k)) := by
  obtain ⟨hn, es, rfl, he⟩ := h
  refine ⟨nodup_filter hn _, _, rfl, (he.filter _).trans ?_⟩
  rw [List.filter_map]
  refine (List.Perm.of_eq ?_)
  congr 2
  funext p
  simp [lit_same, bne]

theorem insert_perm (x : Lit × DataW Value) : ∀ l : List (Lit × DataW Value), (DataW.insert x l).Perm (x :: l)
  | [] => by simp [DataW.insert]
  | y :: r => by
    simp only [DataW.insert]
    split
    · exact .refl _
    · exact ((insert_perm x r).cons y).trans (List.Perm.swap x y r)

theorem Rp.put (h : Rp mk D l) (k : ByteArray) (x : A) : Rp mk (D.put (.string k.data.toList) (.held (mk x))) ((k, x) :: l.filter fun p => !decide (p.1 = k)) := by
  obtain ⟨hn', es', hd, he'⟩ := h.del k
  obtain ⟨hn, es, rfl, he⟩ := h
  refine ⟨?_, _, rfl, ?_⟩
  · simp only [List.map_cons, List.nodup_cons]
    refine ⟨?_, hn'⟩
    simp
  · refine (insert_perm _ _).trans ?_
    have : es' = es.filter (fun p => !p.1.sameKey (.string k.data.toList)) := by
      have := hd
      simp [DataW.del] at this
      exact this.symm
    rw [List.map_cons, ← this]
    exact he'.cons _

theorem filter_none {l : List (ByteArray × A)} {k : ByteArray} (h : k ∉ l.map (·.1)) : (l.filter fun p => !decide (p.1 = k)) = l := by
  rw [List.filter_eq_self]
  intro p hp
  have : ¬ p.1 = k := fun e => h (e ▸ List.mem_map_of_mem hp)
  simp [this]

end
end Go.Proofs.Ytknkmamjdmadcaa


/- Stage 14: the table of deliveries, by their tags; laws at the operations on it. -/
namespace Go.Proofs.Ytknkmamjdmadcaa
open Go.RowKit Go.Maps
set_option linter.unusedVariables false
set_option linter.unusedSimpArgs false

/-- the cells of a state of which a kind alone is said -/
def stL (k : Int) : List Value := [.int .i64 k, .int .i64 0, .int .i64 0, .string ⟨#[]⟩, .string ⟨#[]⟩, .int .i64 0, .int .u64 0, .string ⟨#[]⟩, .slice none 0 0, .int .i64 0, .bool false, .bool false, .int .i64 0, .int .u64 0, .string ⟨#[]⟩, .slice none 0 0, .int .i64 0, .string ⟨#[]⟩, .slice none 0 0]
def stV (k : Int) : Value := .agg ⟨stL k⟩
/-- a delivery: the kinds of what we and of what the peer says -/
def Dv := Int × Int
def dvA (p : Dv) : Array Value := ⟨stL p.1 ++ stL p.2⟩
def dvV (p : Dv) : Value := .agg (dvA p)
theorem dvV_inj {p q : Dv} (h : dvV p = dvV q) : p = q := by
  obtain ⟨a, b⟩ := p
  obtain ⟨c, d⟩ := q
  simp [dvV, dvA, stL] at h
  obtain ⟨rfl, rfl⟩ := h
  rfl
def rH (v : Value) : Option (DataW Value × List MemPlace) := some (.held v, [])
theorem rH_inv {v x : Value} {ps : List MemPlace} (h : rH v = some (.held x, ps)) : v = x := by
  simp [rH] at h
  exact h.1
theorem Try.skeyed : Keyed Try.prog 9 := Keyed.of_law (Go.WideMaps.string_law Try.underlying9)
theorem keyS {s : ByteArray} (h : s.size ≤ maxLen) : keyOf Try.prog 9 (.string s) = some (.string s.data.toList) := Go.WideMaps.keyOf_string_mk Try.underlying9 h
def TbD (w : World) (b : Nat) (l : List (ByteArray × Dv)) : Prop := ∃ D, w.ownsMap Try.prog 9 rH b l.length D ∧ Rp dvV D l
section
variable {w w' : World} {b : Nat} {l l' : List (ByteArray × Dv)}
theorem TbD.lt (h : TbD w b l) : b < w.heap.size := by obtain ⟨D, h, _⟩ := h; exact h.lt
theorem TbD.at (h : TbD w b l) (hb : w'.heap[b]? = w.heap[b]?) : TbD w' b l := by
  obtain ⟨D, ⟨es, c, h1, h2⟩, h3⟩ := h
  exact ⟨D, ⟨es, c, hb.trans h1, h2⟩, h3⟩
theorem TbD.perm (h : TbD w b l) (hp : l.Perm l') : TbD w b l' := by
  obtain ⟨D, h1, h2⟩ := h
  exact ⟨D, hp.length_eq ▸ h1, h2.perm hp⟩
theorem TbD.nodup (h : TbD w b l) : (l.map (·.1)).Nodup := by obtain ⟨D, h1, h2⟩ := h; exact h2.1
theorem own_lowS {R : Value → Option (DataW Value × List MemPlace)} {n m : Nat} {D : DataW Value} (h : w.ownsMap Try.prog 9 R b n D) (hm : Maps.size D ≤ m) : w.ownsMap Try.prog 9 R b m D := by
  obtain ⟨es, c, h1, h2, h3, h4⟩ := h
  refine ⟨es, c, h1, h2, ?_, h4⟩
  rw [h4] at hm
  simpa [Maps.size, length_sorted] using hm
theorem TbD.mk {n : Nat} {D : DataW Value} (h : w.ownsMap Try.prog 9 rH b n D) (hr : Rp dvV D l) : TbD w b l := ⟨D, own_lowS h (by rw [hr.size]; exact Nat.le_refl _), hr⟩
theorem TbD.ne {g : Nat} {cs : Array Value} {t : TypeId} {f : Nat × Nat} (h : TbD w b l) (hg : w.heap[g]? = some (.cells cs t f)) : b ≠ g := by
  rintro rfl
  obtain ⟨D, ⟨es, c, h1, _⟩, _⟩ := h
  rw [h1] at hg
  cases hg
theorem TbD.made (w : World) : TbD (w.alloc (.map #[] 0)) w.heap.size [] := ⟨_, World.ownsMap_made w _ _ _, Rp.nil⟩
end
def hasK {A : Type} (l : List (ByteArray × A)) (k : ByteArray) : Bool := l.any (fun p => decide (p.1 = k))
def lu {A : Type} (d : A) (l : List (ByteArray × A)) (k : ByteArray) : A := match l.find? (fun p => decide (p.1 = k)) with | some p => p.2 | none => d
theorem lu_mem {A : Type} {d : A} {l : List (ByteArray × A)} {k : ByteArray} (h : hasK l k = true) : (k, lu d l k) ∈ l := by
  unfold lu
  cases hf : l.find? (fun p => decide (p.1 = k)) with
  | none =>
    have := List.find?_eq_none.1 hf
    obtain ⟨p, hp, hk⟩ := List.any_eq_true.1 h
    exact absurd hk (this p hp)
  | some p =>
    have h1 := List.mem_of_find?_eq_some hf
    have h2 := List.find?_some hf
    obtain ⟨a, b⟩ := p
    have h3 : a = k := by simpa using h2
    subst h3
    exact h1
theorem lu_none {A : Type} {d : A} {l : List (ByteArray × A)} {k : ByteArray} (h : hasK l k = false) : lu d l k = d := by
  unfold lu
  cases hf : l.find? (fun p => decide (p.1 = k)) with
  | none => rfl
  | some p =>
    have h1 := List.mem_of_find?_eq_some hf
    have h2 := List.find?_some hf
    unfold hasK at h
    rw [List.any_eq_false] at h
    exact absurd h2 (h p h1)
theorem Rp.lu {A : Type} {mk : A → Value} {D : DataW Value} {l : List (ByteArray × A)} (h : Rp mk D l) (d : A) (k : ByteArray) : D.atKey (.string k.data.toList) (.held (mk d)) = .held (mk (lu d l k)) := by
  cases hh : hasK l k with
  | true => exact h.at (lu_mem hh) _
  | false => rw [lu_none hh]; exact h.at_none (any_not.1 hh) _
def dv0 : Dv := (0, 0)
theorem zeroD (w : World) : (zeroValue 89).run Try.prog w = .ok (dvV dv0) w := by kernel_rfl
theorem grown_kp {w w' : World} {b : Nat} (h : w.mapTurned w' b) : Kp (fun k => k = b) w w' := (Kp.refl _ w).grown h.grown (fun j hj => by cases hj; exact .inl rfl)
open Go.ChangeMaps Go.MapKept in
theorem turned_size {w w' : World} {b : Nat} (h : w.mapTurned w' b) : w'.heap.size = w.heap.size := by
  obtain ⟨es, clock, es', clock', hb, rfl⟩ := h
  simp [setBlock]
section
variable {ops : Array Oper} {rest : List Oper} {o : Oper} {a : Act} {Q : Exit → Act → World → Prop} {w : World}
theorem look_D (hg : o.guard = none) (m x : Operand) (hop : o.op = Op.lookup 82 m x true) (b : Nat) (hm : a.eval m = .map (some b)) (k : ByteArray) (hx : a.eval x = .string k) (l : List (ByteArray × Dv)) (hT : TbD w b l) (hk : k.size ≤ maxLen)
    (hK : wpList Try.prog ops Q rest (a.put o.dst (.tuple #[dvV (lu dv0 l k), .bool (hasK l k)])) w) : wpList Try.prog ops Q (o :: rest) a w := by
  obtain ⟨D, h1, h2⟩ := hT
  refine wpList_lookup_own_ok w hg m x 82 hop 9 89 Try.skeyed Try.underlying82 rH (zeroD w) (.held (dvV dv0)) [] rfl b _ D hm h1 _ (.string k.data.toList) hx (keyS hk) ?_
  intro v ps hv
  rw [h2.lu dv0 k] at hv
  obtain rfl := rH_inv hv
  rw [h2.has]
  exact hK
theorem put_D (hg : o.guard = none) (m x v : Operand) (hop : o.op = Op.mapUpdate 82 m x v) (b : Nat) (hm : a.eval m = .map (some b)) (k : ByteArray) (p : Dv) (hx : a.eval x = .string k) (hv : a.eval v = dvV p) (l : List (ByteArray × Dv)) (hT : TbD w b l) (hk : k.size ≤ maxLen) (hn : l.length < maxLen)
    (hK : ∀ w', TbD w' b ((k, p) :: l.filter fun p => !decide (p.1 = k)) → Kp (fun q => q = b) w w' → w'.heap.size = w.heap.size → wpList Try.prog ops Q rest (a.put o.dst undef) w') : wpList Try.prog ops Q (o :: rest) a w := by
  obtain ⟨D, h1, h2⟩ := hT
  exact wpList_mapUpdate_in w hg m x v 82 hop 9 89 Try.skeyed Try.underlying82 rH b _ D hm h1 hn _ _ (.string k.data.toList) hx hv (keyS hk) (.held (dvV p)) [] rfl fun w' g1 g2 => hK w' (TbD.mk g1 (h2.put k p)) (grown_kp g2) (turned_size g2)
theorem del_D (hg : o.guard = none) (m x : Operand) (hop : o.op = Op.call { callee := Callee.builtin Builtin.delete, args := #[m, x], argTypes := #[82, 9] }) (b : Nat) (hm : a.eval m = .map (some b)) (k : ByteArray) (hx : a.eval x = .string k) (l : List (ByteArray × Dv)) (hT : TbD w b l) (hk : k.size ≤ maxLen)
    (hK : ∀ w', TbD w' b (l.filter fun p => !decide (p.1 = k)) → Kp (fun q => q = b) w w' → w'.heap.size = w.heap.size → wpList Try.prog ops Q rest (a.put o.dst (.tuple #[])) w') : wpList Try.prog ops Q (o :: rest) a w := by
  obtain ⟨D, h1, h2⟩ := hT
  exact wpList_delete_own w hg m x 82 9 hop 89 Try.skeyed Try.underlying82 rH b _ D hm h1 _ (.string k.data.toList) hx (keyS hk) fun w' g1 g2 => hK w' (TbD.mk g1 (h2.del k)) (grown_kp g2) (turned_size g2)
theorem len_D (hg : o.guard = none) (m : Operand) (hop : o.op = Op.call { callee := Callee.builtin Builtin.len, args := #[m], argTypes := #[82] }) (b : Nat) (hm : a.eval m = .map (some b)) (l : List (ByteArray × Dv)) (hT : TbD w b l)
    (hK : wpList Try.prog ops Q rest (a.put o.dst (.int .i64 l.length)) w) : wpList Try.prog ops Q (o :: rest) a w := by
  obtain ⟨D, h1, h2⟩ := hT
  refine wpList_len_own w hg m 82 hop 9 89 Try.underlying82 rH b _ D hm h1 ?_
  rw [h2.size]
  exact hK
end
end Go.Proofs.Ytknkmamjdmadcaa


/- Stage 14: New, See. -/
namespace Go.Proofs.Ytknkmamjdmadcaa
open Go.RowKit Go.Maps
set_option linter.unusedVariables false
set_option linter.unusedSimpArgs false

/-- a config's cells -/
def cfA (nm : ByteArray) (rc : Bool) (sm rm ic mm : Int) : Array Value := #[.string nm, .bool rc, .int .i64 sm, .int .i64 rm, .int .i64 ic, .int .i64 mm]
set_option maxRecDepth 100000 in
set_option maxHeartbeats 1000000 in
theorem mayBe_yes (nm : ByteArray) (rc : Bool) (sm rm ic mm : Int) (w : World) (h1 : nm.size ≤ 64) (h2 : isIn sm 2 = true) (h3 : isIn rm 1 = true) (h4 : isIn ic 4294967295 = true) (h5 : 0 ≤ mm) :
    Calls Try.prog 26 #[.agg (cfA nm rc sm rm ic mm)] w fun e w' => e = .returned (.bool true) ∧ Below w.heap.size w w' := by
  have n1 : ((nm.size : Int) ≤ 64) := by omega
  have H2 := hide h2
  have H3 := hide h3
  have H4 := hide h4
  clear h1 h2 h3 h4
  unfold cfA
  go_enter Try.func26, Try.ntmps26
  go_wp2_with (first | (go_at_call 40; refine (within_any _ _ _).mono ?_; rintro e1 w1 ⟨rfl, rfl⟩; (first | rw [H2.out] | rw [H3.out] | rw [H4.out])))
  go_ret
  exact ⟨by simp [n1, h5], bel1 (Below.refl _ _) (Nat.le_refl _) _⟩
set_option maxRecDepth 100000 in
set_option maxHeartbeats 1000000 in
theorem mayBe_snd (nm : ByteArray) (rc : Bool) (sm rm ic mm : Int) (w : World) (h1 : nm.size ≤ 64) (h2 : isIn sm 2 = false) :
    Calls Try.prog 26 #[.agg (cfA nm rc sm rm ic mm)] w fun e w' => e = .returned (.bool false) ∧ Below w.heap.size w w' := by
  have n1 : ((nm.size : Int) ≤ 64) := by omega
  have H2 := hide h2
  clear h1 h2
  unfold cfA
  go_enter Try.func26, Try.ntmps26
  go_wp2_with (first | (go_at_call 40; refine (within_any _ _ _).mono ?_; rintro e1 w1 ⟨rfl, rfl⟩; rw [H2.out]))
  go_ret
  exact ⟨by simp [n1], bel1 (Below.refl _ _) (Nat.le_refl _) _⟩
def newLk (nm : ByteArray) (rc : Bool) (sm rm ic : Int) (n : Nat) : Lk := ⟨nm, rc, ic, 0, 0, false, sm, rm, ic, ic, n⟩
/-- a link with its table -/
structure Lnk (w : World) (g : Nat) (l : Lk) (T : List (ByteArray × Dv)) : Prop where
  lb : LB w g l
  tb : TbD w l.dm T
section
variable {w w' : World} {g : Nat} {l l' : Lk} {T T' : List (ByteArray × Dv)}
def inL (g : Nat) (l : Lk) (k : Nat) : Prop := k = g ∨ k = l.dm
theorem Lnk.lt (h : Lnk w g l T) {k : Nat} (hk : inL g l k) : k < w.heap.size := by
  rcases hk with rfl | rfl
  · exact h.lb.lt
  · exact h.tb.lt
theorem Lnk.at (h : Lnk w g l T) (hb : ∀ k, inL g l k → w'.heap[k]? = w.heap[k]?) : Lnk w' g l T := ⟨h.lb.at (hb _ (.inl rfl)), h.tb.at (hb _ (.inr rfl))⟩
theorem Lnk.below (h : Lnk w g l T) (hb : Below w.heap.size w w') : Lnk w' g l T := h.at fun k hk => hb.block k (h.lt hk)
theorem Lnk.kp {X : Nat → Prop} (h : Lnk w g l T) (hb : Kp X w w') (hx : ∀ k, inL g l k → ¬ X k) : Lnk w' g l T := h.at fun k hk => hb.block (h.lt hk) (hx k hk)
theorem Lnk.ne (h : Lnk w g l T) : l.dm ≠ g := h.tb.ne h.lb
theorem Lnk.turn (h : Lnk w g l T) (hl : LB w' g l') (hm : l'.dm = l.dm) (hk : Kp (fun k => k = g) w w') : Lnk w' g l' T :=
  ⟨hl, by rw [hm]; exact h.tb.at (hk.block h.tb.lt h.ne)⟩
theorem Lnk.put (h : Lnk w g l T) (ht : TbD w' l.dm T') (hk : Kp (fun k => k = l.dm) w w') : Lnk w' g l T' :=
  ⟨h.lb.at (hk.block h.lb.lt (fun e => h.ne e.symm)), ht⟩
end
theorem kpL {g : Nat} {l : Lk} {w w' : World} (h : Kp (fun k => k = g) w w') : Kp (inL g l) w w' := h.mono (fun k hk => .inl hk)
set_option maxRecDepth 100000 in
set_option maxHeartbeats 1000000 in
theorem new_yes (nm : ByteArray) (rc : Bool) (sm rm ic mm : Int) (w : World) (h1 : nm.size ≤ 64) (h2 : isIn sm 2 = true) (h3 : isIn rm 1 = true) (h4 : isIn ic 4294967295 = true) (h5 : 0 ≤ mm) :
    Calls Try.prog 6 #[.agg (cfA nm rc sm rm ic mm)] w fun e w' => ∃ n, e = .returned (.pointer (some ⟨n + 1, 0, none⟩)) ∧ w.heap.size ≤ n ∧ Lnk w' (n + 1) (newLk nm rc sm rm ic n) [] ∧ Below w.heap.size w w' := by
  have HM := hide (mayBe_yes nm rc sm rm ic mm (w.alloc (.cells (cfA nm rc sm rm ic mm) 25)) h1 h2 h3 h4 h5)
  have hmm := @run_makeMap Try.prog
  clear h1 h2 h3 h4 h5
  have HF : Hid (∀ w1, Below (w.alloc (.cells (cfA nm rc sm rm ic mm) 25)).heap.size (w.alloc (.cells (cfA nm rc sm rm ic mm) 25)) w1 → w1.cell? ⟨w.heap.size, 0, none⟩ = some (.string nm) ∧ w1.cell? ⟨w.heap.size, 1, none⟩ = some (.bool rc) ∧ w1.cell? ⟨w.heap.size, 2, none⟩ = some (.int .i64 sm) ∧ w1.cell? ⟨w.heap.size, 3, none⟩ = some (.int .i64 rm) ∧ w1.cell? ⟨w.heap.size, 4, none⟩ = some (.int .i64 ic) ∧ w.heap.size < w1.heap.size ∧ Hid (Below w.heap.size w w1)) := by
    intro w1 hb1
    have hh : w1.heap[w.heap.size]? = some (.cells (cfA nm rc sm rm ic mm) 25 (0, 0)) := (hb1.block _ (by simp)).trans (heap_alloc_last w _)
    exact ⟨cellOf hh 0 _ rfl, cellOf hh 1 _ rfl, cellOf hh 2 _ rfl, cellOf hh 3 _ rfl, cellOf hh 4 _ rfl, (Array.getElem?_eq_some_iff.1 hh).1, belOn (bel1 (Below.refl _ _) (Nat.le_refl _) _) (by simp) hb1⟩
  unfold cfA at *
  go_enter Try.func6, Try.ntmps6
  go_wp2_with (go_at_call 26; refine HM.out.mono ?_; rintro e1 w1 ⟨rfl, hb1⟩; obtain ⟨c0, c1, c2, c3, c4, hlt, HB⟩ := HF.out w1 hb1; clear hb1)
  go_ret
  refine ⟨w1.heap.size, rfl, HB.out.size, ⟨?_, ?_⟩, bel1 (bel1 HB.out HB.out.size _) (by simp; omega) _⟩
  · have := heap_alloc_last (w1.alloc (.map #[] 0)) (.cells (newLk nm rc sm rm ic w1.heap.size).cells 84)
    rw [show (w1.alloc (.map #[] 0)).heap.size = w1.heap.size + 1 by simp] at this
    exact this
  · exact (TbD.made w1).at (Below.heap_alloc _ _ _ (by simp))
set_option maxRecDepth 100000 in
set_option maxHeartbeats 1000000 in
theorem new_no (nm : ByteArray) (rc : Bool) (sm rm ic mm : Int) (w : World) (h1 : nm.size ≤ 64) (h2 : isIn sm 2 = false) :
    Calls Try.prog 6 #[.agg (cfA nm rc sm rm ic mm)] w fun e w' => e = .returned (.pointer none) ∧ Below w.heap.size w w' := by
  have HM := hide (mayBe_snd nm rc sm rm ic mm (w.alloc (.cells (cfA nm rc sm rm ic mm) 25)) h1 h2)
  clear h1 h2
  unfold cfA at *
  go_enter Try.func6, Try.ntmps6
  go_wp2_with (first | (go_at_call 26; refine HM.out.mono ?_; rintro e1 w1 ⟨rfl, hb1⟩))
  go_ret
  exact ⟨rfl, belOn (bel1 (Below.refl _ _) (Nat.le_refl _) _) (by simp) hb1⟩
/-- how a link stands, as it is told -/
def Lk.see (l : Lk) (n : Nat) : Array Value := #[.string l.nm, .bool l.rc, .int .i64 l.ct, .int .i64 l.cr, .int .i64 l.av, .bool l.dr, .int .i64 (n : Int)]
end Go.Proofs.Ytknkmamjdmadcaa


/- Stage 14: See. -/
namespace Go.Proofs.Ytknkmamjdmadcaa
open Go.RowKit Go.Maps
set_option linter.unusedVariables false
set_option linter.unusedSimpArgs false

set_option maxRecDepth 100000 in
set_option maxHeartbeats 1000000 in
theorem see_any (g : Nat) (l : Lk) (T : List (ByteArray × Dv)) (w : World) (h : Lnk w g l T) :
    Calls Try.prog 9 #[.pointer (some ⟨g, 0, none⟩)] w fun e w' => e = .returned (.agg (l.see T.length)) ∧ Below w.heap.size w w' := by
  obtain ⟨s0, s1, s2, s3, s4, s5, s6, s7, s8, s9, s10, s11⟩ := h.lb.facts
  have hl := h.lb.lt
  have HT := hide (fun (o p : Obj) => ((h.tb.at (Below.heap_alloc w o _ h.tb.lt)).at (Below.heap_alloc (w.alloc o) p _ (Nat.lt_of_lt_of_le h.tb.lt (by simp))) : TbD ((w.alloc o).alloc p) l.dm T))
  clear h
  unfold Lk.see
  go_enter Try.func9, Try.ntmps9
  go_wp2_with (refine len_D rfl _ rfl l.dm rfl T (HT.out _ _) ?_)
  exact bodyPost_ret (v := .agg (l.see T.length)) (results_cell_row Try.results9 _ _ w.heap.size 38 (l.see T.length) (0, 0) _ rfl (heap_past (heap_alloc_last w _) _) Try.underlying38 rfl (by kernel_rfl)) rfl ⟨rfl, bel1 (bel1 (Below.refl _ _) (Nat.le_refl _) _) (by simp) _⟩
end Go.Proofs.Ytknkmamjdmadcaa
