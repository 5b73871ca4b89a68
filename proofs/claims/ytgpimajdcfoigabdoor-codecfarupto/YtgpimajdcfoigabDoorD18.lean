import Derived.Test.YtgpimajdcfoigabDoorD15
import Derived.Test.YtgpimajdcfoigabDoorD17
import Derived.OwnWalk
import Derived.Deep.RegionLaw
import Derived.Maps.AppendAt
import Derived.Test.YtgpimajdcfoigabDoorD12
import Derived.Deep.RegionHeldLaw

/- value.Equal. -/
namespace Go.Proofs.YtgpimajdcfoigabDoor
open Go.RowKit
set_option linter.unusedVariables false
set_option linter.unusedSimpArgs false

/-- are two values the same? -/
def eqT (x y : T) : Bool := decide (T.ord x y = 0)
def eqsT (l m : List T) : Bool := decide (T.ords l m = 0)
theorem lex_zero (a b : Int) : lex a b = 0 ↔ a = 0 ∧ b = 0 := by unfold lex; split <;> omega
theorem cmpZ_zero (a b : Int) : cmpZ a b = 0 ↔ a = b := by unfold cmpZ; split <;> (try split) <;> omega
theorem eqsT_len {l m : List T} (h : eqsT l m = true) : l.length = m.length := by
  induction l generalizing m with
  | nil => cases m with
    | nil => rfl
    | cons y m => simp [eqsT, T.ords] at h
  | cons x l ih => cases m with
    | nil => simp [eqsT, T.ords] at h
    | cons y m =>
      simp only [eqsT, T.ords, decide_eq_true_eq, lex_zero] at h
      have := ih (m := m) (by simpa [eqsT] using h.2)
      simp [this]
theorem eqsT_step {l m : List V} {k : Nat} (h1 : k < l.length) (h2 : k < m.length) : eqsT (V.ts (l.drop k)) (V.ts (m.drop k)) = (eqT l[k].t m[k].t && eqsT (V.ts (l.drop (k + 1))) (V.ts (m.drop (k + 1)))) := by
  unfold eqsT eqT
  rw [ords_step h1 h2, Bool.eq_iff_iff]
  simp [lex_zero]
theorem eqT_of (k n : Int) (s : ByteArray) (a : Option Addr) (c : Nat) (e : Int) (l : List V) (k' n' : Int) (s' : ByteArray) (a' : Option Addr) (c' : Nat) (e' : Int) (l' : List V) :
    eqT (V.of k n s a c e l).t (V.of k' n' s' a' c' e' l').t = (decide (k = k') && decide (n = n') && decide (s.toList = s'.toList) && decide (e = e') && eqsT (V.ts l) (V.ts l')) := by
  unfold eqT eqsT
  rw [V.t_of, V.t_of, T.of, T.of, T.ord_of, V.l_of, Bool.eq_iff_iff]
  simp only [lex_zero, cmpZ_zero, cmpB_zero, V.k_of, V.n_of, V.s_of, V.e_of, Bool.and_eq_true, decide_eq_true_eq]
  constructor
  · rintro ⟨h1, h2, h3, h4, h5⟩; exact ⟨⟨⟨⟨h1, h2⟩, h3⟩, h5⟩, h4⟩
  · rintro ⟨⟨⟨⟨h1, h2⟩, h3⟩, h5⟩, h4⟩; exact ⟨h1, h2, h3, h4, h5⟩

/-- what Equal is asked, of a value x -/
def EqOk (x : V) : Prop := ∀ (y : V) (n₀ : Nat) (w : World), n₀ ≤ w.heap.size → Lies n₀ w x → Lies n₀ w y →
  Calls Tryd.prog 8 #[x.val, y.val] w fun e w' => e = .returned (.bool (eqT x.t y.t)) ∧ Below w.heap.size w w'

set_option maxRecDepth 100000 in
set_option maxHeartbeats 1000000 in
theorem eqf_any (l m : List V) (ih : ∀ x ∈ l, EqOk x) (la : Option Addr) (lc : Nat) (ma : Option Addr) (mc n₀ : Nat) (w : World) (hn : n₀ ≤ w.heap.size) (hlc : l.length ≤ 281474976710656) (hmc : m.length ≤ 281474976710656)
    (lr : 0 < l.length → ∃ b o, la = some ⟨b, o, none⟩ ∧ b < n₀ ∧ Row w b o l) (ls : ∀ x ∈ l, Lies n₀ w x) (mr : 0 < m.length → ∃ b o, ma = some ⟨b, o, none⟩ ∧ b < n₀ ∧ Row w b o m) (ms : ∀ x ∈ m, Lies n₀ w x) :
    Calls Tryd.prog 15 #[.slice la l.length lc, .slice ma m.length mc, .func (.func 8) #[] #[]] w fun e w' =>
      e = .returned (.bool (eqsT (V.ts l) (V.ts m))) ∧ Below w.heap.size w w' := by
  by_cases hlen : l.length = m.length
  · rw [← hlen]
    have hl1 : l.length ≤ m.length := by omega
    have hl2 : m.length ≤ l.length := by omega
    clear hlen
    have LR := hide lr
    have LS := hide ls
    have MR := hide mr
    have MS := hide ms
    have IH := hide ih
    clear lr ls mr ms ih
    go_enter Tryd.func15, Tryd.ntmps15
    go_wp2
    go_loopw [17] (fun i wr => ∃ k : Nat, i = .int .i64 k ∧ k ≤ l.length ∧ Below w.heap.size w wr ∧ Hid (eqsT (V.ts l) (V.ts m) = eqsT (V.ts (l.drop k)) (V.ts (m.drop k)))) (fun i _ => l.length - (intOf i).toNat)
    case atStart => exact ⟨0, rfl, Nat.zero_le _, Below.refl _ _, rfl⟩
    case round =>
      obtain ⟨k, rfl, hk, hb, HO⟩ := hrel
      have hsz := hb.size
      by_cases h1 : k < l.length
      · have h2 : k < m.length := by omega
        obtain ⟨b, o, rfl, hlt, hr⟩ := LR.out (by omega)
        obtain ⟨b', o', rfl, hlt', hr'⟩ := MR.out (by omega)
        obtain ⟨x0, x1, x2, x3, x4⟩ := (hr.below hb (by omega)) k h1
        obtain ⟨y0, y1, y2, y3, y4⟩ := (hr'.below hb (by omega)) k h2
        have hA : b < wr.heap.size := by omega
        have hB : b' < wr.heap.size := by omega
        have hA' : b ≠ wr.heap.size := by omega
        have hB' : b' ≠ wr.heap.size := by omega
        have hx := IH.out l[k] (List.getElem_mem h1) m[k]
        rw [V.val_eq, V.val_eq] at hx
        have HX := hide hx
        clear hx hr hr'
        go_wp2_with fail
        have hbb := bel2 hb hsz (Obj.cells #[.int .i64 l[k].k, .int .u64 l[k].n, .string l[k].s, .slice l[k].a l[k].l.length l[k].c, .int .i64 l[k].e] 25) (Obj.cells #[.int .i64 m[k].k, .int .u64 m[k].n, .string m[k].s, .slice m[k].a m[k].l.length m[k].c, .int .i64 m[k].e] 25)
        refine Calls.mono (HX.out n₀ _ ?_ ((LS.out _ (List.getElem_mem h1)).keep hbb hn) ((MS.out _ (List.getElem_mem h2)).keep hbb hn)) ?_
        · simp; omega
        · rintro e w1 ⟨rfl, hb1⟩
          have hbw := belOn hbb (by simp; omega) hb1
          have hst := eqsT_step h1 h2
          generalize eqT l[k].t m[k].t = q at hst ⊢
          have HST := hide hst
          clear hb1 hbb hst
          cases q
          · go_wp2
            go_ret
            exact ⟨by rw [HO.out, HST.out]; rfl, hbw⟩
          · go_wp2
            go_roundw
            case rel => exact ⟨k + 1, by go_num, h1, hbw, by rw [HO.out, HST.out, Bool.true_and]; rfl⟩
            case measure => simp [intOf]; omega
      · obtain rfl : k = l.length := by omega
        go_wp2
        go_ret
        refine ⟨?_, hb⟩
        have e1 : m.drop l.length = [] := List.drop_of_length_le (by omega)
        rw [HO.out, List.drop_length, e1]
        rfl
  · have hlb : ((l.length : Int) == (m.length : Int)) = false := by simp; omega
    have he : eqsT (V.ts l) (V.ts m) = false := by
      cases h : eqsT (V.ts l) (V.ts m) with
      | false => rfl
      | true =>
        have := eqsT_len h
        simp [V.ts_length] at this
        omega
    rw [he]
    clear lr ls mr ms ih
    go_enter Tryd.func15, Tryd.ntmps15
    go_wp2
    go_ret
    exact ⟨rfl, Below.refl _ _⟩

set_option maxRecDepth 100000 in
set_option maxHeartbeats 1000000 in
theorem equal_any : ∀ x, EqOk x := by
  refine V.ind ?_
  intro k n s a c e l ih y n₀ w hn hx hy
  obtain ⟨k', n', s', a', c', e', l', rfl⟩ := V.ex y
  rw [eqT_of]
  have hf : ∀ w1, Below w.heap.size w w1 → Calls Tryd.prog 15 #[.slice a l.length c, .slice a' l'.length c', .func (.func 8) #[] #[]] w1 fun e w' =>
      e = .returned (.bool (eqsT (V.ts l) (V.ts l'))) ∧ Below w1.heap.size w1 w' := by
    intro w1 hb
    have hx1 := hx.keep hb hn
    have hy1 := hy.keep hb hn
    have hsz := hb.size
    exact eqf_any l l' ih a c a' c' n₀ w1 (by omega) (by have := hx1.ok.c; omega) (by have := hy1.ok.c; omega) hx1.row hx1.sub hy1.row hy1.sub
  have HF := hide hf
  clear hf ih hx hy
  generalize eqsT (V.ts l) (V.ts l') = q at HF ⊢
  rw [V.val_of, V.val_of]
  have hbel := fun A B => bel2 (Below.refl w.heap.size w) (Nat.le_refl _) A B
  by_cases hk : k = k'
  · subst hk
    by_cases hnn : n = n'
    · subst hnn
      by_cases hss : s.toList = s'.toList
      · have hsb : (s.toList == s'.toList) = true := by simpa using hss
        by_cases hee : e = e'
        · subst hee
          go_enter Tryd.func8, Tryd.ntmps8
          go_wp2_with fail
          refine Calls.mono (HF.out _ (hbel _ _)) ?_
          rintro e1 w1 ⟨rfl, hb1⟩
          go_wp2
          go_ret
          exact ⟨by simp [hss], belOn (hbel _ _) (by simp; omega) hb1⟩
        · have heb : ((e : Int) == e') = false := by simpa using hee
          go_enter Tryd.func8, Tryd.ntmps8
          go_wp2
          go_ret
          exact ⟨by simp [hee], hbel _ _⟩
      · have hsb : (s.toList == s'.toList) = false := by simpa using hss
        go_enter Tryd.func8, Tryd.ntmps8
        go_wp2
        go_ret
        exact ⟨by simp [hss], hbel _ _⟩
    · have hnb : ((n : Int) == n') = false := by simpa using hnn
      go_enter Tryd.func8, Tryd.ntmps8
      go_wp2
      go_ret
      exact ⟨by simp [hnn], hbel _ _⟩
  · have hkb : ((k : Int) == k') = false := by simpa using hk
    go_enter Tryd.func8, Tryd.ntmps8
    go_wp2
    go_ret
    exact ⟨by simp [hk], hbel _ _⟩
end Go.Proofs.YtgpimajdcfoigabDoor


/- rows that are kept. -/
namespace Go.Proofs.YtgpimajdcfoigabDoor
open Go.RowKit
set_option linter.unusedVariables false
set_option linter.unusedSimpArgs false

theorem ownsRow_keep {w w' : World} {base : Nat} {e : TypeId} {size : Nat} {v : Value} {n : Nat} {xs : List Value} (h : w.ownsRow base e size v n xs) (hk : ∀ g, v.ownBlock = some g → w'.heap[g]? = w.heap[g]?) : w'.ownsRow base e size v n xs := by
  refine ⟨h.1, ?_⟩
  rcases h.2 with hn | ⟨g, cap, cur, rfl, h1, h2, h3⟩
  · exact .inl hn
  · exact .inr ⟨g, cap, cur, rfl, h1, (hk g rfl).trans h2, h3⟩
theorem ownsRow_lt {w : World} {base : Nat} {e : TypeId} {size : Nat} {v : Value} {n : Nat} {xs : List Value} (h : w.ownsRow base e size v n xs) {g : Nat} (hg : v.ownBlock = some g) : base ≤ g ∧ g < w.heap.size := by
  rcases h.2 with ⟨rfl, _⟩ | ⟨g', cap, cur, rfl, h1, h2, h3⟩
  · cases hg
  · cases hg
    exact ⟨h1, (Array.getElem?_eq_some_iff.1 h2).1⟩
theorem news5 (W : World) (y : V) (q : Nat) (u : Value) (hq : (words y)[q]? = some u) : (W.alloc (Obj.cells #[.int .i64 y.k, .int .u64 y.n, .string y.s, .slice y.a y.l.length y.c, .int .i64 y.e] 25)).cell? ((⟨W.heap.size, 0, none⟩ : Addr).add q) = some u := by
  have hql : q < 5 := by have := (List.getElem?_eq_some_iff.1 hq).1; simpa [words] using this
  have hh := World.alloc_heap_new W (Obj.cells #[.int .i64 y.k, .int .u64 y.n, .string y.s, .slice y.a y.l.length y.c, .int .i64 y.e] 25)
  have e1 : (⟨W.heap.size, 0, none⟩ : Addr).add q = ⟨W.heap.size, q, none⟩ := by by_cases h : q = 0 <;> simp [Addr.add, h]
  rw [e1]
  simp only [World.cell?, hh]
  have : q = 0 ∨ q = 1 ∨ q = 2 ∨ q = 3 ∨ q = 4 := by omega
  rcases this with rfl | rfl | rfl | rfl | rfl <;> simpa [words] using hq
end Go.Proofs.YtgpimajdcfoigabDoor


/- An append as one step of a region that draws its order. -/
namespace Go.Proofs.YtgpimajdcfoigabDoor
set_option linter.unusedVariables false

theorem step_append_at {P : Program} {ops : Array Oper} {o : Oper} {a : Act} {w : World} {K : Act → World → Prop} {Q : Exit → Act → World → Prop} {E : Prop}
    (hg : o.guard = none) (s x : Operand) (t : TypeId) (ho : o.op = Op.call { callee := Callee.builtin Builtin.append, args := #[s, x], argTypes := #[t, t] })
    (base : Nat) (e : TypeId) (i : TypeInfo) (z : Value) (size bytes : Nat) (ht : P.underlying t = some (.slice e)) (hi : P.info? e = some i) (hz : i.zero = some z)
    (hsize : i.size = size) (hby : i.bytes = bytes) (hzs : z.cells.size = size) (hsz : 0 < size)
    (v : Value) (n : Nat) (xs : List Value) (hs : a.eval s = v) (hown : w.ownsRow base e size v n xs)
    (ad : Addr) (m c : Nat) (news : List Value) (hx : a.eval x = .slice (some ad) m c) (hl : news.length = m * size) (hnews : ∀ j u, news[j]? = some u → w.cell? (ad.add j) = some u) (h1 : ∀ u ∈ news, u.oneCell' = true)
    (h63 : n + m ≤ maxLen) (hbytes : (n + m) * bytes ≤ 140737488355328) (hbase : base ≤ w.heap.size)
    (hK : ∀ v' w', w'.ownsRow base e size v' (n + m) (xs ++ news) → w.grownBy w' v.ownBlock → (v'.ownBlock = v.ownBlock ∨ v'.ownBlock = some w.heap.size) → K (a.put o.dst v') w') :
    if Region.wanted o (yielded ops a.tmps) = true then Oper.wp P o a w K Q else E := by
  have hw : Region.wanted o (yielded ops a.tmps) = true := by simp [Region.wanted, hg]
  rw [if_pos hw]
  obtain ⟨v', w', hr, h2, h3, h4, h5⟩ := run_append_own_at (P := P) w base t o.type e i z size bytes ht hi hz hsize hby hzs hsz v n xs hown ad m c news hl hnews h1 h63 hbytes hbase
  unfold Oper.wp execOp
  simp only [ho, resolve, invoke, builtin, Sem.run_bind, Sem.run_pure, Result.andThen_ok, List.map_toArray, List.map_cons, List.map_nil, hs, hx, hr]
  exact hK _ _ h2 h3 h5
end Go.Proofs.YtgpimajdcfoigabDoor


/- value.isMap. -/
namespace Go.Proofs.YtgpimajdcfoigabDoor
open Go.RowKit
set_option linter.unusedVariables false
set_option linter.unusedSimpArgs false

/-- every other one, from the first on -/
def evens {α : Type} : List α → List α
  | a :: _ :: r => a :: evens r
  | [a] => [a]
  | [] => []
theorem evens_drop {α : Type} (l : List α) (i : Nat) (h : i < l.length) : evens (l.drop i) = l[i] :: evens (l.drop (i + 2)) := by
  rw [List.drop_eq_getElem_cons h]
  by_cases h2 : i + 1 < l.length
  · rw [List.drop_eq_getElem_cons h2, evens]
  · have e1 : l.drop (i + 1) = [] := List.drop_of_length_le (by omega)
    have e2 : l.drop (i + 2) = [] := List.drop_of_length_le (by omega)
    rw [e1, e2, evens, evens]
theorem evens_map {α β : Type} (f : α → β) : ∀ (n : Nat) (l : List α), l.length ≤ n → evens (l.map f) = (evens l).map f
  | _, [], _ => rfl
  | _, [_], _ => rfl
  | 0, _ :: _ :: _, h => by simp at h
  | n + 1, a :: b :: r, h => by
    simp only [List.map_cons, evens]
    rw [evens_map f n r (by simp at h; omega)]
theorem evens_mem {α : Type} : ∀ (n : Nat) (l : List α), l.length ≤ n → ∀ x ∈ evens l, x ∈ l
  | _, [], _, x, h => by simp [evens] at h
  | _, [a], _, x, h => by simpa [evens] using h
  | 0, _ :: _ :: _, hn, x, h => by simp at hn
  | n + 1, a :: b :: r, hn, x, h => by
    simp only [evens, List.mem_cons] at h
    rcases h with rfl | h
    · simp
    · have := evens_mem n r (by simp at hn; omega) x h
      simp [this]
/-- no two are the same -/
def nodupT : List T → Bool
  | [] => true
  | x :: r => r.all (fun y => !eqT x y) && nodupT r
theorem nodupT_iff (l : List T) : nodupT l = true ↔ l.Pairwise (fun a b => eqT a b = false) := by
  induction l with
  | nil => simp [nodupT]
  | cons x r ih => simp [nodupT, ih, List.pairwise_cons]
/-- may these be the parts of a map? -/
def mapT (L : List T) : Bool := decide (L.length % 2 = 0) && (decide (L.length / 2 ≤ 1024) && nodupT (evens L))
theorem eqT_symm' (x y : T) : eqT y x = eqT x y := by
  unfold eqT
  rw [neg_ord x y, Bool.eq_iff_iff]
  simp only [decide_eq_true_eq]
  omega
theorem eqT_false (x y : T) : eqT x y = false ↔ T.ord x y ≠ 0 := by unfold eqT; simp
theorem nodupT_perm {l m : List T} (h : l.Perm m) : nodupT l = nodupT m := by
  rw [Bool.eq_iff_iff, nodupT_iff, nodupT_iff]
  exact h.pairwise_iff (fun {a b} hab => by rw [eqT_symm']; exact hab)
/-- in order, those that are the same stand side by side -/
theorem nodupT_sorted (l : List T) (hs : ∀ i j (hi : i < l.length) (hj : j < l.length), i < j → 0 ≤ T.ord l[j] l[i]) : nodupT l = true ↔ ∀ i (h : i + 1 < l.length), eqT l[i] l[i + 1] = false := by
  rw [nodupT_iff, List.pairwise_iff_getElem]
  constructor
  · intro h i hi
    exact h i (i + 1) (by omega) hi (by omega)
  · intro h i j hi hj hij
    by_cases e : j = i + 1
    · subst e
      exact h i hj
    · rw [eqT_false]
      obtain ⟨k, rfl⟩ : ∃ k, j = k + 1 := ⟨j - 1, by omega⟩
      have h1 := hs i k hi (by omega) (by omega)
      have h2 := hs k (k + 1) (by omega) hj (by omega)
      have h3 := (eqT_false _ _).1 (h k hj)
      have t := tri_ord l[i] l[k] l[k + 1]
      rw [neg_ord] at h1 h2
      unfold Tri at t
      omega

/-- keys that are gathered -/
structure Gath (B i : Nat) (l ks : List V) (kv : Value) (wr : World) : Prop where
  size : B ≤ wr.heap.size
  row : wr.ownsRow B 25 5 kv ks.length (flat ks)
  blk : ∃ g, kv.ownBlock = some g
  len : 2 * ks.length ≤ i + 1
  ev : evens l = ks ++ evens (l.drop i)
theorem Gath.below {B i : Nat} {l ks : List V} {kv : Value} {wr w' : World} (h : Gath B i l ks kv wr) (hb : Below wr.heap.size wr w') : Gath B i l ks kv w' :=
  ⟨Nat.le_trans h.size hb.size, ownsRow_keep h.row (fun g hg => hb.block g (ownsRow_lt h.row hg).2), h.blk, h.len, h.ev⟩
theorem Gath.push {B i : Nat} {l ks : List V} {kv v' : Value} {wr w' : World} (h : Gath B i l ks kv wr) (hi : i < l.length) (h1 : w'.ownsRow B 25 5 v' (ks.length + 1) (flat ks ++ words l[i])) (hg : wr.grownBy w' kv.ownBlock) : Gath B (i + 2) l (ks ++ [l[i]]) v' w' ∧ ∀ w0, Below B w0 wr → Below B w0 w' := by
  refine ⟨⟨Nat.le_trans h.size hg.size, ?_, ?_, ?_, ?_⟩, fun w0 hw => hw.grown hg h.size (fun k hk => (ownsRow_lt h.row hk).1)⟩
  · rw [List.length_append, flat_append]
    simpa [flat] using h1
  · rcases h1.2 with ⟨_, h0⟩ | ⟨g, cap, cur, rfl, _⟩
    · omega
    · exact ⟨g, rfl⟩
  · have := h.len
    simp only [List.length_append, List.length_cons, List.length_nil]
    omega
  · rw [h.ev, evens_drop l i hi]
    simp
end Go.Proofs.YtgpimajdcfoigabDoor
