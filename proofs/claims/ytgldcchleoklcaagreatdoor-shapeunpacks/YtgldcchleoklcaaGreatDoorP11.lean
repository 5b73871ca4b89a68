/- VKeep, VBook, VCopyO, VListO -/
import Derived.Test.YtgldcchleoklcaaGreatDoorP10
import Derived.Test.YtgldcchleoklcaaGreatDoorP08
import Derived.OwnWalk
namespace Go.Proofs.YtgldcchleoklcaaGreatDoor
open Go.RowKit
set_option linter.unusedVariables false
set_option linter.unusedSimpArgs false
theorem ownsRow_keep {w w' : World} {base : Nat} {e : TypeId} {size : Nat} {v : Value} {n : Nat} {xs : List Value} (h : w.ownsRow base e size v n xs) (hk : ∀ g, v.ownBlock = some g → w'.heap[g]? = w.heap[g]?) : w'.ownsRow base e size v n xs := by
  refine ⟨h.1, ?_⟩
  rcases h.2 with hn | ⟨g, cap, cur, rfl, h1, h2, h3⟩
  · exact .inl hn
  · exact .inr ⟨g, cap, cur, rfl, h1, (hk g rfl).trans h2, h3⟩
theorem ownsRow_lt {w : World} {base : Nat} {e : TypeId} {size : Nat} {v : Value} {n : Nat} {xs : List Value} (h : w.ownsRow base e size v n xs) {g : Nat} (hg : v.ownBlock = some g) : base ≤ g ∧ g < w.heap.size := by
  rcases h.2 with ⟨rfl, _⟩ | ⟨g', cap, cur, rfl, h1, h2, h3⟩
  · cases hg
  · cases hg
    exact ⟨h1, (Array.getElem?_eq_some_iff.1 h2).1⟩
theorem news5 (W : World) (y : V) (q : Nat) (u : Value) (hq : (words y)[q]? = some u) : (W.alloc (Obj.cells #[.int .i64 y.k, .int .u64 y.n, .string y.s, .slice y.a y.l.length y.c, .int .i64 y.e] 42)).cell? ((⟨W.heap.size, 0, none⟩ : Addr).add q) = some u := by
  have hql : q < 5 := by have := (List.getElem?_eq_some_iff.1 hq).1; simpa [words] using this
  have hh := World.alloc_heap_new W (Obj.cells #[.int .i64 y.k, .int .u64 y.n, .string y.s, .slice y.a y.l.length y.c, .int .i64 y.e] 42)
  have e1 : (⟨W.heap.size, 0, none⟩ : Addr).add q = ⟨W.heap.size, q, none⟩ := by by_cases h : q = 0 <;> simp [Addr.add, h]
  rw [e1]
  simp only [World.cell?, hh]
  have : q = 0 ∨ q = 1 ∨ q = 2 ∨ q = 3 ∨ q = 4 := by omega
  rcases this with rfl | rfl | rfl | rfl | rfl <;> simpa [words] using hq
def V.slots : V → List Value := V.fold (fun p ls => ls.flatten ++ [.slice p.a ls.length p.c]) []
def V.slotss (l : List V) : List Value := (l.map V.slots).flatten
theorem V.slots_of (k n : Int) (s : ByteArray) (a : Option Addr) (c : Nat) (e : Int) (l : List V) : (V.of k n s a c e l).slots = V.slotss l ++ [.slice a l.length c] := by
  unfold V.slots
  rw [V.fold_of]
  simp only [List.length_map]
  rfl
theorem V.slotss_take (l : List V) (j : Nat) (h : j < l.length) : V.slotss (l.take (j + 1)) = V.slotss (l.take j) ++ l[j].slots := by
  unfold V.slotss
  rw [List.take_succ_eq_append_getElem h, List.map_append, List.flatten_append]
  simp only [List.map_cons, List.map_nil, List.flatten_cons, List.flatten_nil, List.append_nil]
theorem V.slots_len : ∀ v : V, v.slots.length ≤ T.wt v.t := by
  refine V.ind ?_
  intro k n s a c e l ih
  have : ∀ m : List V, (∀ x ∈ m, x.slots.length ≤ T.wt x.t) → (V.slotss m).length ≤ T.wts (V.ts m) := by
    intro m
    induction m with
    | nil => intro _; simp [V.slotss]
    | cons x m ihm =>
      intro hm
      have h1 := hm x (by simp)
      have h2 := ihm (fun y hy => hm y (by simp [hy]))
      simp only [V.slotss, List.map_cons, List.flatten_cons, List.length_append, V.ts, T.wts] at h2 ⊢
      omega
  have := this l ih
  rw [V.slots_of, V.t_of, T.wt_of]
  simp only [List.length_append, List.length_cons, List.length_nil]
  omega
theorem slotss_len (l : List V) : (V.slotss l).length ≤ T.wts (V.ts l) := by
  induction l with
  | nil => simp [V.slotss]
  | cons x m ihm =>
    have h1 := V.slots_len x
    simp only [V.slotss, List.map_cons, List.flatten_cons, List.length_append, V.ts, T.wts] at ihm ⊢
    omega
theorem wts_take (l : List V) (j : Nat) (h : j < l.length) : T.wts (V.ts (l.take j)) + T.wt l[j].t ≤ T.wts (V.ts l) := by
  induction l generalizing j with
  | nil => simp at h
  | cons x m ihm =>
    cases j with
    | zero => simp [V.ts, T.wts]
    | succ j =>
      have := ihm j (by simpa using h)
      simp only [List.take_succ_cons, V.ts, T.wts, List.getElem_cons_succ]
      omega
def Bk (p : Nat) (A0 : Option Nat) (S : List Value) (w wr : World) : Prop := ∃ A C, wr.heap[p]? = some (.cells #[.slice A S.length C] 49 (0, 0)) ∧
  wr.ownsRow (p + 1) 31 1 (.slice A S.length C) S.length S ∧ ((Value.slice A S.length C).ownBlock = A0 ∨ ∃ g, (Value.slice A S.length C).ownBlock = some g ∧ w.heap.size ≤ g) ∧
  wr.os = w.os ∧ wr.tape = w.tape ∧ wr.output = w.output ∧ w.heap.size ≤ wr.heap.size ∧ ∀ k, k < w.heap.size → k ≠ p → some k ≠ A0 → wr.heap[k]? = w.heap[k]?
theorem Bk.here {p : Nat} {A0 : Option Nat} {S : List Value} {w wr : World} (h : Bk p A0 S w wr) : ∃ A1, Bk p A1 S wr wr ∧ (A1 = A0 ∨ ∃ g, A1 = some g ∧ w.heap.size ≤ g) := by
  obtain ⟨A, C, h1, h2, h3, h4⟩ := h
  exact ⟨_, ⟨A, C, h1, h2, .inl rfl, rfl, rfl, rfl, Nat.le_refl _, fun _ _ _ _ => rfl⟩, h3⟩
theorem Bk.trans {p : Nat} {A0 A1 : Option Nat} {S S' : List Value} {w wr w1 : World} (h : Bk p A0 S w wr) (hA : A1 = A0 ∨ ∃ g, A1 = some g ∧ w.heap.size ≤ g) (k : Bk p A1 S' wr w1) : Bk p A0 S' w w1 := by
  obtain ⟨A, C, h1, h2, h3, h4, h5, h6, h7, h8⟩ := h
  obtain ⟨B, D, k1, k2, k3, k4, k5, k6, k7, k8⟩ := k
  refine ⟨B, D, k1, k2, ?_, k4.trans h4, k5.trans h5, k6.trans h6, by omega, fun q q1 q2 q3 => (k8 q (by omega) q2 ?_).trans (h8 q q1 q2 q3)⟩
  · rcases k3 with e | ⟨g, e, hg⟩
    · rcases hA with rfl | ⟨g, rfl, hg⟩
      · exact .inl e
      · exact .inr ⟨g, e, hg⟩
    · exact .inr ⟨g, e, by omega⟩
  · rcases hA with rfl | ⟨g, rfl, hg⟩
    · exact q3
    · intro e; cases e; omega
theorem Bk.lt {p : Nat} {A0 : Option Nat} {S : List Value} {w wr : World} (h : Bk p A0 S w wr) : p < wr.heap.size := by
  obtain ⟨A, C, h1, _⟩ := h
  exact (Array.getElem?_eq_some_iff.1 h1).1
theorem Bk.alloc {p : Nat} {A0 : Option Nat} {S : List Value} {w : World} (h : Bk p A0 S w w) (o : Obj) : Bk p A0 S (w.alloc o) (w.alloc o) := by
  have hlt := h.lt
  obtain ⟨A, C, h1, h2, h3, _⟩ := h
  refine ⟨A, C, heap_past h1 _, h2.alloc _, ?_, rfl, rfl, rfl, Nat.le_refl _, fun _ _ _ _ => rfl⟩
  rcases h3 with h | ⟨g, h, hg⟩
  · exact .inl h
  · rcases h2.2 with ⟨e, _⟩ | ⟨g', cap, cur, e, _, hgg, _⟩
    · rw [e] at h; cases h
    · rw [e] at h; cases h
      have h1 := (Array.getElem?_eq_some_iff.1 hgg).1
      have h2 : w.heap.size ≤ g' := hg
      omega
theorem Bk.back {p : Nat} {A0 : Option Nat} {S : List Value} {w w' : World} {o : Obj} (h : Bk p A0 S (w.alloc o) w') : Bk p A0 S w w' := by
  obtain ⟨A, C, h1, h2, h3, h4, h5, h6, h7, h8⟩ := h
  rw [World.size_alloc] at h3 h7
  refine ⟨A, C, h1, h2, ?_, h4, h5, h6, by omega, fun k k1 k2 k3 => (h8 k (by rw [World.size_alloc]; omega) k2 k3).trans (Below.heap_alloc _ _ _ k1)⟩
  rcases h3 with h | ⟨g, h, hg⟩
  · exact .inl h
  · exact .inr ⟨g, h, by omega⟩
def TakeOk (x : V) : Prop := ∀ (p : Nat) (A0 : Option Nat) (S : List Value) (Q : Nat → Prop) (w : World), Bk p A0 S w w → LiesIn Q w x → (∀ b, Q b → b < w.heap.size ∧ b ≠ p ∧ some b ≠ A0) → S.length + T.wt x.t ≤ 1099511627776 →
  Calls Tryz.prog 22 #[.pointer (some ⟨p, 0, none⟩), x.val] w fun e w' => e = .returned (.tuple #[]) ∧ Hid (Bk p A0 (S ++ x.slots) w w')
theorem Tryz.underL : Tryz.prog.underlying 47 = some (.slice 31) := by kernel_rfl
theorem Tryz.infoL : (Tryz.prog.info? 31).map (fun i => (i.zero, i.size, i.bytes)) = some (some (.slice none 0 0), 1, 24) := by kernel_rfl
set_option maxRecDepth 100000 in
set_option maxHeartbeats 1000000 in
theorem takeAll_any (l : List V) (ih : ∀ x ∈ l, TakeOk x) (a : Option Addr) (c p : Nat) (A0 : Option Nat) (S : List Value) (Q : Nat → Prop) (w : World) (hbk : Bk p A0 S w w) (hcc : l.length ≤ 2199023255552) (hc : l.length ≤ c)
    (hr : 0 < l.length → ∃ b o, a = some ⟨b, o, none⟩ ∧ Q b ∧ Row w b o l) (ls : ∀ x ∈ l, LiesIn Q w x) (hQ : ∀ b, Q b → b < w.heap.size ∧ b ≠ p ∧ some b ≠ A0) (hS : S.length + 1 + T.wts (V.ts l) ≤ 1099511627776) :
    Calls Tryz.prog 30 #[.pointer (some ⟨p, 0, none⟩), .slice a l.length c] w fun e w' => e = .returned (.tuple #[]) ∧ Hid (Bk p A0 (S ++ V.slotss l ++ [.slice a l.length c]) w w') := by
  have LR := hide hr
  have LS := hide ls
  have IH := hide ih
  have HBK := hide hbk
  have HQ := hide hQ
  clear hr ls ih hbk hQ
  obtain ⟨i0, hi0, hzz⟩ := Option.map_eq_some_iff.1 Tryz.infoL
  simp only [Prod.mk.injEq] at hzz
  obtain ⟨hz0, hz1, hz2⟩ := hzz
  go_enter Tryz.func30, Tryz.ntmps30
  go_wp2
  go_loopw [4] (fun i wr => ∃ (j : Nat), i = .int .i64 j ∧ j ≤ l.length ∧ Hid (Bk p A0 (S ++ V.slotss (l.take j)) w wr)) (fun i _ => l.length - (intOf i).toNat)
  case atStart => exact ⟨0, rfl, Nat.zero_le _, by rw [List.take_zero]; simpa [V.slotss] using HBK⟩
  case round =>
    obtain ⟨j, rfl, hj, HT⟩ := hrel
    by_cases hjl : j < l.length
    · obtain ⟨b, o, rfl, hqb, hr⟩ := LR.out (by omega)
      obtain ⟨A1, HB1, HA1⟩ := HT.out.here
      have hfr : ∀ q, Q q → wr.heap[q]? = w.heap[q]? := fun q hq => by
        obtain ⟨A, C, h1, h2, h3, h4, h5, h6, h7, h8⟩ := HT.out
        exact h8 q (HQ.out q hq).1 (HQ.out q hq).2.1 (HQ.out q hq).2.2
      have hws : w.heap.size ≤ wr.heap.size := by
        obtain ⟨A, C, h1, h2, h3, h4, h5, h6, h7, h8⟩ := HT.out
        exact h7
      obtain ⟨x0, x1, x2, x3, x4⟩ := (hr.same (w := wr) (fun o => World.cell?_of_block (hfr b hqb))) j hjl
      have hwt := wts_take l j hjl
      have hsl := slotss_len (l.take j)
      have hx := IH.out l[j] (List.getElem_mem hjl) p A1 (S ++ V.slotss (l.take j)) Q wr HB1 ((LS.out _ (List.getElem_mem hjl)).keep (fun q hq o => World.cell?_of_block (hfr q hq)) (fun _ h => h)) (fun q hq => ⟨Nat.lt_of_lt_of_le (HQ.out q hq).1 hws, (HQ.out q hq).2.1, fun e => by
        rcases HA1 with h | ⟨g, h, hg⟩
        · exact (HQ.out q hq).2.2 (e.trans h)
        · rw [h] at e
          cases e
          have := (HQ.out q hq).1
          omega⟩) (by rw [List.length_append]; omega)
      rw [V.val_eq] at hx
      have HH := hide hx
      clear hx hr hfr HB1
      go_wp2_with fail
      refine Calls.mono HH.out ?_
      rintro e1 w1 ⟨rfl, HB2⟩
      go_wp2
      go_roundw
      case rel => exact ⟨j + 1, by go_num, hjl, by rw [V.slotss_take l j hjl, ← List.append_assoc]; exact HT.out.trans HA1 HB2.out⟩
      case measure => simp [intOf]; omega
    · obtain rfl : j = l.length := by omega
      rw [List.take_length] at HT
      have hsl := slotss_len l
      have hSl : (S ++ V.slotss l).length ≤ 1099511627775 := by rw [List.length_append]; omega
      obtain ⟨S', hS'⟩ : ∃ S', S ++ V.slotss l = S' := ⟨_, rfl⟩
      rw [hS'] at HT hSl
      have HS' := hide hS'
      clear hS' hS hsl
      obtain ⟨A, C, h1, h2, h3, h4, h5, h6, h7, h8⟩ := HT.out
      have hp : wr.cell? ⟨p, 0, none⟩ = some (.slice A S'.length C) := by simp [World.cell?, h1]
      have hpf : wr.frozen? ⟨p, 0, none⟩ = false := by simp [World.frozen?, h1]
      have hpl : p < wr.heap.size := (Array.getElem?_eq_some_iff.1 h1).1
      have hob : ∀ g, (Value.slice A S'.length C).ownBlock = some g → p < g := fun g hg => by
        rcases h2.2 with ⟨h, _⟩ | ⟨g'', cap, cur, h, hB, _⟩
        · rw [h] at hg; cases hg
        · rw [h] at hg; cases hg; exact hB
      have HP2 : Hid (∀ w2, (wr.alloc (Obj.cells #[.slice a l.length c] 31)).grownBy w2 (Value.slice A S'.length C).ownBlock → w2.heap[p]? = some (.cells #[.slice A S'.length C] 49 (0, 0))) := fun w2 hg => by
        refine (hg.block p (by simp; omega) (fun e => ?_)).trans ((Below.heap_alloc _ _ _ hpl).trans h1)
        have := hob p e.symm
        omega
      have HOWN : Hid ((wr.alloc (Obj.cells #[.slice a l.length c] 31)).ownsRow (p + 1) 31 1 (.slice A S'.length C) S'.length S') := h2.alloc _
      have HNEWS := hide (cell_one_new wr (.slice a l.length c) 31)
      have HONE : Hid (∀ u ∈ ([.slice a l.length c] : List Value), u.oneCell' = true) := fun u hu => by
        simp only [List.mem_cons, List.not_mem_nil, or_false] at hu
        subst hu
        rfl
      have H1 := hide h1
      have H2 := hide h2
      have H3 := hide h3
      have H8 := hide h8
      have HOB := hide hob
      clear h1 h2 h3 h8 hob
      have HM1 : Hid (S'.length + 1 ≤ maxLen) := by show S'.length + 1 ≤ maxLen; unfold maxLen; omega
      have HM2 : Hid ((S'.length + 1) * 24 ≤ 140737488355328) := by show (S'.length + 1) * 24 ≤ 140737488355328; omega
      have HM3 : Hid (p + 1 ≤ (wr.alloc (Obj.cells #[.slice a l.length c] 31)).heap.size) := by show p + 1 ≤ _; rw [World.size_alloc]; omega
      go_wp2_with (at_builtin; go_loud (refine wpList_append_own_at _ rfl (.tmp 21) (.tmp 23) 47 rfl (p + 1) 31 i0 _ 1 24 Tryz.underL hi0 hz0 hz1 hz2 rfl (by decide) _ S'.length S' rfl HOWN.out ⟨wr.heap.size, 0, none⟩ 1 1 [.slice a l.length c] rfl rfl HNEWS.out HONE.out HM1.out HM2.out HM3.out ?_; intro v' w2 hown' hgrow _ hat; obtain ⟨g', cap', rfl⟩ := ownsRow_succ hown'; have hp1 := HP2.out w2 hgrow; have hp2 : w2.cell? ⟨p, 0, none⟩ = some (.slice A S'.length C) := (by simp [World.cell?, hp1]); have hp3 : w2.frozen? ⟨p, 0, none⟩ = false := (by simp [World.frozen?, hp1])))
      go_end0
      refine ⟨rfl, ?_⟩
      have hlen : (S ++ V.slotss l ++ [Value.slice a l.length c]).length = S'.length + 1 := by rw [HS'.out]; simp
      have hnb : ∀ k, k < w.heap.size → some k ≠ A0 → some k ≠ (Value.slice A S'.length C).ownBlock := fun k hk h0 e => by
        rcases H3.out with h | ⟨g, h, hg⟩
        · exact h0 (e.trans h)
        · rw [h] at e; cases e; omega
      have hgs := hgrow.size
      rw [World.size_alloc] at hgs
      show Bk _ _ _ _ _
      unfold Bk
      rw [hlen, HS'.out]
      refine ⟨some ⟨g', 0, none⟩, cap', ?_, ?_, ?_, hgrow.os.trans h4, hgrow.tape.trans h5, hgrow.output.trans h6, ?_, fun k k1 k2 k3 => ?_⟩
      · simp [World.setCell, Array.getElem?_modify, hp1]
      · refine ⟨hown'.1, ?_⟩
        rcases hown'.2 with ⟨h, _⟩ | ⟨g, cap, cur, h, hB, hgg, hrest⟩
        · cases h
        · exact .inr ⟨g, cap, cur, h, hB, by rw [Below.heap_setCell _ _ _ _ (by show g ≠ p; omega)]; exact hgg, hrest⟩
      · rcases hat with h | h
        · rw [h]
          exact H3.out
        · rw [h, World.size_alloc]
          exact .inr ⟨_, rfl, by omega⟩
      · simp [World.setCell]; omega
      · rw [Below.heap_setCell _ _ _ _ (by show k ≠ p; exact k2)]
        exact (hgrow.block k (by rw [World.size_alloc]; omega) (hnb k k1 k3)).trans ((Below.heap_alloc _ _ _ (by omega)).trans (H8.out k k1 k2 k3))
set_option maxRecDepth 100000 in
set_option maxHeartbeats 1000000 in
theorem take_any : ∀ x, TakeOk x := by
  refine V.ind ?_
  intro k n s a c e l ih p A0 S Q w hbk hx hQ hS
  rw [V.t_of, T.wt_of] at hS
  have hA : ∃ A1, A1 = A0 := ⟨_, rfl⟩
  have HF : Hid (Calls Tryz.prog 30 #[.pointer (some ⟨p, 0, none⟩), .slice a l.length c] (w.alloc (Obj.cells #[.int .i64 k, .int .u64 n, .string s, .slice a l.length c, .int .i64 e] 42)) fun e1 w' => e1 = .returned (.tuple #[]) ∧ Hid (Bk p A0 (S ++ V.slotss l ++ [.slice a l.length c]) (w.alloc (Obj.cells #[.int .i64 k, .int .u64 n, .string s, .slice a l.length c, .int .i64 e] 42)) w')) := by
    have hb1 : Below w.heap.size w (w.alloc (Obj.cells #[.int .i64 k, .int .u64 n, .string s, .slice a l.length c, .int .i64 e] 42)) := bel1 (Below.refl _ _) (Nat.le_refl _) _
    have hx1 : LiesIn Q (w.alloc (Obj.cells #[.int .i64 k, .int .u64 n, .string s, .slice a l.length c, .int .i64 e] 42)) (.of k n s a c e l) := hx.keep (fun b hb o => hb1.cell (p := ⟨b, o, none⟩) (hQ b hb).1) (fun _ h => h)
    exact takeAll_any l ih a c p A0 S Q _ (hbk.alloc _) hx1.ok.c hx1.ok.l hx1.row hx1.sub (fun b hb => ⟨by have := (hQ b hb).1; rw [World.size_alloc]; omega, (hQ b hb).2⟩) (by omega)
  have HT : Hid (∀ S' o w', Bk p A0 S' (w.alloc o) w' → Bk p A0 S' w w') := fun S' o w' h => h.back
  clear ih hx hQ hbk
  rw [V.val_of, V.slots_of, ← List.append_assoc]
  go_enter Tryz.func22, Tryz.ntmps22
  go_wp2_with fail
  refine Calls.mono HF.out ?_
  rintro e1 w1 ⟨rfl, HB⟩
  go_wp2
  go_end0
  exact ⟨rfl, HT.out _ _ _ HB.out⟩
def Owns (w : World) (lo hi : Nat) (S : List Value) : Prop := (∀ s ∈ S, s = .slice none 0 0 ∨ ∃ g n, s = .slice (some ⟨g, 0, none⟩) n n ∧ lo ≤ g ∧ g < hi ∧ Blk w g 42 (n * 5)) ∧ (S.filterMap Value.ownBlock).Nodup
theorem Owns.nil (w : World) (lo hi : Nat) : Owns w lo hi [] := ⟨by simp, by simp⟩
theorem Owns.mem {w : World} {lo hi : Nat} {S : List Value} (h : Owns w lo hi S) {g : Nat} (hg : g ∈ S.filterMap Value.ownBlock) : lo ≤ g ∧ g < hi := by
  obtain ⟨s, hs, e⟩ := List.mem_filterMap.1 hg
  rcases h.1 s hs with rfl | ⟨g', n, rfl, h1, h2, _⟩
  · cases e
  · cases e
    exact ⟨h1, h2⟩
theorem Owns.append {w : World} {lo hi lo1 hi1 lo2 hi2 : Nat} {S S' : List Value} (h : Owns w lo1 hi1 S) (k : Owns w lo2 hi2 S') (hd : hi1 ≤ lo2 ∨ hi2 ≤ lo1) (h1 : lo ≤ lo1) (h2 : hi1 ≤ hi) (h3 : lo ≤ lo2) (h4 : hi2 ≤ hi) : Owns w lo hi (S ++ S') := by
  refine ⟨fun s hs => ?_, ?_⟩
  · rcases List.mem_append.1 hs with hs | hs
    · rcases h.1 s hs with e | ⟨g, n, e, q1, q2, q3⟩
      · exact .inl e
      · exact .inr ⟨g, n, e, by omega, by omega, q3⟩
    · rcases k.1 s hs with e | ⟨g, n, e, q1, q2, q3⟩
      · exact .inl e
      · exact .inr ⟨g, n, e, by omega, by omega, q3⟩
  · rw [List.filterMap_append, List.nodup_append]
    refine ⟨h.2, k.2, fun x hx y hy e => ?_⟩
    subst e
    have a1 := h.mem hx
    have a2 := k.mem hy
    omega
theorem Owns.keep {w w' : World} {lo hi lo' hi' : Nat} {S : List Value} (h : Owns w lo hi S) (hk : ∀ b, lo ≤ b → b < hi → w'.heap[b]? = w.heap[b]?) (h1 : lo' ≤ lo) (h2 : hi ≤ hi') : Owns w' lo' hi' S := by
  refine ⟨fun s hs => ?_, h.2⟩
  rcases h.1 s hs with e | ⟨g, n, e, q1, q2, cs, q3, q4⟩
  · exact .inl e
  · exact .inr ⟨g, n, e, by omega, by omega, cs, (hk g q1 q2).trans q3, q4⟩
theorem Owns.one {w : World} {lo hi g n : Nat} (h : Blk w g 42 (n * 5)) (h1 : lo ≤ g) (h2 : g < hi) : Owns w lo hi [.slice (some ⟨g, 0, none⟩) n n] :=
  ⟨fun s hs => .inr ⟨g, n, by simpa using hs, h1, h2, h⟩, by simp [List.filterMap, Value.ownBlock]⟩
theorem Owns.nought (w : World) (lo hi : Nat) : Owns w lo hi [.slice none 0 0] := ⟨fun s hs => .inl (by simpa using hs), List.nodup_nil⟩
theorem put5_heap (w : World) (b o b' : Nat) (y : V) (h : b' ≠ b) : (put5 w b o y).heap[b']? = w.heap[b']? := by
  rw [← put5_eq, Below.heap_setCell _ _ _ _ (by exact h), Below.heap_setCell _ _ _ _ (by exact h), Below.heap_setCell _ _ _ _ (by exact h), Below.heap_setCell _ _ _ _ (by exact h), Below.heap_setCell _ _ _ _ (by exact h)]
theorem V.slotss_append (l m : List V) : V.slotss (l ++ m) = V.slotss l ++ V.slotss m := by unfold V.slotss; simp
theorem V.slotss_one (x : V) : V.slotss [x] = x.slots := by unfold V.slotss; simp
def CopyOwnOk (x : V) : Prop := ∀ (n₀ : Nat) (w : World), n₀ ≤ w.heap.size → Lies n₀ w x →
  Calls Tryz.prog 129 #[x.val] w fun e w' => ∃ y : V, e = .returned (.agg #[.int .i64 y.k, .int .u64 y.n, .string y.s, .slice y.a y.l.length y.c, .int .i64 y.e]) ∧
    Hid ((y.t = x.t ∧ LiesIn (fun b => w.heap.size ≤ b ∧ b < w'.heap.size) w' y) ∧ Owns w' w.heap.size w'.heap.size y.slots) ∧ Below w.heap.size w w'
set_option maxRecDepth 100000 in
set_option maxHeartbeats 1000000 in
theorem copiedListO_some (l : List V) (ih : ∀ x ∈ l, CopyOwnOk x) (b o c n₀ : Nat) (w : World) (hn : n₀ ≤ w.heap.size) (h0 : 0 < l.length) (hc : l.length ≤ c) (hcc : l.length ≤ 4398046511104) (hlt : b < n₀) (lr : Row w b o l) (ls : ∀ x ∈ l, Lies n₀ w x) :
    Calls Tryz.prog 117 #[.slice (some ⟨b, o, none⟩) l.length c] w fun e w' => ∃ l' : List V, e = .returned (.slice (some ⟨w.heap.size, 0, none⟩) l.length l.length) ∧
      Hid ((V.ts l' = V.ts l ∧ w.heap.size < w'.heap.size ∧ Row w' w.heap.size 0 l' ∧ ∀ x ∈ l', LiesIn (fun b => w.heap.size ≤ b ∧ b < w'.heap.size) w' x) ∧ Blk w' w.heap.size 42 (l.length * 5) ∧ Owns w' (w.heap.size + 1) w'.heap.size (V.slotss l')) ∧ Below w.heap.size w w' := by
  have hmk := run_makeV l.length l.length (Nat.le_refl _) (by omega)
  have hne : ((l.length : Int) == 0) = false := by rw [beq_eq_false_iff_ne]; omega
  have LR := hide lr
  have LS := hide ls
  have IH := hide ih
  clear lr ls ih
  go_enter Tryz.func117, Tryz.ntmps117
  go_wp2
  obtain ⟨W0, hW0⟩ : ∃ W0, w.alloc (Obj.cells (madeCells zeroV (l.length * 5)) 42) = W0 := ⟨_, rfl⟩
  have hs0 : W0.heap.size = w.heap.size + 1 := by rw [← hW0]; simp
  have hb0 : Below w.heap.size w W0 := by rw [← hW0]; exact bel1 (Below.refl _ _) (Nat.le_refl _) _
  have hk0 : Blk W0 w.heap.size 42 (l.length * 5) := by rw [← hW0]; exact Blk.made _ _ _ _
  have HK0 := hide hk0
  rw [hW0]
  clear hW0 hmk hk0
  go_loopw [14] (fun i wr => ∃ (j : Nat), i = .int .i64 j ∧ j ≤ l.length ∧ Below w.heap.size w wr ∧ W0.heap.size ≤ wr.heap.size ∧ Hid (Blk wr w.heap.size 42 (l.length * 5)) ∧ Hid (∃ l' : List V, V.ts l' = V.ts (l.take j) ∧ Row wr w.heap.size 0 l' ∧ (∀ x ∈ l', LiesIn (fun b => w.heap.size < b ∧ b < wr.heap.size) wr x) ∧ Owns wr (w.heap.size + 1) wr.heap.size (V.slotss l'))) (fun i _ => l.length - (intOf i).toNat)
  case atStart => exact ⟨0, rfl, Nat.zero_le _, hb0, Nat.le_refl _, HK0, [], by simp, fun i hi => by simp at hi, by simp, Owns.nil _ _ _⟩
  case round =>
    obtain ⟨j, rfl, hj, hb, hsz, HK, HL⟩ := hrel
    by_cases hjl : j < l.length
    · obtain ⟨x0, x1, x2, x3, x4⟩ := (LR.out.below hb (by omega)) j hjl
      have hbw : b < wr.heap.size := by omega
      have hx := IH.out l[j] (List.getElem_mem hjl) n₀
      rw [V.val_eq] at hx
      have HH := hide hx
      clear hx
      go_wp2_with fail
      have hba := bel1 hb (by omega) (Obj.cells #[.int .i64 l[j].k, .int .u64 l[j].n, .string l[j].s, .slice l[j].a l[j].l.length l[j].c, .int .i64 l[j].e] 42)
      refine Calls.mono (HH.out _ (by simp; omega) ((LS.out _ (List.getElem_mem hjl)).keep hba hn)) ?_
      rintro e w1 ⟨y, rfl, HY, hb1⟩
      have hbw1 := belOn hba (by simp; omega) hb1
      have hk1 : Blk w1 w.heap.size 42 (l.length * 5) := (HK.out.below ((Below.refl _ wr).alloc (Nat.le_refl _) _) (by omega)).below hb1 (by simp; omega)
      obtain ⟨z0, c0⟩ := hk1.some (j * 5) (by omega)
      obtain ⟨z1, c1⟩ := hk1.some (j * 5 + 1) (by omega)
      obtain ⟨z2, c2⟩ := hk1.some (j * 5 + 2) (by omega)
      obtain ⟨z3, c3⟩ := hk1.some (j * 5 + 3) (by omega)
      obtain ⟨z4, c4⟩ := hk1.some (j * 5 + 4) (by omega)
      have f0 := hk1.free
      have HK1 := hide hk1
      have HB1 := hide hb1
      clear hk1 hb1 hba
      go_wp2
      go_roundw
      case rel =>
        rw [put5_eq]
        refine ⟨j + 1, by go_num, hjl, put5_below hbw1 (Nat.le_refl _), ?_, put5_blk HK1.out _ _, ?_⟩
        · rw [put5_size]; have := HB1.out.size; simp at this; omega
        · obtain ⟨l', hl1, hl2, hl3, hl4⟩ := HL.out
          have hlen : l'.length = j := by
            have := congrArg List.length hl1
            simp [V.ts_length] at this
            omega
          have hsm : ∀ b', b' < wr.heap.size → Same wr w1 b' := fun b' hb' o' => (HB1.out.cell (p := ⟨b', o', none⟩) (by simp; omega)).trans (World.cell?_alloc_past _ _ _ hb')
          have hsz1 := HB1.out.size
          simp at hsz1
          refine ⟨l' ++ [y], ?_, ?_, ?_, ?_⟩
          · rw [List.take_succ_eq_append_getElem hjl]
            simp only [V.ts_map, List.map_append, List.map_cons, List.map_nil] at hl1 ⊢
            rw [hl1, HY.out.1.1]
          · have := put5_row (y := y) HK1.out (hl2.same (hsm _ (by omega))) (by omega)
            rw [hlen] at this
            exact this
          · intro x hx
            rw [put5_size]
            rcases List.mem_append.1 hx with hx | hx
            · exact (hl3 x hx).keep (fun b' hb' o' => (put5_same _ _ _ _ _ (by omega) o').trans (hsm _ hb'.2 o')) (fun b' hb' => by omega)
            · obtain rfl : x = y := by simpa using hx
              exact HY.out.1.2.keep (fun b' hb' o' => put5_same _ _ _ _ _ (by have := hb'.1; simp at this; omega) o') (fun b' hb' => by have := hb'; simp at this; omega)
          · rw [put5_size, V.slotss_append, V.slotss_one]
            have ho := HY.out.2
            rw [World.size_alloc] at ho
            have e1 : Owns (put5 w1 w.heap.size (j * 5) y) (w.heap.size + 1) wr.heap.size (V.slotss l') := hl4.keep (fun b' q1 q2 => (put5_heap _ _ _ _ _ (by omega)).trans ((HB1.out.block b' (by rw [World.size_alloc]; omega)).trans (Below.heap_alloc _ _ _ q2))) (Nat.le_refl _) (Nat.le_refl _)
            have e2 : Owns (put5 w1 w.heap.size (j * 5) y) (wr.heap.size + 1) w1.heap.size y.slots := ho.keep (fun b' q1 q2 => put5_heap _ _ _ _ _ (by omega)) (Nat.le_refl _) (Nat.le_refl _)
            exact e1.append e2 (.inl (by omega)) (Nat.le_refl _) (by omega) (by omega) (Nat.le_refl _)
      case measure => simp [intOf]; omega
    · obtain rfl : j = l.length := by omega
      go_wp2
      go_ret
      obtain ⟨l', hl1, hl2, hl3, hl4⟩ := HL.out
      rw [List.take_length] at hl1
      exact ⟨l', rfl, ⟨⟨hl1, by omega, hl2, fun x hx => (hl3 x hx).keep (fun _ _ _ => rfl) (fun b' hb' => by omega)⟩, HK.out, hl4⟩, hb⟩
def CopyAllO (l : List V) (w : World) (e : Ending) (w' : World) : Prop := ∃ (a : Option Addr) (c : Nat) (l' : List V), e = .returned (.slice a l'.length c) ∧
  Hid (Owns w' w.heap.size w'.heap.size (V.slotss l' ++ [.slice a l'.length c]) ∧ V.ts l' = V.ts l ∧ l'.length ≤ c ∧ l'.length ≤ 2199023255552 ∧ (0 < l'.length → ∃ b o, a = some ⟨b, o, none⟩ ∧ (w.heap.size ≤ b ∧ b < w'.heap.size) ∧ Row w' b o l') ∧ ∀ x ∈ l', LiesIn (fun b => w.heap.size ≤ b ∧ b < w'.heap.size) w' x) ∧ Below w.heap.size w w'
theorem copiedListO_any (l : List V) (ih : ∀ x ∈ l, CopyOwnOk x) (a : Option Addr) (c n₀ : Nat) (w : World) (hn : n₀ ≤ w.heap.size) (hc : l.length ≤ c) (hcc : l.length ≤ 2199023255552) (hr : 0 < l.length → ∃ b o, a = some ⟨b, o, none⟩ ∧ b < n₀ ∧ Row w b o l) (ls : ∀ x ∈ l, Lies n₀ w x) :
    Calls Tryz.prog 117 #[.slice a l.length c] w (CopyAllO l w) := by
  by_cases h : 0 < l.length
  · obtain ⟨b, o, rfl, hlt, hr⟩ := hr h
    refine (copiedListO_some l ih b o c n₀ w hn h hc (by omega) hlt hr ls).mono ?_
    rintro e w' ⟨l', rfl, HL, hb⟩
    obtain ⟨⟨h1, h2, h3, h4⟩, hbl, hob⟩ := HL.out
    have hlen : l'.length = l.length := by simpa [V.ts_length] using congrArg List.length h1
    exact ⟨_, l.length, l', by rw [hlen], ⟨by rw [hlen]; exact hob.append (Owns.one (lo := w.heap.size) (hi := w.heap.size + 1) hbl (Nat.le_refl _) (by omega)) (.inr (by omega)) (by omega) (Nat.le_refl _) (Nat.le_refl _) (by omega), h1, by omega, by omega, fun _ => ⟨_, 0, rfl, ⟨Nat.le_refl _, h2⟩, h3⟩, h4⟩, hb⟩
  · obtain rfl : l = [] := List.eq_nil_of_length_eq_zero (by omega)
    refine (copiedList_none a c w).mono ?_
    rintro e w' ⟨rfl, rfl⟩
    exact ⟨none, 0, [], rfl, ⟨Owns.nought _ _ _, rfl, by simp, by simp, by simp, by simp⟩, Below.refl _ _⟩
set_option maxRecDepth 100000 in
set_option maxHeartbeats 1000000 in
theorem copiedO_any : ∀ x, CopyOwnOk x := by
  refine V.ind ?_
  intro k n s a c e l ih n₀ w hn hx
  have hf : ∀ w1, Below w.heap.size w w1 → Calls Tryz.prog 117 #[.slice a l.length c] w1 (CopyAllO l w1) := by
    intro w1 hb
    have hx1 := hx.keep hb hn
    have hsz := hb.size
    exact copiedListO_any l ih a c n₀ w1 (by omega) hx1.ok.l hx1.ok.c hx1.row hx1.sub
  have HF := hide hf
  have OK := hide hx.ok
  clear hf ih hx
  rw [V.val_of]
  go_enter Tryz.func129, Tryz.ntmps129
  go_wp2_with fail
  refine Calls.mono (HF.out _ (bel2 (Below.refl _ _) (Nat.le_refl _) _ _)) ?_
  rintro e' w1 ⟨a', c', l', rfl, HL, hb1⟩
  have hz : w.heap.size + 1 < w1.heap.size := by have := hb1.size; simp at this; omega
  obtain ⟨g1, g2, g3, g4⟩ := box_cells hb1
  have k0 := g1 0
  have k1 := g1 1
  have k2 := g1 2
  have k3 := g1 3
  have k4 := g1 4
  have j0 := g2 0
  have j1 := g2 1
  have j2 := g2 2
  have j3 := g2 3
  have j4 := g2 4
  simp only [List.getElem?_toArray, List.getElem?_cons_zero, List.getElem?_cons_succ] at k0 k1 k2 k3 k4 j0 j1 j2 j3 j4
  have HB1 := hide hb1
  clear hb1 g1 g2
  go_wp2
  obtain ⟨h0, h1, h2, h3, h4, h5⟩ := HL.out
  have ok := OK.out
  have hlen : l'.length = l.length := by simpa [V.ts_length] using congrArg List.length h1
  have hsm : ∀ b', b' ≠ w.heap.size → b' ≠ w.heap.size + 1 → Same w1 (put5 (w1.setCell ⟨w.heap.size, 3, none⟩ (.slice a' l'.length c')) (w.heap.size + 1) 0 (.of k n s a' c' e l')) b' := fun b' n1 n2 o' =>
    (put5_same _ _ _ _ _ n2 o').trans (World.cell?_setCell_other _ _ _ _ (fun e => n1 (by cases e; rfl)))
  rw [← put5_of] at hsm
  have hbz : Below w.heap.size w _ := put5_below (y := .of k n s a' c' e l') (o := 0) (b := w.heap.size + 1) ((belOn (bel2 (Below.refl w.heap.size w) (Nat.le_refl _) _ _) (by simp; omega) HB1.out).setCell (p := ⟨w.heap.size, 3, none⟩) (Nat.le_refl _) (.slice a' l'.length c')) (by omega)
  rw [← put5_of] at hbz
  refine bodyPost_ret (v := .agg #[.int .i64 k, .int .u64 n, .string s, .slice a' l'.length c', .int .i64 e]) (by simp [results, Tryz.results129, go_sem, j0, j1, j2, j3, j4]) rfl ⟨.of k n s a' c' e l', by rw [V.l_of]; rfl, ⟨⟨by rw [V.t_of, V.t_of, h1], .mk ⟨ok.k, ok.n, ok.s, ok.e, h2, h3⟩ (fun h0 => ?_) (fun x hx => ?_)⟩, ?_⟩, ?_⟩
  · obtain ⟨b, o, ha, hq, hr⟩ := h4 h0
    simp only [World.size_alloc] at hq
    refine ⟨b, o, ha, ?_, hr.same (hsm b (by omega) (by omega))⟩
    simp [World.setCell]; omega
  · refine (h5 x hx).keep (fun b hq => ?_) (fun b hq => ?_)
    · simp only [World.size_alloc] at hq
      exact hsm b (by omega) (by omega)
    · simp only [World.size_alloc] at hq
      simp [World.setCell]; omega
  · rw [V.slots_of]
    have hh0 := h0
    rw [World.size_alloc, World.size_alloc] at hh0
    refine hh0.keep (fun b q1 q2 => ?_) (by omega) (by simp [World.setCell])
    rw [Below.heap_setCell _ _ _ _ (by show b ≠ w.heap.size + 1; omega), Below.heap_setCell _ _ _ _ (by show b ≠ w.heap.size + 1; omega), Below.heap_setCell _ _ _ _ (by show b ≠ w.heap.size + 1; omega), Below.heap_setCell _ _ _ _ (by show b ≠ w.heap.size + 1; omega), Below.heap_setCell _ _ _ _ (by show b ≠ w.heap.size + 1; omega), Below.heap_setCell _ _ _ _ (by show b ≠ w.heap.size; omega)]
  · exact hbz
def MadeOfO (k : Int) (l : List V) (w : World) (e : Ending) (w' : World) : Prop := ∃ y : V, e = .returned (.agg #[.int .i64 y.k, .int .u64 y.n, .string y.s, .slice y.a y.l.length y.c, .int .i64 y.e]) ∧
  Hid (y.t = T.of k 0 ⟨#[]⟩ 0 (V.ts l) ∧ LiesIn (fun b => w.heap.size ≤ b ∧ b < w'.heap.size) w' y ∧ Owns w' w.heap.size w'.heap.size y.slots) ∧ Below w.heap.size w w'
set_option maxRecDepth 100000 in
set_option maxHeartbeats 1000000 in
theorem listedO_any (l : List V) (a : Option Addr) (c n₀ : Nat) (w : World) (hn : n₀ ≤ w.heap.size) (hc : l.length ≤ c) (hcc : l.length ≤ 2199023255552) (hr : 0 < l.length → ∃ b o, a = some ⟨b, o, none⟩ ∧ b < n₀ ∧ Row w b o l) (ls : ∀ x ∈ l, Lies n₀ w x) :
    Calls Tryz.prog 102 #[.slice a l.length c] w (MadeOfO 21 l w) := by
  have HF : Hid (∀ w1, Below w.heap.size w w1 → Calls Tryz.prog 117 #[.slice a l.length c] w1 (CopyAllO l w1)) := by
    intro w1 hb
    have hsz := hb.size
    exact copiedListO_any l (fun x _ => copiedO_any x) a c n₀ w1 (by omega) hc hcc (fun h => by
      obtain ⟨b, o, h1, h2, h3⟩ := hr h
      exact ⟨b, o, h1, h2, h3.below hb (by omega)⟩) (fun x hx => (ls x hx).keep hb hn)
  clear hr ls
  go_enter Tryz.func102, Tryz.ntmps102
  go_wp2_with fail
  refine Calls.mono (HF.out _ (bel1 (Below.refl _ _) (Nat.le_refl _) _)) ?_
  rintro e' w1 ⟨a', c', l', rfl, HL, hb1⟩
  have hz : w.heap.size < w1.heap.size := by have := hb1.size; simp at this; omega
  have hbl : Blk w1 w.heap.size 42 5 := by
    refine ⟨_, (hb1.block w.heap.size (by simp)).trans (World.alloc_heap_new _ _), rfl⟩
  obtain ⟨z0, c0⟩ := hbl.some 0 (by omega)
  obtain ⟨z1, c1⟩ := hbl.some 1 (by omega)
  obtain ⟨z2, c2⟩ := hbl.some 2 (by omega)
  obtain ⟨z3, c3⟩ := hbl.some 3 (by omega)
  obtain ⟨z4, c4⟩ := hbl.some 4 (by omega)
  have f0 := hbl.free
  have HB1 := hide hb1
  clear hb1 hbl
  go_wp2
  obtain ⟨h0, h1, h2, h3, h4, h5⟩ := HL.out
  have hsm : ∀ b', b' ≠ w.heap.size → Same w1 (put5 w1 w.heap.size 0 (.of 21 0 ⟨#[]⟩ a' c' 0 l')) b' := fun b' n1 o' => put5_same _ _ _ _ _ n1 o'
  rw [← put5_of] at hsm
  have hbz : Below w.heap.size w _ := put5_below (y := .of 21 0 ⟨#[]⟩ a' c' 0 l') (o := 0) (b := w.heap.size) (belOn (bel1 (Below.refl w.heap.size w) (Nat.le_refl _) _) (by simp) HB1.out) (Nat.le_refl _)
  rw [← put5_of] at hbz
  refine bodyPost_ret (v := .agg #[.int .i64 21, .int .u64 0, .string ⟨#[]⟩, .slice a' l'.length c', .int .i64 0]) (by simp [results, Tryz.results102, go_sem, c0, c1, c2, c3, c4]) rfl ⟨.of 21 0 ⟨#[]⟩ a' c' 0 l', by rw [V.l_of]; rfl, ⟨by rw [V.t_of, h1], .mk ⟨by decide, by decide, by decide, by decide, h2, h3⟩ (fun h0 => ?_) (fun x hx => ?_), ?_⟩, ?_⟩
  · obtain ⟨b, o, ha, hq, hr⟩ := h4 h0
    simp only [World.size_alloc] at hq
    refine ⟨b, o, ha, ?_, hr.same (hsm b (by omega))⟩
    simp [World.setCell]; omega
  · refine (h5 x hx).keep (fun b hq => ?_) (fun b hq => ?_)
    · simp only [World.size_alloc] at hq
      exact hsm b (by omega)
    · simp only [World.size_alloc] at hq
      simp [World.setCell]; omega
  · rw [V.slots_of]
    have hh0 := h0
    rw [World.size_alloc] at hh0
    refine hh0.keep (fun b q1 q2 => ?_) (by omega) (by simp [World.setCell])
    rw [Below.heap_setCell _ _ _ _ (by show b ≠ w.heap.size; omega), Below.heap_setCell _ _ _ _ (by show b ≠ w.heap.size; omega), Below.heap_setCell _ _ _ _ (by show b ≠ w.heap.size; omega), Below.heap_setCell _ _ _ _ (by show b ≠ w.heap.size; omega), Below.heap_setCell _ _ _ _ (by show b ≠ w.heap.size; omega)]
  · exact hbz
end Go.Proofs.YtgldcchleoklcaaGreatDoor
