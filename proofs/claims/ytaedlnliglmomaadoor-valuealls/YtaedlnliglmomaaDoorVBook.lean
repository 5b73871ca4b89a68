/- longshoreref02's Book: Take, TakeAll. -/
import Derived.Test.YtaedlnliglmomaaDoorVFlat
import Derived.OwnWalk
namespace Go.Proofs.YtaedlnliglmomaaDoor
open Go.RowKit
set_option linter.unusedVariables false
set_option linter.unusedSimpArgs false

/-- the lists of a value, the inner ones ahead -/
def V.slots : V → List Value := V.fold (fun p ls => ls.flatten ++ [.slice p.a ls.length p.c]) []
def V.slotss (l : List V) : List Value := (l.map V.slots).flatten
theorem V.slots_of (k n : Int) (s : ByteArray) (a : Option Addr) (c : Nat) (e : Int) (l : List V) : (V.of k n s a c e l).slots = V.slotss l ++ [.slice a l.length c] := by
  unfold V.slots
  rw [V.fold_of]
  simp only [List.length_map]
  rfl
theorem V.slotss_take (l : List V) (j : Nat) (h : j < l.length) : V.slotss (l.take (j + 1)) = V.slotss (l.take j) ++ l[j].slots := by
  unfold V.slotss
  rw [List.take_succ_eq_append_getElem h, List.map_append, List.flatten_append]
  simp only [List.map_cons, List.map_nil, List.flatten_cons, List.flatten_nil, List.append_nil]
theorem V.slots_len : ∀ v : V, v.slots.length ≤ T.wt v.t := by
  refine V.ind ?_
  intro k n s a c e l ih
  have : ∀ m : List V, (∀ x ∈ m, x.slots.length ≤ T.wt x.t) → (V.slotss m).length ≤ T.wts (V.ts m) := by
    intro m
    induction m with
    | nil => intro _; simp [V.slotss]
    | cons x m ihm =>
      intro hm
      have h1 := hm x (by simp)
      have h2 := ihm (fun y hy => hm y (by simp [hy]))
      simp only [V.slotss, List.map_cons, List.flatten_cons, List.length_append, V.ts, T.wts] at h2 ⊢
      omega
  have := this l ih
  rw [V.slots_of, V.t_of, T.wt_of]
  simp only [List.length_append, List.length_cons, List.length_nil]
  omega

theorem slotss_len (l : List V) : (V.slotss l).length ≤ T.wts (V.ts l) := by
  induction l with
  | nil => simp [V.slotss]
  | cons x m ihm =>
    have h1 := V.slots_len x
    simp only [V.slotss, List.map_cons, List.flatten_cons, List.length_append, V.ts, T.wts] at ihm ⊢
    omega
theorem wts_take (l : List V) (j : Nat) (h : j < l.length) : T.wts (V.ts (l.take j)) + T.wt l[j].t ≤ T.wts (V.ts l) := by
  induction l generalizing j with
  | nil => simp at h
  | cons x m ihm =>
    cases j with
    | zero => simp [V.ts, T.wts]
    | succ j =>
      have := ihm j (by simpa using h)
      simp only [List.take_succ_cons, V.ts, T.wts, List.getElem_cons_succ]
      omega

/-- the book at p holds S; of what was there only p and A0 may have turned -/
def Bk (p : Nat) (A0 : Option Nat) (S : List Value) (w wr : World) : Prop := ∃ A C, wr.heap[p]? = some (.cells #[.slice A S.length C] 37 (0, 0)) ∧
  wr.ownsRow (p + 1) 23 1 (.slice A S.length C) S.length S ∧ ((Value.slice A S.length C).ownBlock = A0 ∨ ∃ g, (Value.slice A S.length C).ownBlock = some g ∧ w.heap.size ≤ g) ∧
  wr.os = w.os ∧ wr.tape = w.tape ∧ wr.output = w.output ∧ w.heap.size ≤ wr.heap.size ∧ ∀ k, k < w.heap.size → k ≠ p → some k ≠ A0 → wr.heap[k]? = w.heap[k]?
theorem Bk.here {p : Nat} {A0 : Option Nat} {S : List Value} {w wr : World} (h : Bk p A0 S w wr) : ∃ A1, Bk p A1 S wr wr ∧ (A1 = A0 ∨ ∃ g, A1 = some g ∧ w.heap.size ≤ g) := by
  obtain ⟨A, C, h1, h2, h3, h4⟩ := h
  exact ⟨_, ⟨A, C, h1, h2, .inl rfl, rfl, rfl, rfl, Nat.le_refl _, fun _ _ _ _ => rfl⟩, h3⟩
theorem Bk.trans {p : Nat} {A0 A1 : Option Nat} {S S' : List Value} {w wr w1 : World} (h : Bk p A0 S w wr) (hA : A1 = A0 ∨ ∃ g, A1 = some g ∧ w.heap.size ≤ g) (k : Bk p A1 S' wr w1) : Bk p A0 S' w w1 := by
  obtain ⟨A, C, h1, h2, h3, h4, h5, h6, h7, h8⟩ := h
  obtain ⟨B, D, k1, k2, k3, k4, k5, k6, k7, k8⟩ := k
  refine ⟨B, D, k1, k2, ?_, k4.trans h4, k5.trans h5, k6.trans h6, by omega, fun q q1 q2 q3 => (k8 q (by omega) q2 ?_).trans (h8 q q1 q2 q3)⟩
  · rcases k3 with e | ⟨g, e, hg⟩
    · rcases hA with rfl | ⟨g, rfl, hg⟩
      · exact .inl e
      · exact .inr ⟨g, e, hg⟩
    · exact .inr ⟨g, e, by omega⟩
  · rcases hA with rfl | ⟨g, rfl, hg⟩
    · exact q3
    · intro e; cases e; omega
theorem Bk.lt {p : Nat} {A0 : Option Nat} {S : List Value} {w wr : World} (h : Bk p A0 S w wr) : p < wr.heap.size := by
  obtain ⟨A, C, h1, _⟩ := h
  exact (Array.getElem?_eq_some_iff.1 h1).1

theorem Bk.alloc {p : Nat} {A0 : Option Nat} {S : List Value} {w : World} (h : Bk p A0 S w w) (o : Obj) : Bk p A0 S (w.alloc o) (w.alloc o) := by
  have hlt := h.lt
  obtain ⟨A, C, h1, h2, h3, _⟩ := h
  refine ⟨A, C, heap_past h1 _, h2.alloc _, ?_, rfl, rfl, rfl, Nat.le_refl _, fun _ _ _ _ => rfl⟩
  rcases h3 with h | ⟨g, h, hg⟩
  · exact .inl h
  · rcases h2.2 with ⟨e, _⟩ | ⟨g', cap, cur, e, _, hgg, _⟩
    · rw [e] at h; cases h
    · rw [e] at h; cases h
      have h1 := (Array.getElem?_eq_some_iff.1 hgg).1
      have h2 : w.heap.size ≤ g' := hg
      omega
theorem Bk.back {p : Nat} {A0 : Option Nat} {S : List Value} {w w' : World} {o : Obj} (h : Bk p A0 S (w.alloc o) w') : Bk p A0 S w w' := by
  obtain ⟨A, C, h1, h2, h3, h4, h5, h6, h7, h8⟩ := h
  rw [World.size_alloc] at h3 h7
  refine ⟨A, C, h1, h2, ?_, h4, h5, h6, by omega, fun k k1 k2 k3 => (h8 k (by rw [World.size_alloc]; omega) k2 k3).trans (Below.heap_alloc _ _ _ k1)⟩
  rcases h3 with h | ⟨g, h, hg⟩
  · exact .inl h
  · exact .inr ⟨g, h, by omega⟩

/-- what Take is asked, of a value x -/
def TakeOk (x : V) : Prop := ∀ (p : Nat) (A0 : Option Nat) (S : List Value) (Q : Nat → Prop) (w : World), Bk p A0 S w w → LiesIn Q w x → (∀ b, Q b → b < w.heap.size ∧ b ≠ p ∧ some b ≠ A0) → S.length + T.wt x.t ≤ 1099511627776 →
  Calls Tryd.prog 20 #[.pointer (some ⟨p, 0, none⟩), x.val] w fun e w' => e = .returned (.tuple #[]) ∧ Hid (Bk p A0 (S ++ x.slots) w w')

theorem Tryd.underL : Tryd.prog.underlying 35 = some (.slice 23) := by kernel_rfl
theorem Tryd.infoL : (Tryd.prog.info? 23).map (fun i => (i.zero, i.size, i.bytes)) = some (some (.slice none 0 0), 1, 24) := by kernel_rfl

set_option maxRecDepth 100000 in
set_option maxHeartbeats 1000000 in
theorem takeAll_any (l : List V) (ih : ∀ x ∈ l, TakeOk x) (a : Option Addr) (c p : Nat) (A0 : Option Nat) (S : List Value) (Q : Nat → Prop) (w : World) (hbk : Bk p A0 S w w) (hcc : l.length ≤ 2199023255552) (hc : l.length ≤ c)
    (hr : 0 < l.length → ∃ b o, a = some ⟨b, o, none⟩ ∧ Q b ∧ Row w b o l) (ls : ∀ x ∈ l, LiesIn Q w x) (hQ : ∀ b, Q b → b < w.heap.size ∧ b ≠ p ∧ some b ≠ A0) (hS : S.length + 1 + T.wts (V.ts l) ≤ 1099511627776) :
    Calls Tryd.prog 39 #[.pointer (some ⟨p, 0, none⟩), .slice a l.length c] w fun e w' => e = .returned (.tuple #[]) ∧ Hid (Bk p A0 (S ++ V.slotss l ++ [.slice a l.length c]) w w') := by
  have LR := hide hr
  have LS := hide ls
  have IH := hide ih
  have HBK := hide hbk
  have HQ := hide hQ
  clear hr ls ih hbk hQ
  obtain ⟨i0, hi0, hzz⟩ := Option.map_eq_some_iff.1 Tryd.infoL
  simp only [Prod.mk.injEq] at hzz
  obtain ⟨hz0, hz1, hz2⟩ := hzz
  go_enter Tryd.func39, Tryd.ntmps39
  go_wp2
  go_loopw [4] (fun i wr => ∃ (j : Nat), i = .int .i64 j ∧ j ≤ l.length ∧ Hid (Bk p A0 (S ++ V.slotss (l.take j)) w wr)) (fun i _ => l.length - (intOf i).toNat)
  case atStart => exact ⟨0, rfl, Nat.zero_le _, by rw [List.take_zero]; simpa [V.slotss] using HBK⟩
  case round =>
    obtain ⟨j, rfl, hj, HT⟩ := hrel
    by_cases hjl : j < l.length
    · obtain ⟨b, o, rfl, hqb, hr⟩ := LR.out (by omega)
      obtain ⟨A1, HB1, HA1⟩ := HT.out.here
      have hfr : ∀ q, Q q → wr.heap[q]? = w.heap[q]? := fun q hq => by
        obtain ⟨A, C, h1, h2, h3, h4, h5, h6, h7, h8⟩ := HT.out
        exact h8 q (HQ.out q hq).1 (HQ.out q hq).2.1 (HQ.out q hq).2.2
      have hws : w.heap.size ≤ wr.heap.size := by
        obtain ⟨A, C, h1, h2, h3, h4, h5, h6, h7, h8⟩ := HT.out
        exact h7
      obtain ⟨x0, x1, x2, x3, x4⟩ := (hr.same (w := wr) (fun o => World.cell?_of_block (hfr b hqb))) j hjl
      have hwt := wts_take l j hjl
      have hsl := slotss_len (l.take j)
      have hx := IH.out l[j] (List.getElem_mem hjl) p A1 (S ++ V.slotss (l.take j)) Q wr HB1 ((LS.out _ (List.getElem_mem hjl)).keep (fun q hq o => World.cell?_of_block (hfr q hq)) (fun _ h => h)) (fun q hq => ⟨Nat.lt_of_lt_of_le (HQ.out q hq).1 hws, (HQ.out q hq).2.1, fun e => by
        rcases HA1 with h | ⟨g, h, hg⟩
        · exact (HQ.out q hq).2.2 (e.trans h)
        · rw [h] at e
          cases e
          have := (HQ.out q hq).1
          omega⟩) (by rw [List.length_append]; omega)
      rw [V.val_eq] at hx
      have HH := hide hx
      clear hx hr hfr HB1
      go_wp2_with fail
      refine Calls.mono HH.out ?_
      rintro e1 w1 ⟨rfl, HB2⟩
      go_wp2
      go_roundw
      case rel => exact ⟨j + 1, by go_num, hjl, by rw [V.slotss_take l j hjl, ← List.append_assoc]; exact HT.out.trans HA1 HB2.out⟩
      case measure => simp [intOf]; omega
    · obtain rfl : j = l.length := by omega
      rw [List.take_length] at HT
      have hsl := slotss_len l
      have hSl : (S ++ V.slotss l).length ≤ 1099511627775 := by rw [List.length_append]; omega
      obtain ⟨S', hS'⟩ : ∃ S', S ++ V.slotss l = S' := ⟨_, rfl⟩
      rw [hS'] at HT hSl
      have HS' := hide hS'
      clear hS' hS hsl
      obtain ⟨A, C, h1, h2, h3, h4, h5, h6, h7, h8⟩ := HT.out
      have hp : wr.cell? ⟨p, 0, none⟩ = some (.slice A S'.length C) := by simp [World.cell?, h1]
      have hpf : wr.frozen? ⟨p, 0, none⟩ = false := by simp [World.frozen?, h1]
      have hpl : p < wr.heap.size := (Array.getElem?_eq_some_iff.1 h1).1
      have hob : ∀ g, (Value.slice A S'.length C).ownBlock = some g → p < g := fun g hg => by
        rcases h2.2 with ⟨h, _⟩ | ⟨g'', cap, cur, h, hB, _⟩
        · rw [h] at hg; cases hg
        · rw [h] at hg; cases hg; exact hB
      have HP2 : Hid (∀ w2, (wr.alloc (Obj.cells #[.slice a l.length c] 23)).grownBy w2 (Value.slice A S'.length C).ownBlock → w2.heap[p]? = some (.cells #[.slice A S'.length C] 37 (0, 0))) := fun w2 hg => by
        refine (hg.block p (by simp; omega) (fun e => ?_)).trans ((Below.heap_alloc _ _ _ hpl).trans h1)
        have := hob p e.symm
        omega
      have HOWN : Hid ((wr.alloc (Obj.cells #[.slice a l.length c] 23)).ownsRow (p + 1) 23 1 (.slice A S'.length C) S'.length S') := h2.alloc _
      have HNEWS := hide (cell_one_new wr (.slice a l.length c) 23)
      have HONE : Hid (∀ u ∈ ([.slice a l.length c] : List Value), u.oneCell' = true) := fun u hu => by
        simp only [List.mem_cons, List.not_mem_nil, or_false] at hu
        subst hu
        rfl
      have H1 := hide h1
      have H2 := hide h2
      have H3 := hide h3
      have H8 := hide h8
      have HOB := hide hob
      clear h1 h2 h3 h8 hob
      have HM1 : Hid (S'.length + 1 ≤ maxLen) := by show S'.length + 1 ≤ maxLen; unfold maxLen; omega
      have HM2 : Hid ((S'.length + 1) * 24 ≤ 140737488355328) := by show (S'.length + 1) * 24 ≤ 140737488355328; omega
      have HM3 : Hid (p + 1 ≤ (wr.alloc (Obj.cells #[.slice a l.length c] 23)).heap.size) := by show p + 1 ≤ _; rw [World.size_alloc]; omega
      go_wp2_with (at_builtin; go_loud (refine wpList_append_own_at _ rfl (.tmp 21) (.tmp 23) 35 rfl (p + 1) 23 i0 _ 1 24 Tryd.underL hi0 hz0 hz1 hz2 rfl (by decide) _ S'.length S' rfl HOWN.out ⟨wr.heap.size, 0, none⟩ 1 1 [.slice a l.length c] rfl rfl HNEWS.out HONE.out HM1.out HM2.out HM3.out ?_; intro v' w2 hown' hgrow _ hat; obtain ⟨g', cap', rfl⟩ := ownsRow_succ hown'; have hp1 := HP2.out w2 hgrow; have hp2 : w2.cell? ⟨p, 0, none⟩ = some (.slice A S'.length C) := (by simp [World.cell?, hp1]); have hp3 : w2.frozen? ⟨p, 0, none⟩ = false := (by simp [World.frozen?, hp1])))
      go_end0
      refine ⟨rfl, ?_⟩
      have hlen : (S ++ V.slotss l ++ [Value.slice a l.length c]).length = S'.length + 1 := by rw [HS'.out]; simp
      have hnb : ∀ k, k < w.heap.size → some k ≠ A0 → some k ≠ (Value.slice A S'.length C).ownBlock := fun k hk h0 e => by
        rcases H3.out with h | ⟨g, h, hg⟩
        · exact h0 (e.trans h)
        · rw [h] at e; cases e; omega
      have hgs := hgrow.size
      rw [World.size_alloc] at hgs
      show Bk _ _ _ _ _
      unfold Bk
      rw [hlen, HS'.out]
      refine ⟨some ⟨g', 0, none⟩, cap', ?_, ?_, ?_, hgrow.os.trans h4, hgrow.tape.trans h5, hgrow.output.trans h6, ?_, fun k k1 k2 k3 => ?_⟩
      · simp [World.setCell, Array.getElem?_modify, hp1]
      · refine ⟨hown'.1, ?_⟩
        rcases hown'.2 with ⟨h, _⟩ | ⟨g, cap, cur, h, hB, hgg, hrest⟩
        · cases h
        · exact .inr ⟨g, cap, cur, h, hB, by rw [Below.heap_setCell _ _ _ _ (by show g ≠ p; omega)]; exact hgg, hrest⟩
      · rcases hat with h | h
        · rw [h]
          exact H3.out
        · rw [h, World.size_alloc]
          exact .inr ⟨_, rfl, by omega⟩
      · simp [World.setCell]; omega
      · rw [Below.heap_setCell _ _ _ _ (by show k ≠ p; exact k2)]
        exact (hgrow.block k (by rw [World.size_alloc]; omega) (hnb k k1 k3)).trans ((Below.heap_alloc _ _ _ (by omega)).trans (H8.out k k1 k2 k3))

set_option maxRecDepth 100000 in
set_option maxHeartbeats 1000000 in
theorem take_any : ∀ x, TakeOk x := by
  refine V.ind ?_
  intro k n s a c e l ih p A0 S Q w hbk hx hQ hS
  rw [V.t_of, T.wt_of] at hS
  have hA : ∃ A1, A1 = A0 := ⟨_, rfl⟩
  have HF : Hid (Calls Tryd.prog 39 #[.pointer (some ⟨p, 0, none⟩), .slice a l.length c] (w.alloc (Obj.cells #[.int .i64 k, .int .u64 n, .string s, .slice a l.length c, .int .i64 e] 25)) fun e1 w' => e1 = .returned (.tuple #[]) ∧ Hid (Bk p A0 (S ++ V.slotss l ++ [.slice a l.length c]) (w.alloc (Obj.cells #[.int .i64 k, .int .u64 n, .string s, .slice a l.length c, .int .i64 e] 25)) w')) := by
    have hb1 : Below w.heap.size w (w.alloc (Obj.cells #[.int .i64 k, .int .u64 n, .string s, .slice a l.length c, .int .i64 e] 25)) := bel1 (Below.refl _ _) (Nat.le_refl _) _
    have hx1 : LiesIn Q (w.alloc (Obj.cells #[.int .i64 k, .int .u64 n, .string s, .slice a l.length c, .int .i64 e] 25)) (.of k n s a c e l) := hx.keep (fun b hb o => hb1.cell (p := ⟨b, o, none⟩) (hQ b hb).1) (fun _ h => h)
    exact takeAll_any l ih a c p A0 S Q _ (hbk.alloc _) hx1.ok.c hx1.ok.l hx1.row hx1.sub (fun b hb => ⟨by have := (hQ b hb).1; rw [World.size_alloc]; omega, (hQ b hb).2⟩) (by omega)
  have HT : Hid (∀ S' o w', Bk p A0 S' (w.alloc o) w' → Bk p A0 S' w w') := fun S' o w' h => h.back
  clear ih hx hQ hbk
  rw [V.val_of, V.slots_of, ← List.append_assoc]
  go_enter Tryd.func20, Tryd.ntmps20
  go_wp2_with fail
  refine Calls.mono HF.out ?_
  rintro e1 w1 ⟨rfl, HB⟩
  go_wp2
  go_end0
  exact ⟨rfl, HT.out _ _ _ HB.out⟩
end Go.Proofs.YtaedlnliglmomaaDoor
