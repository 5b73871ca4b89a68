/- longshorelaw02.goes. -/
import Derived.Test.YtaedlnliglmomaaDoorVBkB
import Derived.Test.YtaedlnliglmomaaDoorVTell
import Derived.Test.YtaedlnliglmomaaDoorVREq
import Derived.Test.YtaedlnliglmomaaDoorVList
import Derived.Test.YtaedlnliglmomaaDoorVBare
namespace Go.Proofs.YtaedlnliglmomaaDoor.B
open Go.RowKit Go.Shelf
set_option linter.unusedVariables false
attribute [local go_sem] Oper.semAt_some

/-- what is wanted, in its row -/
def Wants (g : Nat) (L : List (Int × V)) (W : World) : Prop := ∀ i (h : i < L.length), W.cell? ⟨g, i * 6, none⟩ = some (.int .i64 L[i].1) ∧ W.cell? ⟨g, i * 6 + 1, none⟩ = some (.int .i64 L[i].2.k) ∧ W.cell? ⟨g, i * 6 + 2, none⟩ = some (.int .u64 L[i].2.n) ∧ W.cell? ⟨g, i * 6 + 3, none⟩ = some (.string L[i].2.s) ∧ W.cell? ⟨g, i * 6 + 4, none⟩ = some (.slice L[i].2.a L[i].2.l.length L[i].2.c) ∧ W.cell? ⟨g, i * 6 + 5, none⟩ = some (.int .i64 L[i].2.e)

/-- a value that is not too great, in blocks from m on -/
def Sml (m : Nat) (y : Int × V) : Prop := T.wt y.2.t ≤ 100000 ∧ ∀ g ∈ blocksOf y.2.slots, m ≤ g
/-- the temporaries at the range -/
def gTmps (x : V) (gw ll C p s s1 B : Nat) (stop : Int) (t11 t12 t19 t20 : Value) : Array Value := #[.agg #[.int .i64 x.k, .int .u64 x.n, .string x.s, .slice x.a x.l.length x.c, .int .i64 x.e], .slice (some ⟨gw, 0, none⟩) ll C, .int .i64 stop, .pointer (some ⟨p, 0, none⟩), .pointer (some ⟨s, 0, none⟩), .pointer (some ⟨s + 1, 0, none⟩), .pointer (some ⟨s + 1 + 1, 0, none⟩), .pointer (some ⟨s + 1 + 1 + 1, 0, none⟩), .pointer (some ⟨s + 1 + 1 + 1 + 1, 0, none⟩), .func (.func 44) #[] #[.pointer (some ⟨B, 0, none⟩)], .pointer (some ⟨s1, 0, none⟩), t11, t12, undef, .agg #[.int .i64 x.k, .int .u64 x.n, .string x.s, .slice x.a x.l.length x.c, .int .i64 x.e], .func (.func 44) #[] #[.pointer (some ⟨B, 0, none⟩)], .func (.func 44) #[] #[.pointer (some ⟨B, 0, none⟩)], .bool false, .func (.func 44) #[] #[.pointer (some ⟨B, 0, none⟩)], t19, t20, undef, undef, undef, undef, undef, undef, undef, undef, undef, undef, undef, undef, undef, undef, undef, undef, undef, undef, undef, undef, undef, undef, undef, undef, undef, undef, undef, undef, undef, undef, undef, undef, undef, undef, undef, undef, undef, undef, undef]
/-- the temporaries behind the first comparison -/
def gTmps2 (x : V) (gw ll C p s s1 B Bx j : Nat) (stop : Int) (y u : Int × V) (sm : Bool) : Array Value := #[.agg #[.int .i64 x.k, .int .u64 x.n, .string x.s, .slice x.a x.l.length x.c, .int .i64 x.e], .slice (some ⟨gw, 0, none⟩) ll C, .int .i64 stop, .pointer (some ⟨p, 0, none⟩), .pointer (some ⟨s, 0, none⟩), .pointer (some ⟨s + 1, 0, none⟩), .pointer (some ⟨s + 1 + 1, 0, none⟩), .pointer (some ⟨s + 1 + 1 + 1, 0, none⟩), .pointer (some ⟨s + 1 + 1 + 1 + 1, 0, none⟩), .func (.func 44) #[] #[.pointer (some ⟨B, 0, none⟩)], .pointer (some ⟨s1, 0, none⟩), .int .i64 y.1, .pointer (some ⟨Bx, 0, none⟩), .bool sm, .agg #[.int .i64 x.k, .int .u64 x.n, .string x.s, .slice x.a x.l.length x.c, .int .i64 x.e], .func (.func 44) #[] #[.pointer (some ⟨B, 0, none⟩)], .func (.func 44) #[] #[.pointer (some ⟨B, 0, none⟩)], .bool false, .func (.func 44) #[] #[.pointer (some ⟨B, 0, none⟩)], .int .i64 y.1, .agg #[.int .i64 y.2.k, .int .u64 y.2.n, .string y.2.s, .slice y.2.a y.2.l.length y.2.c, .int .i64 y.2.e], .int .i64 (j : Int), .slice (some ⟨gw, 0, none⟩) ll C, .int .i64 (ll : Int), .bool false, .agg #[.int .i64 y.2.k, .int .u64 y.2.n, .string y.2.s, .slice y.2.a y.2.l.length y.2.c, .int .i64 y.2.e], .slice (some ⟨gw, 0, none⟩) ll C, .int .i64 (j : Int), .pointer (some ⟨gw, j * 6, none⟩), .pointer (some ⟨gw, j * 6 + 1, none⟩), .agg #[.int .i64 u.2.k, .int .u64 u.2.n, .string u.2.s, .slice u.2.a u.2.l.length u.2.c, .int .i64 u.2.e], .bool sm, undef, undef, undef, undef, undef, undef, undef, undef, undef, undef, undef, undef, undef, undef, undef, undef, undef, undef, undef, undef, undef, undef, undef, undef, undef, undef, undef, undef]
theorem snd_append (pre : List (Int × V)) (x : Int × V) : V.slotss ((pre ++ [x]).map Prod.snd) = V.slotss (pre.map Prod.snd) ++ x.2.slots := by
  rw [List.map_append, V.slotss_append]
  simp [V.slotss]

set_option maxRecDepth 100000 in
set_option maxHeartbeats 4000000 in
theorem goes_any (v x : V) (L : List (Int × V)) (gw C p n₀ : Nat) (stop : Int) (A0 : Option Nat) (S : List Value) (w : World) (hn : n₀ ≤ w.heap.size) (hx : Lies n₀ w x) (ht : x.t = v.t) (hL : L = v.all 1) (hv : Lies n₀ w v) (hw : T.wt v.t ≤ 100000)
    (hW : Wants gw L w) (hgw : gw < w.heap.size) (hbk : BkR p A0 w.heap.size S w) (ho : OwnsX w S) (hS : S.length ≤ 50000000000) (hSm : ∀ s ∈ S, ∀ a m c, s = .slice a m c → m ≤ 100000) (hp : n₀ ≤ p) (hA0 : ∀ g, A0 = some g → n₀ ≤ g ∧ g < w.heap.size ∧ g ≠ gw) (hpg : p ≠ gw) :
    Calls Tryd.prog 24 #[x.val, .slice (some ⟨gw, 0, none⟩) L.length C, .int .i64 stop, .pointer (some ⟨p, 0, none⟩)] w fun e w' => e = .returned (.bool true) ∧ Hid (∃ S', BkR p A0 w.heap.size S' w' ∧ OwnsX w' S' ∧ S'.length ≤ S.length + 10000000000 ∧ (∀ s ∈ S', ∀ a m c, s = .slice a m c → m ≤ 100000) ∧ (∀ g ∈ blocksOf S', g ∈ blocksOf S ∨ w.heap.size ≤ g) ∧ KpX w.heap.size (fun b => b = p ∨ A0 = some b) w w' ∧ w'.os = w.os ∧ w'.tape = w.tape ∧ w'.output = w.output) := by
  refine (callsIn_wide (n := 3)).1 ?_
  have hdd : ∀ k : Nat, (Fence.wide.depth.isSome = true → 1 ≤ k) := fun k h => by cases h
  have HX := hide hx
  have HV := hide hv
  have HW := hide hW
  have HB := hide hbk
  have HO := hide ho
  have HA := hide hA0
  have HLL := hide hL
  have HSM0 := hide hSm
  clear hx hv hW hbk ho hA0 hL hSm
  rw [V.val_eq]
  refine callsIn_of_wp_marks Tryd.func24 rfl trivial ?_ rfl
  simp only [Tryd.ntmps24, List.size_toArray, List.length_cons, List.length_nil, Nat.reduceAdd, Nat.reduceSub, Array.replicate_succ, Array.replicate_zero, List.push_toArray, List.append_toArray, List.nil_append, List.cons_append]
  gi_wp2_with fail
  obtain ⟨W0, hW0⟩ : ∃ W0, ((((w.alloc (Obj.cells #[.int .i64 x.k, .int .u64 x.n, .string x.s, .slice x.a x.l.length x.c, .int .i64 x.e] 25)).alloc (Obj.cells #[.slice (some ⟨gw, 0, none⟩) L.length C] 41)).alloc (Obj.cells #[.int .i64 stop] 3)).alloc (Obj.cells #[.pointer (some ⟨p, 0, none⟩)] 34)).alloc (Obj.cells #[.bool false] 4) = W0 := ⟨_, rfl⟩
  have hs0 : W0.heap.size = w.heap.size + 5 := by rw [← hW0]; simp
  have hb0 : Below w.heap.size w W0 := by rw [← hW0]; exact bel1 (bel1 (bel1 (bel2 (Below.refl _ _) (Nat.le_refl _) _ _) (by simp; omega) _) (by simp; omega) _) (by simp; omega) _
  have xw : Boxed W0 (w.heap.size + 1) 41 (.slice (some ⟨gw, 0, none⟩) L.length C) := by rw [← hW0]; exact heap_past (heap_past (heap_past (heap_at1 _ _ _) _) _) _
  have xst : Boxed W0 (w.heap.size + 1 + 1) 3 (.int .i64 stop) := by
    rw [← hW0]
    have := World.alloc_heap_new ((w.alloc (Obj.cells #[.int .i64 x.k, .int .u64 x.n, .string x.s, .slice x.a x.l.length x.c, .int .i64 x.e] 25)).alloc (Obj.cells #[.slice (some ⟨gw, 0, none⟩) L.length C] 41)) (Obj.cells #[.int .i64 stop] 3)
    simp only [World.size_alloc] at this
    exact heap_past (heap_past this _) _
  have xp : Boxed W0 (w.heap.size + 1 + 1 + 1) 34 (.pointer (some ⟨p, 0, none⟩)) := by
    rw [← hW0]
    have := World.alloc_heap_new (((w.alloc (Obj.cells #[.int .i64 x.k, .int .u64 x.n, .string x.s, .slice x.a x.l.length x.c, .int .i64 x.e] 25)).alloc (Obj.cells #[.slice (some ⟨gw, 0, none⟩) L.length C] 41)).alloc (Obj.cells #[.int .i64 stop] 3)) (Obj.cells #[.pointer (some ⟨p, 0, none⟩)] 34)
    simp only [World.size_alloc] at this
    exact heap_past this _
  have xr : Boxed W0 (w.heap.size + 1 + 1 + 1 + 1) 4 (.bool false) := by
    rw [← hW0]
    have := World.alloc_heap_new ((((w.alloc (Obj.cells #[.int .i64 x.k, .int .u64 x.n, .string x.s, .slice x.a x.l.length x.c, .int .i64 x.e] 25)).alloc (Obj.cells #[.slice (some ⟨gw, 0, none⟩) L.length C] 41)).alloc (Obj.cells #[.int .i64 stop] 3)).alloc (Obj.cells #[.pointer (some ⟨p, 0, none⟩)] 34)) (Obj.cells #[.bool false] 4)
    simp only [World.size_alloc] at this
    exact this
  rw [hW0]
  clear hW0
  refine ⟨trivial, ?_⟩
  refine (callsIn_wide.2 (allf_any x n₀ W0 (by omega) (HX.out.keep hb0 hn))).mono ?_
  rintro e w1 ⟨B, y2, rfl, HY2, hb1⟩
  have hs1 := hb1.size
  have hbw1 : Below w.heap.size w w1 := belOn hb0 (by omega) hb1
  have heq : ∀ u, (binOp BinOp.eql 45 (.func (.func 44) #[] #[.pointer (some ⟨B, 0, none⟩)]) .nilFunc).run Tryd.prog u = .ok (.bool false) u := fun u => by
    first | rfl | (simp [binOp, Tryd.underlying45, go_sem]; done)
  gi_wp2_with fail
  rename_i Q' K hKK
  have hplt := HB.out.lt
  have hA0l : ∀ g, A0 = some g → g < w.heap.size := fun g h => (HA.out g h).2.1
  obtain ⟨W2, hW2⟩ : ∃ W2, w1.alloc (Obj.cells #[.int .i64 0] 3) = W2 := ⟨_, rfl⟩
  have hs2a : w1.heap.size + 1 ≤ W2.heap.size := by rw [← hW2]; simp
  have hs2b : W2.heap.size ≤ w1.heap.size + 1 := by rw [← hW2]; simp
  have hb2 : Below w1.heap.size w1 W2 := by rw [← hW2]; exact bel1 (Below.refl _ _) (Nat.le_refl _) _
  have xn2 : Boxed W2 w1.heap.size 3 (.int .i64 0) := by rw [← hW2]; exact World.alloc_heap_new _ _
  rw [hW2]
  clear hW2
  have hbW2 : Below W0.heap.size W0 W2 := belOn hb1 hs1 hb2
  have hbw2 : Below w.heap.size w W2 := belOn hbw1 (by omega) hb2
  obtain ⟨hy2, hB2, hB3, hl2⟩ := HY2.out
  have hBlt := hB2.lt
  have hst := all_seq W2.heap.size (fun b => b = w1.heap.size ∨ b = p ∨ A0 = some b) (fun b => (b = w1.heap.size ∨ b = p ∨ A0 = some b) ∨ b = w.heap.size + 1 + 1 + 1 + 1) (fun b => W0.heap.size ≤ b ∧ b < w1.heap.size) (fun _ h => .inl h) (fun b h1 h2 => by rcases h2 with h | h | h <;> first | omega | (have := hA0l b h; omega)) y2 B (fun h => by rcases h with h | h | h <;> first | omega | (have := hA0l B h; omega)) W2 (hB2.below hb2 hBlt) (hl2.keep (fun b hb o => hb2.cell (p := ⟨b, o, none⟩) hb.2) (fun _ h => h)) (fun b h => by omega) (fun b h => by omega) (fun b h => by rcases h with (h | h | h) | h <;> first | omega | (have := hA0l b h; omega))
  have REST : ∀ (D : Nat) (W : World) (xs : List (Int × V)), W2.heap.size ≤ D → W.heap[D]? = some (.deferred (some [])) → Boxed W w1.heap.size 3 (.int .i64 (xs.length : Int)) → (∀ y ∈ xs, Sml w.heap.size y) → BkR p A0 W2.heap.size (S ++ V.slotss (xs.map Prod.snd)) W → OwnsX W (S ++ V.slotss (xs.map Prod.snd)) → KpX W2.heap.size (fun b => b = w1.heap.size ∨ b = p ∨ A0 = some b) W2 W → Out W2 W → xs.length ≤ L.length → (xs.length = L.length ∨ (xs.length : Int) = stop) →
      K { tmps := gTmps x gw L.length C p w.heap.size w1.heap.size B stop undef undef undef undef, defers := [{ target := .collected D, args := #[] }] } W := by
    intro D W xs hD hDr i1 i2 i3 i4 i5 i6 hxl hor
    refine hKK _ _ ?_
    clear hKK
    have hsz := i5.1
    have kW : ∀ b o, W0.heap[b]? = some o → w.heap.size ≤ b → W.heap[b]? = some o := fun b o ho hb => by
      have hb0 := (Array.getElem?_eq_some_iff.1 ho).1
      exact i5.2 b o (fun h => h.elim (fun h => by omega) (fun h => h.elim (fun h => by omega) (fun h => by have := hA0l b h; omega))) (.inl (by omega)) ((hbW2.block b hb0).trans ho)
    have yw : Boxed W (w.heap.size + 1) 41 (.slice (some ⟨gw, 0, none⟩) L.length C) := kW _ _ xw (by omega)
    have yst : Boxed W (w.heap.size + 1 + 1) 3 (.int .i64 stop) := kW _ _ xst (by omega)
    have yr : Boxed W (w.heap.size + 1 + 1 + 1 + 1) 4 (.bool false) := kW _ _ xr (by omega)
    have hn0 := i1.cell
    have hw0 := yw.cell
    have hs0' := yst.cell
    have hr0 := yr.cell
    have hrf := yr.frozen
    have hlen : (V.slotss (xs.map Prod.snd)).length ≤ 10000000000 := by
      have h1 := slotss_len' (xs.map Prod.snd) 100000 (fun z hz => by
        obtain ⟨q, hq, rfl⟩ := List.mem_map.1 hz
        exact (i2 q hq).1)
      have h2 := all_len v 1
      rw [← HLL.out] at h2
      rw [List.length_map] at h1
      have h3 : xs.length * 100000 ≤ 100000 * 100000 := Nat.mul_le_mul_right _ (by omega)
      omega
    have hK' := (KeepsOthers.setCell W ⟨w.heap.size + 1 + 1 + 1 + 1, 0, none⟩ (.bool true)).same D _ hDr rfl
    have FIN : Hid (∀ F, F = (W.setCell ⟨w.heap.size + 1 + 1 + 1 + 1, 0, none⟩ (.bool true)).putObj D (.deferred none) → ∃ S', BkR p A0 w.heap.size S' F ∧ OwnsX F S' ∧ S'.length ≤ S.length + 10000000000 ∧ (∀ s ∈ S', ∀ a m c, s = .slice a m c → m ≤ 100000) ∧ (∀ g ∈ blocksOf S', g ∈ blocksOf S ∨ w.heap.size ≤ g) ∧ KpX w.heap.size (fun b => b = p ∨ A0 = some b) w F ∧ F.os = w.os ∧ F.tape = w.tape ∧ F.output = w.output) := by
      rintro F rfl
      have hgp := grownBy_putObj' (W.setCell ⟨w.heap.size + 1 + 1 + 1 + 1, 0, none⟩ (.bool true)) D (.deferred none)
      have hgr : ∀ r, some D = some r → ∃ o : Obj, (W.setCell ⟨w.heap.size + 1 + 1 + 1 + 1, 0, none⟩ (.bool true)).heap[r]? = some o ∧ o.isCells = false := fun r e => by cases e; exact ⟨_, hK', rfl⟩
      refine ⟨_, ((i3.set yr (by decide) (by decide) _ _).grown hgp hgr).weaken (by omega), owns_grown (owns_set i4 yr (by decide) _ _) hgp hgr, by rw [List.length_append]; omega, (fun z hz => (List.mem_append.1 hz).elim (HSM0.out z) (slotss_small (xs.map Prod.snd) 100000 (fun q hq => by obtain ⟨q', hq', rfl⟩ := List.mem_map.1 hq; exact (i2 q' hq').1) z)), (fun g hg => by
        rw [blocksOf_append] at hg
        refine (List.mem_append.1 hg).imp id (fun hg => ?_)
        obtain ⟨s, hs, he⟩ := List.mem_filterMap.1 hg
        unfold V.slotss at hs
        obtain ⟨S', hS', hm⟩ := List.mem_flatten.1 hs
        obtain ⟨q, hq, rfl⟩ := List.mem_map.1 hS'
        obtain ⟨q', hq', rfl⟩ := List.mem_map.1 hq
        exact (i2 q' hq').2 g (List.mem_filterMap.2 ⟨s, hm, he⟩)), ⟨?_, fun b o hx hn hb => ?_⟩, i6.1.trans hbw2.os, i6.2.1.trans hbw2.tape, i6.2.2.trans hbw2.output⟩
      · have := hgp.size
        have h2 : (W.setCell ⟨w.heap.size + 1 + 1 + 1 + 1, 0, none⟩ (.bool true)).heap.size = W.heap.size := by simp [World.setCell]
        omega
      · have hbl := (Array.getElem?_eq_some_iff.1 hb).1
        rw [World.putObj_heap_other (by omega), Below.heap_setCell _ _ _ _ (by show b ≠ w.heap.size + 1 + 1 + 1 + 1; omega)]
        exact i5.2 b o (fun h => h.elim (fun h => by omega) hx) (.inl (by omega)) ((hbw2.block b hbl).trans hb)
    have HOR := hide hor
    clear hor kW i2 i3 i4 i5
    simp only [gTmps]
    by_cases h1 : xs.length = L.length
    · have hb : ((xs.length : Int) == (L.length : Int)) = true := by simp [h1]
      clear h1 HOR hlen hxl
      gi_wp2
      refine ⟨by simp, .inl ⟨_, _, rfl, run_takeDeferred hK', ?_⟩⟩
      have hc5 := cell_kept (yr.set (.bool true)).cell (grownBy_putObj' _ D (.deferred none)) (fun r e => by cases e; exact ⟨_, hK', rfl⟩)
      refine ⟨.bool true, ?_, rfl, FIN.out _ rfl⟩
      simp only [results, Tryd.f24, go_sem]
      simp [hc5]
    · have hb : ((xs.length : Int) == (L.length : Int)) = false := by simp; omega
      have hb' : ((xs.length : Int) == stop) = true := by simp [HOR.out.resolve_left h1]
      clear h1 HOR hlen hxl
      gi_wp2
      refine ⟨by simp, .inl ⟨_, _, rfl, run_takeDeferred hK', ?_⟩⟩
      have hc5 := cell_kept (yr.set (.bool true)).cell (grownBy_putObj' _ D (.deferred none)) (fun r e => by cases e; exact ⟨_, hK', rfl⟩)
      refine ⟨.bool true, ?_, rfl, FIN.out _ rfl⟩
      simp only [results, Tryd.f24, go_sem]
      simp [hc5]
  clear hKK
  refine range_own (gf := 44) (lb := #[.pointer (some ⟨B, 0, none⟩)]) rfl (enters_of Tryd.func44 (by kernel_rfl) rfl) hst (fun b h => by rcases h with h | h | h <;> first | omega | (have := hA0l b h; omega)) (fun _ h => .inl h) (fun b h => by rcases h with (h | h | h) | h <;> first | omega | (have := hA0l b h; omega)) (fun _ => rfl)
    (fun pre W => Boxed W w1.heap.size 3 (.int .i64 (pre.length : Int)) ∧ ((∀ y ∈ pre, Sml w.heap.size y) ∧ BkR p A0 W2.heap.size (S ++ V.slotss (pre.map Prod.snd)) W ∧ OwnsX W (S ++ V.slotss (pre.map Prod.snd))) ∧ (KpX W2.heap.size (fun b => b = w1.heap.size ∨ b = p ∨ A0 = some b) W2 W ∧ Out W2 W))
    (fun c pre W => (c = .ret ∧ ∃ (q : List (Int × V)) (y : Int × V), pre = q ++ [y] ∧ ¬ (∃ h : q.length < L.length, eqT y.2.t (L[q.length]'h).2.t = true ∧ y.1 = (L[q.length]'h).1)) ∨
      (c = .exit 0 ∧ (pre.length : Int) = stop ∧ Boxed W w1.heap.size 3 (.int .i64 (pre.length : Int)) ∧ ((∀ y ∈ pre, Sml w.heap.size y) ∧ BkR p A0 W2.heap.size (S ++ V.slotss (pre.map Prod.snd)) W ∧ OwnsX W (S ++ V.slotss (pre.map Prod.snd))) ∧ (KpX W2.heap.size (fun b => b = w1.heap.size ∨ b = p ∨ A0 = some b) W2 W ∧ Out W2 W)))
    ?hI ?hIx ⟨xn2, ⟨by simp, by simpa [V.slotss] using (HB.out.rebase _).grown (row := none) ⟨hbw2.os, hbw2.tape, hbw2.output, hbw2.size, fun k hk _ => hbw2.block k hk⟩ (fun r e => by cases e), by simpa [V.slotss] using owns_below HO.out hbw2⟩, KpX.refl _ _ _, Out.refl _⟩
    (fun pre y a' W => (∃ lo, LiesIn (fun b => lo ≤ b ∧ b < W.heap.size) W y.2 ∧ Owns W lo W.heap.size y.2.slots ∧ Frs p lo (S ++ V.slotss (pre.map Prod.snd)) W ∧ Sml w.heap.size y) ∧ ∃ Bx, BoxV W Bx y.2 ∧ a' = { tmps := gTmps x gw L.length C p w.heap.size w1.heap.size B stop (.int .i64 y.1) (.pointer (some ⟨Bx, 0, none⟩)) (.int .i64 y.1) (.agg #[.int .i64 y.2.k, .int .u64 y.2.n, .string y.2.s, .slice y.2.a y.2.l.length y.2.c, .int .i64 y.2.e]), defers := [] })
    ?hAx ?assign ?body ?done ?stop
  case hI =>
    rintro pre A B' row ⟨h1, ⟨h2, h3, h4⟩, h5, h6⟩ hg hr
    have hr' : ∀ r, row = some r → ∃ o : Obj, A.heap[r]? = some o ∧ o.isCells = false := fun r e => (hr r e).2
    exact ⟨grown_cells hg hr' h1, ⟨h2, h3.grown hg hr', owns_grown h4 hg hr'⟩, kp_grown h5 hg hr (Nat.le_refl _), h6.grown hg⟩
  case hIx =>
    rintro c pre A B' row (h | ⟨h0, h00, h1, ⟨h2, h3, h4⟩, h5, h6⟩) hg hr
    · exact .inl h
    · have hr' : ∀ r, row = some r → ∃ o : Obj, A.heap[r]? = some o ∧ o.isCells = false := fun r e => (hr r e).2
      exact .inr ⟨h0, h00, grown_cells hg hr' h1, ⟨h2, h3.grown hg hr', owns_grown h4 hg hr'⟩, kp_grown h5 hg hr (Nat.le_refl _), h6.grown hg⟩
  case hAx =>
    rintro pre y a' _ A B' row ⟨⟨lo, h1, h2, h3, h4⟩, Bx, h5, h6⟩ hg hr
    have hr' : ∀ r, row = some r → ∃ o : Obj, A.heap[r]? = some o ∧ o.isCells = false := fun r e => (hr r e).2
    exact ⟨⟨lo, lies_some (fun q u hq => cell_kept hq hg hr') (fun b hb => ⟨hb.1, Nat.lt_of_lt_of_le hb.2 hg.size⟩) y.2 h1, ownsI_grown h2 hg hr', h3.grown hg hr', h4⟩, Bx, grown_cells hg hr' h5, h6⟩
  case assign =>
    rintro l' pre y Wp W K' ⟨i1, ⟨i2, i3, i4⟩, i5, i6⟩ hbp ⟨r1, r2, q, hq, hq1, hq2⟩ ⟨j1, ⟨j2, j3, j4⟩, j5, j6⟩ hK
    simp only [encV, V.val_eq]
    have hsz := j5.1
    have hwt : T.wt y.2.t ≤ 100000 := by
      have := (all_sub y2 1 q (by omega) (by rw [hy2, ht]; omega) hq).1.2
      have := (all_sub y2 1 q (by omega) (by rw [hy2, ht]; omega) hq).1.1
      rw [← hq2]
      rw [hy2, ht] at *
      omega
    have hba := bel1 (Below.refl W.heap.size W) (Nat.le_refl _) (Obj.cells #[.int .i64 y.2.k, .int .u64 y.2.n, .string y.2.s, .slice y.2.a y.2.l.length y.2.c, .int .i64 y.2.e] 25)
    have hfr := ((i3.fresh i4).below hbp).below hba
    gi_wp2
    exact hK _ _ ((KpX.refl _ _ W).alloc _) ⟨j1.alloc _, ⟨j2, j3.below hba, owns_below j4 hba⟩, j5.alloc _, j6.below hba⟩ ⟨⟨Wp.heap.size, LiesIn.keep r1 (fun b hb o => hba.cell (p := ⟨b, o, none⟩) hb.2) (fun b hb => ⟨hb.1, by have := hb.2; simp; omega⟩), r2.keep (fun b _ hb => hba.block b hb) (Nat.le_refl _) (by simp), hfr, hwt, fun g hg => by have := (r2.mem hg).1; have := i5.1; omega⟩, W.heap.size, BoxV.new W y.2, rfl⟩
  case body =>
    rintro l' pre y a' W hl' ⟨r, hr⟩ ⟨i1, ⟨i2, i3, i4⟩, i5, i6⟩ ⟨⟨lo, a1, a2, a3, a4⟩, Bx, bX, rfl⟩ hlt
    have hll : (y2.all 1).length = L.length := by
      rw [HLL.out]
      have := congrArg List.length (all_bareS y2 v 1 (hy2.trans ht))
      simpa [bare] using this
    rw [hll] at hlt
    simp only [gTmps]
    have hsz := i5.1
    have nX : ∀ b, b < W2.heap.size → b ≠ w1.heap.size → b ≠ p → (∀ g, A0 = some g → b ≠ g) → ∀ o, W2.heap[b]? = some o → W.heap[b]? = some o := fun b h1 h2 h3 h4 o ho => i5.2 b o (fun h => h.elim h2 (fun h => h.elim h3 (fun h => h4 b h rfl))) (.inl h1) ho
    have kW : ∀ b o, W0.heap[b]? = some o → w.heap.size ≤ b → W.heap[b]? = some o := fun b o ho hb => by
      have hb0 := (Array.getElem?_eq_some_iff.1 ho).1
      exact nX b (by omega) (by omega) (by omega) (fun g hg => by have := hA0l g hg; omega) o ((hbW2.block b hb0).trans ho)
    have yw : Boxed W (w.heap.size + 1) 41 (.slice (some ⟨gw, 0, none⟩) L.length C) := kW _ _ xw (by omega)
    have yst : Boxed W (w.heap.size + 1 + 1) 3 (.int .i64 stop) := kW _ _ xst (by omega)
    have yp : Boxed W (w.heap.size + 1 + 1 + 1) 34 (.pointer (some ⟨p, 0, none⟩)) := kW _ _ xp (by omega)
    have yr : Boxed W (w.heap.size + 1 + 1 + 1 + 1) 4 (.bool false) := kW _ _ xr (by omega)
    have hWW : Wants gw L W := by
      intro i hi
      obtain ⟨c0, c1, c2, c3, c4, c5⟩ := HW.out i hi
      obtain ⟨cs, t, f, hb⟩ := cells_of_cell c0
      have hb' := nX gw (by omega) (by omega) (fun h => hpg h.symm) (fun g hg h => (HA.out g hg).2.2 h.symm) _ ((hbw2.block gw hgw).trans hb)
      have e : ∀ o, W.cell? ⟨gw, o, none⟩ = w.cell? ⟨gw, o, none⟩ := fun o => World.cell?_of_block (hb'.trans hb.symm)
      exact ⟨(e _).trans c0, (e _).trans c1, (e _).trans c2, (e _).trans c3, (e _).trans c4, (e _).trans c5⟩
    have HLV : Hid (Lies n₀ W v) := LiesIn.keep HV.out (fun b hb o => by
      have hbw : b < w.heap.size := Nat.lt_of_lt_of_le hb hn
      have := hbw2.block b hbw
      cases hh : w.heap[b]? with
      | none => rw [Array.getElem?_eq_none_iff] at hh; omega
      | some ob => exact World.cell?_of_block ((nX b (by omega) (by omega) (by omega) (fun g hg h => by have := (HA.out g hg).1; omega) _ (this.trans hh)).trans hh.symm)) (fun _ h => h)
    obtain ⟨c0, c1, c2, c3, c4, c5⟩ := hWW pre.length hlt
    have HWW := hide hWW
    obtain ⟨b0, b1, b2, b3, b4⟩ := bX.cells
    have hbx := bX.lt
    have hn0 := i1.cell
    have hw0 := yw.cell
    have hs0' := yst.cell
    have hp0 := yp.cell
    have hr0 := yr.cell
    have hrf := yr.frozen
    have hnf := i1.frozen
    have hge : ¬ ((L.length : Int) ≤ (pre.length : Int)) := by omega
    have hpl : pre.length ≤ 100000 := by
      have := all_len v 1
      rw [← HLL.out] at this
      omega
    have I1 := hide i1
    have I3 := hide i3
    have I4 := hide i4
    have I5 := hide i5
    have A1 := hide a1
    have A2 := hide a2
    have A3 := hide a3
    have hmx : Tryd.prog.follows .mixedOrders = true := by kernel_rfl
    have HLN : Hid (Lies n₀ W L[pre.length].2) := all_lies 1 v HLV.out _ (by rw [← HLL.out]; exact List.getElem_mem hlt)
    obtain ⟨sm, hsm⟩ : ∃ sm, eqT y.2.t L[pre.length].2.t = sm := ⟨_, rfl⟩
    have HSM := hide hsm
    have HQ : Hid (∀ W3, Below W.heap.size W W3 → Calls Tryd.prog 13 #[.agg #[.int .i64 y.2.k, .int .u64 y.2.n, .string y.2.s, .slice y.2.a y.2.l.length y.2.c, .int .i64 y.2.e], .agg #[.int .i64 L[pre.length].2.k, .int .u64 L[pre.length].2.n, .string L[pre.length].2.s, .slice L[pre.length].2.a L[pre.length].2.l.length L[pre.length].2.c, .int .i64 L[pre.length].2.e]] W3 fun e W4 => e = .returned (.bool sm) ∧ Below W.heap.size W W4) := by
      intro W3 hb3
      have hs3 := hb3.size
      have q := requal_any y.2 L[pre.length].2 W.heap.size W3 hs3 (LiesIn.keep A1.out (fun b hb o => hb3.cell (p := ⟨b, o, none⟩) hb.2) (fun b hb => hb.2)) (LiesIn.keep HLN.out (fun b hb o => hb3.cell (p := ⟨b, o, none⟩) (by show b < W.heap.size; have : b < n₀ := hb; omega)) (fun b hb => by show b < W.heap.size; have : b < n₀ := hb; omega))
      rw [V.val_eq, V.val_eq, hsm] at q
      refine q.mono ?_
      rintro e W4 ⟨h1, h2⟩
      exact ⟨h1, belOn hb3 hs3 h2⟩
    clear hWW nX kW i1 i3 i4 i5 a1 a2 a3 hsm
    obtain ⟨u, hu⟩ : ∃ u, L[pre.length]'hlt = u := ⟨_, rfl⟩
    have HU := hide hu
    rw [hu] at c0 c1 c2 c3 c4 c5 HQ HSM HLN
    clear hu
    gi_wp2_with fail
    rename_i K2 hK2
    have REST : ∀ W4, Below W.heap.size W W4 → K2 { tmps := gTmps2 x gw L.length C p w.heap.size w1.heap.size B Bx pre.length stop y u sm, defers := [] } W4 := by
      intro W4 hb4
      refine hK2 _ _ ?_
      clear hK2 HQ b0 b1 b2 b3 b4 hn0 hw0 hs0' hp0 hr0 hrf hnf
      simp only [gTmps2]
      have hs4 := hb4.size
      have xn4 : Boxed W4 w1.heap.size 3 (.int .i64 (pre.length : Int)) := (hb4.block _ I1.out.lt).trans I1.out
      have xw4 : Boxed W4 (w.heap.size + 1) 41 (.slice (some ⟨gw, 0, none⟩) L.length C) := (hb4.block _ yw.lt).trans yw
      have xst4 : Boxed W4 (w.heap.size + 1 + 1) 3 (.int .i64 stop) := (hb4.block _ yst.lt).trans yst
      have xp4 : Boxed W4 (w.heap.size + 1 + 1 + 1) 34 (.pointer (some ⟨p, 0, none⟩)) := (hb4.block _ yp.lt).trans yp
      have xr4 : Boxed W4 (w.heap.size + 1 + 1 + 1 + 1) 4 (.bool false) := (hb4.block _ yr.lt).trans yr
      have hn4 := xn4.cell
      have hw4 := xw4.cell
      have hp4 := xp4.cell
      have hr4 := xr4.cell
      have hrf4 := xr4.frozen
      have d0 := (hb4.cell (p := ⟨gw, pre.length * 6, none⟩) (by show gw < W.heap.size; omega)).trans c0
      obtain ⟨b0, b1, b2, b3, b4⟩ := (bX.below hb4 hbx).cells
      clear c0 c1 c2 c3 c4 c5
      have hbad : ¬ (sm = true ∧ y.1 = u.1) → ∃ (q : List (Int × V)) (y' : Int × V), pre ++ [y] = q ++ [y'] ∧ ¬ (∃ h : q.length < L.length, eqT y'.2.t (L[q.length]'h).2.t = true ∧ y'.1 = (L[q.length]'h).1) := fun hne => ⟨pre, y, rfl, fun ⟨h, e1, e2⟩ => hne (by
        rw [HU.out] at e1 e2
        rw [HSM.out] at e1
        exact ⟨e1, e2⟩)⟩
      have HBAD := hide hbad
      clear hbad
      cases sm with
      | false =>
        gi_wp2
        exact ⟨KpX.setCell (KpX.of_below hb4) (.inr rfl) _ _, .inl ⟨rfl, HBAD.out (by simp)⟩⟩
      | true =>
        by_cases hd : y.1 = u.1
        · have hdb : (y.1 != u.1) = false := by simp [hd]
          gi_wp2_with fail
          refine ⟨trivial, ?_⟩
          have hlen : (V.slotss (pre.map Prod.snd)).length ≤ 10000000000 := by
            have h1 := slotss_len' (pre.map Prod.snd) 100000 (fun z hz => by
              obtain ⟨q, hq, rfl⟩ := List.mem_map.1 hz
              exact (i2 q hq).1)
            have h2 := all_len v 1
            rw [← HLL.out] at h2
            rw [List.length_map] at h1
            have h3 : pre.length * 100000 ≤ 100000 * 100000 := Nat.mul_le_mul_right _ (by omega)
            omega
          have q := take_st (M := W2.heap.size) (lo := lo) (by omega) (I3.out.below hb4) (owns_below I4.out hb4) (A3.out.below hb4) y.2 (LiesIn.keep A1.out (fun b hb o => hb4.cell (p := ⟨b, o, none⟩) hb.2) (fun b hb => ⟨hb.1, by have := hb.2; omega⟩)) (A2.out.keep (fun b _ hb => hb4.block b hb) (Nat.le_refl _) hs4) (by rw [List.length_append]; have := a4.1; omega)
          rw [V.val_eq] at q
          refine (CallsIn.inRound l' (callsIn_wide.2 q)).mono ?_
          clear q
          rintro e W5 ⟨rfl, HT⟩
          obtain ⟨t1, t2, t3, t4⟩ := HT.out
          have k5 := t3 (fun b => b = p ∨ A0 = some b) (.inl rfl) (fun g h => .inr h)
          have hk5 : ∀ b o, W4.heap[b]? = some o → w.heap.size ≤ b → b < W2.heap.size → W5.heap[b]? = some o := fun b o ho h1 h2 => k5.2 b o (fun h => h.elim (fun h => by omega) (fun h => by have := hA0l b h; omega)) (.inl h2) ho
          have xn5 : Boxed W5 w1.heap.size 3 (.int .i64 (pre.length : Int)) := hk5 _ _ xn4 (by omega) (by omega)
          have xst5 : Boxed W5 (w.heap.size + 1 + 1) 3 (.int .i64 stop) := hk5 _ _ xst4 (by omega) (by omega)
          have hn5 := xn5.cell
          have hn5f := xn5.frozen
          have hst5 := xst5.cell
          have hne1 : ¬ (w.heap.size + 1 + 1 = w1.heap.size) := by omega
          have hne2 : ¬ (w1.heap.size = w.heap.size + 1 + 1) := by omega
          have hst5' : (W5.setCell ⟨w1.heap.size, 0, none⟩ (.int .i64 ((pre.length : Int) + 1))).cell? ⟨w.heap.size + 1 + 1, 0, none⟩ = some (.int .i64 stop) := (xst5.other (by omega) _).cell
          have kX : KpX W2.heap.size (fun b => b = w1.heap.size ∨ b = p ∨ A0 = some b) W (W5.setCell ⟨w1.heap.size, 0, none⟩ (.int .i64 ((pre.length : Int) + 1))) := ((KpX.of_below hb4).trans (t3 _ (.inr (.inl rfl)) (fun g h => .inr (.inr h)))).setCell (.inl rfl) _ _
          have e1 : ((pre ++ [y]).length : Int) = (pre.length : Int) + 1 := by simp
          have F1 : Boxed (W5.setCell ⟨w1.heap.size, 0, none⟩ (.int .i64 ((pre.length : Int) + 1))) w1.heap.size 3 (.int .i64 ((pre ++ [y]).length : Int)) := by rw [e1]; exact xn5.set _
          have F2 : (∀ z ∈ pre ++ [y], Sml w.heap.size z) ∧ BkR p A0 W2.heap.size (S ++ V.slotss ((pre ++ [y]).map Prod.snd)) (W5.setCell ⟨w1.heap.size, 0, none⟩ (.int .i64 ((pre.length : Int) + 1))) ∧ OwnsX (W5.setCell ⟨w1.heap.size, 0, none⟩ (.int .i64 ((pre.length : Int) + 1))) (S ++ V.slotss ((pre ++ [y]).map Prod.snd)) := by
            rw [snd_append, ← List.append_assoc]
            refine ⟨fun z hz => (List.mem_append.1 hz).elim (i2 z) (fun h => by simp at h; subst h; exact a4), t1.set xn5 (by decide) (by decide) _ _, owns_set t2 xn5 (by decide) _ _⟩
          have F3 : KpX W2.heap.size (fun b => b = w1.heap.size ∨ b = p ∨ A0 = some b) W2 (W5.setCell ⟨w1.heap.size, 0, none⟩ (.int .i64 ((pre.length : Int) + 1))) ∧ Out W2 (W5.setCell ⟨w1.heap.size, 0, none⟩ (.int .i64 ((pre.length : Int) + 1))) := ⟨I5.out.trans kX, ((i6.below hb4).trans t4).trans ⟨rfl, rfl, rfl⟩⟩
          have KX := hide kX
          have G1 := hide F1
          have G2 := hide F2
          have G3 := hide F3
          have E1 := hide e1
          clear k5 hk5 t1 t2 t3 t4 HT kX F1 F2 F3 e1 xn5 xst5 xn4 xw4 xst4 xp4 xr4 hn4 hw4 hp4 hr4 hrf4 d0 b0 b1 b2 b3 b4
          by_cases hsp : (pre.length : Int) + 1 = stop
          · have hspb : ((pre.length : Int) + 1 == stop) = true := by simp [hsp]
            have HSP := hide hsp
            clear hsp
            gi_wp2
            exact ⟨KX.out.wider (fun b h => Or.inl h), .inr ⟨rfl, E1.out.trans HSP.out, G1.out, G2.out, G3.out⟩⟩
          · have hspb : ((pre.length : Int) + 1 == stop) = false := by simp [hsp]
            clear hsp
            gi_wp2
            exact ⟨KX.out, G1.out, G2.out, G3.out⟩
        · have hdb : (y.1 != u.1) = true := by simp [hd]
          gi_wp2
          first
            | exact ⟨KpX.setCell (KpX.of_below hb4) (.inr rfl) _ _, .inl ⟨rfl, HBAD.out (fun h => hd h.2)⟩⟩
            | (obtain ⟨q, ⟨ya, yb⟩, h1, h2⟩ := HBAD.out (fun h => hd h.2); exact ⟨KpX.setCell (KpX.of_below hb4) (.inr rfl) _ _, .inl ⟨rfl, q, ya, yb, h1, fun h e1 e2 => h2 ⟨h, e1, e2⟩⟩⟩)
    clear hK2
    gi_region_with_o ((first | refine ⟨trivial, hdd _, ?_⟩ | refine ⟨trivial, ?_⟩); gi_at_call 13; refine (CallsIn.inRound l' (callsIn_wide.2 (HQ.out _ (by first | exact Below.refl _ _ | exact (Below.refl _ _).drew | exact (Below.refl _ _).drew.drew)))).mono ?_; rintro e W4 ⟨rfl, hb4⟩)
    all_goals exact REST W4 hb4
  case done =>
    rintro D xs W hD hxs ⟨i1, ⟨i2, i3, i4⟩, i5, i6⟩ hDr
    have hll : xs.length = L.length := by
      rw [HLL.out]
      have := congrArg List.length (hxs.trans (all_bareS y2 v 1 (hy2.trans ht)))
      simpa [bare] using this
    exact REST D W xs hD hDr i1 i2 i3 i4 i5 i6 (by omega) (.inl hll)
  case stop =>
    rintro D c pre W hD hpre (⟨rfl, q, y, rfl, hbad⟩ | ⟨rfl, hst', i1, ⟨i2, i3, i4⟩, i5, i6⟩) hDr
    · exfalso
      apply hbad
      have hbe := all_bareS y2 v 1 (hy2.trans ht)
      rw [hbe] at hpre
      obtain ⟨r, hr⟩ := hpre
      have hb : bare (q ++ [y]) = bare q ++ [(y.1, y.2.t)] := by unfold bare; simp
      rw [hb, List.append_assoc] at hr
      have hq : (bare q).length = q.length := by simp [bare]
      have hlt : q.length < L.length := by
        rw [HLL.out]
        have := congrArg List.length hr
        simp [bare] at this
        omega
      refine ⟨hlt, ?_⟩
      have hg : (bare L)[q.length]? = some (y.1, y.2.t) := by
        rw [HLL.out, ← hr, List.getElem?_append_right (by omega), hq]
        simp
      unfold bare at hg
      rw [List.getElem?_map, List.getElem?_eq_getElem hlt] at hg
      simp only [Option.map_some, Option.some.injEq, Prod.mk.injEq] at hg
      rw [← hg.2]
      exact ⟨eqT_selfS _, hg.1.symm⟩
    · have hxl : pre.length ≤ L.length := by
        rw [HLL.out]
        have := hpre.length_le
        have h2 := congrArg List.length (all_bareS y2 v 1 (hy2.trans ht))
        simp [bare] at this h2
        omega
      gi_wp2
      exact REST D W pre hD hDr i1 i2 i3 i4 i5 i6 hxl (.inr hst')
end Go.Proofs.YtaedlnliglmomaaDoor.B
