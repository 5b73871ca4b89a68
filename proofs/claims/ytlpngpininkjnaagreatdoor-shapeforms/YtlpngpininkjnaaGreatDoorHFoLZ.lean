import Derived.Test.YtlpngpininkjnaaGreatDoorHFoDZ
import Derived.Test.YtlpngpininkjnaaGreatDoorHGFieldsZ
import Derived.Test.YtlpngpininkjnaaGreatDoorVKeepZ
import Derived.OwnWalk
import Derived.Deep.WholeRow

/- ShapeForms: longshorelaw07.long: the walk. -/
namespace Go.Proofs.YtlpngpininkjnaaGreatDoor
open Go.RowKit
set_option linter.unusedVariables false
set_option linter.unusedSimpArgs false
/-- a list of truths that came in -/
def Bools (n₀ : Nat) (w : World) (a : Option Addr) (rs : List Bool) : Prop := 0 < rs.length → ∃ b o, a = some ⟨b, o, none⟩ ∧ b < n₀ ∧ ∀ i (h : i < rs.length), w.cell? ⟨b, o + i, none⟩ = some (.bool rs[i])
theorem Bools.keep {B n₀ : Nat} {w w' : World} {a : Option Addr} {rs : List Bool} (h : Bools n₀ w a rs) (hb : Below B w w') (hn : n₀ ≤ B) : Bools n₀ w' a rs := fun h0 => by
  obtain ⟨b, o, e, h1, h2⟩ := h h0
  exact ⟨b, o, e, h1, fun i hi => (hb.cell (p := ⟨b, o + i, none⟩) (by show b < B; omega)).trans (h2 i hi)⟩
theorem ts_get (l : List V) (i : Nat) : ((V.ts l)[i]?).getD nul = (((l[i]?).getD nul)).t := by
  rw [V.ts_map, List.getElem?_map]
  cases l[i]? with
  | none => exact (leaf_t 0 0 ⟨#[]⟩).symm
  | some x => rfl
theorem longL_len (fs : List FS) (ol : List T) (rs : List Bool) : (longL fs ol rs).length = fs.length := by
  unfold longL
  rw [List.length_mapIdx]
theorem longL_at (fs : List FS) (ol : List V) (rs : List Bool) (i : Nat) (h : i < fs.length) (h' : i < (longL fs (V.ts ol) rs).length) : (longL fs (V.ts ol) rs)[i] = if (rs[i]?).getD false = true ∧ ((ol[i]?).getD nul).k = 0 then fs[i].d else ((ol[i]?).getD nul).t := by
  have e : (longL fs (V.ts ol) rs)[i]? = some (if (rs[i]?).getD false = true ∧ ((ol[i]?).getD nul).k = 0 then fs[i].d else ((ol[i]?).getD nul).t) := by
    unfold longL
    rw [List.getElem?_mapIdx, List.getElem?_eq_getElem h, Option.map_some, ts_get, k_t]
  rw [List.getElem?_eq_getElem h'] at e
  exact Option.some.inj e
/-- the list so far -/
def LongTo (fs : List FS) (ol : List V) (rs : List Bool) (n₀ B j : Nat) (lv : Value) (w : World) : Prop :=
  ∃ L : List V, V.ts L = (longL fs (V.ts ol) rs).take j ∧ w.ownsRow B 30 5 lv j (flat L) ∧ ∀ x ∈ L, Lies n₀ w x
theorem LongTo.next {fs : List FS} {ol : List V} {rs : List Bool} {n₀ B j : Nat} {v' : Value} {wr w2 : World} {Y : V} {L : List V} (h1 : V.ts L = (longL fs (V.ts ol) rs).take j) (h3 : ∀ x ∈ L, Lies n₀ wr x) (hj : j < fs.length)
    (hY : Y.t = if (rs[j]?).getD false = true ∧ ((ol[j]?).getD nul).k = 0 then fs[j].d else ((ol[j]?).getD nul).t) (hl : Lies n₀ w2 Y) (hb : Below n₀ wr w2) (hA : w2.ownsRow B 30 5 v' (j + 1) (flat L ++ words Y)) : LongTo fs ol rs n₀ B (j + 1) v' w2 := by
  refine ⟨L ++ [Y], ?_, ?_, fun x hx => ?_⟩
  · have hj' : j < (longL fs (V.ts ol) rs).length := by rw [longL_len]; exact hj
    rw [List.take_succ_eq_append_getElem hj', longL_at fs ol rs j hj hj', ← hY, ← h1]
    simp only [V.ts_map, List.map_append, List.map_cons, List.map_nil]
  · rw [flat_append, show flat [Y] = words Y by simp [flat]]
    exact hA
  · rcases List.mem_append.1 hx with hx | hx
    · exact (h3 x hx).keep hb (Nat.le_refl _)
    · obtain rfl : x = Y := by simpa using hx
      exact hl
theorem newsF (wr : World) (o : Obj) (v1 v2 v3 v4 v5 : Value) (t : TypeId) : ∀ q u, ([v1, v2, v3, v4, v5] : List Value)[q]? = some u → ((wr.alloc o).alloc (.cells #[v1, v2, v3, v4, v5] t)).cell? ((⟨wr.heap.size + 1, 0, none⟩ : Addr).add q) = some u := fun q u hq => by
  have hql : q < 5 := by have := (List.getElem?_eq_some_iff.1 hq).1; simpa using this
  have hh := heap_at1 wr o (Obj.cells #[v1, v2, v3, v4, v5] t)
  have e1 : (⟨wr.heap.size + 1, 0, none⟩ : Addr).add q = ⟨wr.heap.size + 1, q, none⟩ := by by_cases h : q = 0 <;> simp [Addr.add, h]
  rw [e1]
  simp only [World.cell?, hh]
  have : q = 0 ∨ q = 1 ∨ q = 2 ∨ q = 3 ∨ q = 4 := by omega
  rcases this with rfl | rfl | rfl | rfl | rfl <;> simpa using hq
theorem words_nul : words nul = [.int .i64 0, .int .u64 0, .string ⟨#[]⟩, .slice none 0 0, .int .i64 0] := by
  unfold words nul leaf
  rw [V.l_of]
  rfl
theorem setRow_size (w : World) (g : Nat) (c : Array Value) : (w.setRow g c).heap.size = w.heap.size := by simp [World.setRow]
theorem setRow_at {w : World} {g : Nat} {cs : Array Value} {t : TypeId} {p : Nat × Nat} (h : w.heap[g]? = some (.cells cs t p)) (c : Array Value) : (w.setRow g c).heap[g]? = some (.cells c t p) := by
  simp only [World.setRow]
  rw [Array.getElem?_modify, if_pos rfl, h]
  rfl
theorem setRow_ne (w : World) {g b : Nat} (h : g ≠ b) (c : Array Value) : (w.setRow g c).heap[b]? = w.heap[b]? := by
  simp only [World.setRow]
  rw [Array.getElem?_modify, if_neg h]
theorem setRow_below {B : Nat} {a w : World} (h : Below B a w) {g : Nat} (hg : B ≤ g) (c : Array Value) : Below B a (w.setRow g c) :=
  ⟨h.os, h.tape, h.output, by rw [setRow_size]; exact h.size, fun q hq => (setRow_ne w (by omega) c).trans (h.block q hq)⟩
theorem setRow_under {w : World} {g : Nat} (hg : g < w.heap.size) (c : Array Value) (o : Obj) : (w.alloc o).setRow g c = (w.setRow g c).alloc o := by
  simp only [World.setRow, World.alloc]
  congr 1
  apply Array.ext_getElem?
  intro i
  rw [Array.getElem?_modify, Array.getElem?_push, Array.getElem?_push, Array.getElem?_modify, Array.size_modify]
  by_cases h : g = i
  · subst h
    simp [Nat.ne_of_lt hg]
  · simp [h]
theorem ownsRow_baseF {w : World} {base base' : Nat} {e : TypeId} {size : Nat} {v : Value} {n : Nat} {xs : List Value} (h : w.ownsRow base e size v n xs) (hb : base' ≤ base) : w.ownsRow base' e size v n xs := by
  refine ⟨h.1, ?_⟩
  rcases h.2 with hn | ⟨g, cap, cur, hv, hbg, rest⟩
  · exact .inl hn
  · exact .inr ⟨g, cap, cur, hv, Nat.le_trans hb hbg, rest⟩
theorem nul_lies' (n : Nat) (w : World) : Lies n w nul := leaf_lies _ _ _ _ _ (by decide) (by decide) (by decide)
theorem fsd_t (f : FS) : f.d.t = f.d := leaf_t _ _ _
theorem Tryz.sizeV5 : (Tryz.prog.info? 30).map (·.size) = some 5 := by kernel_rfl
def lenS : Value → Nat
  | .slice _ n _ => n
  | _ => 0
/-- what long tells -/
def LongP (kk : Int) (fs : List FS) (ol : List V) (rs : List Bool) (tl : Bool) (n₀ B g m : Nat) (A : Option Addr) (C : Nat) (w : World) : Prop :=
  (B ≤ g ∧ g < w.heap.size) ∧ w.heap[g]? = some (.cells #[.int .i64 20, .int .u64 0, .string (nameOf kk), .slice none 0 0, .int .i64 0, .int .i64 21, .int .u64 0, .string ⟨#[]⟩, .slice A m C, .int .i64 0] 30 (0, 0)) ∧ m ≤ C ∧ ∃ L : List V, V.ts L = longL fs (V.ts ol) rs ∧ L.length = fs.length ∧ m ≤ L.length ∧ (∀ i (h : i < L.length), m ≤ i → L[i].k = 0) ∧
    (tl = true → m = L.length ∧ w.ownsRow B 30 5 (.slice A m C) m (flat L) ∧ (Value.slice A m C).ownBlock ≠ some g) ∧ (0 < m → ∃ gl, A = some ⟨gl, 0, none⟩ ∧ B ≤ gl ∧ gl < w.heap.size ∧ gl ≠ g ∧ Row w gl 0 (L.take m)) ∧ ∀ x ∈ L, Lies n₀ w x
theorem row_takeF {w : World} {g : Nat} {l : List V} (h : Row w g 0 l) (m : Nat) : Row w g 0 (l.take m) := by
  intro i hi
  have h1 : i < l.length := by rw [List.length_take] at hi; omega
  have := h i h1
  rw [List.getElem_take]
  exact this
/-- x[:m] -/
theorem cutTo (A : Option Addr) (n C m : Nat) (x : Int) (hx : x = m) (hm : m ≤ C) (w : World) :
    (Instr.slice 22 (.slice A n C) none (some (.int .i64 x)) none).run Tryz.prog w = .ok (.slice A m C) w := by
  subst hx
  obtain ⟨i0, hi0, hz0, hz1, hz2⟩ := info_parts Tryz.infoV
  simp [Instr.slice, run_underlying Tryz.underlying22, Instr.sliceBounds, Instr.sliceBound, asIntOf, sizeOf, typeInfo, hi0, hz1, hm, go_sem]
set_option maxRecDepth 100000 in
set_option maxHeartbeats 8000000 in
theorem long_any {kk : Int} {fs0 : List FS} {N : Nat} (hft : ftab kk = some fs0) (hN : fs0.length = N) (d : V) (ol : List V) (a3 : Option Addr) (c3 b2 o2 c2 : Nat) (rs : List Bool) (ra : Option Addr) (rc : Nat) (tl : Bool) (n₀ : Nat) (w : World) (hn : n₀ ≤ w.heap.size)
    (hv : Lies n₀ w (V.of 24 0 ⟨#[]⟩ (some ⟨b2, o2, none⟩) c2 0 [d, V.of 21 0 ⟨#[]⟩ a3 c3 0 ol])) (hd : d.n = kk) (hol : ol.length ≤ N) (hr : Bools n₀ w ra rs) (hrl : rs.length ≤ rc ∧ rs.length ≤ 281474976710656) :
    Calls Tryz.prog 7 #[.agg #[.int .i64 24, .int .u64 0, .string ⟨#[]⟩, .slice (some ⟨b2, o2, none⟩) 2 c2, .int .i64 0], .slice ra rs.length rc, .bool tl] w fun e w' => ∃ (g m : Nat) (A : Option Addr) (C : Nat), e = .returned (.agg #[.int .i64 24, .int .u64 0, .string ⟨#[]⟩, .slice (some ⟨g, 0, none⟩) 2 2, .int .i64 0]) ∧ Hid (LongP kk fs0 ol rs tl n₀ w.heap.size g m A C w') ∧ Below w.heap.size w w' := by
  obtain ⟨hk1, hk2⟩ := ftab_pos hft
  obtain ⟨hN20, hfok⟩ := ftab_ok hft
  have hrow := hv.row (by simp)
  obtain ⟨b2', o2', e2, hb2, hrow2⟩ := hrow
  obtain ⟨rfl, rfl⟩ : b2 = b2' ∧ o2 = o2' := by simpa using e2
  have hml : Lies n₀ w (V.of 21 0 ⟨#[]⟩ a3 c3 0 ol) := hv.sub _ (by simp)
  have hr0 := (hrow2 0 (by simp)).2.1
  have hr1 := (hrow2 1 (by simp)).2.2.2.1
  have m1 : w.cell? ⟨b2, o2 + 1, none⟩ = some (.int .u64 kk) := by rw [← hd]; exact hr0
  have m8 : w.cell? ⟨b2, o2 + 5 + 3, none⟩ = some (.slice a3 ol.length c3) := by
    have e : ([d, V.of 21 0 ⟨#[]⟩ a3 c3 0 ol] : List V)[1] = V.of 21 0 ⟨#[]⟩ a3 c3 0 ol := rfl
    rw [e, V.l_of] at hr1
    exact hr1
  obtain ⟨M, hM⟩ : ∃ M, ol.length = M := ⟨_, rfl⟩
  obtain ⟨R, hR⟩ : ∃ R, rs.length = R := ⟨_, rfl⟩
  rw [hM] at m8 hol
  rw [hR] at hrl
  obtain ⟨W0, hW0⟩ : ∃ W0, (w.alloc (Obj.cells #[.int .i64 24, .int .u64 0, .string ⟨#[]⟩, .slice (some ⟨b2, o2, none⟩) 2 c2, .int .i64 0] 30)).alloc (Obj.cells #[.int .i64 0, .int .u64 0, .string ⟨#[]⟩, .slice none 0 0, .int .i64 0] 30) = W0 := ⟨_, rfl⟩
  have hs0 : W0.heap.size = w.heap.size + 2 := by rw [← hW0]; simp
  have hb0 : Below w.heap.size w W0 := by rw [← hW0]; exact bel2 (Below.refl _ _) (Nat.le_refl _) _ _
  have hx0 : W0.heap[w.heap.size]? = some (.cells #[.int .i64 24, .int .u64 0, .string ⟨#[]⟩, .slice (some ⟨b2, o2, none⟩) 2 c2, .int .i64 0] 30 (0, 0)) := by rw [← hW0]; exact heap_past (World.alloc_heap_new _ _) _
  have hx1 : W0.heap[w.heap.size + 1]? = some (.cells #[.int .i64 0, .int .u64 0, .string ⟨#[]⟩, .slice none 0 0, .int .i64 0] 30 (0, 0)) := by rw [← hW0]; exact heap_at1 _ _ _
  have HC : Hid (∀ W', Below W0.heap.size W0 W' → W'.cell? ⟨w.heap.size, 3, none⟩ = some (.slice (some ⟨b2, o2, none⟩) 2 c2) ∧ W'.cell? ⟨b2, o2 + 1, none⟩ = some (.int .u64 kk) ∧ W'.cell? ⟨b2, o2 + 5 + 3, none⟩ = some (.slice a3 M c3) ∧ W'.heap[w.heap.size + 1]? = some (.cells #[.int .i64 0, .int .u64 0, .string ⟨#[]⟩, .slice none 0 0, .int .i64 0] 30 (0, 0)) ∧ Below w.heap.size w W') := fun W' h => by
    have hbw : Below w.heap.size w W' := belOn hb0 (by omega) h
    have hxx := (h.block w.heap.size (by omega)).trans hx0
    refine ⟨by unfold World.cell?; simp only [hxx]; rfl, (hbw.cell (p := ⟨b2, o2 + 1, none⟩) (by show b2 < _; omega)).trans m1, (hbw.cell (p := ⟨b2, o2 + 5 + 3, none⟩) (by show b2 < _; omega)).trans m8, (h.block _ (by omega)).trans hx1, hbw⟩
  have HOL : Hid (∀ W', Below w.heap.size w W' → ∀ i (h : i < ol.length), ∃ b o, a3 = some ⟨b, o, none⟩ ∧ b < n₀ ∧ (W'.cell? ⟨b, o + i * 5, none⟩ = some (.int .i64 ol[i].k) ∧ W'.cell? ⟨b, o + i * 5 + 1, none⟩ = some (.int .u64 ol[i].n) ∧ W'.cell? ⟨b, o + i * 5 + 2, none⟩ = some (.string ol[i].s) ∧ W'.cell? ⟨b, o + i * 5 + 3, none⟩ = some (.slice ol[i].a ol[i].l.length ol[i].c) ∧ W'.cell? ⟨b, o + i * 5 + 4, none⟩ = some (.int .i64 ol[i].e)) ∧ Lies n₀ W' ol[i]) := fun W' h i hi => by
    obtain ⟨b, o, e, h1, h2⟩ := hml.row (by omega)
    exact ⟨b, o, e, h1, h2.below h (by omega) i hi, (hml.sub _ (List.getElem_mem hi)).keep h hn⟩
  have HRS : Hid (∀ W', Below w.heap.size w W' → Bools n₀ W' ra rs) := fun W' h => hr.keep h hn
  have HNM := hide (name_any kk)
  have HF := hide (fun W => fields_some hft hN W)
  have HFOK := hide hfok
  have hwr : IntKind.i64.wrap kk = kk := by
    unfold IntKind.wrap
    simp [IntKind.signed, IntKind.bits]
    omega
  have HW0 := hide hW0
  have HM := hide hM
  have HR := hide hR
  have HN := hide hN
  obtain ⟨k3, k1, k8, kz, _⟩ := HC.out W0 (Below.refl _ _)
  have hz0 : w.heap.size < W0.heap.size := by omega
  have hz2 : b2 < W0.heap.size := by omega
  have hN' : N ≤ 20 := by omega
  obtain ⟨i0, hi0, hzz⟩ := Option.map_eq_some_iff.1 Tryz.infoV
  simp only [Prod.mk.injEq] at hzz
  obtain ⟨hz0', hz1', hz2'⟩ := hzz
  have HI : Hid (i0.zero = _ ∧ i0.size = _ ∧ i0.bytes = _) := ⟨hz0', hz1', hz2'⟩
  have HI0 := hide hi0
  rw [hR]
  have hb2w : b2 < w.heap.size := by omega
  clear hv hd hr hrow2 hml hr0 hr1 m8 e2 hW0 hx0 hx1 hfok hft hM hR hN hN20 hz0' hz1' hz2' hi0 kz
  go_enter Tryz.func7, Tryz.ntmps7
  go_wp2_with fail
  rw [HW0.out]
  refine (HNM.out _).mono ?_
  rintro e1 w1 ⟨rfl, hb1⟩
  have hs1 := hb1.size
  go_wp2_with fail
  refine (HF.out _).mono ?_
  rintro e2 w2 ⟨af, fs, rfl, HFS, hb2'⟩
  have hb02 : Below W0.heap.size W0 w2 := belOn hb1 hs1 hb2'
  have hs2 := hb02.size
  have HFR : Hid (∀ W', Below w2.heap.size w2 W' → ∀ i, i < N → ∃ (bf : Nat) (hi : i < fs0.length), af = some ⟨bf, 0, none⟩ ∧ bf < w2.heap.size ∧ (W'.cell? ⟨bf, i * 9 + 4, none⟩ = some (.int .i64 fs0[i].d.k) ∧ W'.cell? ⟨bf, i * 9 + 4 + 1, none⟩ = some (.int .u64 fs0[i].d.n) ∧ W'.cell? ⟨bf, i * 9 + 4 + 2, none⟩ = some (.string fs0[i].d.s) ∧ W'.cell? ⟨bf, i * 9 + 4 + 3, none⟩ = some (.slice fs0[i].d.a fs0[i].d.l.length fs0[i].d.c) ∧ W'.cell? ⟨bf, i * 9 + 4 + 4, none⟩ = some (.int .i64 fs0[i].d.e)) ∧ Lies n₀ W' fs0[i].d) := fun W' h i hi => by
    have hif0 : i < fs0.length := by rw [HN.out]; exact hi
    have hif : i < fs.length := by rw [HFS.out.1]; exact hif0
    obtain ⟨bf, e, _, h2, h3⟩ := HFS.out.2.1 (by omega)
    have h4 := (h3.below h h2).cells i hif
    have hdd : fs[i].d = fs0[i].d := (HFS.out.2.2 i hif hif0).2.2.2.1
    rw [hdd] at h4
    obtain ⟨_, _, _, _, c4, c5, c6, c7, c8⟩ := h4
    exact ⟨bf, hif0, e, h2, ⟨c4, c5, c6, c7, c8⟩, okFS_lies (HFOK.out _ (List.getElem_mem hif0)) _ _⟩
  have HB02 := hide hb02
  clear HFS hb1 hb2' hb02 k3 k1 k8 hwr m1
  go_wp2
  go_loopw [11, 12] (fun lv i wr => ∃ (j : Nat) (A : Option Addr) (C : Nat), i = .int .i64 j ∧ lv = .slice A j C ∧ j ≤ N ∧ Below w2.heap.size w2 wr ∧ Hid (LongTo fs0 ol rs n₀ w2.heap.size j (.slice A j C) wr)) (fun _ i _ => N - (intOf i).toNat)
  case atStart => exact ⟨0, none, 0, rfl, rfl, Nat.zero_le _, Below.refl _ _, [], by simp [V.ts], World.ownsRow_nil _ _ _ _, by simp⟩
  case round =>
    obtain ⟨j, A, C, rfl, rfl, hj, hb, HT⟩ := hrel
    have hsz := hb.size
    have HBR : Hid (Below W0.heap.size W0 wr) := belOn HB02.out hs2 hb
    obtain ⟨k3, _, k8, kz, hbw⟩ := HC.out wr HBR.out
    have hy0 : w.heap.size < wr.heap.size := by omega
    have hy2 : b2 < wr.heap.size := by omega
    by_cases hjN : j < N
    · obtain ⟨bf, hjf, rfl, hbf, ⟨d0, d1, d2, d3, d4⟩, hdl⟩ := HFR.out wr hb j hjN
      have hbf' : bf < wr.heap.size := by omega
      obtain ⟨L, t1, t2, t3⟩ := HT.out
      have HOWN : Hid (∀ o p, ((wr.alloc o).alloc p).ownsRow w2.heap.size 30 5 (.slice A j C) j (flat L)) := fun o p => (t2.alloc _).alloc _
      have HEND : Hid (∀ (Y : V) (o p : Obj) (v' : Value) (w3 : World), Y.t = (if (rs[j]?).getD false = true ∧ ((ol[j]?).getD nul).k = 0 then fs0[j].d else ((ol[j]?).getD nul).t) → Lies n₀ wr Y → w3.ownsRow w2.heap.size 30 5 v' (j + 1) (flat L ++ words Y) → ((wr.alloc o).alloc p).grownBy w3 (Value.slice A j C).ownBlock → Below w2.heap.size w2 w3 ∧ LongTo fs0 ol rs n₀ w2.heap.size (j + 1) v' w3) := fun Y o p v' w3 hY hl hA hg => by
        have h1 : Below w2.heap.size wr w3 := (bel2 (Below.refl _ _) hsz o p).grown hg (by simp; omega) (fun k hk => (ownsRow_lt t2 hk).1)
        have hnw : n₀ ≤ w2.heap.size := by omega
        exact ⟨hb.trans h1, LongTo.next t1 t3 hjf hY (hl.keep h1 hnw) (h1.mono hnw) hA⟩
      have HDL := hide hdl
      clear t1 t2 t3 HT hdl
      by_cases hjM : j < M
      · have hjo : j < ol.length := by have := HM.out; omega
        obtain ⟨b3, o3, rfl, hb3, ⟨x0, x1, x2, x3, x4⟩, hxl⟩ := HOL.out wr hbw j hjo
        have hb3' : b3 < wr.heap.size := by omega
        have HG : Hid ((ol[j]?).getD nul = ol[j]) := by rw [Hid, List.getElem?_eq_getElem hjo]; rfl
        have HXL := hide hxl
        clear hxl
        by_cases hjR : j < R
        · have hjr : j < rs.length := by have := HR.out; omega
          obtain ⟨br, or, rfl, hbr, hrr⟩ := HRS.out wr hbw (by omega)
          have hbr' : br < wr.heap.size := by omega
          have hrc := hrr j hjr
          have HGR : Hid ((rs[j]?).getD false = rs[j]) := by rw [Hid, List.getElem?_eq_getElem hjr]; rfl
          clear hrr
          generalize ol[j] = X at x0 x1 x2 x3 x4 HXL HG
          generalize rs[j] = rb at hrc HGR
          cases rb
          · go_wp2_with (at_builtin; refine wpList_append_own_at _ rfl (.tmp 75) (.tmp 77) 22 rfl w2.heap.size 30 i0 _ 5 64 Tryz.underlying22 HI0.out HI.out.1 HI.out.2.1 HI.out.2.2 rfl (by decide) _ j (flat L) rfl (HOWN.out _ _) ⟨wr.heap.size + 1, 0, none⟩ 1 1 (words X) rfl rfl (newsF wr _ _ _ _ _ _ _) (V.words_one X) (by simp [maxLen]; omega) (by omega) (by simp; omega) ?_; intro v' w3 hown' hgrow _ hat; obtain ⟨g', cap', rfl⟩ := ownsRow_succ hown')
            obtain ⟨hb3r, hl3⟩ := HEND.out (X) _ _ _ w3 (by rw [HGR.out, if_neg (by simp), HG.out]) (HXL.out) (hown') hgrow
            have HL3 := hide hl3
            clear hl3
            go_roundw
            case rel => exact ⟨j + 1, some ⟨g', 0, none⟩, cap', by go_num, rfl, hjN, hb3r, HL3⟩
            case measure => simp [intOf]; omega
          · by_cases hk : X.k = 0
            · rw [hk] at x0
              have HK := hide hk
              clear hk
              go_wp2_with (at_builtin; refine wpList_append_own_at _ rfl (.tmp 75) (.tmp 77) 22 rfl w2.heap.size 30 i0 _ 5 64 Tryz.underlying22 HI0.out HI.out.1 HI.out.2.1 HI.out.2.2 rfl (by decide) _ j (flat L) rfl (HOWN.out _ _) ⟨wr.heap.size + 1, 0, none⟩ 1 1 (words fs0[j].d) rfl rfl (newsF wr _ _ _ _ _ _ _) (V.words_one _) (by simp [maxLen]; omega) (by omega) (by simp; omega) ?_; intro v' w3 hown' hgrow _ hat; obtain ⟨g', cap', rfl⟩ := ownsRow_succ hown')
              obtain ⟨hb3r, hl3⟩ := HEND.out (fs0[j].d) _ _ _ w3 (by rw [HGR.out, HG.out, if_pos ⟨rfl, HK.out⟩]; exact fsd_t _) (HDL.out) (hown') hgrow
              have HL3 := hide hl3
              clear hl3
              go_roundw
              case rel => exact ⟨j + 1, some ⟨g', 0, none⟩, cap', by go_num, rfl, hjN, hb3r, HL3⟩
              case measure => simp [intOf]; omega
            · have hkb : (X.k == 0) = false := by simpa using hk
              go_wp2_with (at_builtin; refine wpList_append_own_at _ rfl (.tmp 75) (.tmp 77) 22 rfl w2.heap.size 30 i0 _ 5 64 Tryz.underlying22 HI0.out HI.out.1 HI.out.2.1 HI.out.2.2 rfl (by decide) _ j (flat L) rfl (HOWN.out _ _) ⟨wr.heap.size + 1, 0, none⟩ 1 1 (words X) rfl rfl (newsF wr _ _ _ _ _ _ _) (V.words_one X) (by simp [maxLen]; omega) (by omega) (by simp; omega) ?_; intro v' w3 hown' hgrow _ hat; obtain ⟨g', cap', rfl⟩ := ownsRow_succ hown')
              obtain ⟨hb3r, hl3⟩ := HEND.out (X) _ _ _ w3 (by rw [HGR.out, HG.out, if_neg (by simp [hk])]) (HXL.out) (hown') hgrow
              have HL3 := hide hl3
              clear hl3
              go_roundw
              case rel => exact ⟨j + 1, some ⟨g', 0, none⟩, cap', by go_num, rfl, hjN, hb3r, HL3⟩
              case measure => simp [intOf]; omega
        · generalize ol[j] = X at x0 x1 x2 x3 x4 HXL HG
          have HGR : Hid ((rs[j]?).getD false = false) := by rw [Hid, List.getElem?_eq_none (by have := HR.out; omega)]; rfl
          go_wp2_with (at_builtin; refine wpList_append_own_at _ rfl (.tmp 75) (.tmp 77) 22 rfl w2.heap.size 30 i0 _ 5 64 Tryz.underlying22 HI0.out HI.out.1 HI.out.2.1 HI.out.2.2 rfl (by decide) _ j (flat L) rfl (HOWN.out _ _) ⟨wr.heap.size + 1, 0, none⟩ 1 1 (words X) rfl rfl (newsF wr _ _ _ _ _ _ _) (V.words_one X) (by simp [maxLen]; omega) (by omega) (by simp; omega) ?_; intro v' w3 hown' hgrow _ hat; obtain ⟨g', cap', rfl⟩ := ownsRow_succ hown')
          obtain ⟨hb3r, hl3⟩ := HEND.out (X) _ _ _ w3 (by rw [HGR.out, if_neg (by simp), HG.out]) (HXL.out) (hown') hgrow
          have HL3 := hide hl3
          clear hl3
          go_roundw
          case rel => exact ⟨j + 1, some ⟨g', 0, none⟩, cap', by go_num, rfl, hjN, hb3r, HL3⟩
          case measure => simp [intOf]; omega
      · have HG : Hid ((ol[j]?).getD nul = nul) := by rw [Hid, List.getElem?_eq_none (by have := HM.out; omega)]; rfl
        by_cases hjR : j < R
        · have hjr : j < rs.length := by have := HR.out; omega
          obtain ⟨br, or, rfl, hbr, hrr⟩ := HRS.out wr hbw (by omega)
          have hbr' : br < wr.heap.size := by omega
          have hrc := hrr j hjr
          have HGR : Hid ((rs[j]?).getD false = rs[j]) := by rw [Hid, List.getElem?_eq_getElem hjr]; rfl
          clear hrr
          generalize rs[j] = rb at hrc HGR
          cases rb
          · go_wp2_with (at_builtin; refine wpList_append_own_at _ rfl (.tmp 75) (.tmp 77) 22 rfl w2.heap.size 30 i0 _ 5 64 Tryz.underlying22 HI0.out HI.out.1 HI.out.2.1 HI.out.2.2 rfl (by decide) _ j (flat L) rfl (HOWN.out _ _) ⟨wr.heap.size + 1, 0, none⟩ 1 1 ([.int .i64 0, .int .u64 0, .string ⟨#[]⟩, .slice none 0 0, .int .i64 0]) rfl rfl (newsF wr _ _ _ _ _ _ _) (by rw [← words_nul]; exact V.words_one _) (by simp [maxLen]; omega) (by omega) (by simp; omega) ?_; intro v' w3 hown' hgrow _ hat; obtain ⟨g', cap', rfl⟩ := ownsRow_succ hown')
            obtain ⟨hb3r, hl3⟩ := HEND.out (nul) _ _ _ w3 (by rw [HGR.out, if_neg (by simp), HG.out]) (nul_lies' _ _) (by rw [words_nul]; exact hown') hgrow
            have HL3 := hide hl3
            clear hl3
            go_roundw
            case rel => exact ⟨j + 1, some ⟨g', 0, none⟩, cap', by go_num, rfl, hjN, hb3r, HL3⟩
            case measure => simp [intOf]; omega
          · go_wp2_with (at_builtin; refine wpList_append_own_at _ rfl (.tmp 75) (.tmp 77) 22 rfl w2.heap.size 30 i0 _ 5 64 Tryz.underlying22 HI0.out HI.out.1 HI.out.2.1 HI.out.2.2 rfl (by decide) _ j (flat L) rfl (HOWN.out _ _) ⟨wr.heap.size + 1, 0, none⟩ 1 1 (words fs0[j].d) rfl rfl (newsF wr _ _ _ _ _ _ _) (V.words_one _) (by simp [maxLen]; omega) (by omega) (by simp; omega) ?_; intro v' w3 hown' hgrow _ hat; obtain ⟨g', cap', rfl⟩ := ownsRow_succ hown')
            obtain ⟨hb3r, hl3⟩ := HEND.out (fs0[j].d) _ _ _ w3 (by rw [HGR.out, HG.out, if_pos ⟨rfl, rfl⟩]; exact fsd_t _) (HDL.out) (hown') hgrow
            have HL3 := hide hl3
            clear hl3
            go_roundw
            case rel => exact ⟨j + 1, some ⟨g', 0, none⟩, cap', by go_num, rfl, hjN, hb3r, HL3⟩
            case measure => simp [intOf]; omega
        · have HGR : Hid ((rs[j]?).getD false = false) := by rw [Hid, List.getElem?_eq_none (by have := HR.out; omega)]; rfl
          go_wp2_with (at_builtin; refine wpList_append_own_at _ rfl (.tmp 75) (.tmp 77) 22 rfl w2.heap.size 30 i0 _ 5 64 Tryz.underlying22 HI0.out HI.out.1 HI.out.2.1 HI.out.2.2 rfl (by decide) _ j (flat L) rfl (HOWN.out _ _) ⟨wr.heap.size + 1, 0, none⟩ 1 1 ([.int .i64 0, .int .u64 0, .string ⟨#[]⟩, .slice none 0 0, .int .i64 0]) rfl rfl (newsF wr _ _ _ _ _ _ _) (by rw [← words_nul]; exact V.words_one _) (by simp [maxLen]; omega) (by omega) (by simp; omega) ?_; intro v' w3 hown' hgrow _ hat; obtain ⟨g', cap', rfl⟩ := ownsRow_succ hown')
          obtain ⟨hb3r, hl3⟩ := HEND.out (nul) _ _ _ w3 (by rw [HGR.out, if_neg (by simp), HG.out]) (nul_lies' _ _) (by rw [words_nul]; exact hown') hgrow
          have HL3 := hide hl3
          clear hl3
          go_roundw
          case rel => exact ⟨j + 1, some ⟨g', 0, none⟩, cap', by go_num, rfl, hjN, hb3r, HL3⟩
          case measure => simp [intOf]; omega
    · obtain rfl : j = N := by omega
      obtain ⟨L, t1, t2, t3⟩ := HT.out
      have HLN : Hid (L.length = j) := by
        have := congrArg List.length t1
        rw [V.ts_length, List.length_take, longL_len, HN.out] at this
        rw [Hid]
        omega
      have HT1 : Hid (V.ts L = longL fs0 (V.ts ol) rs) := by
        rw [Hid, t1]
        exact List.take_of_length_le (by rw [longL_len, HN.out]; exact Nat.le_refl _)
      have hC : j ≤ C ∧ (0 < j → ∃ g, A = some ⟨g, 0, none⟩ ∧ w2.heap.size ≤ g ∧ g < wr.heap.size ∧ Row wr g 0 L) := by
        rcases t2.2 with ⟨h, h0⟩ | ⟨g, cap, cur, h, hB, hgg, hnc, hm, hcs, _⟩
        · exact ⟨by omega, fun h => by omega⟩
        · simp only [Value.slice.injEq] at h
          obtain ⟨rfl, _, rfl⟩ := h
          exact ⟨hnc, fun _ => ⟨g, rfl, hB, (Array.getElem?_eq_some_iff.1 hgg).1, flat_row t2⟩⟩
      have HKZ := hide kz
      have HENDP : Hid (∀ m, m ≤ j → (∀ i (h : i < L.length), m ≤ i → L[i].k = 0) → (tl = true → m = j) → LongP kk fs0 ol rs tl n₀ w.heap.size wr.heap.size m A C ((wr.setRow (w.heap.size + 1) #[.int .i64 24, .int .u64 0, .string ⟨#[]⟩, .slice (some ⟨wr.heap.size, 0, none⟩) 2 2, .int .i64 0]).alloc (.cells #[.int .i64 20, .int .u64 0, .string (nameOf kk), .slice none 0 0, .int .i64 0, .int .i64 21, .int .u64 0, .string ⟨#[]⟩, .slice A m C, .int .i64 0] 30)) ∧ Below w.heap.size w ((wr.setRow (w.heap.size + 1) #[.int .i64 24, .int .u64 0, .string ⟨#[]⟩, .slice (some ⟨wr.heap.size, 0, none⟩) 2 2, .int .i64 0]).alloc (.cells #[.int .i64 20, .int .u64 0, .string (nameOf kk), .slice none 0 0, .int .i64 0, .int .i64 21, .int .u64 0, .string ⟨#[]⟩, .slice A m C, .int .i64 0] 30))) := fun m hm hz htl => by
        have hsr := setRow_size wr (w.heap.size + 1) #[.int .i64 24, .int .u64 0, .string ⟨#[]⟩, .slice (some ⟨wr.heap.size, 0, none⟩) 2 2, .int .i64 0]
        have hbs : Below w.heap.size w (wr.setRow (w.heap.size + 1) #[.int .i64 24, .int .u64 0, .string ⟨#[]⟩, .slice (some ⟨wr.heap.size, 0, none⟩) 2 2, .int .i64 0]) := setRow_below hbw (by omega) _
        have hkeep : ∀ b, b < wr.heap.size → b ≠ w.heap.size + 1 → ((wr.setRow (w.heap.size + 1) #[.int .i64 24, .int .u64 0, .string ⟨#[]⟩, .slice (some ⟨wr.heap.size, 0, none⟩) 2 2, .int .i64 0]).alloc (.cells #[.int .i64 20, .int .u64 0, .string (nameOf kk), .slice none 0 0, .int .i64 0, .int .i64 21, .int .u64 0, .string ⟨#[]⟩, .slice A m C, .int .i64 0] 30)).heap[b]? = wr.heap[b]? := fun b h1 h2 => (heap_alloc_old _ _ (by rw [hsr]; exact h1)).trans (setRow_ne wr (by omega) _)
        have hnew : ((wr.setRow (w.heap.size + 1) #[.int .i64 24, .int .u64 0, .string ⟨#[]⟩, .slice (some ⟨wr.heap.size, 0, none⟩) 2 2, .int .i64 0]).alloc (.cells #[.int .i64 20, .int .u64 0, .string (nameOf kk), .slice none 0 0, .int .i64 0, .int .i64 21, .int .u64 0, .string ⟨#[]⟩, .slice A m C, .int .i64 0] 30)).heap[wr.heap.size]? = some (.cells #[.int .i64 20, .int .u64 0, .string (nameOf kk), .slice none 0 0, .int .i64 0, .int .i64 21, .int .u64 0, .string ⟨#[]⟩, .slice A m C, .int .i64 0] 30 (0, 0)) := by
          have := World.alloc_heap_new (wr.setRow (w.heap.size + 1) #[.int .i64 24, .int .u64 0, .string ⟨#[]⟩, .slice (some ⟨wr.heap.size, 0, none⟩) 2 2, .int .i64 0]) (.cells #[.int .i64 20, .int .u64 0, .string (nameOf kk), .slice none 0 0, .int .i64 0, .int .i64 21, .int .u64 0, .string ⟨#[]⟩, .slice A m C, .int .i64 0] 30)
          rwa [hsr] at this
        have hxs : ((wr.setRow (w.heap.size + 1) #[.int .i64 24, .int .u64 0, .string ⟨#[]⟩, .slice (some ⟨wr.heap.size, 0, none⟩) 2 2, .int .i64 0]).alloc (.cells #[.int .i64 20, .int .u64 0, .string (nameOf kk), .slice none 0 0, .int .i64 0, .int .i64 21, .int .u64 0, .string ⟨#[]⟩, .slice A m C, .int .i64 0] 30)).heap.size = wr.heap.size + 1 := by simp [hsr]
        have hbn : Below w.heap.size wr ((wr.setRow (w.heap.size + 1) #[.int .i64 24, .int .u64 0, .string ⟨#[]⟩, .slice (some ⟨wr.heap.size, 0, none⟩) 2 2, .int .i64 0]).alloc (.cells #[.int .i64 20, .int .u64 0, .string (nameOf kk), .slice none 0 0, .int .i64 0, .int .i64 21, .int .u64 0, .string ⟨#[]⟩, .slice A m C, .int .i64 0] 30)) := bel1 (setRow_below (Below.refl _ _) (by omega) _) (by rw [hsr]; omega) _
        refine ⟨⟨⟨by omega, by rw [hxs]; omega⟩, hnew, Nat.le_trans hm hC.1, L, HT1.out, by rw [HLN.out, HN.out], by rw [HLN.out]; exact hm, hz, fun ht => ?_, fun h0 => ?_, fun x hx => (t3 x hx).keep hbn hn⟩, bel1 hbs (by rw [hsr]; omega) _⟩
        · obtain rfl := htl ht
          refine ⟨HLN.out.symm, ownsRow_baseF (ownsRow_keep t2 (fun g hg => hkeep g (ownsRow_lt t2 hg).2 (by have := (ownsRow_lt t2 hg).1; omega))) (by omega), fun hg => ?_⟩
          have := (ownsRow_lt t2 hg).2
          omega
        · obtain ⟨gl, e, q1, q2, q3⟩ := hC.2 (by omega)
          exact ⟨gl, e, by omega, by rw [hxs]; omega, by omega, (row_takeF q3 m).same (fun o => World.cell?_of_block (hkeep gl q2 (by omega)))⟩
      have HRW : Hid (∀ m, ((wr.setRow (w.heap.size + 1) #[.int .i64 24, .int .u64 0, .string ⟨#[]⟩, .slice (some ⟨wr.heap.size, 0, none⟩) 2 2, .int .i64 0]).alloc (.cells #[.int .i64 20, .int .u64 0, .string (nameOf kk), .slice none 0 0, .int .i64 0, .int .i64 21, .int .u64 0, .string ⟨#[]⟩, .slice A m C, .int .i64 0] 30)).heap[w.heap.size + 1]? = some (.cells #[.int .i64 24, .int .u64 0, .string ⟨#[]⟩, .slice (some ⟨wr.heap.size, 0, none⟩) 2 2, .int .i64 0] 30 (0, 0))) := fun m => heap_past (setRow_at kz _) _
      have HCC := hide hC
      have hjC := hC.1
      have hlt1 : w.heap.size + 1 < wr.heap.size := by omega
      clear kz
      have HT2 := hide t2
      have HT3 := hide t3
      clear hC t1 t2 t3 HT HOL HRS k3 k8
      go_wp2
      go_loopw [11] (fun lv wx => ∃ m : Nat, lv = .slice A m C ∧ m ≤ j ∧ Hid (wx = wr) ∧ Hid (∀ i (h : i < L.length), m ≤ i → L[i].k = 0) ∧ Hid (tl = true → m = j)) (fun lv _ => lenS lv)
      case atStart => exact ⟨j, rfl, Nat.le_refl _, rfl, fun i h hm => absurd h (by have := HLN.out; omega), fun _ => rfl⟩
      case round =>
        obtain ⟨m, rfl, hm, HWX, HZ, HTL⟩ := hrel
        have hwx := HWX.out
        subst hwx
        cases tl
        rotate_left
        · go_wp2_with (refine wpList_store_row rfl 30 (.tmp 6) (.tmp 106) rfl (w.heap.size + 1) #[.int .i64 24, .int .u64 0, .string ⟨#[]⟩, .slice (some ⟨wr.heap.size, 0, none⟩) 2 2, .int .i64 0] rfl rfl 30 _ (heap_past HKZ.out _) Tryz.sizeV5 rfl (by kernel_rfl) ?_; rw [setRow_under hlt1])
          refine bodyPost_ret (v := .agg #[.int .i64 24, .int .u64 0, .string ⟨#[]⟩, .slice (some ⟨wr.heap.size, 0, none⟩) 2 2, .int .i64 0]) (results_cell_row Tryz.results7 _ _ (w.heap.size + 1) 30 #[.int .i64 24, .int .u64 0, .string ⟨#[]⟩, .slice (some ⟨wr.heap.size, 0, none⟩) 2 2, .int .i64 0] (0, 0) _ rfl (HRW.out _) Tryz.underlying30 rfl Tryz.sizeV5) rfl ?_
          obtain ⟨hp1, hp2⟩ := HENDP.out _ hm HZ.out HTL.out
          exact ⟨_, rfl, ⟨_, _, _, hp1⟩, hp2⟩
        · by_cases hm0 : 0 < m
          · obtain ⟨m', rfl⟩ : ∃ m', m = m' + 1 := ⟨m - 1, by omega⟩
            obtain ⟨g, rfl, hg1, hg2, hgr⟩ := HCC.out.2 (by omega)
            have hmL : m' < L.length := by have := HLN.out; omega
            have hc0 := (hgr m' hmL).1
            rw [Nat.zero_add] at hc0
            have hm20 : m' ≤ 20 := by omega
            by_cases hk : L[m'].k = 0
            · rw [hk] at hc0
              have hcut : ∀ W, (Instr.slice 22 (.slice (some ⟨g, 0, none⟩) (m' + 1) C) none (some (.int .i64 (m' : Int))) none).run Tryz.prog W = .ok (.slice (some ⟨g, 0, none⟩) m' C) W := fun W => cutTo _ _ _ _ _ rfl (by omega) W
              have HK := hide hk
              clear hk hgr
              go_wp2
              go_roundw
              case rel => exact ⟨m', rfl, by omega, by trivial, fun i h hmi => by
                by_cases hi : i = m'
                · subst hi; exact HK.out
                · exact HZ.out i h (by omega), fun h => by cases h⟩
              case measure => simp [lenS]
            · have hkb : (L[m'].k == 0) = false := by simpa using hk
              clear hk hgr
              go_wp2_with (refine wpList_store_row rfl 30 (.tmp 6) (.tmp 106) rfl (w.heap.size + 1) #[.int .i64 24, .int .u64 0, .string ⟨#[]⟩, .slice (some ⟨wr.heap.size, 0, none⟩) 2 2, .int .i64 0] rfl rfl 30 _ (heap_past HKZ.out _) Tryz.sizeV5 rfl (by kernel_rfl) ?_; rw [setRow_under hlt1])
              refine bodyPost_ret (v := .agg #[.int .i64 24, .int .u64 0, .string ⟨#[]⟩, .slice (some ⟨wr.heap.size, 0, none⟩) 2 2, .int .i64 0]) (results_cell_row Tryz.results7 _ _ (w.heap.size + 1) 30 #[.int .i64 24, .int .u64 0, .string ⟨#[]⟩, .slice (some ⟨wr.heap.size, 0, none⟩) 2 2, .int .i64 0] (0, 0) _ rfl (HRW.out _) Tryz.underlying30 rfl Tryz.sizeV5) rfl ?_
              obtain ⟨hp1, hp2⟩ := HENDP.out _ hm HZ.out HTL.out
              exact ⟨_, rfl, ⟨_, _, _, hp1⟩, hp2⟩
          · go_wp2_with (refine wpList_store_row rfl 30 (.tmp 6) (.tmp 106) rfl (w.heap.size + 1) #[.int .i64 24, .int .u64 0, .string ⟨#[]⟩, .slice (some ⟨wr.heap.size, 0, none⟩) 2 2, .int .i64 0] rfl rfl 30 _ (heap_past HKZ.out _) Tryz.sizeV5 rfl (by kernel_rfl) ?_; rw [setRow_under hlt1])
            refine bodyPost_ret (v := .agg #[.int .i64 24, .int .u64 0, .string ⟨#[]⟩, .slice (some ⟨wr.heap.size, 0, none⟩) 2 2, .int .i64 0]) (results_cell_row Tryz.results7 _ _ (w.heap.size + 1) 30 #[.int .i64 24, .int .u64 0, .string ⟨#[]⟩, .slice (some ⟨wr.heap.size, 0, none⟩) 2 2, .int .i64 0] (0, 0) _ rfl (HRW.out _) Tryz.underlying30 rfl Tryz.sizeV5) rfl ?_
            obtain ⟨hp1, hp2⟩ := HENDP.out _ hm HZ.out HTL.out
            exact ⟨_, rfl, ⟨_, _, _, hp1⟩, hp2⟩
end Go.Proofs.YtlpngpininkjnaaGreatDoor
