import Derived.Test.YtgpimajdcfoigabDoorD26

/- codec.writeData: by induction; write. -/
namespace Go.Proofs.YtgpimajdcfoigabDoor
open Go.RowKit
set_option linter.unusedVariables false
set_option linter.unusedSimpArgs false
section
variable (B : Nat → ByteArray → Int) (W : List T → Bool)
theorem encs_len (l : List V) (f : Nat) (hg : ∀ x ∈ l, Gd B W x.t f) : (encs (V.ts l)).length = lens (V.ts l) := by
  unfold encs lens
  exact sum_flat (V.ts l) _ _ (fun x hx => by obtain ⟨y, hy, rfl⟩ := t_mem hx; exact enc_len B W y.t f (hg y hy))
theorem encs_le (l : List V) (j : Nat) : (encs (V.ts (l.take j))).length ≤ (encs (V.ts l)).length := by
  obtain ⟨r, hr⟩ := ts_take_pre l j
  rw [hr]; unfold encs; simp
/-- the parts of a value, one behind the other: what the loop of writeData does -/
def Parts (l : List V) (n₀ g cap : Nat) (xs : List Nat) (w : World) : Prop := ∀ j (h : j < l.length) (ys : List Nat) (W1 : World), Gro g w W1 → Buf W1 g cap ys → ys.length = xs.length + (encs (V.ts (l.take j))).length →
  Calls Tryd.prog 14 #[.slice (some ⟨g, 0, none⟩) ys.length cap, .agg #[.int .i64 l[j].k, .int .u64 l[j].n, .string l[j].s, .slice l[j].a l[j].l.length l[j].c, .int .i64 l[j].e]] W1 (Wrote W1 g cap ys (T.enc l[j].t))
theorem parts_of (l : List V) (ih : ∀ x ∈ l, DataOk B W x) (f n₀ g cap : Nat) (xs : List Nat) (w : World) (hg : ∀ x ∈ l, Gd B W x.t f) (hl : ∀ x ∈ l, Lies n₀ w x) (hn : n₀ ≤ g) (hnw : n₀ ≤ w.heap.size) (h0 : 0 < g) (hT : SzTab w) (hc : cap ≤ 2000000) (hroom : xs.length + (encs (V.ts l)).length ≤ cap) : Parts l n₀ g cap xs w := by
  intro j h ys W1 hW hbu hy
  have hmem := List.getElem_mem h
  have h1 := encs_le l (j + 1)
  rw [encs_snoc l j h, List.length_append, enc_len B W _ f (hg _ hmem)] at h1
  have := write_of B W l[j] (ih _ hmem) f n₀ g cap ys W1 (hg _ hmem) ((hl _ hmem).gro hW hn hnw) hn h0 (hT.gro hW h0) hbu hc (by omega)
  rw [V.val_eq] at this
  exact this
set_option maxRecDepth 100000 in
set_option maxHeartbeats 2000000 in
theorem data_desc (n : Int) (s : ByteArray) (a : Option Addr) (c : Nat) (e : Int) (l : List V) (body g cap n₀ : Nat) (xs : List Nat) (w : World) (hp : Parts l n₀ g cap xs w) (hl : Lies n₀ w (V.of 24 n s a c e l)) (hn : n₀ ≤ g) (hb : Buf w g cap xs) :
    Calls Tryd.prog 23 #[.slice (some ⟨g, 0, none⟩) xs.length cap, (V.of 24 n s a c e l).val, .int .u8 0, .int .i64 (body : Int)] w (Wrote w g cap xs (encs (V.ts l))) := by
  have hgl := hb.lt
  have HP := hide hp
  have HL := hide hl
  have ok := hl.ok
  have o2 := ok.l
  have o3 := ok.c
  have HB := hide hb
  have HLAY : Hid (∀ W1, Calls Tryd.prog 33 #[.int .u8 0] W1 fun e w' => e = .returned (.int .u8 0) ∧ W1 = w') := fun W1 => layout_any 0 (by omega) W1
  clear hp hl hb ok
  rw [V.val_of]
  obtain ⟨W0, hW0⟩ : ∃ W0, w.alloc (Obj.cells #[.int .i64 24, .int .u64 n, .string s, .slice a l.length c, .int .i64 e] 25) = W0 := ⟨_, rfl⟩
  have HC : Hid (∀ W1, Gro g W0 W1 → W1.cell? ⟨w.heap.size, 3, none⟩ = some (.slice a l.length c)) := fun W1 hW => by
    have hh : W1.heap[w.heap.size]? = some (.cells #[.int .i64 24, .int .u64 n, .string s, .slice a l.length c, .int .i64 e] 25) := (hW.block _ (by rw [← hW0]; simp) (by simp; omega)).trans (by rw [← hW0]; exact World.alloc_heap_new _ _)
    show W1.cell? _ = _
    simp [World.cell?, hh]
  have HG0 : Hid (Gro g w W0) := by show Gro g w W0; rw [← hW0]; exact (Gro.refl g w).alloc _
  have HB0 : Hid (Buf W0 g cap xs) := by show Buf W0 g cap xs; rw [← hW0]; exact HB.out.alloc _
  have HSW : Hid (W0.heap.size = w.heap.size + 1) := by show W0.heap.size = _; rw [← hW0]; simp
  have HW0 := hide hW0
  clear hW0
  go_enter Tryd.func23, Tryd.ntmps23
  go_wp2_with fail
  rw [HW0.out]
  refine Calls.mono (HLAY.out _) ?_
  rintro e1 w1 ⟨rfl, rfl⟩
  have hc3 := HC.out W0 (Gro.refl _ _)
  go_wp2_with fail
  go_loopw [0, 57] (fun bv i wr => ∃ (j : Nat) (ys : List Nat), i = .int .i64 j ∧ bv = .slice (some ⟨g, 0, none⟩) ys.length cap ∧ j ≤ l.length ∧ Hid (ys = xs ++ encs (V.ts (l.take j)) ∧ Buf wr g cap ys ∧ Gro g W0 wr)) (fun _ i _ => l.length - (intOf i).toNat)
  case atStart => exact ⟨0, xs, rfl, rfl, Nat.zero_le _, by simp [encs, V.ts], HB0.out, Gro.refl _ _⟩
  case round =>
    obtain ⟨j, ys, rfl, rfl, hj, HR⟩ := hrel
    have hc3' := HC.out wr HR.out.2.2
    have hszr := HR.out.2.2.size
    have hszw : w.heap.size < wr.heap.size := by have := HSW.out; omega
    by_cases hjl : j < l.length
    · obtain ⟨b, o, rfl, hlt, hr⟩ := (HL.out.gro (HG0.out.trans HR.out.2.2) hn (by omega)).row (by omega)
      obtain ⟨x0, x1, x2, x3, x4⟩ := hr j hjl
      have HSN := hide (encs_snoc l j hjl)
      have HX : Hid (∀ W1, Gro g wr W1 → Buf W1 g cap ys → Calls Tryd.prog 14 #[.slice (some ⟨g, 0, none⟩) ys.length cap, .agg #[.int .i64 l[j].k, .int .u64 l[j].n, .string l[j].s, .slice l[j].a l[j].l.length l[j].c, .int .i64 l[j].e]] W1 (Wrote W1 g cap ys (T.enc l[j].t))) := fun W1 hW hbu =>
        HP.out j hjl ys W1 ((HG0.out.trans HR.out.2.2).trans hW) hbu (by rw [HR.out.1]; simp)
      clear hr
      have hgr : g < wr.heap.size := by omega
      have hbw : b < wr.heap.size := by omega
      go_wp2_with fail
      refine Calls.mono (HX.out _ ((Gro.refl g wr).alloc _) (HR.out.2.1.alloc _)) ?_
      rintro e4 w4 ⟨rfl, HH4⟩
      go_wp2
      go_roundw
      case rel =>
        refine ⟨j + 1, ys ++ T.enc l[j].t, by go_num, by simp, hjl, ?_, HH4.out.1, (HR.out.2.2.trans ((Gro.refl g wr).alloc _)).trans HH4.out.2⟩
        rw [HSN.out, ← List.append_assoc, ← HR.out.1]
      case measure => simp [intOf]; omega
    · obtain rfl : j = l.length := by omega
      have HTL : Hid (l.take l.length = l) := List.take_length
      go_wp2
      go_ret
      obtain ⟨hy, hbu, hgr⟩ := HR.out
      rw [HTL.out] at hy
      refine ⟨by rw [← hy]; rfl, by rw [← hy]; exact hbu, HG0.out.trans hgr⟩
set_option maxRecDepth 100000 in
set_option maxHeartbeats 2000000 in
theorem data_span12 (k n : Int) (s : ByteArray) (a : Option Addr) (c : Nat) (e : Int) (l : List V) (cd body g cap n₀ : Nat) (xs : List Nat) (w : World) (hcd : cd < 256) (hlay : cd / 16 = 12) (hbody : body ≤ 1000000000) (hcap : cap ≤ 2000000) (hroom : xs.length + 2 ≤ cap) (hp : Parts l n₀ g cap (xs ++ (digs (1 + body) 1 ++ digs l.length 1)) w) (hl : Lies n₀ w (V.of k n s a c e l)) (hn : n₀ ≤ g) (hb : Buf w g cap xs) :
    Calls Tryd.prog 23 #[.slice (some ⟨g, 0, none⟩) xs.length cap, (V.of k n s a c e l).val, .int .u8 (cd : Int), .int .i64 (body : Int)] w (Wrote w g cap xs (digs (1 + body) 1 ++ (digs l.length 1 ++ encs (V.ts l)))) := by
  have hgl := hb.lt
  have HP := hide hp
  have HL := hide hl
  have ok := hl.ok
  have o2 := ok.l
  have o3 := ok.c
  have HB := hide hb
  have HLAY : Hid (∀ W1, Calls Tryd.prog 33 #[.int .u8 (cd : Int)] W1 fun e w' => e = .returned (.int .u8 12) ∧ W1 = w') := fun W1 => by
    have := layout_any cd hcd W1
    rw [hlay] at this
    exact this
  have HSP : Hid (∀ W1, Buf W1 g cap xs → Calls Tryd.prog 36 #[.slice (some ⟨g, 0, none⟩) xs.length cap, .agg #[.int .i64 k, .int .u64 n, .string s, .slice a l.length c, .int .i64 e], .int .i64 1, .int .i64 (body : Int)] W1 (Wrote W1 g cap xs (digs (1 + body) 1 ++ digs l.length 1))) := fun W1 hW => by
    have := writeSpan_any (V.of k n s a c e l) 1 body g cap xs W1 (by omega) (by omega) (by rw [V.l_of]; omega) hW (by omega) (by omega)
    rw [V.val_of, V.l_of] at this
    exact this
  clear hp hl hb ok hlay hroom hcap
  obtain ⟨sp, hsp⟩ : ∃ sp, digs (1 + body) 1 ++ digs l.length 1 = sp := ⟨_, rfl⟩
  rw [← List.append_assoc (digs _ _), hsp]
  rw [hsp] at HP HSP
  clear hsp
  rw [V.val_of]
  obtain ⟨W0, hW0⟩ : ∃ W0, w.alloc (Obj.cells #[.int .i64 k, .int .u64 n, .string s, .slice a l.length c, .int .i64 e] 25) = W0 := ⟨_, rfl⟩
  have HC : Hid (∀ W1, Gro g W0 W1 → W1.cell? ⟨w.heap.size, 0, none⟩ = some (.int .i64 k) ∧ W1.cell? ⟨w.heap.size, 1, none⟩ = some (.int .u64 n) ∧ W1.cell? ⟨w.heap.size, 2, none⟩ = some (.string s) ∧ W1.cell? ⟨w.heap.size, 3, none⟩ = some (.slice a l.length c) ∧ W1.cell? ⟨w.heap.size, 4, none⟩ = some (.int .i64 e)) := fun W1 hW => by
    have hh : W1.heap[w.heap.size]? = some (.cells #[.int .i64 k, .int .u64 n, .string s, .slice a l.length c, .int .i64 e] 25) := (hW.block _ (by rw [← hW0]; simp) (by simp; omega)).trans (by rw [← hW0]; exact World.alloc_heap_new _ _)
    simp [World.cell?, hh]
  have HG0 : Hid (Gro g w W0) := by show Gro g w W0; rw [← hW0]; exact (Gro.refl g w).alloc _
  have HB0 : Hid (Buf W0 g cap xs) := by show Buf W0 g cap xs; rw [← hW0]; exact HB.out.alloc _
  have HSW : Hid (W0.heap.size = w.heap.size + 1) := by show W0.heap.size = _; rw [← hW0]; simp
  have HW0 := hide hW0
  clear hW0
  go_enter Tryd.func23, Tryd.ntmps23
  go_wp2_with fail
  rw [HW0.out]
  refine Calls.mono (HLAY.out _) ?_
  rintro e1 w1 ⟨rfl, rfl⟩
  obtain ⟨q0, q1, q2, q3, q4⟩ := HC.out W0 (Gro.refl _ _)
  have hsw0 : w.heap.size < W0.heap.size := by have := HSW.out; omega
  go_wp2_with fail
  refine Calls.mono (HSP.out _ HB0.out) ?_
  rintro e2 w2 ⟨rfl, HH2⟩
  obtain ⟨_, _, _, hc3, _⟩ := HC.out w2 HH2.out.2
  clear q0 q1 q2 q3 q4
  have hsw2 : w.heap.size < w2.heap.size := by have := HH2.out.2.size; omega
  go_wp2_with fail
  go_loopw [0, 57] (fun bv i wr => ∃ (j : Nat) (ys : List Nat), i = .int .i64 j ∧ bv = .slice (some ⟨g, 0, none⟩) ys.length cap ∧ j ≤ l.length ∧ Hid (ys = (xs ++ sp) ++ encs (V.ts (l.take j)) ∧ Buf wr g cap ys ∧ Gro g W0 wr)) (fun _ i _ => l.length - (intOf i).toNat)
  case atStart => exact ⟨0, xs ++ sp, rfl, by simp, Nat.zero_le _, by simp [encs, V.ts], HH2.out.1, HH2.out.2⟩
  case round =>
    obtain ⟨j, ys, rfl, rfl, hj, HR⟩ := hrel
    obtain ⟨_, _, _, hc3', _⟩ := HC.out wr HR.out.2.2
    have hszr := HR.out.2.2.size
    have hszw : w.heap.size < wr.heap.size := by have := HSW.out; omega
    by_cases hjl : j < l.length
    · obtain ⟨b, o, rfl, hlt, hr⟩ := (HL.out.gro (HG0.out.trans HR.out.2.2) hn (by omega)).row (by omega)
      obtain ⟨x0, x1, x2, x3, x4⟩ := hr j hjl
      have HSN := hide (encs_snoc l j hjl)
      have HX : Hid (∀ W1, Gro g wr W1 → Buf W1 g cap ys → Calls Tryd.prog 14 #[.slice (some ⟨g, 0, none⟩) ys.length cap, .agg #[.int .i64 l[j].k, .int .u64 l[j].n, .string l[j].s, .slice l[j].a l[j].l.length l[j].c, .int .i64 l[j].e]] W1 (Wrote W1 g cap ys (T.enc l[j].t))) := fun W1 hW hbu =>
        HP.out j hjl ys W1 ((HG0.out.trans HR.out.2.2).trans hW) hbu (by rw [HR.out.1, List.length_append])
      clear hr
      have hgr : g < wr.heap.size := by omega
      have hbw : b < wr.heap.size := by omega
      go_wp2_with fail
      refine Calls.mono (HX.out _ ((Gro.refl g wr).alloc _) (HR.out.2.1.alloc _)) ?_
      rintro e4 w4 ⟨rfl, HH4⟩
      go_wp2
      go_roundw
      case rel =>
        refine ⟨j + 1, ys ++ T.enc l[j].t, by go_num, by simp, hjl, ?_, HH4.out.1, (HR.out.2.2.trans ((Gro.refl g wr).alloc _)).trans HH4.out.2⟩
        rw [HSN.out, ← List.append_assoc, ← HR.out.1]
      case measure => simp [intOf]; omega
    · obtain rfl : j = l.length := by omega
      have HTL : Hid (l.take l.length = l) := List.take_length
      go_wp2
      go_ret
      obtain ⟨hy, hbu, hgr⟩ := HR.out
      rw [HTL.out, List.append_assoc] at hy
      refine ⟨by rw [← hy]; rfl, by rw [← hy]; exact hbu, HG0.out.trans hgr⟩
set_option maxRecDepth 100000 in
set_option maxHeartbeats 2000000 in
theorem data_span13 (k n : Int) (s : ByteArray) (a : Option Addr) (c : Nat) (e : Int) (l : List V) (cd body g cap n₀ : Nat) (xs : List Nat) (w : World) (hcd : cd < 256) (hlay : cd / 16 = 13) (hbody : body ≤ 1000000000) (hcap : cap ≤ 2000000) (hroom : xs.length + 8 ≤ cap) (hp : Parts l n₀ g cap (xs ++ (digs (4 + body) 4 ++ digs l.length 4)) w) (hl : Lies n₀ w (V.of k n s a c e l)) (hn : n₀ ≤ g) (hb : Buf w g cap xs) :
    Calls Tryd.prog 23 #[.slice (some ⟨g, 0, none⟩) xs.length cap, (V.of k n s a c e l).val, .int .u8 (cd : Int), .int .i64 (body : Int)] w (Wrote w g cap xs (digs (4 + body) 4 ++ (digs l.length 4 ++ encs (V.ts l)))) := by
  have hgl := hb.lt
  have HP := hide hp
  have HL := hide hl
  have ok := hl.ok
  have o2 := ok.l
  have o3 := ok.c
  have HB := hide hb
  have HLAY : Hid (∀ W1, Calls Tryd.prog 33 #[.int .u8 (cd : Int)] W1 fun e w' => e = .returned (.int .u8 13) ∧ W1 = w') := fun W1 => by
    have := layout_any cd hcd W1
    rw [hlay] at this
    exact this
  have HSP : Hid (∀ W1, Buf W1 g cap xs → Calls Tryd.prog 36 #[.slice (some ⟨g, 0, none⟩) xs.length cap, .agg #[.int .i64 k, .int .u64 n, .string s, .slice a l.length c, .int .i64 e], .int .i64 4, .int .i64 (body : Int)] W1 (Wrote W1 g cap xs (digs (4 + body) 4 ++ digs l.length 4))) := fun W1 hW => by
    have := writeSpan_any (V.of k n s a c e l) 4 body g cap xs W1 (by omega) (by omega) (by rw [V.l_of]; omega) hW (by omega) (by omega)
    rw [V.val_of, V.l_of] at this
    exact this
  clear hp hl hb ok hlay hroom hcap
  obtain ⟨sp, hsp⟩ : ∃ sp, digs (4 + body) 4 ++ digs l.length 4 = sp := ⟨_, rfl⟩
  rw [← List.append_assoc (digs _ _), hsp]
  rw [hsp] at HP HSP
  clear hsp
  rw [V.val_of]
  obtain ⟨W0, hW0⟩ : ∃ W0, w.alloc (Obj.cells #[.int .i64 k, .int .u64 n, .string s, .slice a l.length c, .int .i64 e] 25) = W0 := ⟨_, rfl⟩
  have HC : Hid (∀ W1, Gro g W0 W1 → W1.cell? ⟨w.heap.size, 0, none⟩ = some (.int .i64 k) ∧ W1.cell? ⟨w.heap.size, 1, none⟩ = some (.int .u64 n) ∧ W1.cell? ⟨w.heap.size, 2, none⟩ = some (.string s) ∧ W1.cell? ⟨w.heap.size, 3, none⟩ = some (.slice a l.length c) ∧ W1.cell? ⟨w.heap.size, 4, none⟩ = some (.int .i64 e)) := fun W1 hW => by
    have hh : W1.heap[w.heap.size]? = some (.cells #[.int .i64 k, .int .u64 n, .string s, .slice a l.length c, .int .i64 e] 25) := (hW.block _ (by rw [← hW0]; simp) (by simp; omega)).trans (by rw [← hW0]; exact World.alloc_heap_new _ _)
    simp [World.cell?, hh]
  have HG0 : Hid (Gro g w W0) := by show Gro g w W0; rw [← hW0]; exact (Gro.refl g w).alloc _
  have HB0 : Hid (Buf W0 g cap xs) := by show Buf W0 g cap xs; rw [← hW0]; exact HB.out.alloc _
  have HSW : Hid (W0.heap.size = w.heap.size + 1) := by show W0.heap.size = _; rw [← hW0]; simp
  have HW0 := hide hW0
  clear hW0
  go_enter Tryd.func23, Tryd.ntmps23
  go_wp2_with fail
  rw [HW0.out]
  refine Calls.mono (HLAY.out _) ?_
  rintro e1 w1 ⟨rfl, rfl⟩
  obtain ⟨q0, q1, q2, q3, q4⟩ := HC.out W0 (Gro.refl _ _)
  have hsw0 : w.heap.size < W0.heap.size := by have := HSW.out; omega
  go_wp2_with fail
  refine Calls.mono (HSP.out _ HB0.out) ?_
  rintro e2 w2 ⟨rfl, HH2⟩
  obtain ⟨_, _, _, hc3, _⟩ := HC.out w2 HH2.out.2
  clear q0 q1 q2 q3 q4
  have hsw2 : w.heap.size < w2.heap.size := by have := HH2.out.2.size; omega
  go_wp2_with fail
  go_loopw [0, 57] (fun bv i wr => ∃ (j : Nat) (ys : List Nat), i = .int .i64 j ∧ bv = .slice (some ⟨g, 0, none⟩) ys.length cap ∧ j ≤ l.length ∧ Hid (ys = (xs ++ sp) ++ encs (V.ts (l.take j)) ∧ Buf wr g cap ys ∧ Gro g W0 wr)) (fun _ i _ => l.length - (intOf i).toNat)
  case atStart => exact ⟨0, xs ++ sp, rfl, by simp, Nat.zero_le _, by simp [encs, V.ts], HH2.out.1, HH2.out.2⟩
  case round =>
    obtain ⟨j, ys, rfl, rfl, hj, HR⟩ := hrel
    obtain ⟨_, _, _, hc3', _⟩ := HC.out wr HR.out.2.2
    have hszr := HR.out.2.2.size
    have hszw : w.heap.size < wr.heap.size := by have := HSW.out; omega
    by_cases hjl : j < l.length
    · obtain ⟨b, o, rfl, hlt, hr⟩ := (HL.out.gro (HG0.out.trans HR.out.2.2) hn (by omega)).row (by omega)
      obtain ⟨x0, x1, x2, x3, x4⟩ := hr j hjl
      have HSN := hide (encs_snoc l j hjl)
      have HX : Hid (∀ W1, Gro g wr W1 → Buf W1 g cap ys → Calls Tryd.prog 14 #[.slice (some ⟨g, 0, none⟩) ys.length cap, .agg #[.int .i64 l[j].k, .int .u64 l[j].n, .string l[j].s, .slice l[j].a l[j].l.length l[j].c, .int .i64 l[j].e]] W1 (Wrote W1 g cap ys (T.enc l[j].t))) := fun W1 hW hbu =>
        HP.out j hjl ys W1 ((HG0.out.trans HR.out.2.2).trans hW) hbu (by rw [HR.out.1, List.length_append])
      clear hr
      have hgr : g < wr.heap.size := by omega
      have hbw : b < wr.heap.size := by omega
      go_wp2_with fail
      refine Calls.mono (HX.out _ ((Gro.refl g wr).alloc _) (HR.out.2.1.alloc _)) ?_
      rintro e4 w4 ⟨rfl, HH4⟩
      go_wp2
      go_roundw
      case rel =>
        refine ⟨j + 1, ys ++ T.enc l[j].t, by go_num, by simp, hjl, ?_, HH4.out.1, (HR.out.2.2.trans ((Gro.refl g wr).alloc _)).trans HH4.out.2⟩
        rw [HSN.out, ← List.append_assoc, ← HR.out.1]
      case measure => simp [intOf]; omega
    · obtain rfl : j = l.length := by omega
      have HTL : Hid (l.take l.length = l) := List.take_length
      go_wp2
      go_ret
      obtain ⟨hy, hbu, hgr⟩ := HR.out
      rw [HTL.out, List.append_assoc] at hy
      refine ⟨by rw [← hy]; rfl, by rw [← hy]; exact hbu, HG0.out.trans hgr⟩
end
end Go.Proofs.YtgpimajdcfoigabDoor
