import Derived.Test.YtgpimajdcfoigabDoorD09
import Derived.Deep.RegionHeldLaw

/- codec.write out of writeData; writeElements. -/
namespace Go.Proofs.YtgpimajdcfoigabDoor
open Go.RowKit
set_option linter.unusedVariables false
set_option linter.unusedSimpArgs false

/-- append where there is room, as one step of a region that draws -/
theorem step_append_in {P : Program} {ops : Array Oper} {o : Oper} {a : Act} {w : World} {K : Act → World → Prop} {Q : Exit → Act → World → Prop} {E : Prop}
    (hg : o.guard = none) (s x : Operand) (t : TypeId) (ho : o.op = Op.call { callee := Callee.builtin Builtin.append, args := #[s, x], argTypes := #[t, t] })
    (base : Nat) (e : TypeId) (i : TypeInfo) (size : Nat) (ht : P.underlying t = some (.slice e)) (hi : P.info? e = some i) (hsize : i.size = size)
    (g k cap : Nat) (xs : List Value) (hs : a.eval s = .slice (some ⟨g, 0, none⟩) k cap) (hown : w.ownsRow base e size (.slice (some ⟨g, 0, none⟩) k cap) k xs)
    (ad : Addr) (m c : Nat) (news : List Value) (hx : a.eval x = .slice (some ad) m c) (hl : news.length = m * size) (hnews : ∀ j u, news[j]? = some u → w.cell? (ad.add j) = some u) (h1 : ∀ u ∈ news, u.oneCell' = true)
    (hroom : k + m ≤ cap)
    (hK : ∀ w', w'.ownsRow base e size (.slice (some ⟨g, 0, none⟩) (k + m) cap) (k + m) (xs ++ news) → w.grownBy w' (some g) → K (a.put o.dst (.slice (some ⟨g, 0, none⟩) (k + m) cap)) w') :
    if Region.wanted o (yielded ops a.tmps) = true then Oper.wp P o a w K Q else E := by
  have hw : Region.wanted o (yielded ops a.tmps) = true := by simp [Region.wanted, hg]
  rw [if_pos hw]
  obtain ⟨w', hr, h2, h3⟩ := run_append_fits (P := P) w base t o.type e i size ht hi hsize g k cap xs hown ad m c news hl hnews h1 hroom
  unfold Oper.wp execOp
  simp only [ho, resolve, invoke, builtin, Sem.run_bind, Sem.run_pure, Result.andThen_ok, List.map_toArray, List.map_cons, List.map_nil, hs, hx, hr]
  exact hK w' h2 h3
/-- a value's box reads as it was laid -/
def BoxC (W : World) (b : Nat) (x : V) : Prop := W.cell? ⟨b, 0, none⟩ = some (.int .i64 x.k) ∧ W.cell? ⟨b, 1, none⟩ = some (.int .u64 x.n) ∧ W.cell? ⟨b, 2, none⟩ = some (.string x.s) ∧ W.cell? ⟨b, 3, none⟩ = some (.slice x.a x.l.length x.c) ∧ W.cell? ⟨b, 4, none⟩ = some (.int .i64 x.e)
theorem boxC_alloc {w W0 W1 : World} {x : V} {g : Nat} (h0 : w.alloc (Obj.cells #[.int .i64 x.k, .int .u64 x.n, .string x.s, .slice x.a x.l.length x.c, .int .i64 x.e] 25) = W0) (hg : g < w.heap.size) (hW : Gro g W0 W1) : BoxC W1 w.heap.size x := by
  have hh : W1.heap[w.heap.size]? = some (.cells #[.int .i64 x.k, .int .u64 x.n, .string x.s, .slice x.a x.l.length x.c, .int .i64 x.e] 25) := (hW.block _ (by rw [← h0]; simp) (by simp; omega)).trans (by rw [← h0]; exact World.alloc_heap_new _ _)
  simp [BoxC, World.cell?, hh]
section
variable (B : Nat → ByteArray → Int) (W : List T → Bool)
/-- what writeData is asked, of a value x -/
def DataOk (x : V) : Prop := ∀ (f c n₀ g cap : Nat) (xs : List Nat) (w : World), Gd B W x.t f → FitsC x.t c → Lies n₀ w x → n₀ ≤ g → 0 < g → SzTab w → Buf w g cap xs → cap ≤ 2000000 → xs.length + (headC c + T.body x.t) ≤ cap →
  Calls Tryd.prog 23 #[.slice (some ⟨g, 0, none⟩) xs.length cap, x.val, .int .u8 (c : Int), .int .i64 ((T.body x.t : Nat) : Int)] w (Wrote w g cap xs (T.data x.t c))
set_option maxRecDepth 100000 in
set_option maxHeartbeats 1000000 in
theorem write_of (x : V) (hx : DataOk B W x) (f n₀ g cap : Nat) (xs : List Nat) (w : World) (hg : Gd B W x.t f) (hl : Lies n₀ w x) (hn : n₀ ≤ g) (h0 : 0 < g) (hT : SzTab w) (hb : Buf w g cap xs) (hc : cap ≤ 2000000) (hroom : xs.length + T.len x.t ≤ cap) :
    Calls Tryd.prog 14 #[.slice (some ⟨g, 0, none⟩) xs.length cap, x.val] w (Wrote w g cap xs (T.enc x.t)) := by
  have hlen : T.len x.t = 1 + (headC (T.code x.t) + T.body x.t) := by unfold T.len; omega
  rw [hlen] at hroom
  clear hlen
  obtain ⟨i0, hi0, hz1⟩ := info8
  have hgl := hb.lt
  have HF : Hid (∀ W1, Below w.heap.size w W1 → Calls Tryd.prog 22 #[.agg #[.int .i64 x.k, .int .u64 x.n, .string x.s, .slice x.a x.l.length x.c, .int .i64 x.e]] W1 fun e' w' => e' = .returned (.tuple #[.int .u8 ((T.code x.t : Nat) : Int), .int .i64 ((T.body x.t : Nat) : Int)]) ∧ Below W1.heap.size W1 w') := fun W1 hW => by
    have := form_of B W x (body_any B W x) f n₀ W1 (by have := hW.size; omega) (hl.keep hW (by omega)) (hT.below hW) hg (by omega)
    rw [V.val_eq] at this
    exact this
  have HD : Hid (∀ ys W1, Gro g w W1 → Buf W1 g cap ys → ys.length = xs.length + 1 → Calls Tryd.prog 23 #[.slice (some ⟨g, 0, none⟩) (xs.length + 1) cap, .agg #[.int .i64 x.k, .int .u64 x.n, .string x.s, .slice x.a x.l.length x.c, .int .i64 x.e], .int .u8 ((T.code x.t : Nat) : Int), .int .i64 ((T.body x.t : Nat) : Int)] W1 (Wrote W1 g cap ys (T.data x.t (T.code x.t)))) := fun ys W1 hW hbu hy => by
    have := hx f (T.code x.t) n₀ g cap ys W1 hg (.inl rfl) (hl.gro hW hn (by omega)) hn h0 (hT.gro hW h0) hbu hc (by omega)
    rw [V.val_eq, hy] at this
    exact this
  have HE : Hid (T.enc x.t = [T.code x.t] ++ T.data x.t (T.code x.t)) := rfl
  generalize T.data x.t (T.code x.t) = dt at HD HE
  generalize headC (T.code x.t) = hd at hroom
  generalize T.enc x.t = en at HE ⊢
  generalize T.code x.t = cd at HF HD HE
  generalize T.body x.t = bd at HF HD hroom
  rw [V.val_eq]
  have HB := hide hb
  clear hb hx hl hT hg
  obtain ⟨W0, hW0⟩ : ∃ W0, w.alloc (Obj.cells #[.int .i64 x.k, .int .u64 x.n, .string x.s, .slice x.a x.l.length x.c, .int .i64 x.e] 25) = W0 := ⟨_, rfl⟩
  have HC : Hid (∀ W1, Gro g W0 W1 → BoxC W1 w.heap.size x) := fun W1 hW => boxC_alloc hW0 hgl hW
  have HG0 : Hid (Gro g w W0) := by show Gro g w W0; rw [← hW0]; exact (Gro.refl g w).alloc _
  have HB0 : Hid (Buf W0 g cap xs) := by show Buf W0 g cap xs; rw [← hW0]; exact HB.out.alloc _
  have HBW : Hid (Below w.heap.size w W0) := by show Below w.heap.size w W0; rw [← hW0]; exact bel1 (Below.refl _ _) (Nat.le_refl _) _
  have HW0 := hide hW0
  clear hW0
  go_enter Tryd.func14, Tryd.ntmps14
  go_wp2_with fail
  rw [HW0.out]
  refine Calls.mono (HF.out _ HBW.out) ?_
  rintro e1 w1 ⟨rfl, hb1⟩
  have HG1 : Hid (Gro g W0 w1) := Gro.of_below hb1
  have HB1 : Hid (Buf w1 g cap xs) := HB0.out.below hb1
  obtain ⟨c0, c1, c2, c3, c4⟩ := HC.out w1 HG1.out
  have hs1 : w.heap.size < w1.heap.size := by
    have := hb1.size
    have : W0.heap.size = w.heap.size + 1 := by rw [← HW0.out]; simp
    omega
  clear hb1
  have HNW : Hid (∀ j u, ([cd].map bV)[j]? = some u → (w1.drew.alloc (.cells #[.int .u8 (cd : Int)] 5)).cell? ((⟨w1.heap.size, 0, none⟩ : Addr).add j) = some u) := one_news w1.drew cd 5
  have HBA : Hid (w1.drew.alloc (.cells #[.int .u8 (cd : Int)] 5) |>.ownsRow g 5 1 (.slice (some ⟨g, 0, none⟩) xs.length cap) xs.length (xs.map bV)) := (World.ownsRow.drew HB1.out).alloc _
  have HGA : Hid (Gro g W0 (w1.drew.alloc (.cells #[.int .u8 (cd : Int)] 5))) := HG1.out.drew.alloc _
  go_wp2_with fail
  go_region_held_law (fun W1 => W1.cell? ⟨w.heap.size, 0, none⟩ = some (.int .i64 x.k) ∧ W1.cell? ⟨w.heap.size, 1, none⟩ = some (.int .u64 x.n) ∧ W1.cell? ⟨w.heap.size, 2, none⟩ = some (.string x.s) ∧ W1.cell? ⟨w.heap.size, 3, none⟩ = some (.slice x.a x.l.length x.c) ∧ W1.cell? ⟨w.heap.size, 4, none⟩ = some (.int .i64 x.e)) (first | exact HC.out _ HG3.out | exact HC.out _ HG2.out | exact HC.out _ HGA.out | exact HC.out _ HG1.out.drew) ((first | (refine step_append_in rfl (.tmp 12) (.tmp 14) 28 rfl g 5 i0 1 Tryd.underlying28 hi0 hz1 g xs.length cap (xs.map bV) (by first | rfl | simp [Act.eval, Act.put]) HBA.out ⟨w1.heap.size, 0, none⟩ 1 1 ([cd].map bV) (by first | rfl | simp [Act.eval, Act.put]) rfl HNW.out (map_news _) (by omega) ?_; intro w2 hown2 hgr2; have HG2 : Hid (Gro g W0 w2) := HGA.out.trans hgr2; have HB2 : Hid (Buf w2 g cap (xs ++ [cd])) := buf_app hown2 rfl; clear hown2 hgr2) | (go_at_call 23; refine Calls.mono (HD.out (xs ++ [cd]) _ (HG0.out.trans HG2.out) HB2.out (by simp)) ?_; rintro e3 w3 ⟨rfl, HH3⟩; have HG3 : Hid (Gro g W0 w3) := HG2.out.trans HH3.out.2)))
  go_wp2
  go_ret
  refine ⟨?_, ?_, HG0.out.trans HG3.out⟩
  · rw [HE.out]; simp
  · rw [HE.out, ← List.append_assoc]; exact HH3.out.1
theorem datas_snoc (l : List V) (c j : Nat) (h : j < l.length) : datas c (V.ts (l.take (j + 1))) = datas c (V.ts (l.take j)) ++ T.data l[j].t c := by
  rw [ts_take_snoc l j h]; unfold datas; simp
theorem encs_snoc (l : List V) (j : Nat) (h : j < l.length) : encs (V.ts (l.take (j + 1))) = encs (V.ts (l.take j)) ++ T.enc l[j].t := by
  rw [ts_take_snoc l j h]; unfold encs; simp
theorem datas_len (l : List V) (c f : Nat) (hg : ∀ x ∈ l, Gd B W x.t f) (hf : ∀ x ∈ l, FitsC x.t c) : (datas c (V.ts l)).length = bods (V.ts l) + l.length * headC c := by
  unfold datas bods
  rw [sum_flat (V.ts l) _ (fun x => headC c + T.body x) (fun x hx => by obtain ⟨y, hy, rfl⟩ := t_mem hx; exact data_len B W y.t f c (hg y hy) (hf y hy)), sum_plus, V.ts_length]
theorem datas_le (l : List V) (c j : Nat) : (datas c (V.ts (l.take j))).length ≤ (datas c (V.ts l)).length := by
  obtain ⟨r, hr⟩ := ts_take_pre l j
  rw [hr]; unfold datas; simp
set_option maxRecDepth 100000 in
set_option maxHeartbeats 2000000 in
theorem writeElements_of (n : Int) (s : ByteArray) (a : Option Addr) (c : Nat) (e : Int) (l : List V) (ih : ∀ x ∈ l, DataOk B W x) (f n₀ g cap : Nat) (xs : List Nat) (w : World) (hg : Gd B W (V.of 23 n s a c e l).t f) (hl : Lies n₀ w (V.of 23 n s a c e l)) (hn : n₀ ≤ g) (h0 : 0 < g) (hT : SzTab w) (hb : Buf w g cap xs) (hc : cap ≤ 2000000) (hroom : xs.length + T.body (V.of 23 n s a c e l).t ≤ cap) :
    Calls Tryd.prog 35 #[.slice (some ⟨g, 0, none⟩) xs.length cap, (V.of 23 n s a c e l).val] w (Wrote w g cap xs (T.acode (V.of 23 n s a c e l).t :: datas (T.acode (V.of 23 n s a c e l).t) (V.ts l))) := by
  obtain ⟨hf, own, sub⟩ := gd_own B W hg
  obtain ⟨i0, hi0, hz1⟩ := info8
  have hgl := hb.lt
  have hbd : T.body (V.of 23 n s a c e l).t ≤ 1000000000 := by omega
  have HA : Hid (∀ W1, Below w.heap.size w W1 → Calls Tryd.prog 52 #[.agg #[.int .i64 23, .int .u64 n, .string s, .slice a l.length c, .int .i64 e]] W1 fun e' w' => e' = .returned (.tuple #[.int .u8 ((T.acode (V.of 23 n s a c e l).t : Nat) : Int), .int .i64 ((bods (V.ts l) + l.length * headC (T.acode (V.of 23 n s a c e l).t) : Nat) : Int)]) ∧ Below W1.heap.size W1 w') := fun W1 hW => by
    have := arrayForm_of B W n s a c e l (fun x _ => body_any B W x) f n₀ W1 (by have := hW.size; omega) (hl.keep hW (by omega)) (hT.below hW) hg hbd
    rw [V.val_of] at this
    exact this
  have hfit : ∀ x ∈ l, FitsC x.t (T.acode (V.of 23 n s a c e l).t) := fun x hx => by
    rw [V.t_of]
    exact fits_acode (own.isArr rfl).2.2.2.2 x.t (mem_ts hx)
  rw [body_arr_t] at hroom hbd
  obtain ⟨ac, hac⟩ : ∃ ac, T.acode (V.of 23 n s a c e l).t = ac := ⟨_, rfl⟩
  rw [hac] at HA hfit hroom hbd ⊢
  have hdl := datas_len B W l ac (f - 1) sub hfit
  rw [← hdl] at hroom hbd HA
  have HRD : Hid (∀ j, (datas ac (V.ts (l.take j))).length ≤ (datas ac (V.ts l)).length) := fun j => datas_le l ac j
  have hhead : ∀ j (h : j < l.length), (datas ac (V.ts (l.take j))).length + (headC ac + T.body l[j].t) ≤ (datas ac (V.ts l)).length := fun j h => by
    have h1 := HRD.out (j + 1)
    rw [datas_snoc l ac j h, List.length_append, data_len B W l[j].t (f - 1) ac (sub _ (List.getElem_mem h)) (hfit _ (List.getElem_mem h))] at h1
    omega
  have HHD := hide hhead
  have ok := hl.ok
  have o2 := ok.l
  have o3 := ok.c
  have HL := hide hl
  have HT := hide hT
  have IH := hide ih
  have SUB := hide sub
  have FIT := hide hfit
  have HB := hide hb
  clear hl hT ih sub hfit own hg hac hdl hhead hb ok
  obtain ⟨tot, htot⟩ : ∃ tot, (datas ac (V.ts l)).length = tot := ⟨_, rfl⟩
  rw [htot] at hroom hbd HA HHD
  have HTOT := hide htot
  clear htot
  rw [V.val_of]
  obtain ⟨W0, hW0⟩ : ∃ W0, w.alloc (Obj.cells #[.int .i64 23, .int .u64 n, .string s, .slice a l.length c, .int .i64 e] 25) = W0 := ⟨_, rfl⟩
  have HC : Hid (∀ W1, Gro g W0 W1 → W1.cell? ⟨w.heap.size, 3, none⟩ = some (.slice a l.length c)) := fun W1 hW => by
    have hh : W1.heap[w.heap.size]? = some (.cells #[.int .i64 23, .int .u64 n, .string s, .slice a l.length c, .int .i64 e] 25) := (hW.block _ (by rw [← hW0]; simp) (by simp; omega)).trans (by rw [← hW0]; exact World.alloc_heap_new _ _)
    show W1.cell? _ = _
    simp [World.cell?, hh]
  have HG0 : Hid (Gro g w W0) := by show Gro g w W0; rw [← hW0]; exact (Gro.refl g w).alloc _
  have HB0 : Hid (Buf W0 g cap xs) := by show Buf W0 g cap xs; rw [← hW0]; exact HB.out.alloc _
  have HBW : Hid (Below w.heap.size w W0) := by show Below w.heap.size w W0; rw [← hW0]; exact bel1 (Below.refl _ _) (Nat.le_refl _) _
  have HW0 := hide hW0
  clear hW0
  go_enter Tryd.func35, Tryd.ntmps35
  go_wp2_with fail
  rw [HW0.out]
  refine Calls.mono (HA.out _ HBW.out) ?_
  rintro e1 w1 ⟨rfl, hb1⟩
  have HG1 : Hid (Gro g W0 w1) := Gro.of_below hb1
  have HB1 : Hid (Buf w1 g cap xs) := HB0.out.below hb1
  have hs1 : w.heap.size < w1.heap.size := by
    have := hb1.size
    have : W0.heap.size = w.heap.size + 1 := by rw [← HW0.out]; simp
    omega
  clear hb1
  have HNW : Hid (∀ j u, ([ac].map bV)[j]? = some u → (w1.alloc (.cells #[.int .u8 (ac : Int)] 5)).cell? ((⟨w1.heap.size, 0, none⟩ : Addr).add j) = some u) := one_news w1 ac 5
  have HBA : Hid ((w1.alloc (.cells #[.int .u8 (ac : Int)] 5)).ownsRow g 5 1 (.slice (some ⟨g, 0, none⟩) xs.length cap) xs.length (xs.map bV)) := World.ownsRow.alloc HB1.out _
  have HGA : Hid (Gro g W0 (w1.alloc (.cells #[.int .u8 (ac : Int)] 5))) := HG1.out.alloc _
  go_wp2_with (at_builtin; go_loud (refine wpList_append_fits _ rfl (.tmp 14) (.tmp 16) 28 rfl g 5 i0 1 Tryd.underlying28 hi0 hz1 g xs.length cap (xs.map bV) rfl HBA.out ⟨w1.heap.size, 0, none⟩ 1 1 ([ac].map bV) rfl rfl HNW.out (map_news _) (by omega) ?_; intro w2 hown2 hgr2; have HG2 : Hid (Gro g W0 w2) := HGA.out.trans hgr2; have HB2 : Hid (Buf w2 g cap (xs ++ [ac])) := buf_app hown2 rfl; have hc3 := HC.out w2 HG2.out; clear hown2 hgr2))
  have hs2 : w.heap.size < w2.heap.size := by have := HG2.out.size; have : W0.heap.size = w.heap.size + 1 := (by rw [← HW0.out]; simp); omega
  go_loopw [0, 21] (fun bv i wr => ∃ (j : Nat) (ys : List Nat), i = .int .i64 j ∧ bv = .slice (some ⟨g, 0, none⟩) ys.length cap ∧ j ≤ l.length ∧ Hid (ys = xs ++ [ac] ++ datas ac (V.ts (l.take j)) ∧ Buf wr g cap ys ∧ Gro g W0 wr)) (fun _ i _ => l.length - (intOf i).toNat)
  case atStart => exact ⟨0, xs ++ [ac], rfl, by simp, Nat.zero_le _, by simp [datas, V.ts], HB2.out, HG2.out⟩
  case round =>
    obtain ⟨j, ys, rfl, rfl, hj, HR⟩ := hrel
    have hc3' := HC.out wr HR.out.2.2
    have hszr := HR.out.2.2.size
    have hszw : w.heap.size < wr.heap.size := by have : W0.heap.size = w.heap.size + 1 := (by rw [← HW0.out]; simp); omega
    by_cases hjl : j < l.length
    · obtain ⟨b, o, rfl, hlt, hr⟩ := (HL.out.gro (HG0.out.trans HR.out.2.2) hn (by omega)).row (by omega)
      obtain ⟨x0, x1, x2, x3, x4⟩ := hr j hjl
      have hmem := List.getElem_mem hjl
      have hhj := HHD.out j hjl
      have hyl : ys.length = xs.length + 1 + (datas ac (V.ts (l.take j))).length := by rw [HR.out.1]; simp; omega
      have hbw : b < wr.heap.size := by omega
      have HBL : Hid (∀ W1, Gro g w W1 → Calls Tryd.prog 30 #[.agg #[.int .i64 l[j].k, .int .u64 l[j].n, .string l[j].s, .slice l[j].a l[j].l.length l[j].c, .int .i64 l[j].e]] W1 fun e w' => e = .returned (.int .i64 ((T.body l[j].t : Nat) : Int)) ∧ Below W1.heap.size W1 w') := fun W1 hW => by
        have := body_any B W l[j] (f - 1) n₀ W1 (by have := hW.size; omega) ((HL.out.sub _ hmem).gro hW hn (by omega)) (HT.out.gro hW h0) (SUB.out _ hmem) (by omega)
        rw [V.val_eq] at this
        exact this
      have HWD : Hid (∀ W1, Gro g w W1 → Buf W1 g cap ys → Calls Tryd.prog 23 #[.slice (some ⟨g, 0, none⟩) ys.length cap, .agg #[.int .i64 l[j].k, .int .u64 l[j].n, .string l[j].s, .slice l[j].a l[j].l.length l[j].c, .int .i64 l[j].e], .int .u8 (ac : Int), .int .i64 ((T.body l[j].t : Nat) : Int)] W1 (Wrote W1 g cap ys (T.data l[j].t ac))) := fun W1 hW hbu => by
        have := IH.out l[j] hmem (f - 1) ac n₀ g cap ys W1 (SUB.out _ hmem) (FIT.out _ hmem) ((HL.out.sub _ hmem).gro hW hn (by omega)) hn h0 (HT.out.gro hW h0) hbu hc (by omega)
        rw [V.val_eq] at this
        exact this
      have HSN := hide (datas_snoc l ac j hjl)
      clear hr hhj hyl
      obtain ⟨W1, hW1⟩ : ∃ W1, wr.alloc (Obj.cells #[.int .i64 l[j].k, .int .u64 l[j].n, .string l[j].s, .slice l[j].a l[j].l.length l[j].c, .int .i64 l[j].e] 25) = W1 := ⟨_, rfl⟩
      have hgr : g < wr.heap.size := by omega
      have HCX : Hid (∀ W2, Gro g W1 W2 → BoxC W2 wr.heap.size l[j]) := fun W2 hW => boxC_alloc hW1 hgr hW
      have HGW1 : Hid (Gro g wr W1) := by show Gro g wr W1; rw [← hW1]; exact (Gro.refl g wr).alloc _
      have HBW1 : Hid (Buf W1 g cap ys) := by show Buf W1 g cap ys; rw [← hW1]; exact HR.out.2.1.alloc _
      have HW1 := hide hW1
      have hsW1 : wr.heap.size < W1.heap.size := by rw [← hW1]; simp
      clear hW1
      have HGD : Hid (Gro g W1 W1.drew) := (Gro.refl g W1).drew
      have HGT : Hid (Gro g w W1) := HG0.out.trans (HR.out.2.2.trans HGW1.out)
      obtain ⟨k0, k1, k2, k3, k4⟩ := HCX.out W1 (Gro.refl _ _)
      go_wp2_with fail
      rw [HW1.out]
      go_region_held (fun W2 => W2.cell? ⟨wr.heap.size, 0, none⟩ = some (.int .i64 l[j].k) ∧ W2.cell? ⟨wr.heap.size, 1, none⟩ = some (.int .u64 l[j].n) ∧ W2.cell? ⟨wr.heap.size, 2, none⟩ = some (.string l[j].s) ∧ W2.cell? ⟨wr.heap.size, 3, none⟩ = some (.slice l[j].a l[j].l.length l[j].c) ∧ W2.cell? ⟨wr.heap.size, 4, none⟩ = some (.int .i64 l[j].e)) (first | exact HCX.out _ HG4.out | exact HCX.out _ HG3.out | exact HCX.out _ HGD.out) ((first | (go_at_call 30; refine Calls.mono (HBL.out _ (HGT.out.trans HGD.out)) ?_; rintro e3 w3 ⟨rfl, hb3⟩; have HG3 : Hid (Gro g W1 w3) := HGD.out.trans (Gro.of_below hb3); have HB3 : Hid (Buf w3 g cap ys) := (HBW1.out.kept rfl : Buf W1.drew g cap ys).below hb3; clear hb3) | (go_at_call 23; refine Calls.mono (HWD.out _ (HGT.out.trans HG3.out) HB3.out) ?_; rintro e4 w4 ⟨rfl, HH4⟩; have HG4 : Hid (Gro g W1 w4) := HG3.out.trans HH4.out.2)))
      go_wp2
      go_roundw
      case rel =>
        refine ⟨j + 1, ys ++ T.data l[j].t ac, by go_num, by simp, hjl, ?_, HH4.out.1, (HR.out.2.2.trans HGW1.out).trans HG4.out⟩
        rw [HSN.out, ← List.append_assoc, ← HR.out.1]
      case measure => simp [intOf]; omega
    · obtain rfl : j = l.length := by omega
      have HTL : Hid (l.take l.length = l) := List.take_length
      go_wp2
      go_ret
      obtain ⟨hy, hbu, hgr⟩ := HR.out
      rw [HTL.out] at hy
      have hy2 : ys = xs ++ ac :: datas ac (V.ts l) := by rw [hy]; simp
      refine ⟨by rw [← hy2]; rfl, by rw [← hy2]; exact hbu, HG0.out.trans hgr⟩
end
end Go.Proofs.YtgpimajdcfoigabDoor
