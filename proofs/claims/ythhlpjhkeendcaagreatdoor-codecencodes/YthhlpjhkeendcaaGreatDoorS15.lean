/- CBuf, CWrite, CWData, CWText -/
import Derived.Test.YthhlpjhkeendcaaGreatDoorS09
import Derived.Test.YthhlpjhkeendcaaGreatDoorProg
import Derived.WalkLawsBesides
import Derived.Handy
import Derived.Outline
import Derived.Deep.OwnRows
import Derived.Room.AppendFits
import Derived.OwnWalk
import Derived.Laws.OwnMore
import Derived.Deep.RegionHeldLaw
namespace Go.Proofs.YthhlpjhkeendcaaGreatDoor
open Go.RowKit
set_option linter.unusedVariables false
theorem isWidth_yes (x : Int) (w : World) (h1 : 1 ≤ x) (h8 : x ≤ 8) :
    Calls Tryz.prog 83 #[.int .i64 x] w fun e w' => e = .returned (.bool true) ∧ w = w' := by
  go_enter Tryz.func83, Tryz.ntmps83
  go_wp2
  go_ret
  exact ⟨rfl, rfl⟩
theorem isWidth_no (x : Int) (w : World) (h : x < 1 ∨ 8 < x) :
    Calls Tryz.prog 83 #[.int .i64 x] w fun e w' => e = .returned (.bool false) ∧ w = w' := by
  rcases h with h | h
  · go_enter Tryz.func83, Tryz.ntmps83
    go_wp2
    go_ret
    exact ⟨rfl, rfl⟩
  · have h1 : 1 ≤ x := by omega
    have hd : decide (x ≤ 8) = false := by simp; omega
    go_enter Tryz.func83, Tryz.ntmps83
    go_wp2
    go_ret
    exact ⟨rfl, rfl⟩
theorem Tryz.info5 : (Tryz.prog.info? 5).map (fun i => (i.zero, i.size, i.bytes)) = some (some (.int .u8 0), 1, 1) := by kernel_rfl
theorem put_row {wr : World} {B N n j p M : Nat} (hrow : wr.rowIs B 5 n (fun i => .int .u8 (if n ≤ i + j then (dig N (n - 1 - i) : Int) else 0))) (hp : p + j + 1 = n) (hM : M = N / 256 ^ j) :
    (wr.setCell ⟨B, p, none⟩ (.int .u8 ((M : Int) % 256))).rowIs B 5 n (fun i => .int .u8 (if n ≤ i + (j + 1) then (dig N (n - 1 - i) : Int) else 0)) := by
  refine (hrow.set p _).congr fun i hi => ?_
  by_cases he : i = p
  · subst he
    rw [if_pos rfl, if_pos (by omega)]
    congr 1
    unfold dig
    rw [show n - 1 - i = j by omega, ← hM]
    omega
  · rw [if_neg he]
    by_cases h2 : n ≤ i + j
    · rw [if_pos h2, if_pos (by omega)]
    · rw [if_neg h2, if_neg (by omega)]
theorem div_step (N j : Nat) : N / 256 ^ j / 256 = N / 256 ^ (j + 1) := by rw [Nat.div_div_eq_div_mul, Nat.pow_succ]
set_option maxHeartbeats 1000000 in
theorem put_yes (N n : Nat) (w : World) (hN : N < 18446744073709551616) (h1 : 1 ≤ n) (h8 : n ≤ 8) :
    Calls Tryz.prog 55 #[.int .u64 (N : Int), .int .i64 (n : Int)] w fun e w' => e = .returned (.slice (some ⟨w.heap.size, 0, none⟩) n n) ∧
      w'.rowIs w.heap.size 5 n (fun i => .int .u8 ((dig N (n - 1 - i) : Nat) : Int)) ∧ w'.heap.size = w.heap.size + 1 ∧ Below w.heap.size w w' := by
  have hmk := run_make_row' (P := Tryz.prog) 28 5 (.int .u8 0) 1 Tryz.underlying28 Tryz.info5 rfl .i64 .i64 n (by omega) (by omega)
  go_enter Tryz.func55, Tryz.ntmps55
  go_wp2_with (go_at_call 83; refine (isWidth_yes _ _ (by omega) (by omega)).mono ?_; rintro e w' ⟨rfl, rfl⟩)
  go_loopw [0, 6] (fun m i wr => ∃ z : Int, ∃ j M : Nat, i = .int .i64 z ∧ m = .int .u64 (M : Int) ∧ M < 18446744073709551616 ∧ z + j + 1 = n ∧ -1 ≤ z ∧ Hid (M = N / 256 ^ j) ∧
      wr.rowIs w.heap.size 5 n (fun i => .int .u8 (if n ≤ i + j then (dig N (n - 1 - i) : Int) else 0)) ∧ wr.heap.size = w.heap.size + 1 ∧ Below w.heap.size w wr) (fun _ i _ => (intOf i + 1).toNat)
  case atStart =>
    refine ⟨_, 0, N, rfl, rfl, hN, by omega, by omega, by simp [Hid], ?_, by simp, (Below.refl _ _).alloc (Nat.le_refl _) _⟩
    exact (World.rowIs_made _ _ _ _).congr (fun i hi => by rw [if_neg (by omega)])
  case round =>
    obtain ⟨z, j, M, rfl, rfl, hM, hz, hz1, HM, hrow, hsz, hb⟩ := hrel
    by_cases hz0 : 0 ≤ z
    · obtain ⟨p, rfl⟩ := Int.eq_ofNat_of_zero_le hz0
      have hc := hrow.cell (show p < n by omega)
      have hf := hrow.frozen p
      generalize (if n ≤ p + j then (dig N (n - 1 - p) : Int) else 0) = old at hc
      have HR : Hid (wr.rowIs w.heap.size 5 n (fun i => .int .u8 (if n ≤ i + j then (dig N (n - 1 - i) : Int) else 0))) := hrow
      clear hrow
      go_wp2
      go_roundw
      case rel =>
        refine ⟨_, j + 1, M / 256, rfl, by go_num, by omega, by omega, by omega, ?_, put_row HR.out (by omega) HM.out, by simpa using hsz, hb.setCell (Nat.le_refl _) _⟩
        show M / 256 = N / 256 ^ (j + 1)
        rw [HM.out, div_step]
      case measure => simp [intOf]
    · have HR : Hid (wr.rowIs w.heap.size 5 n (fun i => .int .u8 (if n ≤ i + j then (dig N (n - 1 - i) : Int) else 0))) := hrow
      clear hrow
      go_wp2
      go_ret
      exact ⟨rfl, HR.out.congr (fun i hi => by rw [if_pos (by omega)]), hsz, hb⟩
set_option linter.unusedSimpArgs false
def bV (c : Nat) : Value := .int .u8 (c : Int)
theorem str_cells (s : ByteArray) : Lib.strCells s = (txt s).map bV := by
  unfold Lib.strCells txt bV
  rw [List.map_map]
  rfl
def Buf (w : World) (g cap : Nat) (xs : List Nat) : Prop := w.ownsRow g 5 1 (.slice (some ⟨g, 0, none⟩) xs.length cap) xs.length (xs.map bV)
theorem Buf.lt {w : World} {g cap : Nat} {xs : List Nat} (h : Buf w g cap xs) : g < w.heap.size := (World.ownsRow.lt h g rfl).2
theorem Buf.kept {w w' : World} {g cap : Nat} {xs : List Nat} (h : Buf w g cap xs) (hb : w'.heap[g]? = w.heap[g]?) : Buf w' g cap xs := by
  refine ⟨h.1, ?_⟩
  rcases h.2 with ⟨e, _⟩ | ⟨g', cap', cur, hv, hb1, hg, rest⟩
  · cases e
  · cases hv
    exact .inr ⟨g, cap, cur, rfl, hb1, hb.trans hg, rest⟩
theorem Buf.below {w w' : World} {g cap : Nat} {xs : List Nat} (h : Buf w g cap xs) (hb : Below w.heap.size w w') : Buf w' g cap xs := h.kept (hb.block g h.lt)
theorem info8 : ∃ i, Tryz.prog.info? 5 = some i ∧ i.size = 1 := by
  obtain ⟨i, hi, hzz⟩ := Option.map_eq_some_iff.1 Tryz.info5
  simp only [Prod.mk.injEq] at hzz
  exact ⟨i, hi, hzz.2.1⟩
def Gro (g : Nat) (w w' : World) : Prop := w.grownBy w' (some g)
theorem Gro.trans {g : Nat} {a b c : World} (h : Gro g a b) (k : Gro g b c) : Gro g a c :=
  ⟨k.os.trans h.os, k.tape.trans h.tape, k.output.trans h.output, Nat.le_trans h.size k.size, fun q hq hne => (k.block q (Nat.lt_of_lt_of_le hq h.size) hne).trans (h.block q hq hne)⟩
theorem Gro.refl (g : Nat) (w : World) : Gro g w w := World.grownBy.refl _ _
theorem Gro.of_below {g : Nat} {a b : World} (h : Below a.heap.size a b) : Gro g a b := ⟨h.os, h.tape, h.output, h.size, fun q hq _ => h.block q hq⟩
theorem Gro.drew {g : Nat} {a b : World} (h : Gro g a b) : Gro g a b.drew := ⟨h.os, h.tape, h.output, h.size, fun q hq hne => h.block q hq hne⟩
theorem Gro.alloc {g : Nat} {a b : World} (h : Gro g a b) (o : Obj) : Gro g a (b.alloc o) := h.trans (World.grownBy_alloc b o _)
theorem Gro.below {g n : Nat} {a b : World} (h : Gro g a b) (hg : n ≤ g) (hn : n ≤ a.heap.size) : Below n a b :=
  ⟨h.os, h.tape, h.output, h.size, fun q hq => h.block q (Nat.lt_of_lt_of_le hq hn) (by simp; omega)⟩
theorem SzTab.gro {g : Nat} {w w' : World} (h : SzTab w) (hg : Gro g w w') (h0 : 0 < g) : SzTab w' := by
  have l0 := h.lt
  have hb := hg.block 0 l0 (by simp; omega)
  exact fun k hk => ⟨(World.cell?_of_block hb).trans (h k hk).1, (World.cell?_of_block hb).trans (h k hk).2⟩
theorem Lies.gro {g n₀ : Nat} {w w' : World} {v : V} (h : Lies n₀ w v) (hg : Gro g w w') (h1 : n₀ ≤ g) (h2 : n₀ ≤ w.heap.size) : Lies n₀ w' v :=
  LiesIn.keep h (fun b hb o => World.cell?_of_block (hg.block b (by omega) (by simp; omega))) (fun _ h => h)
def Wrote (w : World) (g cap : Nat) (xs ys : List Nat) (e : Ending) (w' : World) : Prop := e = .returned (.slice (some ⟨g, 0, none⟩) (xs ++ ys).length cap) ∧ Hid (Buf w' g cap (xs ++ ys) ∧ Gro g w w')
theorem map_news (l : List Nat) : ∀ u ∈ l.map bV, u.oneCell' = true := fun u hu => by obtain ⟨c, _, rfl⟩ := List.mem_map.1 hu; rfl
theorem buf_app {w' : World} {g cap m : Nat} {xs ys : List Nat} (h : w'.ownsRow g 5 1 (.slice (some ⟨g, 0, none⟩) (xs.length + m) cap) (xs.length + m) (xs.map bV ++ ys.map bV)) (hm : ys.length = m) : Buf w' g cap (xs ++ ys) := by
  unfold Buf
  rw [List.map_append, List.length_append, hm]
  exact h
theorem digs_news {w : World} {b N k : Nat} (h : w.rowIs b 5 k (fun i => .int .u8 ((dig N (k - 1 - i) : Nat) : Int))) : ∀ j u, ((digs N k).map bV)[j]? = some u → w.cell? ((⟨b, 0, none⟩ : Addr).add j) = some u := by
  intro j u hu
  rw [List.getElem?_map] at hu
  obtain ⟨c, hc, rfl⟩ := Option.map_eq_some_iff.1 hu
  have hj : j < k := by
    have := (List.getElem?_eq_some_iff.1 hc).1
    rwa [digs_length] at this
  have e1 : (⟨b, 0, none⟩ : Addr).add j = ⟨b, j, none⟩ := by by_cases h : j = 0 <;> simp [Addr.add, h]
  rw [e1, h.cell hj]
  have := digs_getD N k j hj
  rw [List.getD_eq_getElem?_getD, hc] at this
  simp only [Option.getD_some] at this
  rw [this]
  rfl
theorem one_news (w : World) (c : Nat) (t : TypeId) : ∀ j u, ([c].map bV)[j]? = some u → (w.alloc (.cells #[.int .u8 (c : Int)] t)).cell? ((⟨w.heap.size, 0, none⟩ : Addr).add j) = some u := by
  intro j u hu
  cases j with
  | zero =>
    simp only [List.map_cons, List.getElem?_cons_zero, Option.some.injEq] at hu
    subst hu
    simp [Addr.add, World.cell?_alloc_at, bV]
  | succ j => simp at hu
set_option maxHeartbeats 1000000 in
theorem writeSpan_any (x : V) (wd body g cap : Nat) (xs : List Nat) (w : World) (hwd : wd = 1 ∨ wd = 4) (hbody : body ≤ 1000000000000) (hl : x.l.length ≤ 2199023255552) (hb : Buf w g cap xs) (hroom : xs.length + (wd + wd) ≤ cap) (hc : cap ≤ 1000000000000) :
    Calls Tryz.prog 57 #[.slice (some ⟨g, 0, none⟩) xs.length cap, x.val, .int .i64 (wd : Int), .int .i64 (body : Int)] w (Wrote w g cap xs (digs (wd + body) wd ++ digs x.l.length wd)) := by
  obtain ⟨i0, hi0, hz1⟩ := info8
  have hg := hb.lt
  rw [V.val_eq]
  have HB := hide hb
  clear hb
  obtain ⟨W0, hW0⟩ : ∃ W0, w.alloc (Obj.cells #[.int .i64 x.k, .int .u64 x.n, .string x.s, .slice x.a x.l.length x.c, .int .i64 x.e] 25) = W0 := ⟨_, rfl⟩
  have hs0 : W0.heap.size = w.heap.size + 1 := by rw [← hW0]; simp
  have HC : Hid (∀ W1, Gro g W0 W1 → W1.cell? ⟨w.heap.size, 3, none⟩ = some (.slice x.a x.l.length x.c)) := fun W1 hW => by
    have hh : W1.heap[w.heap.size]? = some (.cells #[.int .i64 x.k, .int .u64 x.n, .string x.s, .slice x.a x.l.length x.c, .int .i64 x.e] 25) := (hW.block _ (by omega) (by simp; omega)).trans (by rw [← hW0]; exact World.alloc_heap_new _ _)
    show W1.cell? _ = _
    simp [World.cell?, hh]
  have HG0 : Hid (Gro g w W0) := by show Gro g w W0; rw [← hW0]; exact (Gro.refl g w).alloc _
  have HB0 : Hid (Buf W0 g cap xs) := by show Buf W0 g cap xs; rw [← hW0]; exact HB.out.alloc _
  have HW0 := hide hW0
  have HS0 := hide hs0
  clear hW0 hs0
  have HP1 : Hid (∀ W1, Calls Tryz.prog 55 #[.int .u64 (((wd + body : Nat) : Int)), .int .i64 (wd : Int)] W1 fun e w' => e = .returned (.slice (some ⟨W1.heap.size, 0, none⟩) wd wd) ∧ w'.rowIs W1.heap.size 5 wd (fun i => .int .u8 ((dig (wd + body) (wd - 1 - i) : Nat) : Int)) ∧ w'.heap.size = W1.heap.size + 1 ∧ Below W1.heap.size W1 w') := fun W1 => put_yes (wd + body) wd W1 (by omega) (by omega) (by omega)
  have HP2 : Hid (∀ W1, Calls Tryz.prog 55 #[.int .u64 ((x.l.length : Nat) : Int), .int .i64 (wd : Int)] W1 fun e w' => e = .returned (.slice (some ⟨W1.heap.size, 0, none⟩) wd wd) ∧ w'.rowIs W1.heap.size 5 wd (fun i => .int .u8 ((dig x.l.length (wd - 1 - i) : Nat) : Int)) ∧ w'.heap.size = W1.heap.size + 1 ∧ Below W1.heap.size W1 w') := fun W1 => put_yes x.l.length wd W1 (by omega) (by omega) (by omega)
  have hwd' : 1 ≤ wd ∧ wd ≤ 4 := by omega
  clear hwd
  go_enter Tryz.func57, Tryz.ntmps57
  go_wp2_with fail
  rw [HW0.out]
  refine Calls.mono (HP1.out _) ?_
  rintro e1 w1 ⟨rfl, HR1, hz, hb1⟩
  have HN1 := hide (digs_news HR1)
  have HG1 : Hid (Gro g W0 w1) := Gro.of_below hb1
  have HB1 : Hid (Buf w1 g cap xs) := HB0.out.below hb1
  clear HR1 hz hb1
  go_wp2_with (at_builtin; go_loud (refine wpList_append_fits _ rfl (.tmp 9) (.tmp 15) 28 rfl g 5 i0 1 Tryz.underlying28 hi0 hz1 g xs.length cap (xs.map bV) rfl HB1.out ⟨W0.heap.size, 0, none⟩ wd wd ((digs (wd + body) wd).map bV) rfl (by simp [digs_length]) HN1.out (map_news _) (by omega) ?_; intro w2 hown2 hgr2; have HG2 : Hid (Gro g W0 w2) := HG1.out.trans hgr2; have HB2 : Hid (Buf w2 g cap (xs ++ digs (wd + body) wd)) := buf_app hown2 (digs_length _ _); have hc3 := HC.out w2 HG2.out; clear hown2 hgr2))
  refine Calls.mono (HP2.out _) ?_
  rintro e3 w3 ⟨rfl, HR3, hz, hb3⟩
  have HN3 := hide (digs_news HR3)
  have HG3 : Hid (Gro g W0 w3) := HG2.out.trans (Gro.of_below hb3)
  have HB3 : Hid (Buf w3 g cap (xs ++ digs (wd + body) wd)) := HB2.out.below hb3
  have hlx : (xs ++ digs (wd + body) wd).length = xs.length + wd := by rw [List.length_append, digs_length]
  have HLX := hide hlx
  have HB3' : Hid (w3.ownsRow g 5 1 (.slice (some ⟨g, 0, none⟩) (xs.length + wd) cap) (xs.length + wd) ((xs ++ digs (wd + body) wd).map bV)) := by
    have := HB3.out
    unfold Buf at this
    rw [hlx] at this
    exact this
  clear HR3 hz hb3 hlx
  go_wp2_with (at_builtin; go_loud (refine wpList_append_fits _ rfl (.tmp 17) (.tmp 23) 28 rfl g 5 i0 1 Tryz.underlying28 hi0 hz1 g (xs.length + wd) cap ((xs ++ digs (wd + body) wd).map bV) rfl HB3'.out ⟨w2.heap.size, 0, none⟩ wd wd ((digs x.l.length wd).map bV) rfl (by simp [digs_length]) HN3.out (map_news _) (by omega) ?_; intro w4 hown4 hgr4; have HG4 : Hid (Gro g W0 w4) := HG3.out.trans hgr4; have HB4 : Hid (Buf w4 g cap ((xs ++ digs (wd + body) wd) ++ digs x.l.length wd)) := buf_app (by rw [HLX.out]; exact hown4) (digs_length _ _); clear hown4 hgr4))
  go_ret
  refine ⟨?_, ?_, HG0.out.trans HG4.out⟩
  · simp [digs_length]; omega
  · rw [← List.append_assoc]; exact HB4.out
theorem step_append_in {P : Program} {ops : Array Oper} {o : Oper} {a : Act} {w : World} {K : Act → World → Prop} {Q : Exit → Act → World → Prop} {E : Prop}
    (hg : o.guard = none) (s x : Operand) (t : TypeId) (ho : o.op = Op.call { callee := Callee.builtin Builtin.append, args := #[s, x], argTypes := #[t, t] })
    (base : Nat) (e : TypeId) (i : TypeInfo) (size : Nat) (ht : P.underlying t = some (.slice e)) (hi : P.info? e = some i) (hsize : i.size = size)
    (g k cap : Nat) (xs : List Value) (hs : a.eval s = .slice (some ⟨g, 0, none⟩) k cap) (hown : w.ownsRow base e size (.slice (some ⟨g, 0, none⟩) k cap) k xs)
    (ad : Addr) (m c : Nat) (news : List Value) (hx : a.eval x = .slice (some ad) m c) (hl : news.length = m * size) (hnews : ∀ j u, news[j]? = some u → w.cell? (ad.add j) = some u) (h1 : ∀ u ∈ news, u.oneCell' = true)
    (hroom : k + m ≤ cap)
    (hK : ∀ w', w'.ownsRow base e size (.slice (some ⟨g, 0, none⟩) (k + m) cap) (k + m) (xs ++ news) → w.grownBy w' (some g) → K (a.put o.dst (.slice (some ⟨g, 0, none⟩) (k + m) cap)) w') :
    if Region.wanted o (yielded ops a.tmps) = true then Oper.wp P o a w K Q else E := by
  have hw : Region.wanted o (yielded ops a.tmps) = true := by simp [Region.wanted, hg]
  rw [if_pos hw]
  obtain ⟨w', hr, h2, h3⟩ := run_append_fits (P := P) w base t o.type e i size ht hi hsize g k cap xs hown ad m c news hl hnews h1 hroom
  unfold Oper.wp execOp
  simp only [ho, resolve, invoke, builtin, Sem.run_bind, Sem.run_pure, Result.andThen_ok, List.map_toArray, List.map_cons, List.map_nil, hs, hx, hr]
  exact hK w' h2 h3
def BoxC (W : World) (b : Nat) (x : V) : Prop := W.cell? ⟨b, 0, none⟩ = some (.int .i64 x.k) ∧ W.cell? ⟨b, 1, none⟩ = some (.int .u64 x.n) ∧ W.cell? ⟨b, 2, none⟩ = some (.string x.s) ∧ W.cell? ⟨b, 3, none⟩ = some (.slice x.a x.l.length x.c) ∧ W.cell? ⟨b, 4, none⟩ = some (.int .i64 x.e)
theorem boxC_alloc {w W0 W1 : World} {x : V} {g : Nat} (h0 : w.alloc (Obj.cells #[.int .i64 x.k, .int .u64 x.n, .string x.s, .slice x.a x.l.length x.c, .int .i64 x.e] 25) = W0) (hg : g < w.heap.size) (hW : Gro g W0 W1) : BoxC W1 w.heap.size x := by
  have hh : W1.heap[w.heap.size]? = some (.cells #[.int .i64 x.k, .int .u64 x.n, .string x.s, .slice x.a x.l.length x.c, .int .i64 x.e] 25) := (hW.block _ (by rw [← h0]; simp) (by simp; omega)).trans (by rw [← h0]; exact World.alloc_heap_new _ _)
  simp [BoxC, World.cell?, hh]
section
variable (B : Nat → ByteArray → Int) (W : List T → Bool)
def DataOk (x : V) : Prop := ∀ (f c n₀ g cap : Nat) (xs : List Nat) (w : World), Gd B W x.t f → FitsC x.t c → Lies n₀ w x → n₀ ≤ g → 0 < g → SzTab w → Buf w g cap xs → cap ≤ 2000000 → xs.length + (headC c + T.body x.t) ≤ cap →
  Calls Tryz.prog 36 #[.slice (some ⟨g, 0, none⟩) xs.length cap, x.val, .int .u8 (c : Int), .int .i64 ((T.body x.t : Nat) : Int)] w (Wrote w g cap xs (T.data x.t c))
set_option maxRecDepth 100000 in
set_option maxHeartbeats 1000000 in
theorem write_of (x : V) (hx : DataOk B W x) (f n₀ g cap : Nat) (xs : List Nat) (w : World) (hg : Gd B W x.t f) (hl : Lies n₀ w x) (hn : n₀ ≤ g) (h0 : 0 < g) (hT : SzTab w) (hb : Buf w g cap xs) (hc : cap ≤ 2000000) (hroom : xs.length + T.len x.t ≤ cap) :
    Calls Tryz.prog 22 #[.slice (some ⟨g, 0, none⟩) xs.length cap, x.val] w (Wrote w g cap xs (T.enc x.t)) := by
  have hlen : T.len x.t = 1 + (headC (T.code x.t) + T.body x.t) := by unfold T.len; omega
  rw [hlen] at hroom
  clear hlen
  obtain ⟨i0, hi0, hz1⟩ := info8
  have hgl := hb.lt
  have HF : Hid (∀ W1, Below w.heap.size w W1 → Calls Tryz.prog 35 #[.agg #[.int .i64 x.k, .int .u64 x.n, .string x.s, .slice x.a x.l.length x.c, .int .i64 x.e]] W1 fun e' w' => e' = .returned (.tuple #[.int .u8 ((T.code x.t : Nat) : Int), .int .i64 ((T.body x.t : Nat) : Int)]) ∧ Below W1.heap.size W1 w') := fun W1 hW => by
    have := form_of B W x (body_any B W x) f n₀ W1 (by have := hW.size; omega) (hl.keep hW (by omega)) (hT.below hW) hg (by omega)
    rw [V.val_eq] at this
    exact this
  have HD : Hid (∀ ys W1, Gro g w W1 → Buf W1 g cap ys → ys.length = xs.length + 1 → Calls Tryz.prog 36 #[.slice (some ⟨g, 0, none⟩) (xs.length + 1) cap, .agg #[.int .i64 x.k, .int .u64 x.n, .string x.s, .slice x.a x.l.length x.c, .int .i64 x.e], .int .u8 ((T.code x.t : Nat) : Int), .int .i64 ((T.body x.t : Nat) : Int)] W1 (Wrote W1 g cap ys (T.data x.t (T.code x.t)))) := fun ys W1 hW hbu hy => by
    have := hx f (T.code x.t) n₀ g cap ys W1 hg (.inl rfl) (hl.gro hW hn (by omega)) hn h0 (hT.gro hW h0) hbu hc (by omega)
    rw [V.val_eq, hy] at this
    exact this
  have HE : Hid (T.enc x.t = [T.code x.t] ++ T.data x.t (T.code x.t)) := rfl
  generalize T.data x.t (T.code x.t) = dt at HD HE
  generalize headC (T.code x.t) = hd at hroom
  generalize T.enc x.t = en at HE ⊢
  generalize T.code x.t = cd at HF HD HE
  generalize T.body x.t = bd at HF HD hroom
  rw [V.val_eq]
  have HB := hide hb
  clear hb hx hl hT hg
  obtain ⟨W0, hW0⟩ : ∃ W0, w.alloc (Obj.cells #[.int .i64 x.k, .int .u64 x.n, .string x.s, .slice x.a x.l.length x.c, .int .i64 x.e] 25) = W0 := ⟨_, rfl⟩
  have HC : Hid (∀ W1, Gro g W0 W1 → BoxC W1 w.heap.size x) := fun W1 hW => boxC_alloc hW0 hgl hW
  have HG0 : Hid (Gro g w W0) := by show Gro g w W0; rw [← hW0]; exact (Gro.refl g w).alloc _
  have HB0 : Hid (Buf W0 g cap xs) := by show Buf W0 g cap xs; rw [← hW0]; exact HB.out.alloc _
  have HBW : Hid (Below w.heap.size w W0) := by show Below w.heap.size w W0; rw [← hW0]; exact bel1 (Below.refl _ _) (Nat.le_refl _) _
  have HW0 := hide hW0
  clear hW0
  go_enter Tryz.func22, Tryz.ntmps22
  go_wp2_with fail
  rw [HW0.out]
  refine Calls.mono (HF.out _ HBW.out) ?_
  rintro e1 w1 ⟨rfl, hb1⟩
  have HG1 : Hid (Gro g W0 w1) := Gro.of_below hb1
  have HB1 : Hid (Buf w1 g cap xs) := HB0.out.below hb1
  obtain ⟨c0, c1, c2, c3, c4⟩ := HC.out w1 HG1.out
  have hs1 : w.heap.size < w1.heap.size := by
    have := hb1.size
    have : W0.heap.size = w.heap.size + 1 := by rw [← HW0.out]; simp
    omega
  clear hb1
  have HNW : Hid (∀ j u, ([cd].map bV)[j]? = some u → (w1.drew.alloc (.cells #[.int .u8 (cd : Int)] 5)).cell? ((⟨w1.heap.size, 0, none⟩ : Addr).add j) = some u) := one_news w1.drew cd 5
  have HBA : Hid (w1.drew.alloc (.cells #[.int .u8 (cd : Int)] 5) |>.ownsRow g 5 1 (.slice (some ⟨g, 0, none⟩) xs.length cap) xs.length (xs.map bV)) := (World.ownsRow.drew HB1.out).alloc _
  have HGA : Hid (Gro g W0 (w1.drew.alloc (.cells #[.int .u8 (cd : Int)] 5))) := HG1.out.drew.alloc _
  go_wp2_with fail
  go_region_held_law (fun W1 => W1.cell? ⟨w.heap.size, 0, none⟩ = some (.int .i64 x.k) ∧ W1.cell? ⟨w.heap.size, 1, none⟩ = some (.int .u64 x.n) ∧ W1.cell? ⟨w.heap.size, 2, none⟩ = some (.string x.s) ∧ W1.cell? ⟨w.heap.size, 3, none⟩ = some (.slice x.a x.l.length x.c) ∧ W1.cell? ⟨w.heap.size, 4, none⟩ = some (.int .i64 x.e)) (first | exact HC.out _ HG3.out | exact HC.out _ HG2.out | exact HC.out _ HGA.out | exact HC.out _ HG1.out.drew) ((first | (refine step_append_in rfl (.tmp 12) (.tmp 14) 28 rfl g 5 i0 1 Tryz.underlying28 hi0 hz1 g xs.length cap (xs.map bV) (by first | rfl | simp [Act.eval, Act.put]) HBA.out ⟨w1.heap.size, 0, none⟩ 1 1 ([cd].map bV) (by first | rfl | simp [Act.eval, Act.put]) rfl HNW.out (map_news _) (by omega) ?_; intro w2 hown2 hgr2; have HG2 : Hid (Gro g W0 w2) := HGA.out.trans hgr2; have HB2 : Hid (Buf w2 g cap (xs ++ [cd])) := buf_app hown2 rfl; clear hown2 hgr2) | (go_at_call 36; refine Calls.mono (HD.out (xs ++ [cd]) _ (HG0.out.trans HG2.out) HB2.out (by simp)) ?_; rintro e3 w3 ⟨rfl, HH3⟩; have HG3 : Hid (Gro g W0 w3) := HG2.out.trans HH3.out.2)))
  go_wp2
  go_ret
  refine ⟨?_, ?_, HG0.out.trans HG3.out⟩
  · rw [HE.out]; simp
  · rw [HE.out, ← List.append_assoc]; exact HH3.out.1
theorem datas_snoc (l : List V) (c j : Nat) (h : j < l.length) : datas c (V.ts (l.take (j + 1))) = datas c (V.ts (l.take j)) ++ T.data l[j].t c := by
  rw [ts_take_snoc l j h]; unfold datas; simp
theorem encs_snoc (l : List V) (j : Nat) (h : j < l.length) : encs (V.ts (l.take (j + 1))) = encs (V.ts (l.take j)) ++ T.enc l[j].t := by
  rw [ts_take_snoc l j h]; unfold encs; simp
theorem datas_len (l : List V) (c f : Nat) (hg : ∀ x ∈ l, Gd B W x.t f) (hf : ∀ x ∈ l, FitsC x.t c) : (datas c (V.ts l)).length = bods (V.ts l) + l.length * headC c := by
  unfold datas bods
  rw [sum_flat (V.ts l) _ (fun x => headC c + T.body x) (fun x hx => by obtain ⟨y, hy, rfl⟩ := t_mem hx; exact data_len B W y.t f c (hg y hy) (hf y hy)), sum_plus, V.ts_length]
theorem datas_le (l : List V) (c j : Nat) : (datas c (V.ts (l.take j))).length ≤ (datas c (V.ts l)).length := by
  obtain ⟨r, hr⟩ := ts_take_pre l j
  rw [hr]; unfold datas; simp
set_option maxRecDepth 100000 in
set_option maxHeartbeats 2000000 in
theorem writeElements_of (n : Int) (s : ByteArray) (a : Option Addr) (c : Nat) (e : Int) (l : List V) (ih : ∀ x ∈ l, DataOk B W x) (f n₀ g cap : Nat) (xs : List Nat) (w : World) (hg : Gd B W (V.of 23 n s a c e l).t f) (hl : Lies n₀ w (V.of 23 n s a c e l)) (hn : n₀ ≤ g) (h0 : 0 < g) (hT : SzTab w) (hb : Buf w g cap xs) (hc : cap ≤ 2000000) (hroom : xs.length + T.body (V.of 23 n s a c e l).t ≤ cap) :
    Calls Tryz.prog 56 #[.slice (some ⟨g, 0, none⟩) xs.length cap, (V.of 23 n s a c e l).val] w (Wrote w g cap xs (T.acode (V.of 23 n s a c e l).t :: datas (T.acode (V.of 23 n s a c e l).t) (V.ts l))) := by
  obtain ⟨hf, own, sub⟩ := gd_own B W hg
  obtain ⟨i0, hi0, hz1⟩ := info8
  have hgl := hb.lt
  have hbd : T.body (V.of 23 n s a c e l).t ≤ 1000000000 := by omega
  have HA : Hid (∀ W1, Below w.heap.size w W1 → Calls Tryz.prog 82 #[.agg #[.int .i64 23, .int .u64 n, .string s, .slice a l.length c, .int .i64 e]] W1 fun e' w' => e' = .returned (.tuple #[.int .u8 ((T.acode (V.of 23 n s a c e l).t : Nat) : Int), .int .i64 ((bods (V.ts l) + l.length * headC (T.acode (V.of 23 n s a c e l).t) : Nat) : Int)]) ∧ Below W1.heap.size W1 w') := fun W1 hW => by
    have := arrayForm_of B W n s a c e l (fun x _ => body_any B W x) f n₀ W1 (by have := hW.size; omega) (hl.keep hW (by omega)) (hT.below hW) hg hbd
    rw [V.val_of] at this
    exact this
  have hfit : ∀ x ∈ l, FitsC x.t (T.acode (V.of 23 n s a c e l).t) := fun x hx => by
    rw [V.t_of]
    exact fits_acode (own.isArr rfl).2.2.2.2 x.t (mem_ts hx)
  rw [body_arr_t] at hroom hbd
  obtain ⟨ac, hac⟩ : ∃ ac, T.acode (V.of 23 n s a c e l).t = ac := ⟨_, rfl⟩
  rw [hac] at HA hfit hroom hbd ⊢
  have hdl := datas_len B W l ac (f - 1) sub hfit
  rw [← hdl] at hroom hbd HA
  have HRD : Hid (∀ j, (datas ac (V.ts (l.take j))).length ≤ (datas ac (V.ts l)).length) := fun j => datas_le l ac j
  have hhead : ∀ j (h : j < l.length), (datas ac (V.ts (l.take j))).length + (headC ac + T.body l[j].t) ≤ (datas ac (V.ts l)).length := fun j h => by
    have h1 := HRD.out (j + 1)
    rw [datas_snoc l ac j h, List.length_append, data_len B W l[j].t (f - 1) ac (sub _ (List.getElem_mem h)) (hfit _ (List.getElem_mem h))] at h1
    omega
  have HHD := hide hhead
  have ok := hl.ok
  have o2 := ok.l
  have o3 := ok.c
  have HL := hide hl
  have HT := hide hT
  have IH := hide ih
  have SUB := hide sub
  have FIT := hide hfit
  have HB := hide hb
  clear hl hT ih sub hfit own hg hac hdl hhead hb ok
  obtain ⟨tot, htot⟩ : ∃ tot, (datas ac (V.ts l)).length = tot := ⟨_, rfl⟩
  rw [htot] at hroom hbd HA HHD
  have HTOT := hide htot
  clear htot
  rw [V.val_of]
  obtain ⟨W0, hW0⟩ : ∃ W0, w.alloc (Obj.cells #[.int .i64 23, .int .u64 n, .string s, .slice a l.length c, .int .i64 e] 25) = W0 := ⟨_, rfl⟩
  have HC : Hid (∀ W1, Gro g W0 W1 → W1.cell? ⟨w.heap.size, 3, none⟩ = some (.slice a l.length c)) := fun W1 hW => by
    have hh : W1.heap[w.heap.size]? = some (.cells #[.int .i64 23, .int .u64 n, .string s, .slice a l.length c, .int .i64 e] 25) := (hW.block _ (by rw [← hW0]; simp) (by simp; omega)).trans (by rw [← hW0]; exact World.alloc_heap_new _ _)
    show W1.cell? _ = _
    simp [World.cell?, hh]
  have HG0 : Hid (Gro g w W0) := by show Gro g w W0; rw [← hW0]; exact (Gro.refl g w).alloc _
  have HB0 : Hid (Buf W0 g cap xs) := by show Buf W0 g cap xs; rw [← hW0]; exact HB.out.alloc _
  have HBW : Hid (Below w.heap.size w W0) := by show Below w.heap.size w W0; rw [← hW0]; exact bel1 (Below.refl _ _) (Nat.le_refl _) _
  have HW0 := hide hW0
  clear hW0
  go_enter Tryz.func56, Tryz.ntmps56
  go_wp2_with fail
  rw [HW0.out]
  refine Calls.mono (HA.out _ HBW.out) ?_
  rintro e1 w1 ⟨rfl, hb1⟩
  have HG1 : Hid (Gro g W0 w1) := Gro.of_below hb1
  have HB1 : Hid (Buf w1 g cap xs) := HB0.out.below hb1
  have hs1 : w.heap.size < w1.heap.size := by
    have := hb1.size
    have : W0.heap.size = w.heap.size + 1 := by rw [← HW0.out]; simp
    omega
  clear hb1
  have HNW : Hid (∀ j u, ([ac].map bV)[j]? = some u → (w1.alloc (.cells #[.int .u8 (ac : Int)] 5)).cell? ((⟨w1.heap.size, 0, none⟩ : Addr).add j) = some u) := one_news w1 ac 5
  have HBA : Hid ((w1.alloc (.cells #[.int .u8 (ac : Int)] 5)).ownsRow g 5 1 (.slice (some ⟨g, 0, none⟩) xs.length cap) xs.length (xs.map bV)) := World.ownsRow.alloc HB1.out _
  have HGA : Hid (Gro g W0 (w1.alloc (.cells #[.int .u8 (ac : Int)] 5))) := HG1.out.alloc _
  go_wp2_with (at_builtin; go_loud (refine wpList_append_fits _ rfl (.tmp 14) (.tmp 16) 28 rfl g 5 i0 1 Tryz.underlying28 hi0 hz1 g xs.length cap (xs.map bV) rfl HBA.out ⟨w1.heap.size, 0, none⟩ 1 1 ([ac].map bV) rfl rfl HNW.out (map_news _) (by omega) ?_; intro w2 hown2 hgr2; have HG2 : Hid (Gro g W0 w2) := HGA.out.trans hgr2; have HB2 : Hid (Buf w2 g cap (xs ++ [ac])) := buf_app hown2 rfl; have hc3 := HC.out w2 HG2.out; clear hown2 hgr2))
  have hs2 : w.heap.size < w2.heap.size := by have := HG2.out.size; have : W0.heap.size = w.heap.size + 1 := (by rw [← HW0.out]; simp); omega
  go_loopw [0, 21] (fun bv i wr => ∃ (j : Nat) (ys : List Nat), i = .int .i64 j ∧ bv = .slice (some ⟨g, 0, none⟩) ys.length cap ∧ j ≤ l.length ∧ Hid (ys = xs ++ [ac] ++ datas ac (V.ts (l.take j)) ∧ Buf wr g cap ys ∧ Gro g W0 wr)) (fun _ i _ => l.length - (intOf i).toNat)
  case atStart => exact ⟨0, xs ++ [ac], rfl, by simp, Nat.zero_le _, by simp [datas, V.ts], HB2.out, HG2.out⟩
  case round =>
    obtain ⟨j, ys, rfl, rfl, hj, HR⟩ := hrel
    have hc3' := HC.out wr HR.out.2.2
    have hszr := HR.out.2.2.size
    have hszw : w.heap.size < wr.heap.size := by have : W0.heap.size = w.heap.size + 1 := (by rw [← HW0.out]; simp); omega
    by_cases hjl : j < l.length
    · obtain ⟨b, o, rfl, hlt, hr⟩ := (HL.out.gro (HG0.out.trans HR.out.2.2) hn (by omega)).row (by omega)
      obtain ⟨x0, x1, x2, x3, x4⟩ := hr j hjl
      have hmem := List.getElem_mem hjl
      have hhj := HHD.out j hjl
      have hyl : ys.length = xs.length + 1 + (datas ac (V.ts (l.take j))).length := by rw [HR.out.1]; simp; omega
      have hbw : b < wr.heap.size := by omega
      have HBL : Hid (∀ W1, Gro g w W1 → Calls Tryz.prog 51 #[.agg #[.int .i64 l[j].k, .int .u64 l[j].n, .string l[j].s, .slice l[j].a l[j].l.length l[j].c, .int .i64 l[j].e]] W1 fun e w' => e = .returned (.int .i64 ((T.body l[j].t : Nat) : Int)) ∧ Below W1.heap.size W1 w') := fun W1 hW => by
        have := body_any B W l[j] (f - 1) n₀ W1 (by have := hW.size; omega) ((HL.out.sub _ hmem).gro hW hn (by omega)) (HT.out.gro hW h0) (SUB.out _ hmem) (by omega)
        rw [V.val_eq] at this
        exact this
      have HWD : Hid (∀ W1, Gro g w W1 → Buf W1 g cap ys → Calls Tryz.prog 36 #[.slice (some ⟨g, 0, none⟩) ys.length cap, .agg #[.int .i64 l[j].k, .int .u64 l[j].n, .string l[j].s, .slice l[j].a l[j].l.length l[j].c, .int .i64 l[j].e], .int .u8 (ac : Int), .int .i64 ((T.body l[j].t : Nat) : Int)] W1 (Wrote W1 g cap ys (T.data l[j].t ac))) := fun W1 hW hbu => by
        have := IH.out l[j] hmem (f - 1) ac n₀ g cap ys W1 (SUB.out _ hmem) (FIT.out _ hmem) ((HL.out.sub _ hmem).gro hW hn (by omega)) hn h0 (HT.out.gro hW h0) hbu hc (by omega)
        rw [V.val_eq] at this
        exact this
      have HSN := hide (datas_snoc l ac j hjl)
      clear hr hhj hyl
      obtain ⟨W1, hW1⟩ : ∃ W1, wr.alloc (Obj.cells #[.int .i64 l[j].k, .int .u64 l[j].n, .string l[j].s, .slice l[j].a l[j].l.length l[j].c, .int .i64 l[j].e] 25) = W1 := ⟨_, rfl⟩
      have hgr : g < wr.heap.size := by omega
      have HCX : Hid (∀ W2, Gro g W1 W2 → BoxC W2 wr.heap.size l[j]) := fun W2 hW => boxC_alloc hW1 hgr hW
      have HGW1 : Hid (Gro g wr W1) := by show Gro g wr W1; rw [← hW1]; exact (Gro.refl g wr).alloc _
      have HBW1 : Hid (Buf W1 g cap ys) := by show Buf W1 g cap ys; rw [← hW1]; exact HR.out.2.1.alloc _
      have HW1 := hide hW1
      have hsW1 : wr.heap.size < W1.heap.size := by rw [← hW1]; simp
      clear hW1
      have HGD : Hid (Gro g W1 W1.drew) := (Gro.refl g W1).drew
      have HGT : Hid (Gro g w W1) := HG0.out.trans (HR.out.2.2.trans HGW1.out)
      obtain ⟨k0, k1, k2, k3, k4⟩ := HCX.out W1 (Gro.refl _ _)
      go_wp2_with fail
      rw [HW1.out]
      go_region_held (fun W2 => W2.cell? ⟨wr.heap.size, 0, none⟩ = some (.int .i64 l[j].k) ∧ W2.cell? ⟨wr.heap.size, 1, none⟩ = some (.int .u64 l[j].n) ∧ W2.cell? ⟨wr.heap.size, 2, none⟩ = some (.string l[j].s) ∧ W2.cell? ⟨wr.heap.size, 3, none⟩ = some (.slice l[j].a l[j].l.length l[j].c) ∧ W2.cell? ⟨wr.heap.size, 4, none⟩ = some (.int .i64 l[j].e)) (first | exact HCX.out _ HG4.out | exact HCX.out _ HG3.out | exact HCX.out _ HGD.out) ((first | (go_at_call 51; refine Calls.mono (HBL.out _ (HGT.out.trans HGD.out)) ?_; rintro e3 w3 ⟨rfl, hb3⟩; have HG3 : Hid (Gro g W1 w3) := HGD.out.trans (Gro.of_below hb3); have HB3 : Hid (Buf w3 g cap ys) := (HBW1.out.kept rfl : Buf W1.drew g cap ys).below hb3; clear hb3) | (go_at_call 36; refine Calls.mono (HWD.out _ (HGT.out.trans HG3.out) HB3.out) ?_; rintro e4 w4 ⟨rfl, HH4⟩; have HG4 : Hid (Gro g W1 w4) := HG3.out.trans HH4.out.2)))
      go_wp2
      go_roundw
      case rel =>
        refine ⟨j + 1, ys ++ T.data l[j].t ac, by go_num, by simp, hjl, ?_, HH4.out.1, (HR.out.2.2.trans HGW1.out).trans HG4.out⟩
        rw [HSN.out, ← List.append_assoc, ← HR.out.1]
      case measure => simp [intOf]; omega
    · obtain rfl : j = l.length := by omega
      have HTL : Hid (l.take l.length = l) := List.take_length
      go_wp2
      go_ret
      obtain ⟨hy, hbu, hgr⟩ := HR.out
      rw [HTL.out] at hy
      have hy2 : ys = xs ++ ac :: datas ac (V.ts l) := by rw [hy]; simp
      refine ⟨by rw [← hy2]; rfl, by rw [← hy2]; exact hbu, HG0.out.trans hgr⟩
end
section
variable (B : Nat → ByteArray → Int) (W : List T → Bool)
theorem encs_len (l : List V) (f : Nat) (hg : ∀ x ∈ l, Gd B W x.t f) : (encs (V.ts l)).length = lens (V.ts l) := by
  unfold encs lens
  exact sum_flat (V.ts l) _ _ (fun x hx => by obtain ⟨y, hy, rfl⟩ := t_mem hx; exact enc_len B W y.t f (hg y hy))
theorem encs_le (l : List V) (j : Nat) : (encs (V.ts (l.take j))).length ≤ (encs (V.ts l)).length := by
  obtain ⟨r, hr⟩ := ts_take_pre l j
  rw [hr]; unfold encs; simp
def Parts (l : List V) (n₀ g cap : Nat) (xs : List Nat) (w : World) : Prop := ∀ j (h : j < l.length) (ys : List Nat) (W1 : World), Gro g w W1 → Buf W1 g cap ys → ys.length = xs.length + (encs (V.ts (l.take j))).length →
  Calls Tryz.prog 22 #[.slice (some ⟨g, 0, none⟩) ys.length cap, .agg #[.int .i64 l[j].k, .int .u64 l[j].n, .string l[j].s, .slice l[j].a l[j].l.length l[j].c, .int .i64 l[j].e]] W1 (Wrote W1 g cap ys (T.enc l[j].t))
theorem parts_of (l : List V) (ih : ∀ x ∈ l, DataOk B W x) (f n₀ g cap : Nat) (xs : List Nat) (w : World) (hg : ∀ x ∈ l, Gd B W x.t f) (hl : ∀ x ∈ l, Lies n₀ w x) (hn : n₀ ≤ g) (hnw : n₀ ≤ w.heap.size) (h0 : 0 < g) (hT : SzTab w) (hc : cap ≤ 2000000) (hroom : xs.length + (encs (V.ts l)).length ≤ cap) : Parts l n₀ g cap xs w := by
  intro j h ys W1 hW hbu hy
  have hmem := List.getElem_mem h
  have h1 := encs_le l (j + 1)
  rw [encs_snoc l j h, List.length_append, enc_len B W _ f (hg _ hmem)] at h1
  have := write_of B W l[j] (ih _ hmem) f n₀ g cap ys W1 (hg _ hmem) ((hl _ hmem).gro hW hn hnw) hn h0 (hT.gro hW h0) hbu hc (by omega)
  rw [V.val_eq] at this
  exact this
set_option maxRecDepth 100000 in
set_option maxHeartbeats 2000000 in
theorem data_desc (n : Int) (s : ByteArray) (a : Option Addr) (c : Nat) (e : Int) (l : List V) (body g cap n₀ : Nat) (xs : List Nat) (w : World) (hp : Parts l n₀ g cap xs w) (hl : Lies n₀ w (V.of 24 n s a c e l)) (hn : n₀ ≤ g) (hb : Buf w g cap xs) :
    Calls Tryz.prog 36 #[.slice (some ⟨g, 0, none⟩) xs.length cap, (V.of 24 n s a c e l).val, .int .u8 0, .int .i64 (body : Int)] w (Wrote w g cap xs (encs (V.ts l))) := by
  have hgl := hb.lt
  have HP := hide hp
  have HL := hide hl
  have ok := hl.ok
  have o2 := ok.l
  have o3 := ok.c
  have HB := hide hb
  have HLAY : Hid (∀ W1, Calls Tryz.prog 54 #[.int .u8 0] W1 fun e w' => e = .returned (.int .u8 0) ∧ W1 = w') := fun W1 => layout_any 0 (by omega) W1
  clear hp hl hb ok
  rw [V.val_of]
  obtain ⟨W0, hW0⟩ : ∃ W0, w.alloc (Obj.cells #[.int .i64 24, .int .u64 n, .string s, .slice a l.length c, .int .i64 e] 25) = W0 := ⟨_, rfl⟩
  have HC : Hid (∀ W1, Gro g W0 W1 → W1.cell? ⟨w.heap.size, 3, none⟩ = some (.slice a l.length c)) := fun W1 hW => by
    have hh : W1.heap[w.heap.size]? = some (.cells #[.int .i64 24, .int .u64 n, .string s, .slice a l.length c, .int .i64 e] 25) := (hW.block _ (by rw [← hW0]; simp) (by simp; omega)).trans (by rw [← hW0]; exact World.alloc_heap_new _ _)
    show W1.cell? _ = _
    simp [World.cell?, hh]
  have HG0 : Hid (Gro g w W0) := by show Gro g w W0; rw [← hW0]; exact (Gro.refl g w).alloc _
  have HB0 : Hid (Buf W0 g cap xs) := by show Buf W0 g cap xs; rw [← hW0]; exact HB.out.alloc _
  have HSW : Hid (W0.heap.size = w.heap.size + 1) := by show W0.heap.size = _; rw [← hW0]; simp
  have HW0 := hide hW0
  clear hW0
  go_enter Tryz.func36, Tryz.ntmps36
  go_wp2_with fail
  rw [HW0.out]
  refine Calls.mono (HLAY.out _) ?_
  rintro e1 w1 ⟨rfl, rfl⟩
  have hc3 := HC.out W0 (Gro.refl _ _)
  go_wp2_with fail
  go_loopw [0, 57] (fun bv i wr => ∃ (j : Nat) (ys : List Nat), i = .int .i64 j ∧ bv = .slice (some ⟨g, 0, none⟩) ys.length cap ∧ j ≤ l.length ∧ Hid (ys = xs ++ encs (V.ts (l.take j)) ∧ Buf wr g cap ys ∧ Gro g W0 wr)) (fun _ i _ => l.length - (intOf i).toNat)
  case atStart => exact ⟨0, xs, rfl, rfl, Nat.zero_le _, by simp [encs, V.ts], HB0.out, Gro.refl _ _⟩
  case round =>
    obtain ⟨j, ys, rfl, rfl, hj, HR⟩ := hrel
    have hc3' := HC.out wr HR.out.2.2
    have hszr := HR.out.2.2.size
    have hszw : w.heap.size < wr.heap.size := by have := HSW.out; omega
    by_cases hjl : j < l.length
    · obtain ⟨b, o, rfl, hlt, hr⟩ := (HL.out.gro (HG0.out.trans HR.out.2.2) hn (by omega)).row (by omega)
      obtain ⟨x0, x1, x2, x3, x4⟩ := hr j hjl
      have HSN := hide (encs_snoc l j hjl)
      have HX : Hid (∀ W1, Gro g wr W1 → Buf W1 g cap ys → Calls Tryz.prog 22 #[.slice (some ⟨g, 0, none⟩) ys.length cap, .agg #[.int .i64 l[j].k, .int .u64 l[j].n, .string l[j].s, .slice l[j].a l[j].l.length l[j].c, .int .i64 l[j].e]] W1 (Wrote W1 g cap ys (T.enc l[j].t))) := fun W1 hW hbu =>
        HP.out j hjl ys W1 ((HG0.out.trans HR.out.2.2).trans hW) hbu (by rw [HR.out.1]; simp)
      clear hr
      have hgr : g < wr.heap.size := by omega
      have hbw : b < wr.heap.size := by omega
      go_wp2_with fail
      refine Calls.mono (HX.out _ ((Gro.refl g wr).alloc _) (HR.out.2.1.alloc _)) ?_
      rintro e4 w4 ⟨rfl, HH4⟩
      go_wp2
      go_roundw
      case rel =>
        refine ⟨j + 1, ys ++ T.enc l[j].t, by go_num, by simp, hjl, ?_, HH4.out.1, (HR.out.2.2.trans ((Gro.refl g wr).alloc _)).trans HH4.out.2⟩
        rw [HSN.out, ← List.append_assoc, ← HR.out.1]
      case measure => simp [intOf]; omega
    · obtain rfl : j = l.length := by omega
      have HTL : Hid (l.take l.length = l) := List.take_length
      go_wp2
      go_ret
      obtain ⟨hy, hbu, hgr⟩ := HR.out
      rw [HTL.out] at hy
      refine ⟨by rw [← hy]; rfl, by rw [← hy]; exact hbu, HG0.out.trans hgr⟩
set_option maxRecDepth 100000 in
set_option maxHeartbeats 2000000 in
theorem data_span12 (k n : Int) (s : ByteArray) (a : Option Addr) (c : Nat) (e : Int) (l : List V) (cd body g cap n₀ : Nat) (xs : List Nat) (w : World) (hcd : cd < 256) (hlay : cd / 16 = 12) (hbody : body ≤ 1000000000) (hcap : cap ≤ 2000000) (hroom : xs.length + 2 ≤ cap) (hp : Parts l n₀ g cap (xs ++ (digs (1 + body) 1 ++ digs l.length 1)) w) (hl : Lies n₀ w (V.of k n s a c e l)) (hn : n₀ ≤ g) (hb : Buf w g cap xs) :
    Calls Tryz.prog 36 #[.slice (some ⟨g, 0, none⟩) xs.length cap, (V.of k n s a c e l).val, .int .u8 (cd : Int), .int .i64 (body : Int)] w (Wrote w g cap xs (digs (1 + body) 1 ++ (digs l.length 1 ++ encs (V.ts l)))) := by
  have hgl := hb.lt
  have HP := hide hp
  have HL := hide hl
  have ok := hl.ok
  have o2 := ok.l
  have o3 := ok.c
  have HB := hide hb
  have HLAY : Hid (∀ W1, Calls Tryz.prog 54 #[.int .u8 (cd : Int)] W1 fun e w' => e = .returned (.int .u8 12) ∧ W1 = w') := fun W1 => by
    have := layout_any cd hcd W1
    rw [hlay] at this
    exact this
  have HSP : Hid (∀ W1, Buf W1 g cap xs → Calls Tryz.prog 57 #[.slice (some ⟨g, 0, none⟩) xs.length cap, .agg #[.int .i64 k, .int .u64 n, .string s, .slice a l.length c, .int .i64 e], .int .i64 1, .int .i64 (body : Int)] W1 (Wrote W1 g cap xs (digs (1 + body) 1 ++ digs l.length 1))) := fun W1 hW => by
    have := writeSpan_any (V.of k n s a c e l) 1 body g cap xs W1 (by omega) (by omega) (by rw [V.l_of]; omega) hW (by omega) (by omega)
    rw [V.val_of, V.l_of] at this
    exact this
  clear hp hl hb ok hlay hroom hcap
  obtain ⟨sp, hsp⟩ : ∃ sp, digs (1 + body) 1 ++ digs l.length 1 = sp := ⟨_, rfl⟩
  rw [← List.append_assoc (digs _ _), hsp]
  rw [hsp] at HP HSP
  clear hsp
  rw [V.val_of]
  obtain ⟨W0, hW0⟩ : ∃ W0, w.alloc (Obj.cells #[.int .i64 k, .int .u64 n, .string s, .slice a l.length c, .int .i64 e] 25) = W0 := ⟨_, rfl⟩
  have HC : Hid (∀ W1, Gro g W0 W1 → W1.cell? ⟨w.heap.size, 0, none⟩ = some (.int .i64 k) ∧ W1.cell? ⟨w.heap.size, 1, none⟩ = some (.int .u64 n) ∧ W1.cell? ⟨w.heap.size, 2, none⟩ = some (.string s) ∧ W1.cell? ⟨w.heap.size, 3, none⟩ = some (.slice a l.length c) ∧ W1.cell? ⟨w.heap.size, 4, none⟩ = some (.int .i64 e)) := fun W1 hW => by
    have hh : W1.heap[w.heap.size]? = some (.cells #[.int .i64 k, .int .u64 n, .string s, .slice a l.length c, .int .i64 e] 25) := (hW.block _ (by rw [← hW0]; simp) (by simp; omega)).trans (by rw [← hW0]; exact World.alloc_heap_new _ _)
    simp [World.cell?, hh]
  have HG0 : Hid (Gro g w W0) := by show Gro g w W0; rw [← hW0]; exact (Gro.refl g w).alloc _
  have HB0 : Hid (Buf W0 g cap xs) := by show Buf W0 g cap xs; rw [← hW0]; exact HB.out.alloc _
  have HSW : Hid (W0.heap.size = w.heap.size + 1) := by show W0.heap.size = _; rw [← hW0]; simp
  have HW0 := hide hW0
  clear hW0
  go_enter Tryz.func36, Tryz.ntmps36
  go_wp2_with fail
  rw [HW0.out]
  refine Calls.mono (HLAY.out _) ?_
  rintro e1 w1 ⟨rfl, rfl⟩
  obtain ⟨q0, q1, q2, q3, q4⟩ := HC.out W0 (Gro.refl _ _)
  have hsw0 : w.heap.size < W0.heap.size := by have := HSW.out; omega
  go_wp2_with fail
  refine Calls.mono (HSP.out _ HB0.out) ?_
  rintro e2 w2 ⟨rfl, HH2⟩
  obtain ⟨_, _, _, hc3, _⟩ := HC.out w2 HH2.out.2
  clear q0 q1 q2 q3 q4
  have hsw2 : w.heap.size < w2.heap.size := by have := HH2.out.2.size; omega
  go_wp2_with fail
  go_loopw [0, 57] (fun bv i wr => ∃ (j : Nat) (ys : List Nat), i = .int .i64 j ∧ bv = .slice (some ⟨g, 0, none⟩) ys.length cap ∧ j ≤ l.length ∧ Hid (ys = (xs ++ sp) ++ encs (V.ts (l.take j)) ∧ Buf wr g cap ys ∧ Gro g W0 wr)) (fun _ i _ => l.length - (intOf i).toNat)
  case atStart => exact ⟨0, xs ++ sp, rfl, by simp, Nat.zero_le _, by simp [encs, V.ts], HH2.out.1, HH2.out.2⟩
  case round =>
    obtain ⟨j, ys, rfl, rfl, hj, HR⟩ := hrel
    obtain ⟨_, _, _, hc3', _⟩ := HC.out wr HR.out.2.2
    have hszr := HR.out.2.2.size
    have hszw : w.heap.size < wr.heap.size := by have := HSW.out; omega
    by_cases hjl : j < l.length
    · obtain ⟨b, o, rfl, hlt, hr⟩ := (HL.out.gro (HG0.out.trans HR.out.2.2) hn (by omega)).row (by omega)
      obtain ⟨x0, x1, x2, x3, x4⟩ := hr j hjl
      have HSN := hide (encs_snoc l j hjl)
      have HX : Hid (∀ W1, Gro g wr W1 → Buf W1 g cap ys → Calls Tryz.prog 22 #[.slice (some ⟨g, 0, none⟩) ys.length cap, .agg #[.int .i64 l[j].k, .int .u64 l[j].n, .string l[j].s, .slice l[j].a l[j].l.length l[j].c, .int .i64 l[j].e]] W1 (Wrote W1 g cap ys (T.enc l[j].t))) := fun W1 hW hbu =>
        HP.out j hjl ys W1 ((HG0.out.trans HR.out.2.2).trans hW) hbu (by rw [HR.out.1, List.length_append])
      clear hr
      have hgr : g < wr.heap.size := by omega
      have hbw : b < wr.heap.size := by omega
      go_wp2_with fail
      refine Calls.mono (HX.out _ ((Gro.refl g wr).alloc _) (HR.out.2.1.alloc _)) ?_
      rintro e4 w4 ⟨rfl, HH4⟩
      go_wp2
      go_roundw
      case rel =>
        refine ⟨j + 1, ys ++ T.enc l[j].t, by go_num, by simp, hjl, ?_, HH4.out.1, (HR.out.2.2.trans ((Gro.refl g wr).alloc _)).trans HH4.out.2⟩
        rw [HSN.out, ← List.append_assoc, ← HR.out.1]
      case measure => simp [intOf]; omega
    · obtain rfl : j = l.length := by omega
      have HTL : Hid (l.take l.length = l) := List.take_length
      go_wp2
      go_ret
      obtain ⟨hy, hbu, hgr⟩ := HR.out
      rw [HTL.out, List.append_assoc] at hy
      refine ⟨by rw [← hy]; rfl, by rw [← hy]; exact hbu, HG0.out.trans hgr⟩
set_option maxRecDepth 100000 in
set_option maxHeartbeats 2000000 in
theorem data_span13 (k n : Int) (s : ByteArray) (a : Option Addr) (c : Nat) (e : Int) (l : List V) (cd body g cap n₀ : Nat) (xs : List Nat) (w : World) (hcd : cd < 256) (hlay : cd / 16 = 13) (hbody : body ≤ 1000000000) (hcap : cap ≤ 2000000) (hroom : xs.length + 8 ≤ cap) (hp : Parts l n₀ g cap (xs ++ (digs (4 + body) 4 ++ digs l.length 4)) w) (hl : Lies n₀ w (V.of k n s a c e l)) (hn : n₀ ≤ g) (hb : Buf w g cap xs) :
    Calls Tryz.prog 36 #[.slice (some ⟨g, 0, none⟩) xs.length cap, (V.of k n s a c e l).val, .int .u8 (cd : Int), .int .i64 (body : Int)] w (Wrote w g cap xs (digs (4 + body) 4 ++ (digs l.length 4 ++ encs (V.ts l)))) := by
  have hgl := hb.lt
  have HP := hide hp
  have HL := hide hl
  have ok := hl.ok
  have o2 := ok.l
  have o3 := ok.c
  have HB := hide hb
  have HLAY : Hid (∀ W1, Calls Tryz.prog 54 #[.int .u8 (cd : Int)] W1 fun e w' => e = .returned (.int .u8 13) ∧ W1 = w') := fun W1 => by
    have := layout_any cd hcd W1
    rw [hlay] at this
    exact this
  have HSP : Hid (∀ W1, Buf W1 g cap xs → Calls Tryz.prog 57 #[.slice (some ⟨g, 0, none⟩) xs.length cap, .agg #[.int .i64 k, .int .u64 n, .string s, .slice a l.length c, .int .i64 e], .int .i64 4, .int .i64 (body : Int)] W1 (Wrote W1 g cap xs (digs (4 + body) 4 ++ digs l.length 4))) := fun W1 hW => by
    have := writeSpan_any (V.of k n s a c e l) 4 body g cap xs W1 (by omega) (by omega) (by rw [V.l_of]; omega) hW (by omega) (by omega)
    rw [V.val_of, V.l_of] at this
    exact this
  clear hp hl hb ok hlay hroom hcap
  obtain ⟨sp, hsp⟩ : ∃ sp, digs (4 + body) 4 ++ digs l.length 4 = sp := ⟨_, rfl⟩
  rw [← List.append_assoc (digs _ _), hsp]
  rw [hsp] at HP HSP
  clear hsp
  rw [V.val_of]
  obtain ⟨W0, hW0⟩ : ∃ W0, w.alloc (Obj.cells #[.int .i64 k, .int .u64 n, .string s, .slice a l.length c, .int .i64 e] 25) = W0 := ⟨_, rfl⟩
  have HC : Hid (∀ W1, Gro g W0 W1 → W1.cell? ⟨w.heap.size, 0, none⟩ = some (.int .i64 k) ∧ W1.cell? ⟨w.heap.size, 1, none⟩ = some (.int .u64 n) ∧ W1.cell? ⟨w.heap.size, 2, none⟩ = some (.string s) ∧ W1.cell? ⟨w.heap.size, 3, none⟩ = some (.slice a l.length c) ∧ W1.cell? ⟨w.heap.size, 4, none⟩ = some (.int .i64 e)) := fun W1 hW => by
    have hh : W1.heap[w.heap.size]? = some (.cells #[.int .i64 k, .int .u64 n, .string s, .slice a l.length c, .int .i64 e] 25) := (hW.block _ (by rw [← hW0]; simp) (by simp; omega)).trans (by rw [← hW0]; exact World.alloc_heap_new _ _)
    simp [World.cell?, hh]
  have HG0 : Hid (Gro g w W0) := by show Gro g w W0; rw [← hW0]; exact (Gro.refl g w).alloc _
  have HB0 : Hid (Buf W0 g cap xs) := by show Buf W0 g cap xs; rw [← hW0]; exact HB.out.alloc _
  have HSW : Hid (W0.heap.size = w.heap.size + 1) := by show W0.heap.size = _; rw [← hW0]; simp
  have HW0 := hide hW0
  clear hW0
  go_enter Tryz.func36, Tryz.ntmps36
  go_wp2_with fail
  rw [HW0.out]
  refine Calls.mono (HLAY.out _) ?_
  rintro e1 w1 ⟨rfl, rfl⟩
  obtain ⟨q0, q1, q2, q3, q4⟩ := HC.out W0 (Gro.refl _ _)
  have hsw0 : w.heap.size < W0.heap.size := by have := HSW.out; omega
  go_wp2_with fail
  refine Calls.mono (HSP.out _ HB0.out) ?_
  rintro e2 w2 ⟨rfl, HH2⟩
  obtain ⟨_, _, _, hc3, _⟩ := HC.out w2 HH2.out.2
  clear q0 q1 q2 q3 q4
  have hsw2 : w.heap.size < w2.heap.size := by have := HH2.out.2.size; omega
  go_wp2_with fail
  go_loopw [0, 57] (fun bv i wr => ∃ (j : Nat) (ys : List Nat), i = .int .i64 j ∧ bv = .slice (some ⟨g, 0, none⟩) ys.length cap ∧ j ≤ l.length ∧ Hid (ys = (xs ++ sp) ++ encs (V.ts (l.take j)) ∧ Buf wr g cap ys ∧ Gro g W0 wr)) (fun _ i _ => l.length - (intOf i).toNat)
  case atStart => exact ⟨0, xs ++ sp, rfl, by simp, Nat.zero_le _, by simp [encs, V.ts], HH2.out.1, HH2.out.2⟩
  case round =>
    obtain ⟨j, ys, rfl, rfl, hj, HR⟩ := hrel
    obtain ⟨_, _, _, hc3', _⟩ := HC.out wr HR.out.2.2
    have hszr := HR.out.2.2.size
    have hszw : w.heap.size < wr.heap.size := by have := HSW.out; omega
    by_cases hjl : j < l.length
    · obtain ⟨b, o, rfl, hlt, hr⟩ := (HL.out.gro (HG0.out.trans HR.out.2.2) hn (by omega)).row (by omega)
      obtain ⟨x0, x1, x2, x3, x4⟩ := hr j hjl
      have HSN := hide (encs_snoc l j hjl)
      have HX : Hid (∀ W1, Gro g wr W1 → Buf W1 g cap ys → Calls Tryz.prog 22 #[.slice (some ⟨g, 0, none⟩) ys.length cap, .agg #[.int .i64 l[j].k, .int .u64 l[j].n, .string l[j].s, .slice l[j].a l[j].l.length l[j].c, .int .i64 l[j].e]] W1 (Wrote W1 g cap ys (T.enc l[j].t))) := fun W1 hW hbu =>
        HP.out j hjl ys W1 ((HG0.out.trans HR.out.2.2).trans hW) hbu (by rw [HR.out.1, List.length_append])
      clear hr
      have hgr : g < wr.heap.size := by omega
      have hbw : b < wr.heap.size := by omega
      go_wp2_with fail
      refine Calls.mono (HX.out _ ((Gro.refl g wr).alloc _) (HR.out.2.1.alloc _)) ?_
      rintro e4 w4 ⟨rfl, HH4⟩
      go_wp2
      go_roundw
      case rel =>
        refine ⟨j + 1, ys ++ T.enc l[j].t, by go_num, by simp, hjl, ?_, HH4.out.1, (HR.out.2.2.trans ((Gro.refl g wr).alloc _)).trans HH4.out.2⟩
        rw [HSN.out, ← List.append_assoc, ← HR.out.1]
      case measure => simp [intOf]; omega
    · obtain rfl : j = l.length := by omega
      have HTL : Hid (l.take l.length = l) := List.take_length
      go_wp2
      go_ret
      obtain ⟨hy, hbu, hgr⟩ := HR.out
      rw [HTL.out, List.append_assoc] at hy
      refine ⟨by rw [← hy]; rfl, by rw [← hy]; exact hbu, HG0.out.trans hgr⟩
end
section
variable (B : Nat → ByteArray → Int) (W : List T → Bool)
set_option maxRecDepth 100000 in
set_option maxHeartbeats 2000000 in
theorem data_none (k : Int) (n : Int) (s : ByteArray) (a : Option Addr) (c : Nat) (e : Int) (l : List V) (cd body g cap n₀ : Nat) (xs : List Nat) (w : World) (hcd : cd < 256) (hlay : cd / 16 = 4) (hb : Buf w g cap xs) :
    Calls Tryz.prog 36 #[.slice (some ⟨g, 0, none⟩) xs.length cap, .agg #[.int .i64 k, .int .u64 n, .string s, .slice a l.length c, .int .i64 e], .int .u8 (cd : Int), .int .i64 (body : Int)] w (Wrote w g cap xs []) := by
  have hgl := hb.lt
  have HB := hide hb
  have HLAY : Hid (∀ W1, Calls Tryz.prog 54 #[.int .u8 (cd : Int)] W1 fun e w' => e = .returned (.int .u8 4) ∧ W1 = w') := fun W1 => by
    have := layout_any cd hcd W1
    rw [hlay] at this
    exact this
  clear hlay hb hcd
  obtain ⟨W0, hW0⟩ : ∃ W0, w.alloc (Obj.cells #[.int .i64 k, .int .u64 n, .string s, .slice a l.length c, .int .i64 e] 25) = W0 := ⟨_, rfl⟩
  have HC : Hid (∀ W1, Gro g W0 W1 → W1.cell? ⟨w.heap.size, 0, none⟩ = some (.int .i64 k) ∧ W1.cell? ⟨w.heap.size, 1, none⟩ = some (.int .u64 n) ∧ W1.cell? ⟨w.heap.size, 2, none⟩ = some (.string s) ∧ W1.cell? ⟨w.heap.size, 3, none⟩ = some (.slice a l.length c) ∧ W1.cell? ⟨w.heap.size, 4, none⟩ = some (.int .i64 e)) := fun W1 hW => by
    have hh : W1.heap[w.heap.size]? = some (.cells #[.int .i64 k, .int .u64 n, .string s, .slice a l.length c, .int .i64 e] 25) := (hW.block _ (by rw [← hW0]; simp) (by simp; omega)).trans (by rw [← hW0]; exact World.alloc_heap_new _ _)
    simp [World.cell?, hh]
  have HG0 : Hid (Gro g w W0) := by show Gro g w W0; rw [← hW0]; exact (Gro.refl g w).alloc _
  have HB0 : Hid (Buf W0 g cap xs) := by show Buf W0 g cap xs; rw [← hW0]; exact HB.out.alloc _
  have hsw0 : w.heap.size < W0.heap.size := by rw [← hW0]; simp
  have HW0 := hide hW0
  clear hW0
  go_enter Tryz.func36, Tryz.ntmps36
  go_wp2_with fail
  rw [HW0.out]
  refine Calls.mono (HLAY.out _) ?_
  rintro e1 w1 ⟨rfl, rfl⟩
  go_wp2
  go_ret
  exact ⟨by simp, by simpa using HB0.out, HG0.out⟩
set_option maxRecDepth 100000 in
set_option maxHeartbeats 2000000 in
theorem data_six (k : Int) (n : Int) (s : ByteArray) (a : Option Addr) (c : Nat) (e : Int) (l : List V) (cd body g cap n₀ : Nat) (xs : List Nat) (w : World) (hcd : cd < 256) (hlay : cd / 16 = 9) (hss : s.size = 16) (hroom : xs.length + 16 ≤ cap) (hb : Buf w g cap xs) :
    Calls Tryz.prog 36 #[.slice (some ⟨g, 0, none⟩) xs.length cap, .agg #[.int .i64 k, .int .u64 n, .string s, .slice a l.length c, .int .i64 e], .int .u8 (cd : Int), .int .i64 (body : Int)] w (Wrote w g cap xs (txt s)) := by
  obtain ⟨i0, hi0, hz1⟩ := info8
  have hgl := hb.lt
  have HB := hide hb
  have hrm : xs.length + s.size ≤ cap := by omega
  have hcp : 0 < cap := by omega
  have HSS := hide hss
  have HLAY : Hid (∀ W1, Calls Tryz.prog 54 #[.int .u8 (cd : Int)] W1 fun e w' => e = .returned (.int .u8 9) ∧ W1 = w') := fun W1 => by
    have := layout_any cd hcd W1
    rw [hlay] at this
    exact this
  clear hlay hb hcd hss
  obtain ⟨W0, hW0⟩ : ∃ W0, w.alloc (Obj.cells #[.int .i64 k, .int .u64 n, .string s, .slice a l.length c, .int .i64 e] 25) = W0 := ⟨_, rfl⟩
  have HC : Hid (∀ W1, Gro g W0 W1 → W1.cell? ⟨w.heap.size, 0, none⟩ = some (.int .i64 k) ∧ W1.cell? ⟨w.heap.size, 1, none⟩ = some (.int .u64 n) ∧ W1.cell? ⟨w.heap.size, 2, none⟩ = some (.string s) ∧ W1.cell? ⟨w.heap.size, 3, none⟩ = some (.slice a l.length c) ∧ W1.cell? ⟨w.heap.size, 4, none⟩ = some (.int .i64 e)) := fun W1 hW => by
    have hh : W1.heap[w.heap.size]? = some (.cells #[.int .i64 k, .int .u64 n, .string s, .slice a l.length c, .int .i64 e] 25) := (hW.block _ (by rw [← hW0]; simp) (by simp; omega)).trans (by rw [← hW0]; exact World.alloc_heap_new _ _)
    simp [World.cell?, hh]
  have HG0 : Hid (Gro g w W0) := by show Gro g w W0; rw [← hW0]; exact (Gro.refl g w).alloc _
  have HB0 : Hid (Buf W0 g cap xs) := by show Buf W0 g cap xs; rw [← hW0]; exact HB.out.alloc _
  have hsw0 : w.heap.size < W0.heap.size := by rw [← hW0]; simp
  have HW0 := hide hW0
  clear hW0
  go_enter Tryz.func36, Tryz.ntmps36
  go_wp2_with fail
  rw [HW0.out]
  refine Calls.mono (HLAY.out _) ?_
  rintro e1 w1 ⟨rfl, rfl⟩
  obtain ⟨q0, q1, q2, q3, q4⟩ := HC.out W0 (Gro.refl _ _)
  go_wp2_with (at_builtin; go_loud (refine Lib.wpList_append_fits_string _ rfl (.tmp 38) (.tmp 40) 28 9 rfl g 5 i0 Tryz.underlying28 Tryz.underlying9 hi0 hz1 (some ⟨g, 0, none⟩) xs.length cap (xs.map bV) rfl HB0.out s rfl hcp hrm ?_; intro w2 hown2 hgr2; rw [str_cells] at hown2; have HG2 : Hid (Gro g W0 w2) := hgr2; have HB2 : Hid (Buf w2 g cap (xs ++ txt s)) := buf_app hown2 (txt_length s); clear hown2 hgr2))
  go_ret
  exact ⟨by rw [List.length_append, txt_length]; rfl, HB2.out, HG0.out.trans HG2.out⟩
set_option maxRecDepth 100000 in
set_option maxHeartbeats 2000000 in
theorem data_text10 (k : Int) (n : Int) (s : ByteArray) (a : Option Addr) (c : Nat) (e : Int) (l : List V) (cd body g cap n₀ : Nat) (xs : List Nat) (w : World) (hcd : cd < 256) (hlay : cd / 16 = 10) (hbody : body = s.size) (hbb : body ≤ 1000000000) (hroom : xs.length + (1 + s.size) ≤ cap) (hb : Buf w g cap xs) :
    Calls Tryz.prog 36 #[.slice (some ⟨g, 0, none⟩) xs.length cap, .agg #[.int .i64 k, .int .u64 n, .string s, .slice a l.length c, .int .i64 e], .int .u8 (cd : Int), .int .i64 (body : Int)] w (Wrote w g cap xs (digs body 1 ++ txt s)) := by
  obtain ⟨i0, hi0, hz1⟩ := info8
  have hgl := hb.lt
  have HB := hide hb
  have hrm : xs.length + 1 + s.size ≤ cap := by omega
  have hrm1 : xs.length + 1 ≤ cap := by omega
  have hcp : 0 < cap := by omega
  have HLAY : Hid (∀ W1, Calls Tryz.prog 54 #[.int .u8 (cd : Int)] W1 fun e w' => e = .returned (.int .u8 10) ∧ W1 = w') := fun W1 => by
    have := layout_any cd hcd W1
    rw [hlay] at this
    exact this
  have HPU : Hid (∀ W1, Calls Tryz.prog 55 #[.int .u64 (body : Int), .int .i64 1] W1 fun e w' => e = .returned (.slice (some ⟨W1.heap.size, 0, none⟩) 1 1) ∧ w'.rowIs W1.heap.size 5 1 (fun i => .int .u8 ((dig body (1 - 1 - i) : Nat) : Int)) ∧ w'.heap.size = W1.heap.size + 1 ∧ Below W1.heap.size W1 w') := fun W1 => put_yes body 1 W1 (by omega) (by omega) (by omega)
  clear hlay hb hcd hbody
  obtain ⟨W0, hW0⟩ : ∃ W0, w.alloc (Obj.cells #[.int .i64 k, .int .u64 n, .string s, .slice a l.length c, .int .i64 e] 25) = W0 := ⟨_, rfl⟩
  have HC : Hid (∀ W1, Gro g W0 W1 → W1.cell? ⟨w.heap.size, 0, none⟩ = some (.int .i64 k) ∧ W1.cell? ⟨w.heap.size, 1, none⟩ = some (.int .u64 n) ∧ W1.cell? ⟨w.heap.size, 2, none⟩ = some (.string s) ∧ W1.cell? ⟨w.heap.size, 3, none⟩ = some (.slice a l.length c) ∧ W1.cell? ⟨w.heap.size, 4, none⟩ = some (.int .i64 e)) := fun W1 hW => by
    have hh : W1.heap[w.heap.size]? = some (.cells #[.int .i64 k, .int .u64 n, .string s, .slice a l.length c, .int .i64 e] 25) := (hW.block _ (by rw [← hW0]; simp) (by simp; omega)).trans (by rw [← hW0]; exact World.alloc_heap_new _ _)
    simp [World.cell?, hh]
  have HG0 : Hid (Gro g w W0) := by show Gro g w W0; rw [← hW0]; exact (Gro.refl g w).alloc _
  have HB0 : Hid (Buf W0 g cap xs) := by show Buf W0 g cap xs; rw [← hW0]; exact HB.out.alloc _
  have hsw0 : w.heap.size < W0.heap.size := by rw [← hW0]; simp
  have HW0 := hide hW0
  clear hW0
  go_enter Tryz.func36, Tryz.ntmps36
  go_wp2_with fail
  rw [HW0.out]
  refine Calls.mono (HLAY.out _) ?_
  rintro e1 w1 ⟨rfl, rfl⟩
  go_wp2_with fail
  refine Calls.mono (HPU.out _) ?_
  rintro e3 w3 ⟨rfl, HR3, hz, hb3⟩
  have HN3 := hide (digs_news HR3)
  have HG3 : Hid (Gro g W0 w3) := Gro.of_below hb3
  have HB3 : Hid (Buf w3 g cap xs) := HB0.out.below hb3
  clear HR3 hz hb3
  go_wp2_with (at_builtin; go_loud (first | (refine wpList_append_fits _ rfl (.tmp 32) (.tmp 36) 28 rfl g 5 i0 1 Tryz.underlying28 hi0 hz1 g xs.length cap (xs.map bV) rfl HB3.out ⟨W0.heap.size, 0, none⟩ 1 1 ((digs body 1).map bV) rfl (by simp [digs_length]) HN3.out (map_news _) hrm1 ?_; intro w4 hown4 hgr4; have HG4 : Hid (Gro g W0 w4) := HG3.out.trans hgr4; have HB4 : Hid (Buf w4 g cap (xs ++ digs body 1)) := buf_app hown4 (digs_length _ _); have HB4' : Hid (w4.ownsRow g 5 1 (.slice (some ⟨g, 0, none⟩) (xs.length + 1) cap) (xs.length + 1) ((xs ++ digs body 1).map bV)) := (by have q := HB4.out; unfold Buf at q; rw [List.length_append, digs_length] at q; exact q); obtain ⟨q0, q1, q2, q3, q4⟩ := HC.out w4 HG4.out; clear hown4 hgr4) | (refine Lib.wpList_append_fits_string _ rfl (.tmp 38) (.tmp 40) 28 9 rfl g 5 i0 Tryz.underlying28 Tryz.underlying9 hi0 hz1 (some ⟨g, 0, none⟩) (xs.length + 1) cap ((xs ++ digs body 1).map bV) rfl HB4'.out s rfl hcp hrm ?_; intro w5 hown5 hgr5; rw [str_cells] at hown5; have HG5 : Hid (Gro g W0 w5) := HG4.out.trans hgr5; have HB5 : Hid (Buf w5 g cap ((xs ++ digs body 1) ++ txt s)) := buf_app (by rw [List.length_append, digs_length]; exact hown5) (txt_length s); clear hown5 hgr5)))
  go_ret
  refine ⟨?_, ?_, HG0.out.trans HG5.out⟩
  · simp [digs_length, txt_length]; omega
  · rw [← List.append_assoc]; exact HB5.out
set_option maxRecDepth 100000 in
set_option maxHeartbeats 2000000 in
theorem data_text11 (k : Int) (n : Int) (s : ByteArray) (a : Option Addr) (c : Nat) (e : Int) (l : List V) (cd body g cap n₀ : Nat) (xs : List Nat) (w : World) (hcd : cd < 256) (hlay : cd / 16 = 11) (hbody : body = s.size) (hbb : body ≤ 1000000000) (hroom : xs.length + (4 + s.size) ≤ cap) (hb : Buf w g cap xs) :
    Calls Tryz.prog 36 #[.slice (some ⟨g, 0, none⟩) xs.length cap, .agg #[.int .i64 k, .int .u64 n, .string s, .slice a l.length c, .int .i64 e], .int .u8 (cd : Int), .int .i64 (body : Int)] w (Wrote w g cap xs (digs body 4 ++ txt s)) := by
  obtain ⟨i0, hi0, hz1⟩ := info8
  have hgl := hb.lt
  have HB := hide hb
  have hrm : xs.length + 4 + s.size ≤ cap := by omega
  have hrm1 : xs.length + 4 ≤ cap := by omega
  have hcp : 0 < cap := by omega
  have HLAY : Hid (∀ W1, Calls Tryz.prog 54 #[.int .u8 (cd : Int)] W1 fun e w' => e = .returned (.int .u8 11) ∧ W1 = w') := fun W1 => by
    have := layout_any cd hcd W1
    rw [hlay] at this
    exact this
  have HPU : Hid (∀ W1, Calls Tryz.prog 55 #[.int .u64 (body : Int), .int .i64 4] W1 fun e w' => e = .returned (.slice (some ⟨W1.heap.size, 0, none⟩) 4 4) ∧ w'.rowIs W1.heap.size 5 4 (fun i => .int .u8 ((dig body (4 - 1 - i) : Nat) : Int)) ∧ w'.heap.size = W1.heap.size + 1 ∧ Below W1.heap.size W1 w') := fun W1 => put_yes body 4 W1 (by omega) (by omega) (by omega)
  clear hlay hb hcd hbody
  obtain ⟨W0, hW0⟩ : ∃ W0, w.alloc (Obj.cells #[.int .i64 k, .int .u64 n, .string s, .slice a l.length c, .int .i64 e] 25) = W0 := ⟨_, rfl⟩
  have HC : Hid (∀ W1, Gro g W0 W1 → W1.cell? ⟨w.heap.size, 0, none⟩ = some (.int .i64 k) ∧ W1.cell? ⟨w.heap.size, 1, none⟩ = some (.int .u64 n) ∧ W1.cell? ⟨w.heap.size, 2, none⟩ = some (.string s) ∧ W1.cell? ⟨w.heap.size, 3, none⟩ = some (.slice a l.length c) ∧ W1.cell? ⟨w.heap.size, 4, none⟩ = some (.int .i64 e)) := fun W1 hW => by
    have hh : W1.heap[w.heap.size]? = some (.cells #[.int .i64 k, .int .u64 n, .string s, .slice a l.length c, .int .i64 e] 25) := (hW.block _ (by rw [← hW0]; simp) (by simp; omega)).trans (by rw [← hW0]; exact World.alloc_heap_new _ _)
    simp [World.cell?, hh]
  have HG0 : Hid (Gro g w W0) := by show Gro g w W0; rw [← hW0]; exact (Gro.refl g w).alloc _
  have HB0 : Hid (Buf W0 g cap xs) := by show Buf W0 g cap xs; rw [← hW0]; exact HB.out.alloc _
  have hsw0 : w.heap.size < W0.heap.size := by rw [← hW0]; simp
  have HW0 := hide hW0
  clear hW0
  go_enter Tryz.func36, Tryz.ntmps36
  go_wp2_with fail
  rw [HW0.out]
  refine Calls.mono (HLAY.out _) ?_
  rintro e1 w1 ⟨rfl, rfl⟩
  go_wp2_with fail
  refine Calls.mono (HPU.out _) ?_
  rintro e3 w3 ⟨rfl, HR3, hz, hb3⟩
  have HN3 := hide (digs_news HR3)
  have HG3 : Hid (Gro g W0 w3) := Gro.of_below hb3
  have HB3 : Hid (Buf w3 g cap xs) := HB0.out.below hb3
  clear HR3 hz hb3
  go_wp2_with (at_builtin; go_loud (first | (refine wpList_append_fits _ rfl (.tmp 32) (.tmp 36) 28 rfl g 5 i0 1 Tryz.underlying28 hi0 hz1 g xs.length cap (xs.map bV) rfl HB3.out ⟨W0.heap.size, 0, none⟩ 4 4 ((digs body 4).map bV) rfl (by simp [digs_length]) HN3.out (map_news _) hrm1 ?_; intro w4 hown4 hgr4; have HG4 : Hid (Gro g W0 w4) := HG3.out.trans hgr4; have HB4 : Hid (Buf w4 g cap (xs ++ digs body 4)) := buf_app hown4 (digs_length _ _); have HB4' : Hid (w4.ownsRow g 5 1 (.slice (some ⟨g, 0, none⟩) (xs.length + 4) cap) (xs.length + 4) ((xs ++ digs body 4).map bV)) := (by have q := HB4.out; unfold Buf at q; rw [List.length_append, digs_length] at q; exact q); obtain ⟨q0, q1, q2, q3, q4⟩ := HC.out w4 HG4.out; clear hown4 hgr4) | (refine Lib.wpList_append_fits_string _ rfl (.tmp 38) (.tmp 40) 28 9 rfl g 5 i0 Tryz.underlying28 Tryz.underlying9 hi0 hz1 (some ⟨g, 0, none⟩) (xs.length + 4) cap ((xs ++ digs body 4).map bV) rfl HB4'.out s rfl hcp hrm ?_; intro w5 hown5 hgr5; rw [str_cells] at hown5; have HG5 : Hid (Gro g W0 w5) := HG4.out.trans hgr5; have HB5 : Hid (Buf w5 g cap ((xs ++ digs body 4) ++ txt s)) := buf_app (by rw [List.length_append, digs_length]; exact hown5) (txt_length s); clear hown5 hgr5)))
  go_ret
  refine ⟨?_, ?_, HG0.out.trans HG5.out⟩
  · simp [digs_length, txt_length]; omega
  · rw [← List.append_assoc]; exact HB5.out
end
section
variable (B : Nat → ByteArray → Int) (W : List T → Bool)
set_option maxRecDepth 100000 in
set_option maxHeartbeats 2000000 in
theorem data_arr14 (n : Int) (s : ByteArray) (a : Option Addr) (c : Nat) (e : Int) (l : List V) (cd body g cap n₀ : Nat) (xs : List Nat) (w : World) (hcd : cd < 256) (hlay : cd / 16 = 14) (hbb : body ≤ 1000000000) (hcap : cap ≤ 2000000) (hll : l.length ≤ 2199023255552) (hroom : xs.length + 2 ≤ cap) (els : List Nat) (hel : ∀ ys W1, Gro g w W1 → Buf W1 g cap ys → ys.length = xs.length + 2 → Calls Tryz.prog 56 #[.slice (some ⟨g, 0, none⟩) ys.length cap, .agg #[.int .i64 23, .int .u64 n, .string s, .slice a l.length c, .int .i64 e]] W1 (Wrote W1 g cap ys els)) (hb : Buf w g cap xs) :
    Calls Tryz.prog 36 #[.slice (some ⟨g, 0, none⟩) xs.length cap, .agg #[.int .i64 23, .int .u64 n, .string s, .slice a l.length c, .int .i64 e], .int .u8 (cd : Int), .int .i64 (body : Int)] w (Wrote w g cap xs (digs (1 + body) 1 ++ (digs l.length 1 ++ els))) := by
  have hgl := hb.lt
  have HB := hide hb
  have HEL := hide hel
  have HLAY : Hid (∀ W1, Calls Tryz.prog 54 #[.int .u8 (cd : Int)] W1 fun e w' => e = .returned (.int .u8 14) ∧ W1 = w') := fun W1 => by
    have := layout_any cd hcd W1
    rw [hlay] at this
    exact this
  have HSP : Hid (∀ W1, Buf W1 g cap xs → Calls Tryz.prog 57 #[.slice (some ⟨g, 0, none⟩) xs.length cap, .agg #[.int .i64 23, .int .u64 n, .string s, .slice a l.length c, .int .i64 e], .int .i64 1, .int .i64 (body : Int)] W1 (Wrote W1 g cap xs (digs (1 + body) 1 ++ digs l.length 1))) := fun W1 hW => by
    have := writeSpan_any (V.of 23 n s a c e l) 1 body g cap xs W1 (by omega) (by omega) (by rw [V.l_of]; omega) hW (by omega) (by omega)
    rw [V.val_of, V.l_of] at this
    exact this
  clear hlay hb hcd hel hroom
  obtain ⟨sp, hsp⟩ : ∃ sp, digs (1 + body) 1 ++ digs l.length 1 = sp := ⟨_, rfl⟩
  have hspl : sp.length = 2 := by rw [← hsp]; simp [digs_length]
  rw [← List.append_assoc (digs _ _), hsp]
  rw [hsp] at HSP
  have HEL2 : Hid (∀ W1, Gro g w W1 → Buf W1 g cap (xs ++ sp) → Calls Tryz.prog 56 #[.slice (some ⟨g, 0, none⟩) (xs.length + sp.length) cap, .agg #[.int .i64 23, .int .u64 n, .string s, .slice a l.length c, .int .i64 e]] W1 (Wrote W1 g cap (xs ++ sp) els)) := fun W1 h1 h2 => by
    have := HEL.out (xs ++ sp) W1 h1 h2 (by rw [List.length_append, hspl])
    rw [List.length_append] at this
    exact this
  clear hsp hspl HEL
  obtain ⟨W0, hW0⟩ : ∃ W0, w.alloc (Obj.cells #[.int .i64 23, .int .u64 n, .string s, .slice a l.length c, .int .i64 e] 25) = W0 := ⟨_, rfl⟩
  have HC : Hid (∀ W1, Gro g W0 W1 → W1.cell? ⟨w.heap.size, 0, none⟩ = some (.int .i64 23) ∧ W1.cell? ⟨w.heap.size, 1, none⟩ = some (.int .u64 n) ∧ W1.cell? ⟨w.heap.size, 2, none⟩ = some (.string s) ∧ W1.cell? ⟨w.heap.size, 3, none⟩ = some (.slice a l.length c) ∧ W1.cell? ⟨w.heap.size, 4, none⟩ = some (.int .i64 e)) := fun W1 hW => by
    have hh : W1.heap[w.heap.size]? = some (.cells #[.int .i64 23, .int .u64 n, .string s, .slice a l.length c, .int .i64 e] 25) := (hW.block _ (by rw [← hW0]; simp) (by simp; omega)).trans (by rw [← hW0]; exact World.alloc_heap_new _ _)
    simp [World.cell?, hh]
  have HG0 : Hid (Gro g w W0) := by show Gro g w W0; rw [← hW0]; exact (Gro.refl g w).alloc _
  have HB0 : Hid (Buf W0 g cap xs) := by show Buf W0 g cap xs; rw [← hW0]; exact HB.out.alloc _
  have hsw0 : w.heap.size < W0.heap.size := by rw [← hW0]; simp
  have HW0 := hide hW0
  clear hW0
  go_enter Tryz.func36, Tryz.ntmps36
  go_wp2_with fail
  rw [HW0.out]
  refine Calls.mono (HLAY.out _) ?_
  rintro e1 w1 ⟨rfl, rfl⟩
  obtain ⟨q0, q1, q2, q3, q4⟩ := HC.out W0 (Gro.refl _ _)
  have HBD : Hid (Buf W0.drew g cap xs) := HB0.out.kept rfl
  have HGD : Hid (Gro g W0 W0.drew) := (Gro.refl g W0).drew
  go_wp2_with fail
  go_region_held (fun W1 => W1.cell? ⟨w.heap.size, 0, none⟩ = some (.int .i64 23) ∧ W1.cell? ⟨w.heap.size, 1, none⟩ = some (.int .u64 n) ∧ W1.cell? ⟨w.heap.size, 2, none⟩ = some (.string s) ∧ W1.cell? ⟨w.heap.size, 3, none⟩ = some (.slice a l.length c) ∧ W1.cell? ⟨w.heap.size, 4, none⟩ = some (.int .i64 e)) (first | exact HC.out _ HG3.out | exact HC.out _ HG2.out | exact HC.out _ HGD.out) ((first | (go_at_call 57; refine Calls.mono (HSP.out _ HBD.out) ?_; rintro e2 w2 ⟨rfl, HH2⟩; have HG2 : Hid (Gro g W0 w2) := HGD.out.trans HH2.out.2) | (go_at_call 56; refine Calls.mono (HEL2.out _ (HG0.out.trans HG2.out) HH2.out.1) ?_; rintro e3 w3 ⟨rfl, HH3⟩; have HG3 : Hid (Gro g W0 w3) := HG2.out.trans HH3.out.2)))
  go_wp2
  go_ret
  refine ⟨?_, ?_, HG0.out.trans HG3.out⟩
  · simp
  · rw [← List.append_assoc]; exact HH3.out.1
set_option maxRecDepth 100000 in
set_option maxHeartbeats 2000000 in
theorem data_arr15 (n : Int) (s : ByteArray) (a : Option Addr) (c : Nat) (e : Int) (l : List V) (cd body g cap n₀ : Nat) (xs : List Nat) (w : World) (hcd : cd < 256) (hlay : cd / 16 = 15) (hbb : body ≤ 1000000000) (hcap : cap ≤ 2000000) (hll : l.length ≤ 2199023255552) (hroom : xs.length + 8 ≤ cap) (els : List Nat) (hel : ∀ ys W1, Gro g w W1 → Buf W1 g cap ys → ys.length = xs.length + 8 → Calls Tryz.prog 56 #[.slice (some ⟨g, 0, none⟩) ys.length cap, .agg #[.int .i64 23, .int .u64 n, .string s, .slice a l.length c, .int .i64 e]] W1 (Wrote W1 g cap ys els)) (hb : Buf w g cap xs) :
    Calls Tryz.prog 36 #[.slice (some ⟨g, 0, none⟩) xs.length cap, .agg #[.int .i64 23, .int .u64 n, .string s, .slice a l.length c, .int .i64 e], .int .u8 (cd : Int), .int .i64 (body : Int)] w (Wrote w g cap xs (digs (4 + body) 4 ++ (digs l.length 4 ++ els))) := by
  have hgl := hb.lt
  have HB := hide hb
  have HEL := hide hel
  have HLAY : Hid (∀ W1, Calls Tryz.prog 54 #[.int .u8 (cd : Int)] W1 fun e w' => e = .returned (.int .u8 15) ∧ W1 = w') := fun W1 => by
    have := layout_any cd hcd W1
    rw [hlay] at this
    exact this
  have HSP : Hid (∀ W1, Buf W1 g cap xs → Calls Tryz.prog 57 #[.slice (some ⟨g, 0, none⟩) xs.length cap, .agg #[.int .i64 23, .int .u64 n, .string s, .slice a l.length c, .int .i64 e], .int .i64 4, .int .i64 (body : Int)] W1 (Wrote W1 g cap xs (digs (4 + body) 4 ++ digs l.length 4))) := fun W1 hW => by
    have := writeSpan_any (V.of 23 n s a c e l) 4 body g cap xs W1 (by omega) (by omega) (by rw [V.l_of]; omega) hW (by omega) (by omega)
    rw [V.val_of, V.l_of] at this
    exact this
  clear hlay hb hcd hel hroom
  obtain ⟨sp, hsp⟩ : ∃ sp, digs (4 + body) 4 ++ digs l.length 4 = sp := ⟨_, rfl⟩
  have hspl : sp.length = 8 := by rw [← hsp]; simp [digs_length]
  rw [← List.append_assoc (digs _ _), hsp]
  rw [hsp] at HSP
  have HEL2 : Hid (∀ W1, Gro g w W1 → Buf W1 g cap (xs ++ sp) → Calls Tryz.prog 56 #[.slice (some ⟨g, 0, none⟩) (xs.length + sp.length) cap, .agg #[.int .i64 23, .int .u64 n, .string s, .slice a l.length c, .int .i64 e]] W1 (Wrote W1 g cap (xs ++ sp) els)) := fun W1 h1 h2 => by
    have := HEL.out (xs ++ sp) W1 h1 h2 (by rw [List.length_append, hspl])
    rw [List.length_append] at this
    exact this
  clear hsp hspl HEL
  obtain ⟨W0, hW0⟩ : ∃ W0, w.alloc (Obj.cells #[.int .i64 23, .int .u64 n, .string s, .slice a l.length c, .int .i64 e] 25) = W0 := ⟨_, rfl⟩
  have HC : Hid (∀ W1, Gro g W0 W1 → W1.cell? ⟨w.heap.size, 0, none⟩ = some (.int .i64 23) ∧ W1.cell? ⟨w.heap.size, 1, none⟩ = some (.int .u64 n) ∧ W1.cell? ⟨w.heap.size, 2, none⟩ = some (.string s) ∧ W1.cell? ⟨w.heap.size, 3, none⟩ = some (.slice a l.length c) ∧ W1.cell? ⟨w.heap.size, 4, none⟩ = some (.int .i64 e)) := fun W1 hW => by
    have hh : W1.heap[w.heap.size]? = some (.cells #[.int .i64 23, .int .u64 n, .string s, .slice a l.length c, .int .i64 e] 25) := (hW.block _ (by rw [← hW0]; simp) (by simp; omega)).trans (by rw [← hW0]; exact World.alloc_heap_new _ _)
    simp [World.cell?, hh]
  have HG0 : Hid (Gro g w W0) := by show Gro g w W0; rw [← hW0]; exact (Gro.refl g w).alloc _
  have HB0 : Hid (Buf W0 g cap xs) := by show Buf W0 g cap xs; rw [← hW0]; exact HB.out.alloc _
  have hsw0 : w.heap.size < W0.heap.size := by rw [← hW0]; simp
  have HW0 := hide hW0
  clear hW0
  go_enter Tryz.func36, Tryz.ntmps36
  go_wp2_with fail
  rw [HW0.out]
  refine Calls.mono (HLAY.out _) ?_
  rintro e1 w1 ⟨rfl, rfl⟩
  obtain ⟨q0, q1, q2, q3, q4⟩ := HC.out W0 (Gro.refl _ _)
  have HBD : Hid (Buf W0.drew g cap xs) := HB0.out.kept rfl
  have HGD : Hid (Gro g W0 W0.drew) := (Gro.refl g W0).drew
  go_wp2_with fail
  go_region_held (fun W1 => W1.cell? ⟨w.heap.size, 0, none⟩ = some (.int .i64 23) ∧ W1.cell? ⟨w.heap.size, 1, none⟩ = some (.int .u64 n) ∧ W1.cell? ⟨w.heap.size, 2, none⟩ = some (.string s) ∧ W1.cell? ⟨w.heap.size, 3, none⟩ = some (.slice a l.length c) ∧ W1.cell? ⟨w.heap.size, 4, none⟩ = some (.int .i64 e)) (first | exact HC.out _ HG3.out | exact HC.out _ HG2.out | exact HC.out _ HGD.out) ((first | (go_at_call 57; refine Calls.mono (HSP.out _ HBD.out) ?_; rintro e2 w2 ⟨rfl, HH2⟩; have HG2 : Hid (Gro g W0 w2) := HGD.out.trans HH2.out.2) | (go_at_call 56; refine Calls.mono (HEL2.out _ (HG0.out.trans HG2.out) HH2.out.1) ?_; rintro e3 w3 ⟨rfl, HH3⟩; have HG3 : Hid (Gro g W0 w3) := HG2.out.trans HH3.out.2)))
  go_wp2
  go_ret
  refine ⟨?_, ?_, HG0.out.trans HG3.out⟩
  · simp
  · rw [← List.append_assoc]; exact HH3.out.1
set_option maxRecDepth 100000 in
set_option maxHeartbeats 2000000 in
theorem data_num (k : Int) (n : Int) (s : ByteArray) (a : Option Addr) (c : Nat) (e : Int) (l : List V) (cd body g cap n₀ : Nat) (xs : List Nat) (w : World) (hcd : cd < 256) (hlay : cd / 16 = 5 ∨ cd / 16 = 6 ∨ cd / 16 = 7 ∨ cd / 16 = 8) (hn0 : 0 ≤ n) (hn1 : n < 18446744073709551616) (hroom : xs.length + nwid cd ≤ cap) (hb : Buf w g cap xs) :
    Calls Tryz.prog 36 #[.slice (some ⟨g, 0, none⟩) xs.length cap, .agg #[.int .i64 k, .int .u64 n, .string s, .slice a l.length c, .int .i64 e], .int .u8 (cd : Int), .int .i64 (body : Int)] w (Wrote w g cap xs (digs n.toNat (nwid cd))) := by
  obtain ⟨i0, hi0, hz1⟩ := info8
  have hgl := hb.lt
  have HB := hide hb
  have hnw : 1 ≤ nwid cd ∧ nwid cd ≤ 8 := by unfold nwid; split <;> (try split) <;> (try split) <;> omega
  have HNW : Hid (∀ W1, Calls Tryz.prog 58 #[.int .u8 (cd : Int)] W1 fun e w' => e = .returned (.int .i64 ((nwid cd : Nat) : Int)) ∧ W1 = w') := fun W1 => numberWidth_any cd (by omega) (by omega) W1
  have HPU : Hid (∀ W1, Calls Tryz.prog 55 #[.int .u64 n, .int .i64 ((nwid cd : Nat) : Int)] W1 fun e w' => e = .returned (.slice (some ⟨W1.heap.size, 0, none⟩) (nwid cd) (nwid cd)) ∧ w'.rowIs W1.heap.size 5 (nwid cd) (fun i => .int .u8 ((dig n.toNat (nwid cd - 1 - i) : Nat) : Int)) ∧ w'.heap.size = W1.heap.size + 1 ∧ Below W1.heap.size W1 w') := fun W1 => by
    have := put_yes n.toNat (nwid cd) W1 (by omega) hnw.1 hnw.2
    rw [Int.toNat_of_nonneg hn0] at this
    exact this
  generalize nwid cd = nw at HNW HPU hnw hroom ⊢
  generalize n.toNat = nn at HPU ⊢
  have hcs : ∃ q : Nat, cd / 16 = q ∧ (q = 5 ∨ q = 6 ∨ q = 7 ∨ q = 8) := ⟨_, rfl, hlay⟩
  obtain ⟨q, hq, hq4⟩ := hcs
  have HLAY0 : Hid (∀ W1, Calls Tryz.prog 54 #[.int .u8 (cd : Int)] W1 fun e w' => e = .returned (.int .u8 (q : Int)) ∧ W1 = w') := fun W1 => by
    have := layout_any cd hcd W1
    rw [hq] at this
    exact this
  clear hlay hb hcd hq hn0 hn1
  obtain ⟨W0, hW0⟩ : ∃ W0, w.alloc (Obj.cells #[.int .i64 k, .int .u64 n, .string s, .slice a l.length c, .int .i64 e] 25) = W0 := ⟨_, rfl⟩
  have HC : Hid (∀ W1, Gro g W0 W1 → W1.cell? ⟨w.heap.size, 0, none⟩ = some (.int .i64 k) ∧ W1.cell? ⟨w.heap.size, 1, none⟩ = some (.int .u64 n) ∧ W1.cell? ⟨w.heap.size, 2, none⟩ = some (.string s) ∧ W1.cell? ⟨w.heap.size, 3, none⟩ = some (.slice a l.length c) ∧ W1.cell? ⟨w.heap.size, 4, none⟩ = some (.int .i64 e)) := fun W1 hW => by
    have hh : W1.heap[w.heap.size]? = some (.cells #[.int .i64 k, .int .u64 n, .string s, .slice a l.length c, .int .i64 e] 25) := (hW.block _ (by rw [← hW0]; simp) (by simp; omega)).trans (by rw [← hW0]; exact World.alloc_heap_new _ _)
    simp [World.cell?, hh]
  have HG0 : Hid (Gro g w W0) := by show Gro g w W0; rw [← hW0]; exact (Gro.refl g w).alloc _
  have HB0 : Hid (Buf W0 g cap xs) := by show Buf W0 g cap xs; rw [← hW0]; exact HB.out.alloc _
  have hsw0 : w.heap.size < W0.heap.size := by rw [← hW0]; simp
  have HW0 := hide hW0
  clear hW0
  obtain ⟨q0, q1, q2, q3, q4⟩ := HC.out W0 (Gro.refl _ _)
  have HBD : Hid (Buf W0.drew g cap xs) := HB0.out.kept rfl
  have HGD : Hid (Gro g W0 W0.drew) := (Gro.refl g W0).drew
  rcases hq4 with rfl | rfl | rfl | rfl
  all_goals
    go_enter Tryz.func36, Tryz.ntmps36
    go_wp2_with fail
    rw [HW0.out]
    refine Calls.mono (HLAY0.out _) ?_
    rintro e1 w1 ⟨rfl, rfl⟩
    go_wp2_with fail
    go_region_held_law (fun W1 => W1.cell? ⟨w.heap.size, 0, none⟩ = some (.int .i64 k) ∧ W1.cell? ⟨w.heap.size, 1, none⟩ = some (.int .u64 n) ∧ W1.cell? ⟨w.heap.size, 2, none⟩ = some (.string s) ∧ W1.cell? ⟨w.heap.size, 3, none⟩ = some (.slice a l.length c) ∧ W1.cell? ⟨w.heap.size, 4, none⟩ = some (.int .i64 e)) (first | exact HC.out _ HG4.out | exact HC.out _ HG3.out | exact HC.out _ HGD.out) ((first | (go_at_call 58; refine Calls.mono (HNW.out _) ?_; rintro e2 w2 ⟨rfl, rfl⟩) | (go_at_call 55; refine Calls.mono (HPU.out _) ?_; rintro e3 w3 ⟨rfl, HR3, hz, hb3⟩; have HN3 := hide (digs_news HR3); have HG3 : Hid (Gro g W0 w3) := HGD.out.trans (Gro.of_below hb3); have HB3 : Hid (Buf w3 g cap xs) := HBD.out.below hb3; clear HR3 hz hb3) | (refine step_append_in rfl (.tmp 65) (.tmp 70) 28 rfl g 5 i0 1 Tryz.underlying28 hi0 hz1 g xs.length cap (xs.map bV) (by first | rfl | simp [Act.eval, Act.put]) HB3.out ⟨W0.heap.size, 0, none⟩ nw nw ((digs nn nw).map bV) (by first | rfl | simp [Act.eval, Act.put]) (by simp [digs_length]) HN3.out (map_news _) hroom ?_; intro w4 hown4 hgr4; have HG4 : Hid (Gro g W0 w4) := HG3.out.trans hgr4; have HB4 : Hid (Buf w4 g cap (xs ++ digs nn nw)) := buf_app hown4 (digs_length _ _); clear hown4 hgr4)))
    go_wp2
    go_ret
    refine ⟨?_, HB4.out, HG0.out.trans HG4.out⟩
    simp [digs_length]
end
end Go.Proofs.YthhlpjhkeendcaaGreatDoor
