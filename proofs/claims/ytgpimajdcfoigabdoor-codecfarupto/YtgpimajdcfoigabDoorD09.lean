import Derived.Test.YtgpimajdcfoigabDoorProg
import Derived.Test.YtgpimajdcfoigabDoorD06
import Derived.WalkLawsBesides
import Derived.Handy
import Derived.Outline
import Derived.Deep.OwnRows
import Derived.Test.YtgpimajdcfoigabDoorD08
import Derived.Room.AppendFits
import Derived.OwnWalk
import Derived.Laws.OwnMore

/- octet.isWidth, Put: their contracts. Bytes that are written behind one another into a row with room. -/
namespace Go.Proofs.YtgpimajdcfoigabDoor
open Go.RowKit
set_option linter.unusedVariables false

theorem isWidth_yes (x : Int) (w : World) (h1 : 1 ≤ x) (h8 : x ≤ 8) :
    Calls Tryd.prog 53 #[.int .i64 x] w fun e w' => e = .returned (.bool true) ∧ w = w' := by
  go_enter Tryd.func53, Tryd.ntmps53
  go_wp2
  go_ret
  exact ⟨rfl, rfl⟩
theorem isWidth_no (x : Int) (w : World) (h : x < 1 ∨ 8 < x) :
    Calls Tryd.prog 53 #[.int .i64 x] w fun e w' => e = .returned (.bool false) ∧ w = w' := by
  rcases h with h | h
  · go_enter Tryd.func53, Tryd.ntmps53
    go_wp2
    go_ret
    exact ⟨rfl, rfl⟩
  · have h1 : 1 ≤ x := by omega
    have hd : decide (x ≤ 8) = false := by simp; omega
    go_enter Tryd.func53, Tryd.ntmps53
    go_wp2
    go_ret
    exact ⟨rfl, rfl⟩

theorem Tryd.info5 : (Tryd.prog.info? 5).map (fun i => (i.zero, i.size, i.bytes)) = some (some (.int .u8 0), 1, 1) := by kernel_rfl

theorem put_no (N : Int) (x : Int) (w : World) (h : x < 1 ∨ 8 < x) :
    Calls Tryd.prog 34 #[.int .u64 N, .int .i64 x] w fun e w' => e = .returned (.slice none 0 0) ∧ w = w' := by
  go_enter Tryd.func34, Tryd.ntmps34
  go_wp2_with (go_at_call 53; refine (isWidth_no _ _ h).mono ?_; rintro e w' ⟨rfl, rfl⟩)
  go_ret
  exact ⟨rfl, rfl⟩


theorem put_row {wr : World} {B N n j p M : Nat} (hrow : wr.rowIs B 5 n (fun i => .int .u8 (if n ≤ i + j then (dig N (n - 1 - i) : Int) else 0))) (hp : p + j + 1 = n) (hM : M = N / 256 ^ j) :
    (wr.setCell ⟨B, p, none⟩ (.int .u8 ((M : Int) % 256))).rowIs B 5 n (fun i => .int .u8 (if n ≤ i + (j + 1) then (dig N (n - 1 - i) : Int) else 0)) := by
  refine (hrow.set p _).congr fun i hi => ?_
  by_cases he : i = p
  · subst he
    rw [if_pos rfl, if_pos (by omega)]
    congr 1
    unfold dig
    rw [show n - 1 - i = j by omega, ← hM]
    omega
  · rw [if_neg he]
    by_cases h2 : n ≤ i + j
    · rw [if_pos h2, if_pos (by omega)]
    · rw [if_neg h2, if_neg (by omega)]
theorem div_step (N j : Nat) : N / 256 ^ j / 256 = N / 256 ^ (j + 1) := by rw [Nat.div_div_eq_div_mul, Nat.pow_succ]

set_option maxHeartbeats 1000000 in
theorem put_yes (N n : Nat) (w : World) (hN : N < 18446744073709551616) (h1 : 1 ≤ n) (h8 : n ≤ 8) :
    Calls Tryd.prog 34 #[.int .u64 (N : Int), .int .i64 (n : Int)] w fun e w' => e = .returned (.slice (some ⟨w.heap.size, 0, none⟩) n n) ∧
      w'.rowIs w.heap.size 5 n (fun i => .int .u8 ((dig N (n - 1 - i) : Nat) : Int)) ∧ w'.heap.size = w.heap.size + 1 ∧ Below w.heap.size w w' := by
  have hmk := run_make_row' (P := Tryd.prog) 28 5 (.int .u8 0) 1 Tryd.underlying28 Tryd.info5 rfl .i64 .i64 n (by omega) (by omega)
  go_enter Tryd.func34, Tryd.ntmps34
  go_wp2_with (go_at_call 53; refine (isWidth_yes _ _ (by omega) (by omega)).mono ?_; rintro e w' ⟨rfl, rfl⟩)
  go_loopw [0, 6] (fun m i wr => ∃ z : Int, ∃ j M : Nat, i = .int .i64 z ∧ m = .int .u64 (M : Int) ∧ M < 18446744073709551616 ∧ z + j + 1 = n ∧ -1 ≤ z ∧ Hid (M = N / 256 ^ j) ∧
      wr.rowIs w.heap.size 5 n (fun i => .int .u8 (if n ≤ i + j then (dig N (n - 1 - i) : Int) else 0)) ∧ wr.heap.size = w.heap.size + 1 ∧ Below w.heap.size w wr) (fun _ i _ => (intOf i + 1).toNat)
  case atStart =>
    refine ⟨_, 0, N, rfl, rfl, hN, by omega, by omega, by simp [Hid], ?_, by simp, (Below.refl _ _).alloc (Nat.le_refl _) _⟩
    exact (World.rowIs_made _ _ _ _).congr (fun i hi => by rw [if_neg (by omega)])
  case round =>
    obtain ⟨z, j, M, rfl, rfl, hM, hz, hz1, HM, hrow, hsz, hb⟩ := hrel
    by_cases hz0 : 0 ≤ z
    · obtain ⟨p, rfl⟩ := Int.eq_ofNat_of_zero_le hz0
      have hc := hrow.cell (show p < n by omega)
      have hf := hrow.frozen p
      generalize (if n ≤ p + j then (dig N (n - 1 - p) : Int) else 0) = old at hc
      have HR : Hid (wr.rowIs w.heap.size 5 n (fun i => .int .u8 (if n ≤ i + j then (dig N (n - 1 - i) : Int) else 0))) := hrow
      clear hrow
      go_wp2
      go_roundw
      case rel =>
        refine ⟨_, j + 1, M / 256, rfl, by go_num, by omega, by omega, by omega, ?_, put_row HR.out (by omega) HM.out, by simpa using hsz, hb.setCell (Nat.le_refl _) _⟩
        show M / 256 = N / 256 ^ (j + 1)
        rw [HM.out, div_step]
      case measure => simp [intOf]
    · have HR : Hid (wr.rowIs w.heap.size 5 n (fun i => .int .u8 (if n ≤ i + j then (dig N (n - 1 - i) : Int) else 0))) := hrow
      clear hrow
      go_wp2
      go_ret
      exact ⟨rfl, HR.out.congr (fun i hi => by rw [if_pos (by omega)]), hsz, hb⟩
end Go.Proofs.YtgpimajdcfoigabDoor
namespace Go.Proofs.YtgpimajdcfoigabDoor
open Go.RowKit
set_option linter.unusedVariables false
set_option linter.unusedSimpArgs false

def bV (c : Nat) : Value := .int .u8 (c : Int)
theorem str_cells (s : ByteArray) : Lib.strCells s = (txt s).map bV := by
  unfold Lib.strCells txt bV
  rw [List.map_map]
  rfl
/-- the row g has room for cap bytes, xs of them are written -/
def Buf (w : World) (g cap : Nat) (xs : List Nat) : Prop := w.ownsRow g 5 1 (.slice (some ⟨g, 0, none⟩) xs.length cap) xs.length (xs.map bV)
theorem Buf.lt {w : World} {g cap : Nat} {xs : List Nat} (h : Buf w g cap xs) : g < w.heap.size := (World.ownsRow.lt h g rfl).2
theorem Buf.kept {w w' : World} {g cap : Nat} {xs : List Nat} (h : Buf w g cap xs) (hb : w'.heap[g]? = w.heap[g]?) : Buf w' g cap xs := by
  refine ⟨h.1, ?_⟩
  rcases h.2 with ⟨e, _⟩ | ⟨g', cap', cur, hv, hb1, hg, rest⟩
  · cases e
  · cases hv
    exact .inr ⟨g, cap, cur, rfl, hb1, hb.trans hg, rest⟩
theorem Buf.below {w w' : World} {g cap : Nat} {xs : List Nat} (h : Buf w g cap xs) (hb : Below w.heap.size w w') : Buf w' g cap xs := h.kept (hb.block g h.lt)
theorem Buf.fits {w : World} {g cap : Nat} {xs : List Nat} (h : Buf w g cap xs) : xs.length ≤ cap := by
  rcases h.2 with ⟨e, _⟩ | ⟨g', cap', cur, hv, hb1, hg, hle, _⟩
  · cases e
  · cases hv
    exact hle
theorem info8 : ∃ i, Tryd.prog.info? 5 = some i ∧ i.size = 1 := by
  obtain ⟨i, hi, hzz⟩ := Option.map_eq_some_iff.1 Tryd.info5
  simp only [Prod.mk.injEq] at hzz
  exact ⟨i, hi, hzz.2.1⟩
/-- all but the row g stays -/
def Gro (g : Nat) (w w' : World) : Prop := w.grownBy w' (some g)
theorem Gro.trans {g : Nat} {a b c : World} (h : Gro g a b) (k : Gro g b c) : Gro g a c :=
  ⟨k.os.trans h.os, k.tape.trans h.tape, k.output.trans h.output, Nat.le_trans h.size k.size, fun q hq hne => (k.block q (Nat.lt_of_lt_of_le hq h.size) hne).trans (h.block q hq hne)⟩
theorem Gro.refl (g : Nat) (w : World) : Gro g w w := World.grownBy.refl _ _
theorem Gro.of_below {g : Nat} {a b : World} (h : Below a.heap.size a b) : Gro g a b := ⟨h.os, h.tape, h.output, h.size, fun q hq _ => h.block q hq⟩
theorem Gro.drew {g : Nat} {a b : World} (h : Gro g a b) : Gro g a b.drew := ⟨h.os, h.tape, h.output, h.size, fun q hq hne => h.block q hq hne⟩
theorem Gro.alloc {g : Nat} {a b : World} (h : Gro g a b) (o : Obj) : Gro g a (b.alloc o) := h.trans (World.grownBy_alloc b o _)
theorem Gro.below {g n : Nat} {a b : World} (h : Gro g a b) (hg : n ≤ g) (hn : n ≤ a.heap.size) : Below n a b :=
  ⟨h.os, h.tape, h.output, h.size, fun q hq => h.block q (Nat.lt_of_lt_of_le hq hn) (by simp; omega)⟩
theorem SzTab.gro {g : Nat} {w w' : World} (h : SzTab w) (hg : Gro g w w') (h0 : 0 < g) : SzTab w' := by
  have l0 := h.lt
  have hb := hg.block 0 l0 (by simp; omega)
  exact fun k hk => ⟨(World.cell?_of_block hb).trans (h k hk).1, (World.cell?_of_block hb).trans (h k hk).2⟩
theorem Lies.gro {g n₀ : Nat} {w w' : World} {v : V} (h : Lies n₀ w v) (hg : Gro g w w') (h1 : n₀ ≤ g) (h2 : n₀ ≤ w.heap.size) : Lies n₀ w' v :=
  LiesIn.keep h (fun b hb o => World.cell?_of_block (hg.block b (by omega) (by simp; omega))) (fun _ h => h)
/-- behind xs ys was written -/
def Wrote (w : World) (g cap : Nat) (xs ys : List Nat) (e : Ending) (w' : World) : Prop := e = .returned (.slice (some ⟨g, 0, none⟩) (xs ++ ys).length cap) ∧ Hid (Buf w' g cap (xs ++ ys) ∧ Gro g w w')
theorem map_news (l : List Nat) : ∀ u ∈ l.map bV, u.oneCell' = true := fun u hu => by obtain ⟨c, _, rfl⟩ := List.mem_map.1 hu; rfl
theorem buf_app {w' : World} {g cap m : Nat} {xs ys : List Nat} (h : w'.ownsRow g 5 1 (.slice (some ⟨g, 0, none⟩) (xs.length + m) cap) (xs.length + m) (xs.map bV ++ ys.map bV)) (hm : ys.length = m) : Buf w' g cap (xs ++ ys) := by
  unfold Buf
  rw [List.map_append, List.length_append, hm]
  exact h
theorem digs_news {w : World} {b N k : Nat} (h : w.rowIs b 5 k (fun i => .int .u8 ((dig N (k - 1 - i) : Nat) : Int))) : ∀ j u, ((digs N k).map bV)[j]? = some u → w.cell? ((⟨b, 0, none⟩ : Addr).add j) = some u := by
  intro j u hu
  rw [List.getElem?_map] at hu
  obtain ⟨c, hc, rfl⟩ := Option.map_eq_some_iff.1 hu
  have hj : j < k := by
    have := (List.getElem?_eq_some_iff.1 hc).1
    rwa [digs_length] at this
  have e1 : (⟨b, 0, none⟩ : Addr).add j = ⟨b, j, none⟩ := by by_cases h : j = 0 <;> simp [Addr.add, h]
  rw [e1, h.cell hj]
  have := digs_getD N k j hj
  rw [List.getD_eq_getElem?_getD, hc] at this
  simp only [Option.getD_some] at this
  rw [this]
  rfl
theorem one_news (w : World) (c : Nat) (t : TypeId) : ∀ j u, ([c].map bV)[j]? = some u → (w.alloc (.cells #[.int .u8 (c : Int)] t)).cell? ((⟨w.heap.size, 0, none⟩ : Addr).add j) = some u := by
  intro j u hu
  cases j with
  | zero =>
    simp only [List.map_cons, List.getElem?_cons_zero, Option.some.injEq] at hu
    subst hu
    simp [Addr.add, World.cell?_alloc_at, bV]
  | succ j => simp at hu
set_option maxHeartbeats 1000000 in
theorem writeSpan_any (x : V) (wd body g cap : Nat) (xs : List Nat) (w : World) (hwd : wd = 1 ∨ wd = 4) (hbody : body ≤ 1000000000000) (hl : x.l.length ≤ 2199023255552) (hb : Buf w g cap xs) (hroom : xs.length + (wd + wd) ≤ cap) (hc : cap ≤ 1000000000000) :
    Calls Tryd.prog 36 #[.slice (some ⟨g, 0, none⟩) xs.length cap, x.val, .int .i64 (wd : Int), .int .i64 (body : Int)] w (Wrote w g cap xs (digs (wd + body) wd ++ digs x.l.length wd)) := by
  obtain ⟨i0, hi0, hz1⟩ := info8
  have hg := hb.lt
  rw [V.val_eq]
  have HB := hide hb
  clear hb
  obtain ⟨W0, hW0⟩ : ∃ W0, w.alloc (Obj.cells #[.int .i64 x.k, .int .u64 x.n, .string x.s, .slice x.a x.l.length x.c, .int .i64 x.e] 25) = W0 := ⟨_, rfl⟩
  have hs0 : W0.heap.size = w.heap.size + 1 := by rw [← hW0]; simp
  have HC : Hid (∀ W1, Gro g W0 W1 → W1.cell? ⟨w.heap.size, 3, none⟩ = some (.slice x.a x.l.length x.c)) := fun W1 hW => by
    have hh : W1.heap[w.heap.size]? = some (.cells #[.int .i64 x.k, .int .u64 x.n, .string x.s, .slice x.a x.l.length x.c, .int .i64 x.e] 25) := (hW.block _ (by omega) (by simp; omega)).trans (by rw [← hW0]; exact World.alloc_heap_new _ _)
    show W1.cell? _ = _
    simp [World.cell?, hh]
  have HG0 : Hid (Gro g w W0) := by show Gro g w W0; rw [← hW0]; exact (Gro.refl g w).alloc _
  have HB0 : Hid (Buf W0 g cap xs) := by show Buf W0 g cap xs; rw [← hW0]; exact HB.out.alloc _
  have HW0 := hide hW0
  have HS0 := hide hs0
  clear hW0 hs0
  have HP1 : Hid (∀ W1, Calls Tryd.prog 34 #[.int .u64 (((wd + body : Nat) : Int)), .int .i64 (wd : Int)] W1 fun e w' => e = .returned (.slice (some ⟨W1.heap.size, 0, none⟩) wd wd) ∧ w'.rowIs W1.heap.size 5 wd (fun i => .int .u8 ((dig (wd + body) (wd - 1 - i) : Nat) : Int)) ∧ w'.heap.size = W1.heap.size + 1 ∧ Below W1.heap.size W1 w') := fun W1 => put_yes (wd + body) wd W1 (by omega) (by omega) (by omega)
  have HP2 : Hid (∀ W1, Calls Tryd.prog 34 #[.int .u64 ((x.l.length : Nat) : Int), .int .i64 (wd : Int)] W1 fun e w' => e = .returned (.slice (some ⟨W1.heap.size, 0, none⟩) wd wd) ∧ w'.rowIs W1.heap.size 5 wd (fun i => .int .u8 ((dig x.l.length (wd - 1 - i) : Nat) : Int)) ∧ w'.heap.size = W1.heap.size + 1 ∧ Below W1.heap.size W1 w') := fun W1 => put_yes x.l.length wd W1 (by omega) (by omega) (by omega)
  have hwd' : 1 ≤ wd ∧ wd ≤ 4 := by omega
  clear hwd
  go_enter Tryd.func36, Tryd.ntmps36
  go_wp2_with fail
  rw [HW0.out]
  refine Calls.mono (HP1.out _) ?_
  rintro e1 w1 ⟨rfl, HR1, hz, hb1⟩
  have HN1 := hide (digs_news HR1)
  have HG1 : Hid (Gro g W0 w1) := Gro.of_below hb1
  have HB1 : Hid (Buf w1 g cap xs) := HB0.out.below hb1
  clear HR1 hz hb1
  go_wp2_with (at_builtin; go_loud (refine wpList_append_fits _ rfl (.tmp 9) (.tmp 15) 28 rfl g 5 i0 1 Tryd.underlying28 hi0 hz1 g xs.length cap (xs.map bV) rfl HB1.out ⟨W0.heap.size, 0, none⟩ wd wd ((digs (wd + body) wd).map bV) rfl (by simp [digs_length]) HN1.out (map_news _) (by omega) ?_; intro w2 hown2 hgr2; have HG2 : Hid (Gro g W0 w2) := HG1.out.trans hgr2; have HB2 : Hid (Buf w2 g cap (xs ++ digs (wd + body) wd)) := buf_app hown2 (digs_length _ _); have hc3 := HC.out w2 HG2.out; clear hown2 hgr2))
  refine Calls.mono (HP2.out _) ?_
  rintro e3 w3 ⟨rfl, HR3, hz, hb3⟩
  have HN3 := hide (digs_news HR3)
  have HG3 : Hid (Gro g W0 w3) := HG2.out.trans (Gro.of_below hb3)
  have HB3 : Hid (Buf w3 g cap (xs ++ digs (wd + body) wd)) := HB2.out.below hb3
  have hlx : (xs ++ digs (wd + body) wd).length = xs.length + wd := by rw [List.length_append, digs_length]
  have HLX := hide hlx
  have HB3' : Hid (w3.ownsRow g 5 1 (.slice (some ⟨g, 0, none⟩) (xs.length + wd) cap) (xs.length + wd) ((xs ++ digs (wd + body) wd).map bV)) := by
    have := HB3.out
    unfold Buf at this
    rw [hlx] at this
    exact this
  clear HR3 hz hb3 hlx
  go_wp2_with (at_builtin; go_loud (refine wpList_append_fits _ rfl (.tmp 17) (.tmp 23) 28 rfl g 5 i0 1 Tryd.underlying28 hi0 hz1 g (xs.length + wd) cap ((xs ++ digs (wd + body) wd).map bV) rfl HB3'.out ⟨w2.heap.size, 0, none⟩ wd wd ((digs x.l.length wd).map bV) rfl (by simp [digs_length]) HN3.out (map_news _) (by omega) ?_; intro w4 hown4 hgr4; have HG4 : Hid (Gro g W0 w4) := HG3.out.trans hgr4; have HB4 : Hid (Buf w4 g cap ((xs ++ digs (wd + body) wd) ++ digs x.l.length wd)) := buf_app (by rw [HLX.out]; exact hown4) (digs_length _ _); clear hown4 hgr4))
  go_ret
  refine ⟨?_, ?_, HG0.out.trans HG4.out⟩
  · simp [digs_length]; omega
  · rw [← List.append_assoc]; exact HB4.out
end Go.Proofs.YtgpimajdcfoigabDoor
