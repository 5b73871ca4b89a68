
/- Stage 17: the line of free entries: Len, Less, Swap, Push, Pop. -/
import Derived.Test.YtnbhifakfehefaaKOrd
import Derived.Deep.RegionHeldLaw
import Derived.BigQuiet
namespace Go.Proofs.Ytnbhifakfehefaa
open Go.RowKit
set_option linter.unusedVariables false
set_option linter.unusedSimpArgs false
theorem IB.free {w : World} {b : Nat} {i : It} (h : IB w b i) (o : Nat) : w.frozen? ⟨b, o, none⟩ = false := by
  unfold IB at h
  simp [World.frozen?, h]
def ptr (b : Nat) : Value := .pointer (some ⟨b, 0, none⟩)
def It.at (i : It) (p : Int) : It := { i with pos := p }
/-- the items of a line stand in its row, each knows its place -/
structure Lx (w : World) (B : Nat) (F : Value) (H : List Nat) (E : Nat → It) : Prop where
  row : w.ownsRow B 67 1 F H.length (H.map ptr)
  it : ∀ (k b : Nat), H[k]? = some b → IB w b ((E b).at (k : Int))
  nd : H.Nodup
  len : H.length ≤ 4096
theorem cell_lt {w : World} {b o : Nat} {v : Value} (h : w.cell? ⟨b, o, none⟩ = some v) : b < w.heap.size := by
  unfold World.cell? at h
  by_cases hb : b < w.heap.size
  · exact hb
  · rw [Array.getElem?_eq_none (show w.heap.size ≤ b by omega)] at h
    simp at h
theorem cell_on {w w' : World} (hb : Below w.heap.size w w') {b o : Nat} {v : Value} (h : w.cell? ⟨b, o, none⟩ = some v) : w'.cell? ⟨b, o, none⟩ = some v := (hb.cell (p := ⟨b, o, none⟩) (cell_lt h)).trans h
/-- what heap operations may turn -/
def inF (F : Value) (H : List Nat) (k : Nat) : Prop := F.ownBlock = some k ∨ k ∈ H
theorem Lx.cell {w : World} {B : Nat} {F : Value} {H : List Nat} {E : Nat → It} (h : Lx w B F H E) (k : Nat) (hk : k < H.length) :
    ∃ g cap, F = .slice (some ⟨g, 0, none⟩) H.length cap ∧ w.cell? ⟨g, k, none⟩ = some (ptr H[k]) ∧ w.frozen? ⟨g, k, none⟩ = false ∧ H.length ≤ cap := by
  rcases h.row.2 with ⟨_, h0⟩ | ⟨g, cap, cur, rfl, h1, h2, h3, h4, h5, h6⟩
  · omega
  · refine ⟨g, cap, rfl, ?_, by simp [World.frozen?, h2], h3⟩
    have := h.row.cellAt k (by omega)
    rw [this, List.getElem?_map, List.getElem?_eq_getElem hk]
    rfl
set_option maxHeartbeats 2000000 in
theorem len_line (F : Value) (n c : Nat) (a : Option Addr) (w : World) : Calls Try.prog 91 #[.slice a n c] w fun e w' => e = .returned (.int .i64 n) ∧ w' = w := by
  go_enter Try.func91, Try.ntmps91
  go_wp2
  go_ret
  exact ⟨rfl, rfl⟩
theorem item_cells {w : World} {B : Nat} {F : Value} {H : List Nat} {E : Nat → It} (h : Lx w B F H E) (k : Nat) (hk : k < H.length) : IB w H[k] ((E H[k]).at (k : Int)) := h.it k _ (List.getElem?_eq_getElem hk)
set_option maxRecDepth 100000 in
set_option maxHeartbeats 4000000 in
theorem less_raw (g n cap i j p q : Nat) (x y : It) (w : World) (hi : i < n) (hj : j < n) (hn : n ≤ 4096) (ci : w.cell? ⟨g, i, none⟩ = some (ptr p)) (cj : w.cell? ⟨g, j, none⟩ = some (ptr q)) (hp : IB w p x) (hq : IB w q y) :
    Calls Try.prog 92 #[.slice (some ⟨g, 0, none⟩) n cap, .int .i64 (i : Int), .int .i64 (j : Int)] w fun e w' => e = .returned (.bool (decide (ordZ x y < 0))) ∧ Below w.heap.size w w' := by
  obtain ⟨a0, a1, a2, a3, a4, a5, a6, _⟩ := hp.cells
  obtain ⟨b0, b1, b2, b3, b4, b5, b6, _⟩ := hq.cells
  have HOD : Hid (∀ w1, Calls Try.prog 35 #[x.ent, y.ent] w1 fun e w' => e = .returned (.int .i64 (ordZ x y)) ∧ Below w1.heap.size w1 w') := fun w1 => order_any _ _ w1
  have hmx : Try.prog.follows .mixedOrders = true := by kernel_rfl
  have HD : Hid (Below w.heap.size w w.drew) := (Below.refl _ w).drew
  unfold ptr at ci cj
  unfold It.ent at HOD
  have HSK : Hid (∀ W1 : World, Hid (Below w.heap.size w W1) → W1.cell? ⟨g, i, none⟩ = some (.pointer (some ⟨p, 0, none⟩)) ∧ W1.cell? ⟨g, j, none⟩ = some (.pointer (some ⟨q, 0, none⟩)) ∧ W1.cell? ⟨p, 0, none⟩ = some (.int .i64 x.seq) ∧ W1.cell? ⟨p, 1, none⟩ = some (.int .i64 x.pri) ∧ W1.cell? ⟨p, 2, none⟩ = some (.int .i64 x.exp) ∧ W1.cell? ⟨p, 3, none⟩ = some (.bool x.dur) ∧ W1.cell? ⟨p, 4, none⟩ = some (.int .i64 x.cnt) ∧ W1.cell? ⟨p, 5, none⟩ = some (.int .i64 x.hol) ∧ W1.cell? ⟨p, 6, none⟩ = some x.dat ∧ W1.cell? ⟨q, 0, none⟩ = some (.int .i64 y.seq) ∧ W1.cell? ⟨q, 1, none⟩ = some (.int .i64 y.pri) ∧ W1.cell? ⟨q, 2, none⟩ = some (.int .i64 y.exp) ∧ W1.cell? ⟨q, 3, none⟩ = some (.bool y.dur) ∧ W1.cell? ⟨q, 4, none⟩ = some (.int .i64 y.cnt) ∧ W1.cell? ⟨q, 5, none⟩ = some (.int .i64 y.hol) ∧ W1.cell? ⟨q, 6, none⟩ = some y.dat) := fun W1 hb => ⟨cell_on hb.out ci, cell_on hb.out cj, cell_on hb.out a0, cell_on hb.out a1, cell_on hb.out a2, cell_on hb.out a3, cell_on hb.out a4, cell_on hb.out a5, cell_on hb.out a6, cell_on hb.out b0, cell_on hb.out b1, cell_on hb.out b2, cell_on hb.out b3, cell_on hb.out b4, cell_on hb.out b5, cell_on hb.out b6⟩
  clear hp hq
  go_enter Try.func92, Try.ntmps92
  go_wp2_with fail
  go_region_held (fun W1 => W1.cell? ⟨g, i, none⟩ = some (.pointer (some ⟨p, 0, none⟩)) ∧ W1.cell? ⟨g, j, none⟩ = some (.pointer (some ⟨q, 0, none⟩)) ∧ W1.cell? ⟨p, 0, none⟩ = some (.int .i64 x.seq) ∧ W1.cell? ⟨p, 1, none⟩ = some (.int .i64 x.pri) ∧ W1.cell? ⟨p, 2, none⟩ = some (.int .i64 x.exp) ∧ W1.cell? ⟨p, 3, none⟩ = some (.bool x.dur) ∧ W1.cell? ⟨p, 4, none⟩ = some (.int .i64 x.cnt) ∧ W1.cell? ⟨p, 5, none⟩ = some (.int .i64 x.hol) ∧ W1.cell? ⟨p, 6, none⟩ = some x.dat ∧ W1.cell? ⟨q, 0, none⟩ = some (.int .i64 y.seq) ∧ W1.cell? ⟨q, 1, none⟩ = some (.int .i64 y.pri) ∧ W1.cell? ⟨q, 2, none⟩ = some (.int .i64 y.exp) ∧ W1.cell? ⟨q, 3, none⟩ = some (.bool y.dur) ∧ W1.cell? ⟨q, 4, none⟩ = some (.int .i64 y.cnt) ∧ W1.cell? ⟨q, 5, none⟩ = some (.int .i64 y.hol) ∧ W1.cell? ⟨q, 6, none⟩ = some y.dat) (first | exact HSK.out _ HD | exact HSK.out _ hbn) (first | (go_at_call 35; refine Calls.mono (HOD.out _) ?_; rintro e w3 ⟨rfl, hb3⟩; have hbn := hide (belOn HD.out HD.out.size hb3)))
  go_wp2
  go_ret
  exact ⟨rfl, hbn.out⟩
theorem blk_set (w : World) (b o : Nat) (v : Value) {cur : Array Value} {t : TypeId} {fr : Nat × Nat} (h : w.heap[b]? = some (.cells cur t fr)) : (w.setCell ⟨b, o, none⟩ v).heap[b]? = some (.cells (cur.setIfInBounds o v) t fr) := by
  simp [World.setCell, Array.getElem?_modify, h]
theorem cell_blk {w : World} {g i : Nat} {a : Value} (h : w.cell? ⟨g, i, none⟩ = some a) : ∃ cur t fr, w.heap[g]? = some (.cells cur t fr) ∧ cur[i]? = some a := by
  unfold World.cell? at h
  split at h
  · rename_i c t fr hg
    exact ⟨c, t, fr, hg, by simpa using h⟩
  · cases h
theorem set_get1 {w : World} {g i j : Nat} {a v u : Value} (h : w.cell? ⟨g, i, none⟩ = some a) (hij : i ≠ j) : (((w.setCell ⟨g, i, none⟩ v).setCell ⟨g, j, none⟩ u).drew).cell? ⟨g, i, none⟩ = some v := by
  obtain ⟨cur, t, fr, hg, hc⟩ := cell_blk h
  have hl : i < cur.size := (Array.getElem?_eq_some_iff.1 hc).1
  have := blk_set _ g j u (blk_set w g i v hg)
  show ((w.setCell ⟨g, i, none⟩ v).setCell ⟨g, j, none⟩ u).cell? ⟨g, i, none⟩ = some v
  simp only [World.cell?, this]
  show ((cur.setIfInBounds i v).setIfInBounds j u)[i]? = some v
  rw [Array.getElem?_setIfInBounds_ne (fun e => hij e.symm)]
  simp [hl]
theorem set_get2 {w : World} {g i j : Nat} {a v u : Value} (h : w.cell? ⟨g, j, none⟩ = some a) (hij : i ≠ j) : (((w.setCell ⟨g, i, none⟩ v).setCell ⟨g, j, none⟩ u).drew).cell? ⟨g, j, none⟩ = some u := by
  obtain ⟨cur, t, fr, hg, hc⟩ := cell_blk h
  have hl : j < cur.size := (Array.getElem?_eq_some_iff.1 hc).1
  have := blk_set _ g j u (blk_set w g i v hg)
  show ((w.setCell ⟨g, i, none⟩ v).setCell ⟨g, j, none⟩ u).cell? ⟨g, j, none⟩ = some u
  simp only [World.cell?, this]
  show ((cur.setIfInBounds i v).setIfInBounds j u)[j]? = some u
  simp [hl]
/-- the world behind a Swap -/
def swW (w : World) (g i j p q : Nat) : World := (((((w.setCell ⟨g, i, none⟩ (ptr q)).setCell ⟨g, j, none⟩ (ptr p)).drew).setCell ⟨q, 7, none⟩ (.int .i64 (i : Int))).setCell ⟨p, 7, none⟩ (.int .i64 (j : Int))).drew
set_option maxRecDepth 100000 in
set_option maxHeartbeats 4000000 in
theorem swap_raw (g n cap i j p q : Nat) (x y : It) (w : World) (hi : i < n) (hj : j < n) (hij : i ≠ j) (hn : n ≤ 4096) (ci : w.cell? ⟨g, i, none⟩ = some (ptr p)) (cj : w.cell? ⟨g, j, none⟩ = some (ptr q)) (fi : w.frozen? ⟨g, i, none⟩ = false) (fj : w.frozen? ⟨g, j, none⟩ = false) (hp : IB w p x) (hq : IB w q y) (hpq : p ≠ q) (hgp : g ≠ p) (hgq : g ≠ q) :
    Calls Try.prog 93 #[.slice (some ⟨g, 0, none⟩) n cap, .int .i64 (i : Int), .int .i64 (j : Int)] w fun e w' => e = .returned (.tuple #[]) ∧ w' = swW w g i j p q := by
  have a7 := hp.cells.2.2.2.2.2.2.2
  have b7 := hq.cells.2.2.2.2.2.2.2
  have hmx : Try.prog.follows .mixedOrders = true := by kernel_rfl
  have fp : w.frozen? ⟨p, 7, none⟩ = false := hp.free 7
  have fq : w.frozen? ⟨q, 7, none⟩ = false := hq.free 7
  unfold ptr at ci cj
  have hji : ¬ j = i := fun e => hij e.symm
  have HP := hide hp
  have HQ := hide hq
  clear hp hq
  go_enter Try.func93, Try.ntmps93
  go_wp2_with fail
  go_region
  obtain ⟨W1, hW1⟩ : ∃ W1, ((w.setCell ⟨g, i, none⟩ (.pointer (some ⟨q, 0, none⟩))).setCell ⟨g, j, none⟩ (.pointer (some ⟨p, 0, none⟩))).drew = W1 := ⟨_, rfl⟩
  have hset : ∀ b o v, b ≠ g → w.cell? ⟨b, o, none⟩ = some v → W1.cell? ⟨b, o, none⟩ = some v := fun b o v hb hv => by
    rw [← hW1, ← hv]
    exact World.cell?_of_block (a := ⟨b, o, none⟩) ((blk_set_other _ ⟨g, j, none⟩ _ b hb).trans (blk_set_other _ ⟨g, i, none⟩ _ b hb))
  have d7 := hset p 7 _ (fun e => hgp e.symm) a7
  have e7 := hset q 7 _ (fun e => hgq e.symm) b7
  have gp : W1.frozen? ⟨p, 7, none⟩ = false := by
    have := (show IB W1 p x from by rw [← hW1]; exact ((blk_set_other _ ⟨g, j, none⟩ _ p (fun e => hgp e.symm)).trans (blk_set_other _ ⟨g, i, none⟩ _ p (fun e => hgp e.symm))).trans HP.out)
    exact this.free 7
  have gq : W1.frozen? ⟨q, 7, none⟩ = false := by
    have := (show IB W1 q y from by rw [← hW1]; exact ((blk_set_other _ ⟨g, j, none⟩ _ q (fun e => hgq e.symm)).trans (blk_set_other _ ⟨g, i, none⟩ _ q (fun e => hgq e.symm))).trans HQ.out)
    exact this.free 7
  have di : W1.cell? ⟨g, i, none⟩ = some (.pointer (some ⟨q, 0, none⟩)) := by
    rw [← hW1]
    exact set_get1 ci hij
  have dj : W1.cell? ⟨g, j, none⟩ = some (.pointer (some ⟨p, 0, none⟩)) := by
    rw [← hW1]
    exact set_get2 cj hij
  have HW1 := hide hW1
  rw [hW1]
  clear hW1 ci cj fi fj a7 b7 fp fq hset
  go_wp2_with fail
  go_region
  go_wp2
  go_end0
  refine ⟨rfl, ?_⟩
  rw [← HW1.out]
  rfl
end Go.Proofs.Ytnbhifakfehefaa
