import Derived.Test.YtgpimajdcfoigabDoorProg
import Derived.Test.YtgpimajdcfoigabDoorD02
import Derived.WalkLawsBesides
import Derived.Handy
import Derived.Outline
import Derived.Test.YtgpimajdcfoigabDoorD16
import Derived.Maps.AppendAt
import Derived.RangeFuncBox
import Derived.Laws.Bits64
import Derived.Test.YtgpimajdcfoigabDoorD15

/- longshoreref02's Great. -/
namespace Go.Proofs.YtgpimajdcfoigabDoor
open Go.RowKit
set_option linter.unusedVariables false

def T.wt : T → Nat := V.fold (fun p ws => 1 + p.s.size / 64 + ws.sum) 0
def T.wts : List T → Nat
  | [] => 0
  | x :: l => T.wt x + T.wts l
theorem wts_sum (l : List T) : (l.map T.wt).sum = T.wts l := by
  induction l with
  | nil => rfl
  | cons x l ih => rw [List.map_cons, List.sum_cons, ih, T.wts]
theorem T.wt_of (k n : Int) (s : ByteArray) (e : Int) (l : List T) : T.wt (T.of k n s e l) = 1 + s.size / 64 + T.wts l := by
  rw [← wts_sum]
  unfold T.wt T.of
  rw [V.fold_of]
theorem wts_snoc (l : List V) (k : Nat) (h : k < l.length) : T.wts (V.ts (l.take (k + 1))) = T.wts (V.ts (l.take k)) + T.wt l[k].t := by
  induction l generalizing k with
  | nil => simp at h
  | cons x l ih =>
    cases k with
    | zero => simp [V.ts, T.wts]
    | succ k =>
      have := ih k (by simpa using h)
      simp only [List.take_succ_cons, V.ts, T.wts, List.getElem_cons_succ]
      omega

def WtOk (x : V) : Prop := ∀ (n : Int) (n₀ : Nat) (w : World), n₀ ≤ w.heap.size → Lies n₀ w x → 0 ≤ n → n ≤ 100000 →
  Calls Tryd.prog 13 #[x.val, .int .i64 n] w fun e w' => ∃ z, e = .returned (.int .i64 z) ∧ Hid (0 ≤ z ∧ z ≤ 35184372088832 ∧ (z ≤ 100000 → z = n + T.wt x.t)) ∧ Below w.heap.size w w'

set_option maxRecDepth 100000 in
set_option maxHeartbeats 1000000 in
theorem weigh_any : ∀ x, WtOk x := by
  refine V.ind ?_
  intro k n s a c e l ih m n₀ w hn hx h0 h1
  have HX := hide hx
  have IH := hide ih
  have ok := hx.ok
  have o1 := ok.s
  have o2 := ok.l
  have o3 := ok.c
  have OK := hide ok
  clear ok
  clear hx ih
  rw [V.val_of]
  go_enter Tryd.func13, Tryd.ntmps13
  go_wp2
  obtain ⟨W0, hW0⟩ : ∃ W0, w.alloc (Obj.cells #[.int .i64 k, .int .u64 n, .string s, .slice a l.length c, .int .i64 e] 25) = W0 := ⟨_, rfl⟩
  have c3 : W0.cell? ⟨w.heap.size, 3, none⟩ = some (.slice a l.length c) := by rw [← hW0]; simp [World.cell?_alloc_at]
  have hs0 : W0.heap.size = w.heap.size + 1 := by rw [← hW0]; simp
  have hb0 : Below w.heap.size w W0 := by rw [← hW0]; exact bel1 (Below.refl _ _) (Nat.le_refl _) _
  rw [hW0]
  clear hW0
  go_loopw [1, 5] (fun z i wr => ∃ (j : Nat) (y : Int), i = .int .i64 j ∧ z = .int .i64 y ∧ j ≤ l.length ∧ Below W0.heap.size W0 wr ∧ Hid (0 ≤ y ∧ y ≤ 35184372088832 ∧ (y ≤ 100000 → y = m + 1 + s.size / 64 + T.wts (V.ts (l.take j))))) (fun _ i _ => l.length - (intOf i).toNat)
  case atStart =>
    refine ⟨0, _, rfl, rfl, Nat.zero_le _, Below.refl _ _, by omega, by omega, fun _ => by simp [V.ts, T.wts]⟩
  case round =>
    obtain ⟨j, y, rfl, rfl, hj, hb, HY⟩ := hrel
    have cc := (hb.cell (p := ⟨w.heap.size, 3, none⟩) (by simp; omega)).trans c3
    by_cases hjl : j < l.length
    · by_cases hy : y ≤ 100000
      · obtain ⟨b, o, rfl, hlt, hr⟩ := HX.out.row (by omega)
        obtain ⟨x0, x1, x2, x3, x4⟩ := (hr.below (belOn hb0 (by omega) hb) (by omega)) j hjl
        have hx := IH.out l[j] (List.getElem_mem hjl) y
        rw [V.val_eq] at hx
        have HH := hide hx
        clear hx
        have hsz := hb.size
        obtain ⟨y1, y2, y3⟩ := HY.out
        go_wp2_with fail
        refine Calls.mono (HH.out n₀ wr (by omega) ((HX.out.sub _ (List.getElem_mem hjl)).keep (belOn hb0 (by omega) hb) hn) y1 hy) ?_
        rintro e w1 ⟨z, rfl, HZ, hb1⟩
        have hbw := belOn hb (by omega) hb1
        go_wp2
        go_roundw
        case rel =>
          refine ⟨j + 1, z, by go_num, rfl, hjl, hbw, HZ.out.1, HZ.out.2.1, fun hz => ?_⟩
          have e1 := HZ.out.2.2 hz
          have e2 := y3 hy
          rw [wts_snoc l j hjl]
          omega
        case measure => simp [intOf]; omega
      · have hy' : ¬ y ≤ 100000 := hy
        go_wp2
        go_ret
        refine ⟨y, rfl, ⟨HY.out.1, HY.out.2.1, fun h => by omega⟩, belOn hb0 (by omega) hb⟩
    · obtain rfl : j = l.length := by omega
      go_wp2
      go_ret
      refine ⟨y, rfl, ⟨HY.out.1, HY.out.2.1, fun h => ?_⟩, belOn hb0 (by omega) hb⟩
      have := HY.out.2.2 h
      rw [List.take_length] at this
      rw [V.t_of, T.wt_of]
      omega

set_option maxRecDepth 100000 in
set_option maxHeartbeats 1000000 in
theorem greatall_any (b o c n₀ : Nat) (l : List V) (w : World) (hn : n₀ ≤ w.heap.size) (hr : Row w b o l) (hlt : b < w.heap.size) (hl : ∀ x ∈ l, Lies n₀ w x) (hc : l.length ≤ c) (hcc : c ≤ 281474976710656) :
    Calls Tryd.prog 6 #[.slice (some ⟨b, o, none⟩) l.length c] w fun e w' => (e = .returned (.bool true) ∧ Below w.heap.size w w') ∨ (e = .returned (.bool false) ∧ T.wts (V.ts l) ≤ 100000 ∧ Below w.heap.size w w') := by
  have HR := hide hr
  have HL := hide hl
  clear hr hl
  go_enter Tryd.func6, Tryd.ntmps6
  go_wp2
  go_loopw [3, 4] (fun z i wr => ∃ (j : Nat) (y : Int), i = .int .i64 j ∧ z = .int .i64 y ∧ j ≤ l.length ∧ Below w.heap.size w wr ∧ Hid (0 ≤ y ∧ y ≤ 35184372088832 ∧ (y ≤ 100000 → y = T.wts (V.ts (l.take j))))) (fun _ i _ => l.length - (intOf i).toNat)
  case atStart =>
    refine ⟨0, _, rfl, rfl, Nat.zero_le _, Below.refl _ _, by omega, by omega, fun _ => by simp [V.ts, T.wts]⟩
  case round =>
    obtain ⟨j, y, rfl, rfl, hj, hb, HY⟩ := hrel
    have hsz := hb.size
    by_cases hjl : j < l.length
    · by_cases hy : y ≤ 100000
      · obtain ⟨x0, x1, x2, x3, x4⟩ := (HR.out.below hb (by omega)) j hjl
        have hx := weigh_any l[j] y
        rw [V.val_eq] at hx
        have HH := hide hx
        clear hx
        obtain ⟨y1, y2, y3⟩ := HY.out
        go_wp2_with fail
        refine Calls.mono (HH.out n₀ wr (by omega) ((HL.out _ (List.getElem_mem hjl)).keep hb hn) y1 hy) ?_
        rintro e w1 ⟨z, rfl, HZ, hb1⟩
        have hbw := belOn hb (by omega) hb1
        go_wp2
        go_roundw
        case rel =>
          refine ⟨j + 1, z, by go_num, rfl, hjl, hbw, HZ.out.1, HZ.out.2.1, fun hz => ?_⟩
          have e1 := HZ.out.2.2 hz
          have e2 := y3 hy
          rw [wts_snoc l j hjl]
          omega
        case measure => simp [intOf]; omega
      · have hy' : ¬ y ≤ 100000 := hy
        go_wp2
        go_ret
        exact .inl ⟨rfl, hb⟩
    · obtain rfl : j = l.length := by omega
      have hyb := HY.out
      rw [List.take_length] at hyb
      by_cases hy : y ≤ 100000
      · go_wp2
        go_ret
        exact .inr ⟨by simp; omega, by have := hyb.2.2 hy; omega, hb⟩
      · go_wp2
        go_ret
        exact .inl ⟨rfl, hb⟩
end Go.Proofs.YtgpimajdcfoigabDoor


/- values in a row, word by word. -/
namespace Go.Proofs.YtgpimajdcfoigabDoor
open Go.RowKit
set_option linter.unusedVariables false
set_option linter.unusedSimpArgs false

/-- the words of values in a row -/
def flat : List V → List Value
  | [] => []
  | x :: l => words x ++ flat l
theorem flat_length (l : List V) : (flat l).length = l.length * 5 := by
  induction l with
  | nil => rfl
  | cons x l ih => rw [flat, List.length_append, ih, List.length_cons]; simp [words]; omega
theorem flat_append (l m : List V) : flat (l ++ m) = flat l ++ flat m := by
  induction l with
  | nil => rfl
  | cons x l ih => rw [List.cons_append, flat, flat, ih, List.append_assoc]
theorem flat_get (l : List V) (i q : Nat) (hi : i < l.length) (hq : q < 5) : (flat l)[i * 5 + q]? = (words l[i])[q]? := by
  induction l generalizing i with
  | nil => simp at hi
  | cons x l ih =>
    rw [flat]
    cases i with
    | zero =>
      rw [List.getElem?_append_left (by simp [words]; omega)]
      simp
    | succ i =>
      rw [List.getElem?_append_right (by simp [words]; omega), show (i + 1) * 5 + q - (words x).length = i * 5 + q by simp [words]; omega, ih i (by simpa using hi)]
      rfl
theorem flat_row {w : World} {base : Nat} {t : TypeId} {n g cap : Nat} {l : List V} (h : w.ownsRow base t 5 (.slice (some ⟨g, 0, none⟩) n cap) n (flat l)) : Row w g 0 l := by
  intro i hi
  have hc := h.cells (g := g) rfl
  have q : ∀ q, q < 5 → ∀ u, (words l[i])[q]? = some u → w.cell? ⟨g, 0 + i * 5 + q, none⟩ = some u := fun q hq u hu => by
    have := hc (i * 5 + q) u (by rw [flat_get l i q hi hq]; exact hu)
    rw [show (⟨g, 0 + i * 5 + q, none⟩ : Addr) = (⟨g, 0, none⟩ : Addr).add (i * 5 + q) by
      by_cases h : i * 5 + q = 0 <;> simp [Addr.add, h] <;> omega]
    exact this
  exact ⟨q 0 (by omega) _ rfl, q 1 (by omega) _ rfl, q 2 (by omega) _ rfl, q 3 (by omega) _ rfl, q 4 (by omega) _ rfl⟩
theorem grown_of_below {w w' : World} (h : Below w.heap.size w w') : w.grownBy w' none := ⟨h.os, h.tape, h.output, h.size, fun k hk _ => h.block k hk⟩

theorem V.words_one (x : V) : ∀ u ∈ words x, u.oneCell' = true := fun u hu => by
  simp only [words, List.mem_cons, List.not_mem_nil, or_false] at hu
  rcases hu with rfl | rfl | rfl | rfl | rfl <;> rfl
end Go.Proofs.YtgpimajdcfoigabDoor


/- slices.SortFunc of values, by value.Order. -/
namespace Go.Proofs.YtgpimajdcfoigabDoor
open Go.RowKit Go.Sort
set_option linter.unusedVariables false
set_option linter.unusedSimpArgs false

theorem beld_grow {W w' : World} (h : BelD W.heap.size W w') : ∃ q os', w' = grow (W.drewN q) os' := by
  obtain ⟨hb, hd⟩ := h
  refine ⟨0, w'.heap.extract W.heap.size w'.heap.size, ?_⟩
  obtain ⟨heap, tape, drawn, os, output⟩ := w'
  obtain ⟨heap', tape', drawn', os', output'⟩ := W
  obtain ⟨h1, h2, h3, h4, h5⟩ := hb
  simp only at h1 h2 h3 h4 h5 hd
  subst h1 h2 h3 hd
  simp only [grow, World.drewN, World.mk.injEq, Nat.add_zero, and_true]
  refine Array.ext_getElem? (fun i => ?_)
  rw [Array.getElem?_append]
  split
  · rename_i hi
    exact h5 i hi
  · rename_i hi
    rw [Array.getElem?_extract]
    split
    · congr 1
      omega
    · rename_i hi2
      exact Array.getElem?_eq_none (by omega)

/-- values that lie in a world, but not in one block -/
def Far (w : World) (blk : Nat) : Type := { v : V // LiesIn (fun b => b < w.heap.size ∧ b ≠ blk) w v }
def far_any (w : World) (blk : Nat) : Far w blk := ⟨.of 0 0 ⟨#[]⟩ none 0 0 [], .mk ⟨by decide, by decide, by decide, by decide, by simp, by simp⟩ (by simp) (by simp)⟩
def Far.words {w : World} {blk : Nat} (x : Far w blk) : List Value := Go.Proofs.YtgpimajdcfoigabDoor.words x.1
def Far.cf {w : World} {blk : Nat} (x y : Far w blk) : Int := T.ord x.1.t y.1.t
theorem far_swo (w : World) (blk : Nat) : SWO (ltOf (Far.cf (w := w) (blk := blk))) where
  irrefl x := by
    unfold ltOf Far.cf
    have := neg_ord x.1.t x.1.t
    simp
    omega
  trans x y z h1 h2 := by
    unfold ltOf Far.cf at *
    have := tri_ord x.1.t y.1.t z.1.t
    unfold Tri at this
    simp at *
    omega
  ntrans x y z h1 h2 := by
    unfold ltOf Far.cf at *
    have := tri_ord x.1.t y.1.t z.1.t
    unfold Tri at this
    simp at *
    omega
theorem far_same {w : World} {blk : Nat} [Inhabited (Far w blk)] (m : Nat) (dk : Array (Far w blk)) (os : Array Obj) {b : Nat} (hb : b < w.heap.size) (hne : b ≠ blk) : Same w (sortWorldK Far.words 5 w blk 0 m dk os) b := fun o => by
  unfold sortWorldK
  have hs : (putRowK Far.words 5 (Sort.ahead w m) blk 0 dk).heap.size = w.heap.size := by unfold putRowK; simp [Sort.ahead]
  rw [cell?_grow _ _ _ (by rw [hs]; exact hb), cell?_putRowK_other _ _ _ _ _ _ _ hne]
  rfl
set_option maxRecDepth 100000 in
theorem far_cmp (w : World) (blk size : Nat) [Inhabited (Far w blk)] : CmpLays Tryd.prog 62 #[] (Far.words (w := w) (blk := blk)) 5 Far.cf blk 0 size w := by
  intro m os dk hdk x y
  have hsz := size_sortWorldK_c Far.words 5 w blk 0 m dk os
  have q := order_anyD x.1 y.1 (sortWorldK Far.words 5 w blk 0 m dk os).heap.size (sortWorldK Far.words 5 w blk 0 m dk os) (Nat.le_refl _) (LiesIn.keep x.2 (fun b hb => far_same m dk os hb.1 hb.2) (fun b hb => by show b < _; have := hb.1; omega)) (LiesIn.keep y.2 (fun b hb => far_same m dk os hb.1 hb.2) (fun b hb => by show b < _; have := hb.1; omega))
  exact q.mono (fun e w' h => ⟨h.1, beld_grow h.2⟩)
theorem Tryd.aggV : ∀ w, (isAgg 25).run Tryd.prog w = .ok true w := fun w => by first | exact Tryd.isAgg25 w | rfl
theorem Tryd.sizV : ∀ w, (Go.sizeOf 25).run Tryd.prog w = .ok 5 w := fun w => by first | exact Tryd.sizeOf25 w | rfl

theorem far_list (w : World) (blk : Nat) : ∀ ks : List V, (∀ x ∈ ks, LiesIn (fun b => b < w.heap.size ∧ b ≠ blk) w x) → ∃ dl : List (Far w blk), dl.map (fun x => x.1) = ks
  | [], _ => ⟨[], rfl⟩
  | x :: ks, h => by
    obtain ⟨dl, hd⟩ := far_list w blk ks (fun y hy => h y (by simp [hy]))
    exact ⟨(show Far w blk from ⟨x, h x (by simp)⟩) :: dl, congrArg (x :: ·) hd⟩
/-- of what was there only one block has turned -/
def But (blk : Nat) (w w' : World) : Prop := w'.os = w.os ∧ w'.tape = w.tape ∧ w'.output = w.output ∧ w.heap.size ≤ w'.heap.size ∧ ∀ k, k < w.heap.size → k ≠ blk → w'.heap[k]? = w.heap[k]?

set_option maxRecDepth 100000 in
theorem sortv_any (ks : List V) (blk cap M : Nat) (w : World) (hrow : Row w blk 0 ks) (hblk : Blk w blk 25 M) (hM : ks.length * 5 ≤ M) (hl : ∀ x ∈ ks, LiesIn (fun b => b < w.heap.size ∧ b ≠ blk) w x) (hsz : ks.length < 4611686018427387904) :
    Calls Tryd.prog 61 #[.slice (some ⟨blk, 0, none⟩) ks.length cap, .func (.func 62) #[] #[]] w fun e w' => e = .returned (.tuple #[]) ∧ ∃ ks' : List V, ks'.Perm ks ∧ (∀ i j (hi : i < ks'.length) (hj : j < ks'.length), i < j → 0 ≤ T.ord ks'[j].t ks'[i].t) ∧ Row w' blk 0 ks' ∧ But blk w w' := by
  haveI : Inhabited (Far w blk) := ⟨far_any w blk⟩
  obtain ⟨dl, hdl⟩ := far_list w blk ks hl
  obtain ⟨d, hdd⟩ : ∃ d : Array (Far w blk), d = dl.toArray := ⟨_, rfl⟩
  have hd : d.size = ks.length := by rw [hdd, ← hdl]; simp
  have hdi : ∀ i (h : i < ks.length), (d[i]!).1 = ks[i] := fun i h => by
    have : i < d.size := by omega
    rw [getElem!_pos d i this]
    subst hdd
    have e : ks[i]? = (dl.map (fun x => x.1))[i]? := by rw [hdl]
    rw [List.getElem?_eq_getElem h, List.getElem?_map, List.getElem?_eq_getElem (by simpa using this)] at e
    simpa using e.symm
  have hH : HoldsK (Far.words (w := w) (blk := blk)) 5 w blk 0 d := by
    intro j hj
    have hj' : j < ks.length * 5 := by simpa [hd] using hj
    refine ⟨?_, by rw [Nat.zero_add]; exact hblk.free j⟩
    rw [get_flatK _ _ _ _ (by simpa [hd] using hj')]
    have hq : j % 5 < 5 := Nat.mod_lt _ (by decide)
    have hi : j / 5 < ks.length := by omega
    obtain ⟨r0, r1, r2, r3, r4⟩ := hrow (j / 5) hi
    have hc : j % 5 = 0 ∨ j % 5 = 1 ∨ j % 5 = 2 ∨ j % 5 = 3 ∨ j % 5 = 4 := by omega
    show w.cell? ⟨blk, 0 + j, none⟩ = some ((words (d[j / 5]!).1)[j % 5]!)
    rw [hdi (j / 5) hi]
    rcases hc with c | c | c | c | c
    · rw [c, show 0 + j = 0 + j / 5 * 5 by omega]; simpa [words] using r0
    · rw [c, show 0 + j = 0 + j / 5 * 5 + 1 by omega]; simpa [words] using r1
    · rw [c, show 0 + j = 0 + j / 5 * 5 + 2 by omega]; simpa [words] using r2
    · rw [c, show 0 + j = 0 + j / 5 * 5 + 3 by omega]; simpa [words] using r3
    · rw [c, show 0 + j = 0 + j / 5 * 5 + 4 by omega]; simpa [words] using r4
  have hcon := Tryd.slices_SortFuncV Tryd.aggV Tryd.sizV (Far.words (w := w) (blk := blk)) (fun x => by simp [Far.words, words]) (fun x => V.words_one x.1) Far.cf (far_swo w blk) 62 #[] blk 0 cap d w (enters_of Tryd.func62 (by kernel_rfl) rfl) (far_cmp w blk d.size) hH hblk.lt (by omega)
  rw [hd] at hcon
  refine hcon.mono ?_
  rintro e w' ⟨rfl, d', n, os, hp, hs, rfl⟩
  obtain ⟨hp1, hp2, hp3⟩ := hp
  have hd' : d'.size = ks.length := by omega
  have hH' := holdsK_sortWorldK_c Far.words 5 w blk 0 d d' n os hH hblk.lt hp1
  have hsw := size_sortWorldK_c Far.words 5 w blk 0 n d' os
  refine ⟨rfl, d'.toList.map (·.1), ?_, fun i j hi hj hij => ?_, fun i hi => ?_, ?_⟩
  · have h3 : d'.toList.Perm d.toList := by
      have e1 : (d'.extract 0 ks.length) = d' := by rw [← hd']; simp
      have e2 : (d.extract 0 ks.length) = d := by rw [← hd]; simp
      rw [e1, e2] at hp3
      exact hp3
    have h4 := h3.map (fun x : Far w blk => x.1)
    have h5 : d.toList.map (fun x : Far w blk => x.1) = ks := by rw [hdd]; exact hdl
    rw [h5] at h4
    exact h4
  · have hi' : i < d'.size := by simpa using hi
    have hj' : j < d'.size := by simpa using hj
    have := hs i j (Nat.zero_le _) hij (by omega)
    unfold ltOf Far.cf at this
    rw [getElem!_pos d' i hi', getElem!_pos d' j hj'] at this
    simp at this
    simpa using this
  · have hi' : i < d'.size := by simpa using hi
    have c := fun q (hq : q < 5) => (hH'.cell hi' hq).1
    rw [getElem!_pos d' i hi'] at c
    have e : (d'.toList.map (·.1))[i] = (d'[i]).1 := by simp
    rw [e]
    refine ⟨?_, ?_, ?_, ?_, ?_⟩
    · simpa [Far.words, words] using c 0 (by omega)
    · simpa [Far.words, words] using c 1 (by omega)
    · simpa [Far.words, words] using c 2 (by omega)
    · simpa [Far.words, words] using c 3 (by omega)
    · simpa [Far.words, words] using c 4 (by omega)
  · refine ⟨rfl, rfl, rfl, hsw, fun k hk hne => ?_⟩
    unfold sortWorldK
    have hs' : (putRowK Far.words 5 (Sort.ahead w n) blk 0 d').heap.size = w.heap.size := by unfold putRowK; simp [Sort.ahead]
    rw [heap_grow_old _ _ (by rw [hs']; exact hk)]
    unfold putRowK putRow mapBlock
    simp [Array.getElem?_modify, Sort.ahead, Ne.symm hne]
end Go.Proofs.YtgpimajdcfoigabDoor
