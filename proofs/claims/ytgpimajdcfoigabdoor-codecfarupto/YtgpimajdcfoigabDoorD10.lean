import Derived.Test.YtgpimajdcfoigabDoorD09
import Derived.Test.YtgpimajdcfoigabDoorD03
import Derived.Deep.RegionHeldLaw
import Derived.Test.YtgpimajdcfoigabDoorD02
import Derived.Test.YtgpimajdcfoigabDoorRows
import Derived.WalkKit
import Derived.ProofKit
import Derived.OpenShut
import Derived.SizedLaws

/- Bytes that are read; the reader. -/
namespace Go.Proofs.YtgpimajdcfoigabDoor
open Go.RowKit
set_option linter.unusedVariables false
set_option linter.unusedSimpArgs false
/-- the slice (a, n) reads as the bytes l -/
def Rd (w : World) (a : Option Addr) (n : Nat) (l : List Nat) : Prop :=
  l.length = n ∧ (∀ c ∈ l, c < 256) ∧ (0 < n → ∃ b off, a = some ⟨b, off, none⟩ ∧ b < w.heap.size ∧ ∀ j, j < n → w.cell? ⟨b, off + j, none⟩ = some (.int .u8 ((l.getD j 0 : Nat) : Int)))
theorem take_snocN (l : List Nat) (k : Nat) (h : k < l.length) : l.take (k + 1) = l.take k ++ [l.getD k 0] := by
  rw [List.take_succ_eq_append_getElem h, List.getD_eq_getElem?_getD, List.getElem?_eq_getElem h]; rfl
/-- what a reader reads from, and the tables -/
structure Src (w : World) (R : Nat) (a : Option Addr) (n cap : Nat) (l : List Nat) : Prop where
  rd : Rd w a n l
  room : n ≤ cap
  small : n ≤ 281474976710656
  apart : 0 < n → ∀ x, a = some x → x.block < R
  tab : SzTab w
  utf : Lib.Utf8Tabs 1 2 w
  pos : 3 ≤ R
theorem Src.gro {w w' : World} {R : Nat} {a : Option Addr} {n cap : Nat} {l : List Nat} (h : Src w R a n cap l) (hg : Gro R w w') : Src w' R a n cap l := by
  have hp := h.pos
  refine ⟨⟨h.rd.1, h.rd.2.1, fun hn => ?_⟩, h.room, h.small, h.apart, h.tab.gro hg (by omega), ?_, h.pos⟩
  · obtain ⟨b, off, ha, hb, hc⟩ := h.rd.2.2 hn
    have hne : b < R := h.apart hn _ ha
    exact ⟨b, off, ha, Nat.lt_of_lt_of_le hb hg.size, fun j hj => (World.cell?_of_block (hg.block b hb (by simp; omega))).trans (hc j hj)⟩
  · obtain ⟨h1, h2⟩ := h.utf
    have l0 := block_lt_of_cell (h1 0 (by omega))
    have l1 := block_lt_of_cell (h2 0 (by omega)).1
    have e0 := hg.block 1 l0 (by simp; omega)
    have e1 := hg.block 2 l1 (by simp; omega)
    exact ⟨fun c hc => (World.cell?_of_block e0).trans (h1 c hc), fun i hi => ⟨(World.cell?_of_block e1).trans (h2 i hi).1, (World.cell?_of_block e1).trans (h2 i hi).2⟩⟩
/-- the reader's own words -/
def RB (w : World) (R : Nat) (a : Option Addr) (n cap p fin : Nat) (sz : Int) : Prop := w.heap[R]? = some (.cells #[.slice a n cap, .int .i64 (p : Int), .int .i64 (fin : Int), .int .i64 sz] 46)
theorem RB.cells {w : World} {R : Nat} {a : Option Addr} {n cap p fin : Nat} {sz : Int} (h : RB w R a n cap p fin sz) : w.cell? ⟨R, 0, none⟩ = some (.slice a n cap) ∧ w.cell? ⟨R, 1, none⟩ = some (.int .i64 (p : Int)) ∧ w.cell? ⟨R, 2, none⟩ = some (.int .i64 (fin : Int)) ∧ w.cell? ⟨R, 3, none⟩ = some (.int .i64 sz) ∧ w.frozen? ⟨R, 1, none⟩ = false ∧ w.frozen? ⟨R, 2, none⟩ = false ∧ w.frozen? ⟨R, 3, none⟩ = false ∧ R < w.heap.size := by
  unfold RB at h
  refine ⟨by simp [World.cell?, h], by simp [World.cell?, h], by simp [World.cell?, h], by simp [World.cell?, h], by simp [World.frozen?, h], by simp [World.frozen?, h], by simp [World.frozen?, h], (Array.getElem?_eq_some_iff.1 h).1⟩
theorem RB.keep {w w' : World} {R : Nat} {a : Option Addr} {n cap p fin : Nat} {sz : Int} (h : RB w R a n cap p fin sz) (hb : Below w.heap.size w w') : RB w' R a n cap p fin sz := (hb.block R h.cells.2.2.2.2.2.2.2).trans h
theorem RB.set1 {w : World} {R : Nat} {a : Option Addr} {n cap p fin : Nat} {sz : Int} (h : RB w R a n cap p fin sz) (q : Nat) : RB (w.setCell ⟨R, 1, none⟩ (.int .i64 (q : Int))) R a n cap q fin sz := by
  unfold RB at h ⊢
  simp [World.setCell, Array.getElem?_modify, h]
theorem RB.set2 {w : World} {R : Nat} {a : Option Addr} {n cap p fin : Nat} {sz : Int} (h : RB w R a n cap p fin sz) (q : Nat) : RB (w.setCell ⟨R, 2, none⟩ (.int .i64 (q : Int))) R a n cap p q sz := by
  unfold RB at h ⊢
  simp [World.setCell, Array.getElem?_modify, h]
theorem RB.set3 {w : World} {R : Nat} {a : Option Addr} {n cap p fin : Nat} {sz : Int} (h : RB w R a n cap p fin sz) (q : Int) : RB (w.setCell ⟨R, 3, none⟩ (.int .i64 q)) R a n cap p fin q := by
  unfold RB at h ⊢
  simp [World.setCell, Array.getElem?_modify, h]
theorem RB.drew {w : World} {R : Nat} {a : Option Addr} {n cap p fin : Nat} {sz : Int} (h : RB w R a n cap p fin sz) : RB w.drew R a n cap p fin sz := h
theorem Gro.set {g : Nat} {a b : World} (h : Gro g a b) (o : Nat) (u : Value) : Gro g a (b.setCell ⟨g, o, none⟩ u) :=
  ⟨h.os, h.tape, h.output, by simpa using h.size, fun q hq hne => (Below.heap_setCell _ _ _ _ (by intro e; exact hne (by rw [e]))).trans (h.block q hq hne)⟩
/-- a reader gives up -/
def Flt (x : Int × Int) : Ending := .panicked [{ v := .iface 44 (.agg #[.int .i64 x.1, .int .i64 x.2]), recovered := false }]
/-- what comes of reading -/
def Outc {α : Type} (r : Res α) (R : Nat) (w : World) (K : α → Ending → World → Prop) (e : Ending) (w' : World) : Prop :=
  match r with
  | .error x => e = Flt x ∧ Gro R w w'
  | .ok v => K v e w' ∧ Gro R w w'
theorem giveUp_any (p e : Int) (w : World) : Calls Tryd.prog 18 #[.int .i64 p, .int .i64 e] w fun r w' => r = Flt (p, e) ∧ w = w' := by
  go_enter Tryd.func18, Tryd.ntmps18
  go_wp2
  exact ⟨rfl, rfl, rfl⟩
set_option maxHeartbeats 1000000 in
theorem need_any (R : Nat) (a : Option Addr) (n cap p fin m : Nat) (sz : Int) (w : World) (hr : RB w R a n cap p fin sz) (hp : p ≤ fin) (hfin : fin ≤ n) (hn : n ≤ 281474976710656) (hm : m ≤ 281474976710656) :
    Calls Tryd.prog 38 #[.pointer (some ⟨R, 0, none⟩), .int .i64 (m : Int)] w fun e w' => (p + m ≤ fin → e = .returned (.tuple #[])) ∧ (¬ p + m ≤ fin → e = Flt (shortC n sz)) ∧ (w' = w.drew) := by
  obtain ⟨c0, c1, c2, c3, _, _, _, hlt⟩ := hr.cells
  have hw : IntKind.i64.wrap ((fin : Int) - (p : Int)) = (fin : Int) - p := by
    have : (fin : Int) - (p : Int) = ((fin - p : Nat) : Int) := by omega
    rw [this]
    exact wrap_nat _ (by omega)
  by_cases hok : p + m ≤ fin
  · have hd : decide ((m : Int) ≤ IntKind.i64.wrap ((fin : Int) - (p : Int))) = true := by rw [hw]; simp; omega
    clear hw
    go_enter Tryd.func38, Tryd.ntmps38
    go_wp2
    go_region_held (fun W1 => W1.cell? ⟨R, 1, none⟩ = some (.int .i64 (p : Int)) ∧ W1.cell? ⟨R, 2, none⟩ = some (.int .i64 (fin : Int))) (go_keep) (fail)
    go_wp2
    first | go_end0 | refine bodyPost_ret (results_none rfl _ _ _) rfl ?_
    exact ⟨fun _ => rfl, fun h => absurd hok h, rfl⟩
  · have hd : decide ((m : Int) ≤ IntKind.i64.wrap ((fin : Int) - (p : Int))) = false := by rw [hw]; simp; omega
    clear hw
    by_cases hs : sz = -1
    · subst hs
      go_enter Tryd.func38, Tryd.ntmps38
      go_wp2
      go_region_held (fun W1 => W1.cell? ⟨R, 1, none⟩ = some (.int .i64 (p : Int)) ∧ W1.cell? ⟨R, 2, none⟩ = some (.int .i64 (fin : Int))) (go_keep) (fail)
      go_wp2
      exact ⟨rfl, rfl, fun h => absurd h hok, fun _ => by simp [Flt, shortC], rfl⟩
    · have hs' : (sz == -1) = false := by rw [beq_eq_false_iff_ne]; exact hs
      go_enter Tryd.func38, Tryd.ntmps38
      go_wp2
      go_region_held (fun W1 => W1.cell? ⟨R, 1, none⟩ = some (.int .i64 (p : Int)) ∧ W1.cell? ⟨R, 2, none⟩ = some (.int .i64 (fin : Int))) (go_keep) (fail)
      go_wp2
      exact ⟨rfl, rfl, fun h => absurd h hok, fun _ => by simp [Flt, shortC, hs], rfl⟩
end Go.Proofs.YtgpimajdcfoigabDoor


/- What came in, opened: values. -/
namespace Go.Proofs.YtgpimajdcfoigabDoor
open Go.RowKit Go.ChangeShapes Go.WideShapes Go.ChangeAt
set_option linter.unusedVariables false
theorem Tryd.cellsI : Tryd.prog.cellsOf 3 = 1 := by kernel_rfl
theorem Tryd.cellsU : Tryd.prog.cellsOf 22 = 1 := by kernel_rfl
theorem Tryd.cellsS : Tryd.prog.cellsOf 9 = 1 := by kernel_rfl
theorem Tryd.cellsL : Tryd.prog.cellsOf 23 = 1 := by kernel_rfl
theorem Tryd.cellsV : Tryd.prog.cellsOf 25 = 5 := by kernel_rfl
theorem Tryd.bytesV : Tryd.prog.bytesOf 25 = 64 := by kernel_rfl
theorem wf_i64 {n : Int} (h : (Lit.int .i64 n).wf = true) : -9223372036854775808 ≤ n ∧ n ≤ 9223372036854775807 := by
  simpa [Lit.wf, IntKind.min, IntKind.max, IntKind.signed, IntKind.bits] using h
theorem wf_u64 {n : Int} (h : (Lit.int .u64 n).wf = true) : 0 ≤ n ∧ n ≤ 18446744073709551615 := by
  simpa [Lit.wf, IntKind.min, IntKind.max, IntKind.signed, IntKind.bits] using h
theorem add_none (b off j : Nat) : (⟨b, off, none⟩ : Addr).add j = ⟨b, off + j, none⟩ := by
  by_cases h : j = 0 <;> simp [Addr.add, h]
theorem weightsAll_mem {H : Type} {P : Program} {e : TypeId} {d : DataW H} {n : Nat} (l : List (DataW H)) (hd : d ∈ l) (hn : n ∈ d.weights P e) : n ∈ DataW.weightsAll P e l := by
  induction l with
  | nil => cases hd
  | cons x l ih =>
    simp only [DataW.weightsAll, List.mem_append]
    rcases List.mem_cons.1 hd with rfl | h
    · exact .inl hn
    · exact .inr (ih h)

theorem five {α : Type} (l : List α) (h : l.length = 5) : ∃ a b c d e, l = [a, b, c, d, e] := by
  match l, h with
  | [a, b, c, d, e], _ => exact ⟨a, b, c, d, e, rfl⟩

/-- a value that came in -/
theorem v_open {H : Type} {enc : TypeId × Value → H} {W : World} : ∀ (fuel : Nat) (cs : List Value) (x : DataW H × List MemPlace),
    DataW.trod enc Tryd.prog W 0 (fun _ => true) true fuel 25 cs = some x → (∀ n ∈ x.1.weights Tryd.prog 25, n ≤ reachBytes) →
    ∃ v : V, cs = [.int .i64 v.k, .int .u64 v.n, .string v.s, .slice v.a v.l.length v.c, .int .i64 v.e] ∧ Lies W.heap.size W v := by
  intro fuel
  induction fuel using Nat.strongRecOn with
  | _ fuel ih =>
    intro cs x hx hw
    obtain ⟨xs, n, hfu, rfl, hlen, hxl, hf⟩ := DataW.trod_struct Tryd.underlying25 hx
    rw [Tryd.cellsV] at hlen
    obtain ⟨c0, c1, c2, c3, c4, rfl⟩ := five cs hlen
    obtain ⟨x0, x1, x2, x3, x4, rfl⟩ := five xs hxl
    have f0 : DataW.trod enc Tryd.prog W 0 (fun _ => true) true n 3 ([c0, c1, c2, c3, c4].take (Tryd.prog.cellsOf 3)) = some x0 := hf 0 _ rfl
    have f1 : DataW.trod enc Tryd.prog W 0 (fun _ => true) true n 22 ([c1, c2, c3, c4].take (Tryd.prog.cellsOf 22)) = some x1 := hf 1 _ rfl
    have f2 : DataW.trod enc Tryd.prog W 0 (fun _ => true) true n 9 ([c2, c3, c4].take (Tryd.prog.cellsOf 9)) = some x2 := hf 2 _ rfl
    have f3 : DataW.trod enc Tryd.prog W 0 (fun _ => true) true n 23 ([c3, c4].take (Tryd.prog.cellsOf 23)) = some x3 := hf 3 _ rfl
    have f4 : DataW.trod enc Tryd.prog W 0 (fun _ => true) true n 3 ([c4].take (Tryd.prog.cellsOf 3)) = some x4 := hf 4 _ rfl
    rw [Tryd.cellsI] at f0 f4
    rw [Tryd.cellsU] at f1
    rw [Tryd.cellsS] at f2
    rw [Tryd.cellsL] at f3
    simp only [List.take_succ_cons, List.take_zero] at f0 f1 f2 f3 f4
    obtain ⟨k, e0, rfl, wk⟩ := DataW.trod_int Tryd.underlying3 f0
    obtain ⟨m, e1, rfl, wm⟩ := DataW.trod_int Tryd.underlying22 f1
    obtain ⟨s, e2, rfl, ws⟩ := DataW.trod_string Tryd.underlying9 f2
    obtain ⟨e, e4, rfl, we⟩ := DataW.trod_int Tryd.underlying3 f4
    obtain rfl : c0 = .int .i64 k := by simpa using e0
    obtain rfl : c1 = .int .u64 m := by simpa using e1
    obtain rfl : c2 = .string s := by simpa using e2
    obtain rfl : c4 = .int .i64 e := by simpa using e4
    have hsz : s.size ≤ 281474976710656 := by
      have := hw s.data.toList.length (by
        simp only [DataW.weights, Tryd.underlying25, List.map_cons, List.map_nil, DataW.weightsEach, List.mem_append]
        simp)
      simp only [reachBytes, Array.length_toList] at this
      have e : s.size = s.data.size := rfl
      omega
    have hw3 : ∀ q ∈ x3.1.weights Tryd.prog 23, q ≤ reachBytes := fun q hq => hw q (by
      simp only [DataW.weights, Tryd.underlying25, List.map_cons, List.map_nil, DataW.weightsEach, List.mem_append]
      simp [hq])
    rcases DataW.trod_slice Tryd.underlying23 f3 with ⟨e3, rfl⟩ | ⟨a, len, cap, elems, rest, n', hn', e3, rfl, _, hlc, hcm, hel, hE, hR, _⟩
    · obtain rfl : c3 = .slice none 0 0 := by simpa using e3
      exact ⟨.of k m s none 0 e [], by rw [V.l_of]; rfl, .mk ⟨wf_i64 wk, wf_u64 wm, hsz, wf_i64 we, by simp, by simp⟩ (by simp) (by simp)⟩
    · obtain rfl : c3 = .slice (some a) len cap := by simpa using e3
      obtain ⟨hrl, _⟩ := hR rfl
      have hcap : cap ≤ 2199023255552 := by
        have := hw3 ((elems.length + rest.length) * 64) (by
          simp [DataW.weights, Tryd.underlying23, Tryd.bytesV])
        simp only [reachBytes] at this
        omega
      rw [Tryd.cellsV] at hE
      have hpick : ∀ i, ∃ v : V, i < len → W.cells? 0 (a.add (i * 5)) 5 = some [.int .i64 v.k, .int .u64 v.n, .string v.s, .slice v.a v.l.length v.c, .int .i64 v.e] ∧ Lies W.heap.size W v := by
        intro i
        by_cases hi : i < len
        · have h1 := hE i hi
          rw [List.getElem?_eq_getElem (by omega)] at h1
          obtain ⟨ci, hci, hti⟩ := Option.bind_eq_some_iff.1 h1
          obtain ⟨v, rfl, hv⟩ := ih n' (by omega) ci _ hti (fun q hq => hw3 q (by
            simp only [DataW.weights, Tryd.underlying23, List.mem_cons, List.mem_append]
            exact .inr (.inl (weightsAll_mem _ (List.mem_map_of_mem (List.getElem_mem _)) hq))))
          exact ⟨v, fun _ => ⟨hci, hv⟩⟩
        · exact ⟨.of 0 0 ⟨#[]⟩ none 0 0 [], fun h => absurd h hi⟩
      obtain ⟨f, hfv⟩ := Classical.axiomOfChoice hpick
      have hll : ((List.range len).map f).length = len := by simp
      refine ⟨.of k m s (some a) cap e ((List.range len).map f), by rw [V.l_of, hll]; rfl, .mk ⟨wf_i64 wk, wf_u64 wm, hsz, wf_i64 we, by rw [hll]; exact hlc, by rw [hll]; omega⟩ (fun h0 => ?_) (fun x hx => ?_)⟩
      · rw [hll] at h0
        obtain ⟨pb, po, spot⟩ := a
        have hc0 := (World.cells?_some (hfv 0 h0).1).2.2 0 (by omega)
        have hspot : spot = none := by
          simp only [List.getElem?_cons_zero] at hc0
          simpa [Addr.add] using World.cell?_spot hc0
        subst hspot
        refine ⟨pb, po, rfl, World.cells?_block (hfv 0 h0).1 (by omega), fun i hi => ?_⟩
        have hil : i < len := by simpa using hi
        have hc := (World.cells?_some (hfv i hil).1).2.2
        have hg : ((List.range len).map f)[i] = f i := by simp
        rw [hg]
        have q : ∀ j, j < 5 → W.cell? ⟨pb, po + i * 5 + j, none⟩ = ([.int .i64 (f i).k, .int .u64 (f i).n, .string (f i).s, .slice (f i).a (f i).l.length (f i).c, .int .i64 (f i).e] : List Value)[j]? := fun j hj => by
          have := hc j hj
          rwa [add_none, add_none] at this
        exact ⟨q 0 (by omega), q 1 (by omega), q 2 (by omega), q 3 (by omega), q 4 (by omega)⟩
      · obtain ⟨i, hi, rfl⟩ := List.mem_map.1 hx
        exact (hfv i (List.mem_range.1 hi)).2

theorem weights_each {H : Type} {P : Program} {ts : List TypeId} {ds : List (DataW H)} (h : (DataW.weightsEach P ts ds).all (· ≤ reachBytes) = true) {j : Nat} {t : TypeId} {d : DataW H} (ht : ts[j]? = some t) (hd : ds[j]? = some d) :
    ∀ n ∈ d.weights P t, n ≤ reachBytes := fun n hn => by
  have := List.all_eq_true.1 h n (DataW.weights_mem_each ht hd n hn)
  simpa using this
set_option maxRecDepth 100000 in
/-- an argument -/
theorem arg_open {H : Type} {enc : TypeId × Value → H} {W : World} {base fuel : Nat} {v : Value} {d : DataW H} {p : List MemPlace} (hval : Value.okWide Tryd.prog W .any base 25 v)
    (hf : DataW.trod enc Tryd.prog W 0 (fun _ => true) true fuel 25 v.cells.toList = some (d, p)) (hw : ∀ n ∈ d.weights Tryd.prog 25, n ≤ reachBytes) : ∃ x : V, v = x.val ∧ Lies W.heap.size W x := by
  obtain ⟨cs, rfl, _⟩ := okWide_struct Tryd.underlying25 hval
  obtain ⟨x, h1, h2⟩ := v_open fuel _ _ hf hw
  refine ⟨x, ?_, h2⟩
  rw [V.val_eq]
  simp only [Value.cells] at h1
  congr 1
  cases cs
  simpa using h1
end Go.Proofs.YtgpimajdcfoigabDoor


/- What came in, opened: bytes (beside values). -/
namespace Go.Proofs.YtgpimajdcfoigabDoor
open Go.RowKit Go.ChangeShapes Go.WideShapes Go.ChangeAt
theorem Tryd.cells5 : Tryd.prog.cellsOf 5 = 1 := by kernel_rfl
theorem Tryd.bytes5 : Tryd.prog.bytesOf 5 = 1 := by kernel_rfl
theorem wf_u8 {n : Int} (h : (Lit.int .u8 n).wf = true) : 0 ≤ n ∧ n ≤ 255 := by
  simpa [Lit.wf, IntKind.min, IntKind.max, IntKind.signed, IntKind.bits] using h
theorem wf_u32 {n : Int} (h : (Lit.int .u32 n).wf = true) : 0 ≤ n ∧ n ≤ 4294967295 := by
  simpa [Lit.wf, IntKind.min, IntKind.max, IntKind.signed, IntKind.bits] using h

theorem Rd.of_cells {W : World} {x : Addr} {len cap : Nat} {zs : List Int} (hl : len ≤ cap) (hz : zs.length = cap)
    (hcell : ∀ i, i < zs.length → W.cell? (x.add i) = some (.int .u8 (zs.getD i 0))) (hwz : ∀ n ∈ zs, (Lit.int .u8 n).wf = true) :
    Rd W (some x) len ((zs.take len).map Int.toNat) := by
  have hb : ∀ n ∈ zs, 0 ≤ n ∧ n ≤ 255 := fun n hn => wf_u8 (hwz n hn)
  refine ⟨by simp; omega, ?_, fun hn => ?_⟩
  · intro c hc
    obtain ⟨n, hn, rfl⟩ := List.mem_map.1 hc
    have := hb n (List.mem_of_mem_take hn)
    omega
  · obtain ⟨b, off, spot⟩ := x
    have hc := hcell 0 (by omega)
    have hspot : spot = none := by simpa [Addr.add] using World.cell?_spot hc
    subst hspot
    refine ⟨b, off, rfl, block_lt_of_cell hc, fun j hj => ?_⟩
    have hcj := hcell j (by omega)
    have hcj' : W.cell? ⟨b, off + j, none⟩ = some (.int .u8 (zs.getD j 0)) := by rw [← add_none]; exact hcj
    rw [hcj']
    have hjz : j < zs.length := by omega
    have h0 := hb zs[j] (List.getElem_mem _)
    have e1 : zs.getD j 0 = zs[j] := by rw [List.getD_eq_getElem?_getD, List.getElem?_eq_getElem hjz]; rfl
    have e2 : ((zs.take len).map Int.toNat).getD j 0 = zs[j].toNat := by
      simp [List.getD_eq_getElem?_getD, hj, List.getElem?_eq_getElem hjz]
    rw [e1, e2]
    congr 2
    omega

/-- a list of bytes that came in -/
theorem bytes_open {H : Type} {enc : TypeId × Value → H} {W : World} {a : Option Addr} {len cap fuel : Nat} {x : DataW H × List MemPlace}
    (hf : DataW.trod enc Tryd.prog W 0 (fun _ => true) true fuel 28 [.slice a len cap] = some x) :
    ∃ l : List Nat, Rd W a len l ∧ len ≤ cap ∧ ((x.1 = .nil ∧ cap = 0) ∨ ∃ e s, x.1 = .slice e s ∧ e.length + s.length = cap) := by
  rcases open_ints Tryd.underlying28 Tryd.underlying5 Tryd.cells5 hf with ⟨hcs, hx⟩ | ⟨y, l, c, zs, hcs, _, hl, hm, hz, hx, hcell, hwz⟩
  · simp at hcs
    obtain ⟨rfl, rfl, rfl⟩ := hcs
    subst hx
    exact ⟨[], ⟨rfl, by simp, by omega⟩, Nat.le_refl _, .inl ⟨rfl, rfl⟩⟩
  · simp at hcs
    obtain ⟨rfl, rfl, rfl⟩ := hcs
    simp only [if_true] at hz
    subst hx
    exact ⟨_, Rd.of_cells hl hz hcell hwz, hl, .inr ⟨_, _, rfl, by simp [lits]; omega⟩⟩

theorem bytes_reach {H : Type} {ts : List TypeId} {ds : List (DataW H)} {j cap : Nat} {d : DataW H} (hsz : (DataW.weightsEach Tryd.prog ts ds).all (· ≤ reachBytes) = true)
    (ht : ts[j]? = some 28) (hd : ds[j]? = some d) (h : (d = .nil ∧ cap = 0) ∨ ∃ e s, d = .slice e s ∧ e.length + s.length = cap) : cap ≤ 140737488351232 := by
  rcases h with ⟨_, rfl⟩ | ⟨e, s, rfl, hc⟩
  · omega
  · have := sized_slice hsz ht hd Tryd.underlying28
    rw [Tryd.bytes5] at this
    simp only [reachBytes] at this
    omega
end Go.Proofs.YtgpimajdcfoigabDoor
