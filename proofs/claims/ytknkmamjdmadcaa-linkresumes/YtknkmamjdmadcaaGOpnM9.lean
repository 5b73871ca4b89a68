import Derived.Test.YtknkmamjdmadcaaUVMadeM9
import Derived.Test.YtknkmamjdmadcaaRows
import Derived.WalkKit
import Derived.ProofKit
import Derived.OpenShut
import Derived.SizedLaws
import Derived.Test.YtknkmamjdmadcaaGResMM9

/- What came in, opened: values. -/
namespace Go.Proofs.Ytknkmamjdmadcaa.U
open Go.RowKit Go.ChangeShapes Go.WideShapes Go.ChangeAt
set_option linter.unusedVariables false
theorem Try.cellsI : Try.prog.cellsOf 3 = 1 := by kernel_rfl
theorem Try.cellsU : Try.prog.cellsOf 45 = 1 := by kernel_rfl
theorem Try.cellsS : Try.prog.cellsOf 9 = 1 := by kernel_rfl
theorem Try.cellsL : Try.prog.cellsOf 46 = 1 := by kernel_rfl
theorem Try.cellsV : Try.prog.cellsOf 48 = 5 := by kernel_rfl
theorem Try.bytesV : Try.prog.bytesOf 48 = 64 := by kernel_rfl
theorem wf_i64 {n : Int} (h : (Lit.int .i64 n).wf = true) : -9223372036854775808 ≤ n ∧ n ≤ 9223372036854775807 := by
  simpa [Lit.wf, IntKind.min, IntKind.max, IntKind.signed, IntKind.bits] using h
theorem wf_u64 {n : Int} (h : (Lit.int .u64 n).wf = true) : 0 ≤ n ∧ n ≤ 18446744073709551615 := by
  simpa [Lit.wf, IntKind.min, IntKind.max, IntKind.signed, IntKind.bits] using h
theorem add_none (b off j : Nat) : (⟨b, off, none⟩ : Addr).add j = ⟨b, off + j, none⟩ := by
  by_cases h : j = 0 <;> simp [Addr.add, h]
theorem weightsAll_mem {H : Type} {P : Program} {e : TypeId} {d : DataW H} {n : Nat} (l : List (DataW H)) (hd : d ∈ l) (hn : n ∈ d.weights P e) : n ∈ DataW.weightsAll P e l := by
  induction l with
  | nil => cases hd
  | cons x l ih =>
    simp only [DataW.weightsAll, List.mem_append]
    rcases List.mem_cons.1 hd with rfl | h
    · exact .inl hn
    · exact .inr (ih h)

theorem five {α : Type} (l : List α) (h : l.length = 5) : ∃ a b c d e, l = [a, b, c, d, e] := by
  match l, h with
  | [a, b, c, d, e], _ => exact ⟨a, b, c, d, e, rfl⟩

/-- a value that came in -/
theorem v_open {H : Type} {enc : TypeId × Value → H} {W : World} : ∀ (fuel : Nat) (cs : List Value) (x : DataW H × List MemPlace),
    DataW.trod enc Try.prog W 0 (fun _ => true) true fuel 48 cs = some x → (∀ n ∈ x.1.weights Try.prog 48, n ≤ reachBytes) →
    ∃ v : V, cs = [.int .i64 v.k, .int .u64 v.n, .string v.s, .slice v.a v.l.length v.c, .int .i64 v.e] ∧ Lies W.heap.size W v := by
  intro fuel
  induction fuel using Nat.strongRecOn with
  | _ fuel ih =>
    intro cs x hx hw
    obtain ⟨xs, n, hfu, rfl, hlen, hxl, hf⟩ := DataW.trod_struct Try.underlying48 hx
    rw [Try.cellsV] at hlen
    obtain ⟨c0, c1, c2, c3, c4, rfl⟩ := five cs hlen
    obtain ⟨x0, x1, x2, x3, x4, rfl⟩ := five xs hxl
    have f0 : DataW.trod enc Try.prog W 0 (fun _ => true) true n 3 ([c0, c1, c2, c3, c4].take (Try.prog.cellsOf 3)) = some x0 := hf 0 _ rfl
    have f1 : DataW.trod enc Try.prog W 0 (fun _ => true) true n 45 ([c1, c2, c3, c4].take (Try.prog.cellsOf 45)) = some x1 := hf 1 _ rfl
    have f2 : DataW.trod enc Try.prog W 0 (fun _ => true) true n 9 ([c2, c3, c4].take (Try.prog.cellsOf 9)) = some x2 := hf 2 _ rfl
    have f3 : DataW.trod enc Try.prog W 0 (fun _ => true) true n 46 ([c3, c4].take (Try.prog.cellsOf 46)) = some x3 := hf 3 _ rfl
    have f4 : DataW.trod enc Try.prog W 0 (fun _ => true) true n 3 ([c4].take (Try.prog.cellsOf 3)) = some x4 := hf 4 _ rfl
    rw [Try.cellsI] at f0 f4
    rw [Try.cellsU] at f1
    rw [Try.cellsS] at f2
    rw [Try.cellsL] at f3
    simp only [List.take_succ_cons, List.take_zero] at f0 f1 f2 f3 f4
    obtain ⟨k, e0, rfl, wk⟩ := DataW.trod_int Try.underlying3 f0
    obtain ⟨m, e1, rfl, wm⟩ := DataW.trod_int Try.underlying45 f1
    obtain ⟨s, e2, rfl, ws⟩ := DataW.trod_string Try.underlying9 f2
    obtain ⟨e, e4, rfl, we⟩ := DataW.trod_int Try.underlying3 f4
    obtain rfl : c0 = .int .i64 k := by simpa using e0
    obtain rfl : c1 = .int .u64 m := by simpa using e1
    obtain rfl : c2 = .string s := by simpa using e2
    obtain rfl : c4 = .int .i64 e := by simpa using e4
    have hsz : s.size ≤ 281474976710656 := by
      have := hw s.data.toList.length (by
        simp only [DataW.weights, Try.underlying48, List.map_cons, List.map_nil, DataW.weightsEach, List.mem_append]
        simp)
      simp only [reachBytes, Array.length_toList] at this
      have e : s.size = s.data.size := rfl
      omega
    have hw3 : ∀ q ∈ x3.1.weights Try.prog 46, q ≤ reachBytes := fun q hq => hw q (by
      simp only [DataW.weights, Try.underlying48, List.map_cons, List.map_nil, DataW.weightsEach, List.mem_append]
      simp [hq])
    rcases DataW.trod_slice Try.underlying46 f3 with ⟨e3, rfl⟩ | ⟨a, len, cap, elems, rest, n', hn', e3, rfl, _, hlc, hcm, hel, hE, hR, _⟩
    · obtain rfl : c3 = .slice none 0 0 := by simpa using e3
      exact ⟨.of k m s none 0 e [], by rw [V.l_of]; rfl, .mk ⟨wf_i64 wk, wf_u64 wm, hsz, wf_i64 we, by simp, by simp⟩ (by simp) (by simp)⟩
    · obtain rfl : c3 = .slice (some a) len cap := by simpa using e3
      obtain ⟨hrl, _⟩ := hR rfl
      have hcap : cap ≤ 2199023255552 := by
        have := hw3 ((elems.length + rest.length) * 64) (by
          simp [DataW.weights, Try.underlying46, Try.bytesV])
        simp only [reachBytes] at this
        omega
      rw [Try.cellsV] at hE
      have hpick : ∀ i, ∃ v : V, i < len → W.cells? 0 (a.add (i * 5)) 5 = some [.int .i64 v.k, .int .u64 v.n, .string v.s, .slice v.a v.l.length v.c, .int .i64 v.e] ∧ Lies W.heap.size W v := by
        intro i
        by_cases hi : i < len
        · have h1 := hE i hi
          rw [List.getElem?_eq_getElem (by omega)] at h1
          obtain ⟨ci, hci, hti⟩ := Option.bind_eq_some_iff.1 h1
          obtain ⟨v, rfl, hv⟩ := ih n' (by omega) ci _ hti (fun q hq => hw3 q (by
            simp only [DataW.weights, Try.underlying46, List.mem_cons, List.mem_append]
            exact .inr (.inl (weightsAll_mem _ (List.mem_map_of_mem (List.getElem_mem _)) hq))))
          exact ⟨v, fun _ => ⟨hci, hv⟩⟩
        · exact ⟨.of 0 0 ⟨#[]⟩ none 0 0 [], fun h => absurd h hi⟩
      obtain ⟨f, hfv⟩ := Classical.axiomOfChoice hpick
      have hll : ((List.range len).map f).length = len := by simp
      refine ⟨.of k m s (some a) cap e ((List.range len).map f), by rw [V.l_of, hll]; rfl, .mk ⟨wf_i64 wk, wf_u64 wm, hsz, wf_i64 we, by rw [hll]; exact hlc, by rw [hll]; omega⟩ (fun h0 => ?_) (fun x hx => ?_)⟩
      · rw [hll] at h0
        obtain ⟨pb, po, spot⟩ := a
        have hc0 := (World.cells?_some (hfv 0 h0).1).2.2 0 (by omega)
        have hspot : spot = none := by
          simp only [List.getElem?_cons_zero] at hc0
          simpa [Addr.add] using World.cell?_spot hc0
        subst hspot
        refine ⟨pb, po, rfl, World.cells?_block (hfv 0 h0).1 (by omega), fun i hi => ?_⟩
        have hil : i < len := by simpa using hi
        have hc := (World.cells?_some (hfv i hil).1).2.2
        have hg : ((List.range len).map f)[i] = f i := by simp
        rw [hg]
        have q : ∀ j, j < 5 → W.cell? ⟨pb, po + i * 5 + j, none⟩ = ([.int .i64 (f i).k, .int .u64 (f i).n, .string (f i).s, .slice (f i).a (f i).l.length (f i).c, .int .i64 (f i).e] : List Value)[j]? := fun j hj => by
          have := hc j hj
          rwa [add_none, add_none] at this
        exact ⟨q 0 (by omega), q 1 (by omega), q 2 (by omega), q 3 (by omega), q 4 (by omega)⟩
      · obtain ⟨i, hi, rfl⟩ := List.mem_map.1 hx
        exact (hfv i (List.mem_range.1 hi)).2

theorem weights_each {H : Type} {P : Program} {ts : List TypeId} {ds : List (DataW H)} (h : (DataW.weightsEach P ts ds).all (· ≤ reachBytes) = true) {j : Nat} {t : TypeId} {d : DataW H} (ht : ts[j]? = some t) (hd : ds[j]? = some d) :
    ∀ n ∈ d.weights P t, n ≤ reachBytes := fun n hn => by
  have := List.all_eq_true.1 h n (DataW.weights_mem_each ht hd n hn)
  simpa using this
set_option maxRecDepth 100000 in
/-- an argument -/
theorem arg_open {H : Type} {enc : TypeId × Value → H} {W : World} {base fuel : Nat} {v : Value} {d : DataW H} {p : List MemPlace} (hval : Value.okWide Try.prog W .any base 48 v)
    (hf : DataW.trod enc Try.prog W 0 (fun _ => true) true fuel 48 v.cells.toList = some (d, p)) (hw : ∀ n ∈ d.weights Try.prog 48, n ≤ reachBytes) : ∃ x : V, v = x.val ∧ Lies W.heap.size W x := by
  obtain ⟨cs, rfl, _⟩ := okWide_struct Try.underlying48 hval
  obtain ⟨x, h1, h2⟩ := v_open fuel _ _ hf hw
  refine ⟨x, ?_, h2⟩
  rw [V.val_eq]
  simp only [Value.cells] at h1
  congr 1
  cases cs
  simpa using h1
end Go.Proofs.Ytknkmamjdmadcaa.U


/- Stage 14: what came in: a list of unsettled deliveries. -/
namespace Go.Proofs.Ytknkmamjdmadcaa.G
open Go.RowKit Go.ChangeShapes Go.WideShapes Go.ChangeAt
set_option linter.unusedVariables false
theorem Try.cellsI : Try.prog.cellsOf 3 = 1 := by kernel_rfl
theorem Try.cellsS : Try.prog.cellsOf 9 = 1 := by kernel_rfl
theorem Try.cellsV : Try.prog.cellsOf 48 = 5 := by kernel_rfl
theorem Try.cellsBo : Try.prog.cellsOf 4 = 1 := by kernel_rfl
theorem Try.cellsFa : Try.prog.cellsOf 50 = 7 := by kernel_rfl
theorem Try.cellsSt : Try.prog.cellsOf 53 = 19 := by kernel_rfl
theorem Try.cellsSl : Try.prog.cellsOf 51 = 1 := by kernel_rfl
theorem Try.cellsUn : Try.prog.cellsOf 70 = 20 := by kernel_rfl
theorem Try.bytesSt : Try.prog.bytesOf 53 = 232 := by kernel_rfl
theorem Try.bytesUn : Try.prog.bytesOf 70 = 248 := by kernel_rfl
theorem addr_add (b off j : Nat) : (⟨b, off, none⟩ : Addr).add j = ⟨b, off + j, none⟩ := by
  by_cases h : j = 0 <;> simp [Addr.add, h]
theorem StIn.le {Q : Nat → Prop} {w : World} {d e : Nat} {s : Sw} (h : StIn Q w d s) (he : d ≤ e) : StIn Q w e s := by
  obtain ⟨k, rfl⟩ := Nat.le.dest he
  clear he
  induction k with
  | zero => exact h
  | succ k ih => exact ih.up
theorem cut {α : Type} (l : List α) (a k : Nat) : l.drop a = (l.drop a).take k ++ l.drop (a + k) := by
  rw [← List.drop_drop]
  exact (List.take_append_drop _ _).symm
theorem two {α : Type} (l : List α) (h : l.length = 2) : ∃ a b, l = [a, b] := by
  match l, h with
  | [a, b], _ => exact ⟨a, b, rfl⟩
theorem three {α : Type} (l : List α) (h : l.length = 3) : ∃ a b c, l = [a, b, c] := by
  match l, h with
  | [a, b, c], _ => exact ⟨a, b, c, rfl⟩
theorem nine {α : Type} (l : List α) (h : l.length = 9) : ∃ a b c d e f g i j, l = [a, b, c, d, e, f, g, i, j] := by
  match l, h with
  | [a, b, c, d, e, f, g, i, j], _ => exact ⟨a, b, c, d, e, f, g, i, j, rfl⟩
/-- a fault that came in -/
theorem fa_open {H : Type} {enc : TypeId × Value → H} {W : World} (fuel : Nat) (cs : List Value) (x : DataW H × List MemPlace)
    (hx : DataW.trod enc Try.prog W 0 (fun _ => true) true fuel 50 cs = some x) (hw : ∀ n ∈ x.1.weights Try.prog 50, n ≤ reachBytes) :
    ∃ (c t : ByteArray) (v : U.V), cs = fL c t v ∧ U.Lies W.heap.size W v := by
  obtain ⟨xs, n, hfu, rfl, hlen, hxl, hf⟩ := DataW.trod_struct Try.underlying50 hx
  rw [Try.cellsFa] at hlen
  obtain ⟨x0, x1, x2, rfl⟩ := three xs hxl
  have f0 : DataW.trod enc Try.prog W 0 (fun _ => true) true n 9 ((cs.drop 0).take (Try.prog.cellsOf 9)) = some x0 := hf 0 _ rfl
  have f1 : DataW.trod enc Try.prog W 0 (fun _ => true) true n 9 ((cs.drop 1).take (Try.prog.cellsOf 9)) = some x1 := hf 1 _ rfl
  have f2 : DataW.trod enc Try.prog W 0 (fun _ => true) true n 48 ((cs.drop 2).take (Try.prog.cellsOf 48)) = some x2 := hf 2 _ rfl
  rw [Try.cellsS] at f0 f1
  rw [Try.cellsV] at f2
  obtain ⟨s, e0, _, _⟩ := DataW.trod_string Try.underlying9 f0
  obtain ⟨t, e1, _, _⟩ := DataW.trod_string Try.underlying9 f1
  obtain ⟨v, e2, lv⟩ := U.v_open n _ _ f2 (fun q hq => hw q (by
    simp only [DataW.weights, Try.underlying50, List.map_cons, List.map_nil, DataW.weightsEach, List.mem_append]
    simp [hq]))
  refine ⟨s, t, v, ?_, lv⟩
  have : cs = cs.drop 0 := rfl
  rw [this, cut cs 0 1, cut cs (0 + 1) 1, cut cs (0 + 1 + 1) 5, e0, e1, e2, List.drop_of_length_le (l := cs) (by omega)]
  rfl
set_option maxRecDepth 100000 in
/-- a state that came in -/
theorem st_open {H : Type} {enc : TypeId × Value → H} {W : World} : ∀ (fuel : Nat) (cs : List Value) (x : DataW H × List MemPlace),
    DataW.trod enc Try.prog W 0 (fun _ => true) true fuel 53 cs = some x → (∀ n ∈ x.1.weights Try.prog 53, n ≤ reachBytes) →
    ∃ s : Sw, cs = s.L ∧ StIn (fun b => b < W.heap.size) W fuel s := by
  intro fuel
  induction fuel using Nat.strongRecOn with
  | _ fuel ih =>
    intro cs x hx hw
    obtain ⟨xs, n, hfu, rfl, hlen, hxl, hf⟩ := DataW.trod_struct Try.underlying53 hx
    rw [Try.cellsSt] at hlen
    obtain ⟨x0, x1, x2, x3, x4, x5, x6, x7, x8, rfl⟩ := nine xs hxl
    have f0 : DataW.trod enc Try.prog W 0 (fun _ => true) true n 3 ((cs.drop 0).take (Try.prog.cellsOf 3)) = some x0 := hf 0 _ rfl
    have f1 : DataW.trod enc Try.prog W 0 (fun _ => true) true n 3 ((cs.drop 1).take (Try.prog.cellsOf 3)) = some x1 := hf 1 _ rfl
    have f2 : DataW.trod enc Try.prog W 0 (fun _ => true) true n 3 ((cs.drop 2).take (Try.prog.cellsOf 3)) = some x2 := hf 2 _ rfl
    have f3 : DataW.trod enc Try.prog W 0 (fun _ => true) true n 50 ((cs.drop 3).take (Try.prog.cellsOf 50)) = some x3 := hf 3 _ rfl
    have f4 : DataW.trod enc Try.prog W 0 (fun _ => true) true n 4 ((cs.drop 10).take (Try.prog.cellsOf 4)) = some x4 := hf 4 _ rfl
    have f5 : DataW.trod enc Try.prog W 0 (fun _ => true) true n 4 ((cs.drop 11).take (Try.prog.cellsOf 4)) = some x5 := hf 5 _ rfl
    have f6 : DataW.trod enc Try.prog W 0 (fun _ => true) true n 48 ((cs.drop 12).take (Try.prog.cellsOf 48)) = some x6 := hf 6 _ rfl
    have f7 : DataW.trod enc Try.prog W 0 (fun _ => true) true n 9 ((cs.drop 17).take (Try.prog.cellsOf 9)) = some x7 := hf 7 _ rfl
    have f8 : DataW.trod enc Try.prog W 0 (fun _ => true) true n 51 ((cs.drop 18).take (Try.prog.cellsOf 51)) = some x8 := hf 8 _ rfl
    clear hf
    rw [Try.cellsI] at f0 f1 f2
    rw [Try.cellsFa] at f3
    rw [Try.cellsBo] at f4 f5
    rw [Try.cellsV] at f6
    rw [Try.cellsS] at f7
    rw [Try.cellsSl] at f8
    have hwj : ∀ q, (q ∈ x3.1.weights Try.prog 50 ∨ q ∈ x6.1.weights Try.prog 48 ∨ q ∈ x8.1.weights Try.prog 51) → q ≤ reachBytes := fun q hq => hw q (by
      simp only [DataW.weights, Try.underlying53, List.map_cons, List.map_nil, DataW.weightsEach, List.mem_append]
      rcases hq with h | h | h <;> simp [h])
    obtain ⟨k, e0, _, _⟩ := DataW.trod_int Try.underlying3 f0
    obtain ⟨se, e1, _, _⟩ := DataW.trod_int Try.underlying3 f1
    obtain ⟨ofs, e2, _, _⟩ := DataW.trod_int Try.underlying3 f2
    obtain ⟨co, tx, inf, e3, l3⟩ := fa_open n _ _ f3 (fun q hq => hwj q (.inl hq))
    obtain ⟨fa, e4, _⟩ := DataW.trod_bool Try.underlying4 f4
    obtain ⟨el, e5, _⟩ := DataW.trod_bool Try.underlying4 f5
    obtain ⟨an, e6, l6⟩ := U.v_open n _ _ f6 (fun q hq => hwj q (.inr (.inl hq)))
    obtain ⟨tn, e7, _, _⟩ := DataW.trod_string Try.underlying9 f7
    have hcs : ∀ c8 : Value, (cs.drop 18).take 1 = [c8] → cs = [.int .i64 k, .int .i64 se, .int .i64 ofs] ++ fL co tx inf ++ ([.bool fa, .bool el] ++ wL an ++ [.string tn, c8]) := fun c8 e8 => by
      have : cs = cs.drop 0 := rfl
      rw [this, cut cs 0 1, cut cs (0 + 1) 1, cut cs (0 + 1 + 1) 1, cut cs (0 + 1 + 1 + 1) 7, cut cs (0 + 1 + 1 + 1 + 7) 1, cut cs (0 + 1 + 1 + 1 + 7 + 1) 1, cut cs (0 + 1 + 1 + 1 + 7 + 1 + 1) 5, cut cs (0 + 1 + 1 + 1 + 7 + 1 + 1 + 5) 1, cut cs (0 + 1 + 1 + 1 + 7 + 1 + 1 + 5 + 1) 1, e0, e1, e2, e3, e4, e5, e6, e7, e8, List.drop_of_length_le (l := cs) (by omega)]
      rfl
    rcases DataW.trod_slice Try.underlying51 f8 with ⟨e8, rfl⟩ | ⟨a, len, cap, elems, rest, n', hn', e8, rfl, _, hlc, hcm, hel, hE, hR, _⟩
    · exact ⟨⟨k, se, ofs, co, tx, inf, fa, el, an, tn, none, 0, 0⟩, hcs _ e8, StIn.le (d := 0) ⟨l3, l6, Nat.le_refl _, rfl⟩ (Nat.zero_le _)⟩
    · have hlen2 : len ≤ 606627104962 := by
        have := hwj ((elems.length + rest.length) * 232) (.inr (.inr (by simp [DataW.weights, Try.underlying51, Try.bytesSt])))
        simp only [reachBytes] at this
        omega
      rw [Try.cellsSt] at hE
      have hpick : ∀ i, ∃ v : Sw, i < len → W.cells? 0 (a.add (i * 19)) 19 = some v.L ∧ StIn (fun b => b < W.heap.size) W n' v := by
        intro i
        by_cases hi : i < len
        · have h1 := hE i hi
          rw [List.getElem?_eq_getElem (by omega)] at h1
          obtain ⟨ci, hci, hti⟩ := Option.bind_eq_some_iff.1 h1
          obtain ⟨v, rfl, hv⟩ := ih n' (by omega) ci _ hti (fun q hq => hwj q (.inr (.inr (by
            simp only [DataW.weights, Try.underlying51, List.mem_cons, List.mem_append]
            exact .inr (.inl (U.weightsAll_mem _ (List.mem_map_of_mem (List.getElem_mem _)) hq))))))
          exact ⟨v, fun _ => ⟨hci, hv⟩⟩
        · exact ⟨sw0, fun h => absurd h hi⟩
      obtain ⟨f, hfv⟩ := Classical.axiomOfChoice hpick
      refine ⟨⟨k, se, ofs, co, tx, inf, fa, el, an, tn, some a, len, cap⟩, hcs _ e8, StIn.le (d := n' + 1) ⟨l3, l6, hlc, hlen2, f, fun h0 => ?_, fun i hi => (hfv i hi).2⟩ (by omega)⟩
      obtain ⟨pb, po, spot⟩ := a
      have hc0 : W.cell? (((⟨pb, po, spot⟩ : Addr).add (0 * 19)).add 0) = some (.int .i64 (f 0).k) := (World.cells?_some (hfv 0 h0).1).2.2 0 (by omega)
      have hspot : spot = none := by simpa [Addr.add] using World.cell?_spot hc0
      subst hspot
      refine ⟨pb, po, rfl, by have := World.cells?_block (hfv 0 h0).1 (by omega); rwa [addr_add] at this, fun i hi q v hv => ?_⟩
      have hc := (World.cells?_some (hfv i hi).1).2.2
      have hq : q < 19 := (List.getElem?_eq_some_iff.1 hv).1
      have := hc q hq
      rw [addr_add, addr_add] at this
      rw [this]
      exact hv
set_option maxRecDepth 100000 in
/-- an unsettled delivery that came in -/
theorem un_cells {H : Type} {enc : TypeId × Value → H} {W : World} {fuel : Nat} {cs : List Value} {x : DataW H × List MemPlace}
    (hx : DataW.trod enc Try.prog W 0 (fun _ => true) true fuel 70 cs = some x) (hw : ∀ n ∈ x.1.weights Try.prog 70, n ≤ reachBytes) :
    ∃ u : Un, cs = u.enc ∧ StIn (fun b => b < W.heap.size) W fuel u.2 ∧ u.1.size ≤ maxLen := by
  obtain ⟨xs, n, hfu, rfl, hlen, hxl, hf⟩ := DataW.trod_struct Try.underlying70 hx
  rw [Try.cellsUn] at hlen
  obtain ⟨x0, x1, rfl⟩ := two xs hxl
  have f0 : DataW.trod enc Try.prog W 0 (fun _ => true) true n 9 ((cs.drop 0).take (Try.prog.cellsOf 9)) = some x0 := hf 0 _ rfl
  have f1 : DataW.trod enc Try.prog W 0 (fun _ => true) true n 53 ((cs.drop 1).take (Try.prog.cellsOf 53)) = some x1 := hf 1 _ rfl
  rw [Try.cellsS] at f0
  rw [Try.cellsSt] at f1
  have hwj : ∀ q, (q ∈ x0.1.weights Try.prog 9 ∨ q ∈ x1.1.weights Try.prog 53) → q ≤ reachBytes := fun q hq => hw q (by
    simp only [DataW.weights, Try.underlying70, List.map_cons, List.map_nil, DataW.weightsEach, List.mem_append]
    rcases hq with h | h <;> simp [h])
  obtain ⟨t, e0, hx0, _⟩ := DataW.trod_string Try.underlying9 f0
  obtain ⟨s, e1, ls⟩ := st_open n _ _ f1 (fun q hq => hwj q (.inr hq))
  have hsz : t.size ≤ maxLen := by
    have := hwj t.data.toList.length (.inl (by rw [hx0]; simp [DataW.weights]))
    simp only [reachBytes, Array.length_toList] at this
    have e : t.size = t.data.size := rfl
    have : maxLen = 9223372036854775807 := rfl
    omega
  refine ⟨(t, s), ?_, StIn.le ls (by omega), hsz⟩
  have : cs = cs.drop 0 := rfl
  rw [this, cut cs 0 1, cut cs (0 + 1) 19, e0, e1, List.drop_of_length_le (l := cs) (by omega), List.append_nil]
  rfl
theorem uns_fit {H : Type} {enc : TypeId × Value → H} {W : World} {a : Option Addr} {len cap fuel : Nat} {x : DataW H × List MemPlace}
    (hf : DataW.trod enc Try.prog W 0 (fun _ => true) true fuel 40 [.slice a len cap] = some x) (hw : ∀ n ∈ x.1.weights Try.prog 40, n ≤ reachBytes) :
    ∃ ps : List Un, len = ps.length ∧ ps.length ≤ 140737488355328 ∧ RdP W a ps ∧ (∀ x ∈ ps, StIn (fun b => b < W.heap.size) W fuel x.2) ∧ ∀ x ∈ ps, x.1.size ≤ maxLen := by
  rcases DataW.trod_slice Try.underlying40 hf with ⟨e3, rfl⟩ | ⟨y, l, c, elems, rest, n', hn', e3, rfl, _, hlc, hcm, hel, hE, hR, _⟩
  · simp at e3
    obtain ⟨rfl, rfl, rfl⟩ := e3
    exact ⟨[], rfl, by simp, fun j hj => by simp at hj, fun x hx => by simp at hx, fun x hx => by simp at hx⟩
  · simp at e3
    obtain ⟨rfl, rfl, rfl⟩ := e3
    have hwl : len ≤ 140737488355328 := by
      have := hw ((elems.length + rest.length) * 248) (by simp [DataW.weights, Try.underlying40, Try.bytesUn])
      simp only [reachBytes] at this
      omega
    rw [Try.cellsUn] at hE
    have hpick : ∀ i, ∃ f : Un, i < len → W.cells? 0 (y.add (i * 20)) 20 = some f.enc ∧ StIn (fun b => b < W.heap.size) W n' f.2 ∧ f.1.size ≤ maxLen := by
      intro i
      by_cases hi : i < len
      · have h1 := hE i hi
        rw [List.getElem?_eq_getElem (by omega)] at h1
        obtain ⟨ci, hci, hti⟩ := Option.bind_eq_some_iff.1 h1
        obtain ⟨f, rfl, q1⟩ := un_cells hti (fun q hq => hw q (by
          simp only [DataW.weights, Try.underlying40, List.mem_cons, List.mem_append]
          exact .inr (.inl (U.weightsAll_mem _ (List.mem_map_of_mem (List.getElem_mem _)) hq))))
        exact ⟨f, fun _ => ⟨hci, q1⟩⟩
      · exact ⟨(⟨#[]⟩, sw0), fun h => absurd h hi⟩
    obtain ⟨fs, hfv⟩ := Classical.axiomOfChoice hpick
    have hll : ((List.range len).map fs).length = len := by simp
    refine ⟨(List.range len).map fs, hll.symm, by rw [hll]; exact hwl, fun j hj => ?_, fun x hx => ?_, fun x hx => ?_⟩
    · have hj' : j < len := by rw [hll] at hj; exact hj
      have hg : ((List.range len).map fs)[j] = fs j := by simp
      rw [hg]
      obtain ⟨pb, po, spot⟩ := y
      have hc0 : W.cell? (((⟨pb, po, spot⟩ : Addr).add (0 * 20)).add 0) = some (.string (fs 0).1) := (World.cells?_some (hfv 0 (by omega)).1).2.2 0 (by omega)
      have hspot : spot = none := by simpa [Addr.add] using World.cell?_spot hc0
      subst hspot
      refine ⟨pb, po, rfl, by have := World.cells?_block (hfv j hj').1 (by omega); rwa [addr_add] at this, fun q v hv => ?_⟩
      have hc := (World.cells?_some (hfv j hj').1).2.2
      have hq : q < 20 := (List.getElem?_eq_some_iff.1 hv).1
      have := hc q hq
      rw [addr_add, addr_add] at this
      rw [this]
      exact hv
    · obtain ⟨i, hi, rfl⟩ := List.mem_map.1 hx
      exact StIn.le (hfv i (List.mem_range.1 hi)).2.1 (by omega)
    · obtain ⟨i, hi, rfl⟩ := List.mem_map.1 hx
      exact (hfv i (List.mem_range.1 hi)).2.2
end Go.Proofs.Ytknkmamjdmadcaa.G
