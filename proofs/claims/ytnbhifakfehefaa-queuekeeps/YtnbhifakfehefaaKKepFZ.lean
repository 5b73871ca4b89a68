import Derived.Test.YtnbhifakfehefaaKLive
import Derived.Test.YtnbhifakfehefaaRows
import Derived.SizedLaws
import Derived.JoinedOf
import Derived.Test.YtnbhifakfehefaaKOrdC
import Derived.WalkKit
import Derived.ProofKit
import Derived.OpenShut
import Derived.Test.YtnbhifakfehefaaKKepWZ

/- Stage 17: what came in: a configuration. -/
namespace Go.Proofs.Ytnbhifakfehefaa
open Go.RowKit Go.ChangeShapes Go.WideShapes Go.ChangeAt
set_option linter.unusedVariables false
theorem own : ownKnob Try.prog.godebug = none := by kernel_rfl
theorem laidOut : laidOutB Try.prog = true := by kernel_rfl
theorem Try.cellsI : Try.prog.cellsOf 3 = 1 := by kernel_rfl
theorem Try.cellsS : Try.prog.cellsOf 9 = 1 := by kernel_rfl
theorem Try.cellsBo : Try.prog.cellsOf 4 = 1 := by kernel_rfl
theorem Try.cellsQc : Try.prog.cellsOf 24 = 5 := by kernel_rfl
theorem five {α : Type} (l : List α) (h : l.length = 5) : ∃ a b c d e, l = [a, b, c, d, e] := by
  match l, h with
  | [a, b, c, d, e], _ => exact ⟨a, b, c, d, e, rfl⟩
theorem weights_each {H : Type} {P : Program} {ts : List TypeId} {ds : List (DataW H)} (h : (DataW.weightsEach P ts ds).all (· ≤ reachBytes) = true) {j : Nat} {t : TypeId} {d : DataW H} (ht : ts[j]? = some t) (hd : ds[j]? = some d) :
    ∀ n ∈ d.weights P t, n ≤ reachBytes := fun n hn => by
  have := List.all_eq_true.1 h n (DataW.weights_mem_each ht hd n hn)
  simpa using this
set_option maxRecDepth 100000 in
theorem cfg_open {H : Type} {enc : TypeId × Value → H} {W : World} {base fuel : Nat} {v : Value} {x : DataW H × List MemPlace} (hval : Value.okWide Try.prog W .any base 24 v)
    (hf : DataW.trod enc Try.prog W 0 (fun _ => true) true fuel 24 v.cells.toList = some x) (hw : ∀ n ∈ x.1.weights Try.prog 24, n ≤ reachBytes) : ∃ c : Cf, v = c.val ∧ c.s.size ≤ 281474976710656 ∧ c.d.size ≤ 281474976710656 := by
  obtain ⟨cs, rfl, hcs⟩ := okWide_struct Try.underlying24 hval
  obtain ⟨xs, n, hfu, hx, hlen, hxl, hff⟩ := DataW.trod_struct Try.underlying24 hf
  rw [Try.cellsQc] at hlen
  obtain ⟨c0, c1, c2, c3, c4, hcl⟩ := five _ hlen
  rw [hcl] at hff
  obtain ⟨x0, x1, x2, x3, x4, rfl⟩ := five xs hxl
  have f0 : DataW.trod enc Try.prog W 0 (fun _ => true) true n 9 ([c0, c1, c2, c3, c4].take (Try.prog.cellsOf 9)) = some x0 := hff 0 _ rfl
  have f1 : DataW.trod enc Try.prog W 0 (fun _ => true) true n 3 ([c1, c2, c3, c4].take (Try.prog.cellsOf 3)) = some x1 := hff 1 _ rfl
  have f2 : DataW.trod enc Try.prog W 0 (fun _ => true) true n 9 ([c2, c3, c4].take (Try.prog.cellsOf 9)) = some x2 := hff 2 _ rfl
  have f3 : DataW.trod enc Try.prog W 0 (fun _ => true) true n 3 ([c3, c4].take (Try.prog.cellsOf 3)) = some x3 := hff 3 _ rfl
  have f4 : DataW.trod enc Try.prog W 0 (fun _ => true) true n 4 ([c4].take (Try.prog.cellsOf 4)) = some x4 := hff 4 _ rfl
  rw [Try.cellsI] at f1 f3
  rw [Try.cellsS] at f0 f2
  rw [Try.cellsBo] at f4
  simp only [List.take_succ_cons, List.take_zero] at f0 f1 f2 f3 f4
  obtain ⟨s, e0, rfl, _⟩ := DataW.trod_string Try.underlying9 f0
  obtain ⟨m, e1, _, w1⟩ := DataW.trod_int Try.underlying3 f1
  obtain ⟨d, e2, rfl, _⟩ := DataW.trod_string Try.underlying9 f2
  obtain ⟨t, e3, _, w3⟩ := DataW.trod_int Try.underlying3 f3
  obtain ⟨b, e4, _⟩ := DataW.trod_bool Try.underlying4 f4
  obtain rfl : c0 = .string s := by simpa using e0
  obtain rfl : c1 = .int .i64 m := by simpa using e1
  obtain rfl : c2 = .string d := by simpa using e2
  obtain rfl : c3 = .int .i64 t := by simpa using e3
  obtain rfl : c4 = .bool b := by simpa using e4
  have hs : s.data.toList.length ≤ reachBytes := hw _ (by
    rw [hx]
    simp only [DataW.weights, Try.underlying24]
    exact DataW.weights_mem_each (j := 0) rfl rfl _ (by simp [DataW.weights]))
  have hd : d.data.toList.length ≤ reachBytes := hw _ (by
    rw [hx]
    simp only [DataW.weights, Try.underlying24]
    exact DataW.weights_mem_each (j := 2) rfl rfl _ (by simp [DataW.weights]))
  have hz : ∀ u : ByteArray, u.data.toList.length ≤ reachBytes → u.size ≤ 281474976710656 := fun u hu => by
    have : u.size = u.data.toList.length := (Array.length_toList (xs := u.data)).symm
    rw [this]
    simp only [reachBytes] at hu
    omega
  refine ⟨⟨s, m, d, t, b⟩, ?_, hz s hs, hz d hd⟩
  simp only [Value.cells] at hcl
  unfold Cf.val
  congr 1
  cases cs
  simpa using congrArg List.toArray hcl
end Go.Proofs.Ytnbhifakfehefaa


/- Stage 17: what came in: entries, numbers. -/
namespace Go.Proofs.Ytnbhifakfehefaa
open Go.RowKit Go.ChangeShapes Go.WideShapes Go.ChangeAt
set_option linter.unusedVariables false
theorem Try.cells5 : Try.prog.cellsOf 5 = 1 := by kernel_rfl
theorem Try.cellsB : Try.prog.cellsOf 35 = 1 := by kernel_rfl
theorem Try.cellsEn : Try.prog.cellsOf 37 = 7 := by kernel_rfl
theorem Try.bytesEn : Try.prog.bytesOf 37 = 72 := by kernel_rfl
theorem Try.bytesIn : Try.prog.bytesOf 3 = 8 := by kernel_rfl
theorem wf_u8 {n : Int} (h : (Lit.int .u8 n).wf = true) : 0 ≤ n ∧ n ≤ 255 := by
  simpa [Lit.wf, IntKind.min, IntKind.max, IntKind.signed, IntKind.bits] using h
theorem wf_i64 {n : Int} (h : (Lit.int .i64 n).wf = true) : -9223372036854775808 ≤ n ∧ n ≤ 9223372036854775807 := by
  simpa [Lit.wf, IntKind.min, IntKind.max, IntKind.signed, IntKind.bits] using h
theorem add_none (b off j : Nat) : (⟨b, off, none⟩ : Addr).add j = ⟨b, off + j, none⟩ := by
  by_cases h : j = 0 <;> simp [Addr.add, h]
theorem Rd.of_cells {W : World} {x : Addr} {len cap : Nat} {zs : List Int} (hl : len ≤ cap) (hz : zs.length = cap)
    (hcell : ∀ i, i < zs.length → W.cell? (x.add i) = some (.int .u8 (zs.getD i 0))) (hwz : ∀ n ∈ zs, (Lit.int .u8 n).wf = true) :
    Rd W (some x) len ((zs.take len).map Int.toNat) := by
  have hb : ∀ n ∈ zs, 0 ≤ n ∧ n ≤ 255 := fun n hn => wf_u8 (hwz n hn)
  refine ⟨by simp; omega, ?_, fun hn => ?_⟩
  · intro c hc
    obtain ⟨n, hn, rfl⟩ := List.mem_map.1 hc
    have := hb n (List.mem_of_mem_take hn)
    omega
  · obtain ⟨b, off, spot⟩ := x
    have hc := hcell 0 (by omega)
    have hspot : spot = none := by simpa [Addr.add] using World.cell?_spot hc
    subst hspot
    refine ⟨b, off, rfl, block_lt_of_cell hc, fun j hj => ?_⟩
    have hcj := hcell j (by omega)
    have hcj' : W.cell? ⟨b, off + j, none⟩ = some (.int .u8 (zs.getD j 0)) := by rw [← add_none]; exact hcj
    rw [hcj']
    have hjz : j < zs.length := by omega
    have h0 := hb zs[j] (List.getElem_mem _)
    have e1 : zs.getD j 0 = zs[j] := by rw [List.getD_eq_getElem?_getD, List.getElem?_eq_getElem hjz]; rfl
    have e2 : ((zs.take len).map Int.toNat).getD j 0 = zs[j].toNat := by
      simp [List.getD_eq_getElem?_getD, hj, List.getElem?_eq_getElem hjz]
    rw [e1, e2]
    congr 2
    omega
/-- a list of bytes that came in -/
theorem bytes_row {H : Type} {enc : TypeId × Value → H} {W : World} {fuel : Nat} {c : Value} {x : DataW H × List MemPlace}
    (hf : DataW.trod enc Try.prog W 0 (fun _ => true) true fuel 35 [c] = some x) :
    ∃ a len cap, c = .slice a len cap ∧ ∃ l : List Nat, Rd W a len l ∧ len ≤ cap ∧ (a = none → cap = 0) := by
  rcases open_ints Try.underlying35 Try.underlying5 Try.cells5 hf with ⟨hcs, hx⟩ | ⟨y, l, c', zs, hcs, _, hl, hm, hz, hx, hcell, hwz⟩
  · obtain rfl : c = .slice none 0 0 := by simpa using hcs
    exact ⟨none, 0, 0, rfl, [], ⟨rfl, by simp, by omega⟩, Nat.le_refl _, fun _ => rfl⟩
  · obtain rfl : c = .slice (some y) l c' := by simpa using hcs
    simp only [if_true] at hz
    exact ⟨_, _, _, rfl, _, Rd.of_cells hl hz hcell hwz, hl, fun h => by cases h⟩
theorem weights_all {H : Type} {P : Program} {t : TypeId} : ∀ {ds : List (DataW H)} {d : DataW H}, d ∈ ds → ∀ n ∈ d.weights P t, n ∈ DataW.weightsAll P t ds
  | d0 :: ds, d, hd, n, hn => by
    simp only [DataW.weightsAll, List.mem_append]
    rcases List.mem_cons.1 hd with rfl | h
    · exact .inl hn
    · exact .inr (weights_all h n hn)
theorem seven {α : Type} (l : List α) (h : l.length = 7) : ∃ a b c d e f g, l = [a, b, c, d, e, f, g] := by
  match l, h with
  | [a, b, c, d, e, f, g], _ => exact ⟨a, b, c, d, e, f, g, rfl⟩
def EvOk (W : World) (e : Ev) : Prop := ∃ l : List Nat, e.n = l.length ∧ Rd W e.a e.n l ∧ (e.a = none → e.c = 0) ∧ e.n ≤ e.c
set_option maxRecDepth 100000 in
theorem entry_fit {H : Type} {enc : TypeId × Value → H} {W : World} {fuel : Nat} {cs : List Value} {x : DataW H × List MemPlace}
    (hf : DataW.trod enc Try.prog W 0 (fun _ => true) true fuel 37 cs = some x) : ∃ e : Ev, cs = e.enc ∧ EvOk W e := by
  obtain ⟨xs, n, hfu, hx, hlen, hxl, hff⟩ := DataW.trod_struct Try.underlying37 hf
  rw [Try.cellsEn] at hlen
  obtain ⟨c0, c1, c2, c3, c4, c5, c6, rfl⟩ := seven _ hlen
  obtain ⟨x0, x1, x2, x3, x4, x5, x6, rfl⟩ := seven xs hxl
  have f0 : DataW.trod enc Try.prog W 0 (fun _ => true) true n 3 ([c0, c1, c2, c3, c4, c5, c6].take (Try.prog.cellsOf 3)) = some x0 := hff 0 _ rfl
  have f1 : DataW.trod enc Try.prog W 0 (fun _ => true) true n 3 ([c1, c2, c3, c4, c5, c6].take (Try.prog.cellsOf 3)) = some x1 := hff 1 _ rfl
  have f2 : DataW.trod enc Try.prog W 0 (fun _ => true) true n 3 ([c2, c3, c4, c5, c6].take (Try.prog.cellsOf 3)) = some x2 := hff 2 _ rfl
  have f3 : DataW.trod enc Try.prog W 0 (fun _ => true) true n 4 ([c3, c4, c5, c6].take (Try.prog.cellsOf 4)) = some x3 := hff 3 _ rfl
  have f4 : DataW.trod enc Try.prog W 0 (fun _ => true) true n 3 ([c4, c5, c6].take (Try.prog.cellsOf 3)) = some x4 := hff 4 _ rfl
  have f5 : DataW.trod enc Try.prog W 0 (fun _ => true) true n 3 ([c5, c6].take (Try.prog.cellsOf 3)) = some x5 := hff 5 _ rfl
  have f6 : DataW.trod enc Try.prog W 0 (fun _ => true) true n 35 ([c6].take (Try.prog.cellsOf 35)) = some x6 := hff 6 _ rfl
  rw [Try.cellsI] at f0 f1 f2 f4 f5
  rw [Try.cellsBo] at f3
  rw [Try.cellsB] at f6
  simp only [List.take_succ_cons, List.take_zero] at f0 f1 f2 f3 f4 f5 f6
  obtain ⟨v0, e0, _, _⟩ := DataW.trod_int Try.underlying3 f0
  obtain ⟨v1, e1, _, _⟩ := DataW.trod_int Try.underlying3 f1
  obtain ⟨v2, e2, _, _⟩ := DataW.trod_int Try.underlying3 f2
  obtain ⟨v3, e3, _⟩ := DataW.trod_bool Try.underlying4 f3
  obtain ⟨v4, e4, _, _⟩ := DataW.trod_int Try.underlying3 f4
  obtain ⟨v5, e5, _, _⟩ := DataW.trod_int Try.underlying3 f5
  obtain ⟨a, na, ca, e6, l, r1, r2, r3⟩ := bytes_row f6
  obtain rfl : c0 = .int .i64 v0 := by simpa using e0
  obtain rfl : c1 = .int .i64 v1 := by simpa using e1
  obtain rfl : c2 = .int .i64 v2 := by simpa using e2
  obtain rfl : c3 = .bool v3 := by simpa using e3
  obtain rfl : c4 = .int .i64 v4 := by simpa using e4
  obtain rfl : c5 = .int .i64 v5 := by simpa using e5
  subst e6
  exact ⟨⟨v0, v1, v2, v3, v4, v5, a, na, ca⟩, rfl, l, r1.1.symm, r1, r3, r2⟩
theorem entries_fit {H : Type} {enc : TypeId × Value → H} {W : World} {a : Option Addr} {len cap fuel : Nat} {x : DataW H × List MemPlace}
    (hf : DataW.trod enc Try.prog W 0 (fun _ => true) true fuel 33 [.slice a len cap] = some x) (hw : ∀ n ∈ x.1.weights Try.prog 33, n ≤ reachBytes) : len ≤ 140737488351232 ∧ ∃ f : Nat → Ev, InE W a len f := by
  rcases DataW.trod_slice Try.underlying33 hf with ⟨e3, rfl⟩ | ⟨y, l, c, elems, rest, n', hn', e3, rfl, _, hlc, hcm, hel, hE, hR, _⟩
  · simp at e3
    obtain ⟨rfl, rfl, rfl⟩ := e3
    exact ⟨by omega, fun _ => ⟨0, 0, 0, false, 0, 0, none, 0, 0⟩, fun h => by omega, fun j hj => by omega⟩
  · simp at e3
    obtain ⟨rfl, rfl, rfl⟩ := e3
    have hwl : len ≤ 140737488351232 := by
      have := hw (((elems.map (·.1)).length + _) * Try.prog.bytesOf 37) (by
        simp only [DataW.weights, Try.underlying33, List.mem_cons]
        exact .inl rfl)
      rw [Try.bytesEn, List.length_map, hel] at this
      simp only [reachBytes] at this
      omega
    rw [Try.cellsEn] at hE
    have hpick : ∀ i, ∃ f : Ev, i < len → W.cells? 0 (y.add (i * 7)) 7 = some f.enc ∧ EvOk W f := by
      intro i
      by_cases hi : i < len
      · have h1 := hE i hi
        rw [List.getElem?_eq_getElem (by omega)] at h1
        obtain ⟨ci, hci, hti⟩ := Option.bind_eq_some_iff.1 h1
        obtain ⟨f, rfl, q1⟩ := entry_fit hti
        exact ⟨f, fun _ => ⟨hci, q1⟩⟩
      · exact ⟨⟨0, 0, 0, false, 0, 0, none, 0, 0⟩, fun h => absurd h hi⟩
    obtain ⟨fs, hfv⟩ := Classical.axiomOfChoice hpick
    refine ⟨hwl, fs, fun h0 => ?_, fun j hj => (hfv j hj).2⟩
    obtain ⟨pb, po, spot⟩ := y
    have hc0 := (World.cells?_some (hfv 0 h0).1).2.2 0 (by omega)
    have hspot : spot = none := by
      simp only [Ev.enc, List.getElem?_cons_zero] at hc0
      simpa [Addr.add] using World.cell?_spot hc0
    subst hspot
    refine ⟨pb, po, rfl, World.cells?_block (hfv 0 h0).1 (by omega), fun i hi j u hu => ?_⟩
    have hc := (World.cells?_some (hfv i hi).1).2.2
    have hj : j < 7 := (List.getElem?_eq_some_iff.1 hu).1
    have := hc j hj
    rw [add_none, add_none] at this
    exact this.trans hu
theorem ints_fit {H : Type} {enc : TypeId × Value → H} {W : World} {a : Option Addr} {len cap fuel : Nat} {x : DataW H × List MemPlace}
    (hf : DataW.trod enc Try.prog W 0 (fun _ => true) true fuel 34 [.slice a len cap] = some x) (hw : ∀ n ∈ x.1.weights Try.prog 34, n ≤ reachBytes) : len ≤ 140737488351232 ∧ ∃ zs : List Int, Ri W a len zs ∧ ∀ j, j < len → -9223372036854775808 ≤ zs.getD j 0 ∧ zs.getD j 0 < 9223372036854775808 := by
  rcases open_ints Try.underlying34 Try.underlying3 Try.cellsI hf with ⟨hcs, hx⟩ | ⟨y, l, c, zs, hcs, _, hl, hm, hz, hx, hcell, hwz⟩
  · simp at hcs
    obtain ⟨rfl, rfl, rfl⟩ := hcs
    exact ⟨by omega, [], fun h => by omega, fun j h => by omega⟩
  · simp at hcs
    obtain ⟨rfl, rfl, rfl⟩ := hcs
    simp only [if_true] at hz
    subst hx
    have h4 : (lits (H := H) .i64 (zs.take len)).length = len := by simp [lits]; omega
    have hwl : len ≤ 140737488351232 := by
      have := hw (((lits (H := H) .i64 (zs.take len)).length + _) * Try.prog.bytesOf 3) (by
        simp only [DataW.weights, Try.underlying34, List.mem_cons]
        exact .inl rfl)
      rw [Try.bytesIn, h4] at this
      simp only [reachBytes] at this
      omega
    refine ⟨hwl, zs, fun hn => ?_, fun j hj => ?_⟩
    · obtain ⟨b, off, spot⟩ := y
      have hc := hcell 0 (by omega)
      have hspot : spot = none := by simpa [Addr.add] using World.cell?_spot hc
      subst hspot
      refine ⟨b, off, rfl, block_lt_of_cell hc, fun j hj => ?_⟩
      rw [← add_none]
      exact hcell j (by omega)
    · have hjz : j < zs.length := by omega
      have := wf_i64 (hwz (zs.getD j 0) (by rw [List.getD_eq_getElem?_getD, List.getElem?_eq_getElem hjz]; exact List.getElem_mem hjz))
      omega
end Go.Proofs.Ytnbhifakfehefaa


/- Stage 17: what came in: operations; entries, by their bytes. -/
namespace Go.Proofs.Ytnbhifakfehefaa
open Go.RowKit Go.ChangeShapes Go.WideShapes Go.ChangeAt
set_option linter.unusedVariables false
theorem Try.cellsIs : Try.prog.cellsOf 34 = 1 := by kernel_rfl
theorem Try.cellsOp : Try.prog.cellsOf 48 = 13 := by kernel_rfl
theorem Try.bytesOp : Try.prog.bytesOf 48 = 136 := by kernel_rfl
theorem entries_fit2 {H : Type} {enc : TypeId × Value → H} {W : World} {a : Option Addr} {len cap fuel : Nat} {x : DataW H × List MemPlace}
    (hf : DataW.trod enc Try.prog W 0 (fun _ => true) true fuel 33 [.slice a len cap] = some x) (hw : ∀ n ∈ x.1.weights Try.prog 33, n ≤ reachBytes) : len ≤ 1954687338211 ∧ ∃ f : Nat → Ev, InE W a len f := by
  refine ⟨?_, (entries_fit hf hw).2⟩
  rcases DataW.trod_slice Try.underlying33 hf with ⟨e3, rfl⟩ | ⟨y, l, c, elems, rest, n', hn', e3, rfl, _, hlc, hcm, hel, hE, hR, _⟩
  · simp at e3
    obtain ⟨rfl, rfl, rfl⟩ := e3
    omega
  · simp at e3
    obtain ⟨rfl, rfl, rfl⟩ := e3
    have := hw (((elems.map (·.1)).length + _) * Try.prog.bytesOf 37) (by
      simp only [DataW.weights, Try.underlying33, List.mem_cons]
      exact .inl rfl)
    rw [Try.bytesEn, List.length_map, hel] at this
    simp only [reachBytes] at this
    omega
theorem thirteen {α : Type} (l : List α) (h : l.length = 13) : ∃ a b c d e f g i j k m n o, l = [a, b, c, d, e, f, g, i, j, k, m, n, o] := by
  match l, h with
  | [a, b, c, d, e, f, g, i, j, k, m, n, o], _ => exact ⟨a, b, c, d, e, f, g, i, j, k, m, n, o, rfl⟩
set_option maxRecDepth 100000 in
theorem op_fit {H : Type} {enc : TypeId × Value → H} {W : World} {fuel : Nat} {cs : List Value} {x : DataW H × List MemPlace}
    (hf : DataW.trod enc Try.prog W 0 (fun _ => true) true fuel 48 cs = some x) : ∃ e : Od, cs = e.enc := by
  obtain ⟨xs, n, hfu, hx, hlen, hxl, hff⟩ := DataW.trod_struct Try.underlying48 hf
  rw [Try.cellsOp] at hlen
  obtain ⟨c0, c1, c2, c3, c4, c5, c6, c7, c8, c9, c10, c11, c12, rfl⟩ := thirteen _ hlen
  obtain ⟨x0, x1, x2, x3, x4, x5, x6, rfl⟩ := seven xs hxl
  have f0 : DataW.trod enc Try.prog W 0 (fun _ => true) true n 3 ([c0, c1, c2, c3, c4, c5, c6, c7, c8, c9, c10, c11, c12].take (Try.prog.cellsOf 3)) = some x0 := hff 0 _ rfl
  have f1 : DataW.trod enc Try.prog W 0 (fun _ => true) true n 3 ([c1, c2, c3, c4, c5, c6, c7, c8, c9, c10, c11, c12].take (Try.prog.cellsOf 3)) = some x1 := hff 1 _ rfl
  have f2 : DataW.trod enc Try.prog W 0 (fun _ => true) true n 3 ([c2, c3, c4, c5, c6, c7, c8, c9, c10, c11, c12].take (Try.prog.cellsOf 3)) = some x2 := hff 2 _ rfl
  have f3 : DataW.trod enc Try.prog W 0 (fun _ => true) true n 3 ([c3, c4, c5, c6, c7, c8, c9, c10, c11, c12].take (Try.prog.cellsOf 3)) = some x3 := hff 3 _ rfl
  have f4 : DataW.trod enc Try.prog W 0 (fun _ => true) true n 34 ([c4, c5, c6, c7, c8, c9, c10, c11, c12].take (Try.prog.cellsOf 34)) = some x4 := hff 4 _ rfl
  have f5 : DataW.trod enc Try.prog W 0 (fun _ => true) true n 4 ([c5, c6, c7, c8, c9, c10, c11, c12].take (Try.prog.cellsOf 4)) = some x5 := hff 5 _ rfl
  have f6 : DataW.trod enc Try.prog W 0 (fun _ => true) true n 37 ([c6, c7, c8, c9, c10, c11, c12].take (Try.prog.cellsOf 37)) = some x6 := hff 6 _ rfl
  rw [Try.cellsI] at f0 f1 f2 f3
  rw [Try.cellsBo] at f5
  rw [Try.cellsIs] at f4
  rw [Try.cellsEn] at f6
  simp only [List.take_succ_cons, List.take_zero] at f0 f1 f2 f3 f4 f5 f6
  obtain ⟨v0, e0, _, _⟩ := DataW.trod_int Try.underlying3 f0
  obtain ⟨v1, e1, _, _⟩ := DataW.trod_int Try.underlying3 f1
  obtain ⟨v2, e2, _, _⟩ := DataW.trod_int Try.underlying3 f2
  obtain ⟨v3, e3, _, _⟩ := DataW.trod_int Try.underlying3 f3
  obtain ⟨v5, e5, _⟩ := DataW.trod_bool Try.underlying4 f5
  obtain ⟨e, e6, _⟩ := entry_fit f6
  have e4 : ∃ a l c, c4 = .slice a l c := by
    rcases open_ints Try.underlying34 Try.underlying3 Try.cellsI f4 with ⟨hcs, _⟩ | ⟨y, l, c', zs, hcs, _⟩
    · exact ⟨none, 0, 0, by simpa using hcs⟩
    · exact ⟨some y, l, c', by simpa using hcs⟩
  obtain ⟨la, ln, lc, rfl⟩ := e4
  obtain rfl : c0 = .int .i64 v0 := by simpa using e0
  obtain rfl : c1 = .int .i64 v1 := by simpa using e1
  obtain rfl : c2 = .int .i64 v2 := by simpa using e2
  obtain rfl : c3 = .int .i64 v3 := by simpa using e3
  obtain rfl : c5 = .bool v5 := by simpa using e5
  refine ⟨⟨v0, v1, v2, v3, la, ln, lc, v5, e⟩, ?_⟩
  unfold Ev.enc at e6
  unfold Od.enc
  simp only [List.cons.injEq] at e6 ⊢
  simp only [true_and]
  exact e6
theorem ops_fit {H : Type} {enc : TypeId × Value → H} {W : World} {a : Option Addr} {len cap fuel : Nat} {x : DataW H × List MemPlace}
    (hf : DataW.trod enc Try.prog W 0 (fun _ => true) true fuel 46 [.slice a len cap] = some x) (hw : ∀ n ∈ x.1.weights Try.prog 46, n ≤ reachBytes) : len ≤ 140737488351232 ∧ ∃ g : Nat → Od, OpIn W a len g := by
  rcases DataW.trod_slice Try.underlying46 hf with ⟨e3, rfl⟩ | ⟨y, l, c, elems, rest, n', hn', e3, rfl, _, hlc, hcm, hel, hE, hR, _⟩
  · simp at e3
    obtain ⟨rfl, rfl, rfl⟩ := e3
    exact ⟨by omega, fun _ => ⟨0, 0, 0, 0, none, 0, 0, false, ev0⟩, fun h => by omega⟩
  · simp at e3
    obtain ⟨rfl, rfl, rfl⟩ := e3
    have hwl : len ≤ 140737488351232 := by
      have := hw (((elems.map (·.1)).length + _) * Try.prog.bytesOf 48) (by
        simp only [DataW.weights, Try.underlying46, List.mem_cons]
        exact .inl rfl)
      rw [Try.bytesOp, List.length_map, hel] at this
      simp only [reachBytes] at this
      omega
    rw [Try.cellsOp] at hE
    have hpick : ∀ i, ∃ g : Od, i < len → W.cells? 0 (y.add (i * 13)) 13 = some g.enc := by
      intro i
      by_cases hi : i < len
      · have h1 := hE i hi
        rw [List.getElem?_eq_getElem (by omega)] at h1
        obtain ⟨ci, hci, hti⟩ := Option.bind_eq_some_iff.1 h1
        obtain ⟨g, rfl⟩ := op_fit hti
        exact ⟨g, fun _ => hci⟩
      · exact ⟨⟨0, 0, 0, 0, none, 0, 0, false, ev0⟩, fun h => absurd h hi⟩
    obtain ⟨fs, hfv⟩ := Classical.axiomOfChoice hpick
    refine ⟨hwl, fs, fun h0 => ?_⟩
    obtain ⟨pb, po, spot⟩ := y
    have hc0 := (World.cells?_some (hfv 0 h0)).2.2 0 (by omega)
    have hspot : spot = none := by
      simp only [Od.enc, List.getElem?_cons_zero] at hc0
      simpa [Addr.add] using World.cell?_spot hc0
    subst hspot
    refine ⟨pb, po, rfl, World.cells?_block (hfv 0 h0) (by omega), fun i hi j u hu => ?_⟩
    have hc := (World.cells?_some (hfv i hi)).2.2
    have hj : j < 13 := (List.getElem?_eq_some_iff.1 hu).1
    have := hc j hj
    rw [add_none, add_none] at this
    exact this.trans hu
end Go.Proofs.Ytnbhifakfehefaa


/- QueueKeeps. -/
namespace Go.Proofs.Ytnbhifakfehefaa
open Go.RowKit Go.ChangeShapes Go.WideShapes Go.ChangeAt
set_option linter.unusedVariables false

set_option maxRecDepth 100000 in
theorem keeps_lifted (os : Os) (started : os.Started) (H : Type) (enc : TypeId × Value → H) :
    ReturnsInHanded {} Try.checked os 6 .any (Rows.queueKeepsSpec.pre6 enc Try.prog Try.f6 [] false) (Rows.queueKeepsSpec.post enc Try.prog Try.f6 false true false false) := by
  refine returnsInHanded_of_change_sized (C := Try.checked) own started (by kernel_rfl) Try.func6
    (ChangeSpec.witness6 (enc := enc) (C := Try.checked) (os := os) false ⟨#[], #[.int .i64 0, .slice none 0 0, .slice none 0 0], []⟩ 8 (by kernel_rfl) (by kernel_rfl) (by kernel_rfl) (by kernel_rfl)) ?_
  intro W base args ds gs before hval0 hW _ hsz0 _
  have hval : ∀ (j : Nat) t v, Try.f6.params[j]? = some t → args[j]? = some v → Value.okWide Try.prog W .any base t v := hval0
  have hsz : (DataW.weightsEach Try.prog (Try.f6.params.toList ++ Rows.queueKeepsSpec.plain.varTypes Try.prog) (ds ++ gs)).all (· ≤ reachBytes) = true := hsz0
  have hW' := hW
  obtain ⟨p, q, hA0, hV, rfl, _, _⟩ := hW
  have hA : DataW.TrodAll enc Try.prog W 0 (fun _ => true) true Try.f6.params.toList args.toList ds p := hA0
  rw [Try.params6] at hA hval hsz
  obtain ⟨v0, vs0, d0, ds0, p0, q0, hargs, rfl, rfl, h0, r0⟩ := trodAll_cons hA
  obtain ⟨v1, vs1, d1, ds1, p1, q1, rfl, rfl, rfl, h1, r1⟩ := trodAll_cons r0
  obtain ⟨v2, vs2, d2, ds2, p2, q2, rfl, rfl, rfl, h2, r2⟩ := trodAll_cons r1
  obtain ⟨rfl, rfl, rfl⟩ := trodAll_nil r2
  obtain rfl : args = #[v0, v1, v2] := by cases args; simp_all
  obtain ⟨rfl, rfl⟩ := trodVars_none hV
  obtain ⟨a0, rfl, rfl, rfl, w0⟩ := open_int Try.underlying3 (hval 0 3 v0 rfl rfl) h0
  obtain ⟨a1, n1, c1, rfl⟩ := okWide_slice Try.underlying33 (hval 1 33 v1 rfl rfl)
  have k1 := h1
  have lt1 : ∀ x ∈ p1, x.block < W.heap.size := by obtain ⟨m, hm⟩ := k1; exact DataW.trod_lt m _ _ _ hm
  obtain ⟨fuel1, hf1⟩ := h1
  obtain ⟨nn1, fs1, ri1⟩ := entries_fit2 hf1 (weights_each hsz (j := 1) rfl rfl)
  obtain ⟨a2, n2, c2, rfl⟩ := okWide_slice Try.underlying46 (hval 2 46 v2 rfl rfl)
  have k2 := h2
  have lt2 : ∀ x ∈ p2, x.block < W.heap.size := by obtain ⟨m, hm⟩ := k2; exact DataW.trod_lt m _ _ _ hm
  obtain ⟨fuel2, hf2⟩ := h2
  obtain ⟨nn2, fs2, ro2⟩ := ops_fit hf2 (weights_each hsz (j := 2) rfl rfl)
  clear hA0 hval0 hsz0
  refine (keeps_walk a0 a1 n1 c1 fs1 a2 n2 c2 fs2 W ri1 nn1 ro2 nn2).mono fun e W' ⟨he, bel⟩ => ?_
  subst he
  exact ⟨_, rfl, _, _, _, [], _, [], hW', trodAll_mk1 (shut_bool Try.underlying4 _), (trodAll_cons_mk (shut_int Try.underlying3 w0) (trodAll_cons_mk (Below.trod laidOut (by kernel_rfl) (of_decide_eq_true (by kernel_rfl)) k1 bel lt1) (trodAll_cons_mk (Below.trod laidOut (by kernel_rfl) (of_decide_eq_true (by kernel_rfl)) k2 bel lt2) trodAll_mk0))), rfl, bel.frame _, fun h => by cases h⟩

theorem keeps_holds : Rows.QueueKeepsSaid :=
  OpenClaim.holds_of_wide 6 Try.f6 rfl rfl rfl rfl rfl rfl rfl ⟨rfl, rfl, rfl, rfl, rfl⟩ rfl rfl rfl rfl rfl (by kernel_rfl) Try.func6 (by kernel_rfl)
    (of_decide_eq_true (by kernel_rfl)) (by unfold Func.isWrapper; first | (rw [if_pos (by decide +kernel)]; kernel_rfl) | (rw [if_neg (by decide +kernel)]; exact ⟨rfl, rfl⟩))
    (fun os started H enc _ => keeps_lifted os started H enc)
#print axioms keeps_holds
end Go.Proofs.Ytnbhifakfehefaa
