
/- Stage 6: frames that came in, opened. -/
import Derived.Test.YtaijcnkmklibcaaSFrI
import Derived.Test.YtaijcnkmklibcaaSOpenI
namespace Go.Proofs.Ytaijcnkmklibcaa
open Go.RowKit Go.ChangeShapes Go.WideShapes Go.ChangeAt
set_option linter.unusedVariables false
theorem Try.cellsF : Try.prog.cellsOf 49 = 4 := by kernel_rfl
theorem Try.cellsB : Try.prog.cellsOf 33 = 1 := by kernel_rfl
theorem four {α : Type} (l : List α) (h : l.length = 4) : ∃ a b c d, l = [a, b, c, d] := by
  match l, h with
  | [a, b, c, d], _ => exact ⟨a, b, c, d, rfl⟩
theorem slice_of {H : Type} {enc : TypeId × Value → H} {W : World} {fuel : Nat} {c : Value} {x : DataW H × List MemPlace} (hf : DataW.trod enc Try.prog W 0 (fun _ => true) true fuel 33 [c] = some x) : ∃ a n cap, c = .slice a n cap := by
  rcases open_ints Try.underlying33 Try.underlying5 Try.cells5 hf with ⟨hcs, _⟩ | ⟨y, l, c', zs, hcs, _⟩
  · exact ⟨none, 0, 0, by simpa using hcs⟩
  · exact ⟨some y, l, c', by simpa using hcs⟩
set_option maxRecDepth 100000 in
theorem frame_cells {H : Type} {enc : TypeId × Value → H} {W : World} {fuel : Nat} {cs : List Value} {x : DataW H × List MemPlace}
    (hf : DataW.trod enc Try.prog W 0 (fun _ => true) true fuel 49 cs = some x) :
    ∃ f : Fr, cs = fcells f ∧ Rd W f.2.1.1 f.2.1.2.1 f.2.1.2.2.2 ∧ Rd W f.2.2.1 f.2.2.2.1 f.2.2.2.2.2 ∧ f.2.1.2.1 ≤ Rows.uptoBulk x.1 ∧ f.2.2.2.1 ≤ Rows.uptoBulk x.1 := by
  obtain ⟨xs, n, hfu, hx, hlen, hxl, hff⟩ := DataW.trod_struct Try.underlying49 hf
  rw [Try.cellsF] at hlen
  obtain ⟨c0, c1, c2, c3, rfl⟩ := four _ hlen
  obtain ⟨x0, x1, x2, x3, rfl⟩ := four xs hxl
  have f0 : DataW.trod enc Try.prog W 0 (fun _ => true) true n 3 ([c0, c1, c2, c3].take (Try.prog.cellsOf 3)) = some x0 := hff 0 _ rfl
  have f1 : DataW.trod enc Try.prog W 0 (fun _ => true) true n 3 ([c1, c2, c3].take (Try.prog.cellsOf 3)) = some x1 := hff 1 _ rfl
  have f2 : DataW.trod enc Try.prog W 0 (fun _ => true) true n 33 ([c2, c3].take (Try.prog.cellsOf 33)) = some x2 := hff 2 _ rfl
  have f3 : DataW.trod enc Try.prog W 0 (fun _ => true) true n 33 ([c3].take (Try.prog.cellsOf 33)) = some x3 := hff 3 _ rfl
  rw [Try.cellsI] at f0 f1
  rw [Try.cellsB] at f2 f3
  simp only [List.take_succ_cons, List.take_zero] at f0 f1 f2 f3
  obtain ⟨ty, e0, rfl, wt⟩ := DataW.trod_int Try.underlying3 f0
  obtain ⟨ch, e1, rfl, wc⟩ := DataW.trod_int Try.underlying3 f1
  obtain rfl : c0 = .int .i64 ty := by simpa using e0
  obtain rfl : c1 = .int .i64 ch := by simpa using e1
  obtain ⟨a, na, ca, rfl⟩ := slice_of f2
  obtain ⟨b, nb, cb, rfl⟩ := slice_of f3
  obtain ⟨ext, r2, l2, s2⟩ := bytes_open f2
  obtain ⟨body, r3, l3, s3⟩ := bytes_open f3
  have hd : x.1 = .agg ([(DataW.lit (.int .i64 ty), ([] : List MemPlace)), (DataW.lit (.int .i64 ch), []), x2, x3].map (·.1)) := by
    have := congrArg Prod.fst hx
    simpa using this
  have hwt : ∀ (xx : DataW H × List MemPlace) (cap : Nat), xx = x2 ∨ xx = x3 → ((xx.1 = .nil ∧ cap = 0) ∨ ∃ e s, xx.1 = .slice e s ∧ e.length + s.length = cap) → cap ≤ Rows.uptoBulk x.1 := fun xx cap hor hs => by
    rcases hs with ⟨_, rfl⟩ | ⟨e, s, he', hc⟩
    · omega
    · have h1 : Rows.uptoBulk xx.1 ≤ Rows.uptoBulk x.1 := by
        rw [hd]
        have : xx.1 ∈ [(DataW.lit (.int .i64 ty), ([] : List MemPlace)), (DataW.lit (.int .i64 ch), []), x2, x3].map (·.1) := by rcases hor with rfl | rfl <;> simp
        have := bulk_mem this
        simp only [Rows.uptoBulk]
        omega
      have h2 := bulk_len e
      have h3 := bulk_len s
      rw [he'] at h1
      simp only [Rows.uptoBulk] at h1
      omega
  have za := hwt x2 ca (.inl rfl) s2
  have zb := hwt x3 cb (.inr rfl) s3
  exact ⟨((ty, ch), (a, na, ca, ext), (b, nb, cb, body)), rfl, r2, r3, by show na ≤ _; omega, by show nb ≤ _; omega⟩
theorem frames_open {H : Type} {enc : TypeId × Value → H} {W : World} {a : Option Addr} {len cap fuel : Nat} {x : DataW H × List MemPlace}
    (hf : DataW.trod enc Try.prog W 0 (fun _ => true) true fuel 45 [.slice a len cap] = some x) (hb : Rows.uptoBulk x.1 ≤ 1048576) : len ≤ 1048576 ∧ ∃ fs : Nat → Fr, RF W a len fs := by
  rcases DataW.trod_slice Try.underlying45 hf with ⟨e3, rfl⟩ | ⟨y, l, c, elems, rest, n', hn', e3, rfl, _, hlc, hcm, hel, hE, hR, _⟩
  · simp at e3
    obtain ⟨rfl, rfl, rfl⟩ := e3
    exact ⟨by omega, fun _ => ((0, 0), (none, 0, 0, []), (none, 0, 0, [])), fun h => by omega, fun j hj => by omega⟩
  · simp at e3
    obtain ⟨rfl, rfl, rfl⟩ := e3
    have hbl := bulk_len (elems.map (·.1))
    simp only [Rows.uptoBulk] at hb
    rw [List.length_map, hel] at hbl
    rw [Try.cellsF] at hE
    have hpick : ∀ i, ∃ f : Fr, i < len → W.cells? 0 (y.add (i * 4)) 4 = some (fcells f) ∧ FOk W f := by
      intro i
      by_cases hi : i < len
      · have h1 := hE i hi
        rw [List.getElem?_eq_getElem (by omega)] at h1
        obtain ⟨ci, hci, hti⟩ := Option.bind_eq_some_iff.1 h1
        obtain ⟨f, rfl, q1, q2, q3, q4⟩ := frame_cells hti
        have hm : Rows.uptoBulk (elems[i]'(by omega)).1 ≤ Rows.uptoBulkAll (elems.map (·.1)) := bulk_mem (List.mem_map_of_mem (List.getElem_mem _))
        exact ⟨f, fun _ => ⟨hci, q1, q2, by omega, by omega⟩⟩
      · exact ⟨((0, 0), (none, 0, 0, []), (none, 0, 0, [])), fun h => absurd h hi⟩
    obtain ⟨fs, hfv⟩ := Classical.axiomOfChoice hpick
    refine ⟨by omega, fs, fun h0 => ?_, fun j hj => (hfv j hj).2⟩
    obtain ⟨pb, po, spot⟩ := y
    have hc0 := (World.cells?_some (hfv 0 h0).1).2.2 0 (by omega)
    have hspot : spot = none := by
      simp only [fcells, List.getElem?_cons_zero] at hc0
      simpa [Addr.add] using World.cell?_spot hc0
    subst hspot
    refine ⟨pb, po, rfl, World.cells?_block (hfv 0 h0).1 (by omega), fun i hi => ?_⟩
    have hc := (World.cells?_some (hfv i hi).1).2.2
    have q : ∀ j, j < 4 → W.cell? ⟨pb, po + i * 4 + j, none⟩ = (fcells (fs i))[j]? := fun j hj => by
      have := hc j hj
      rwa [add_none, add_none] at this
    exact ⟨q 0 (by omega), q 1 (by omega), q 2 (by omega), q 3 (by omega)⟩
end Go.Proofs.Ytaijcnkmklibcaa
