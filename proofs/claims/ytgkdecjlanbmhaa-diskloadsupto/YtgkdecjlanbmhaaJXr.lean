
/- Stages 19, 20: files that came in, by their bulk alone. -/
import Derived.Test.YtgkdecjlanbmhaaJXo
namespace Go.Proofs.Ytgkdecjlanbmhaa
open Go.RowKit Go.ChangeShapes Go.WideShapes Go.ChangeAt
set_option linter.unusedVariables false
/-- a file that came in -/
structure FileB (W : World) (f : Lf) (cs : List Value) (bk : Nat) : Prop where
  cells : ∃ a c, cs = [.string f.1, .slice a f.2.1.length c, .int .i64 f.2.2.1] ∧ f.2.2.2 = .slice a f.2.1.length c
  rb : Rb W f.2.2.2 f.2.1
  nam : f.1.size ≤ bk
  bulk : f.2.1.length + 1 ≤ bk
  saf : -9223372036854775808 ≤ f.2.2.1 ∧ f.2.2.1 ≤ 9223372036854775807
set_option maxRecDepth 100000 in
theorem file_bulk {H : Type} {enc : TypeId × Value → H} {W : World} {fuel : Nat} {cs : List Value} {x : DataW H × List MemPlace}
    (hf : DataW.trod enc Try.prog W 0 (fun _ => true) true fuel 44 cs = some x) : ∃ f : Lf, FileB W f cs (Rows.uptoBulk x.1) := by
  obtain ⟨xs, n, hfu, hx, hlen, hxl, hff⟩ := DataW.trod_struct Try.underlying44 hf
  rw [Try.cellsFX] at hlen
  obtain ⟨c0, c1, c2, rfl⟩ := threeX _ hlen
  obtain ⟨x0, x1, x2, rfl⟩ := threeX xs hxl
  have f0 : DataW.trod enc Try.prog W 0 (fun _ => true) true n 9 ([c0, c1, c2].take (Try.prog.cellsOf 9)) = some x0 := hff 0 _ rfl
  have f1 : DataW.trod enc Try.prog W 0 (fun _ => true) true n 34 ([c1, c2].take (Try.prog.cellsOf 34)) = some x1 := hff 1 _ rfl
  have f2 : DataW.trod enc Try.prog W 0 (fun _ => true) true n 3 ([c2].take (Try.prog.cellsOf 3)) = some x2 := hff 2 _ rfl
  rw [Try.cellsSX] at f0
  rw [Try.cellsBX] at f1
  rw [Try.cellsIX] at f2
  simp only [List.take_succ_cons, List.take_zero] at f0 f1 f2
  obtain ⟨s, e0, hx0, _⟩ := DataW.trod_string Try.underlying9 f0
  obtain ⟨z, e2, _, w2⟩ := DataW.trod_int Try.underlying3 f2
  have hb : Rows.uptoBulk x.1 = Rows.uptoBulkAll [x0.1, x1.1, x2.1] + 1 := by rw [hx]; rfl
  have hsl : Rows.uptoBulk x0.1 ≤ Rows.uptoBulkAll [x0.1, x1.1, x2.1] := bulk_memX (by simp)
  have hsz : s.size ≤ Rows.uptoBulk x.1 := by
    have h3 : Rows.uptoBulk x0.1 = s.data.toList.length + 1 := by rw [hx0]; simp [Rows.uptoBulk]
    have h4 : s.data.toList.length = s.size := by simp
    omega
  have b2 := wf_i64X w2
  obtain rfl : c0 = .string s := by simpa using e0
  obtain rfl : c2 = .int .i64 z := by simpa using e2
  have hbl : Rows.uptoBulk x1.1 ≤ Rows.uptoBulkAll [x0.1, x1.1, x2.1] := bulk_memX (by simp)
  rcases open_ints Try.underlying34 Try.underlying5 Try.cells5X f1 with ⟨hcs, hx1⟩ | ⟨y, l, c', zs, hcs, _, hl, hm, hz, hx1, hcell, hwz⟩
  · obtain rfl : c1 = .slice none 0 0 := by simpa using hcs
    exact ⟨(s, [], z, .slice none 0 0), ⟨none, 0, rfl, rfl⟩, Rb.nil W, hsz, by show 0 + 1 ≤ _; omega, b2⟩
  · obtain rfl : c1 = .slice (some y) l c' := by simpa using hcs
    simp only [if_true] at hz
    have hr := Rd.of_cellsX hl hz hcell hwz
    have hlen2 : ((zs.take l).map Int.toNat).length = l := hr.1
    have hbk : l ≤ Rows.uptoBulk x1.1 := by
      have h1 := bulk_lenX (lits (H := H) .u8 (zs.take l))
      have h2 : (lits (H := H) .u8 (zs.take l)).length = l := by simp [lits]; omega
      rw [hx1]
      simp only [Rows.uptoBulk]
      omega
    refine ⟨(s, (zs.take l).map Int.toNat, z, .slice (some y) l c'), ⟨some y, c', by rw [hlen2], by rw [hlen2]⟩, ⟨some y, c', by rw [hlen2], fun h => (by cases h), by rw [hlen2]; exact hl, by rw [hlen2]; exact hr⟩, hsz, by show List.length _ + 1 ≤ _; rw [hlen2]; omega, b2⟩
set_option maxRecDepth 100000 in
/-- files that came in -/
theorem files_bulk {H : Type} {enc : TypeId × Value → H} {W : World} {a : Option Addr} {len cap fuel : Nat} {x : DataW H × List MemPlace}
    (hf : DataW.trod enc Try.prog W 0 (fun _ => true) true fuel 39 [.slice a len cap] = some x) : ∃ L : List Lf, L.length = len ∧ LR W (.slice a len cap) L ∧ (∀ f ∈ L, f.1.size ≤ Rows.uptoBulk x.1 ∧ f.2.1.length ≤ Rows.uptoBulk x.1) ∧ usd (L.map inF) + len ≤ Rows.uptoBulk x.1 := by
  rcases DataW.trod_slice Try.underlying39 hf with ⟨e3, rfl⟩ | ⟨y, l, c, elems, rest, n', hn', e3, rfl, _, hlc, hcm, hel, hE, hR, _⟩
  · simp at e3
    obtain ⟨rfl, rfl, rfl⟩ := e3
    exact ⟨[], rfl, ⟨⟨_, _, rfl⟩, fun i hi => absurd hi (Nat.not_lt_zero _), fun f hf => absurd hf (by simp)⟩, fun f hf => absurd hf (by simp), by simp [usd]⟩
  · simp at e3
    obtain ⟨rfl, rfl, rfl⟩ := e3
    rw [Try.cellsFX] at hE
    have hpick : ∀ i, ∃ g : Lf, ∀ hi : i < elems.length, ∃ cs, W.cells? 0 (y.add (i * 3)) 3 = some cs ∧ FileB W g cs (Rows.uptoBulk elems[i].1) := by
      intro i
      by_cases hi : i < len
      · have h1 := hE i hi
        rw [List.getElem?_eq_getElem (by omega)] at h1
        obtain ⟨ci, hci, hti⟩ := Option.bind_eq_some_iff.1 h1
        obtain ⟨g, hg⟩ := file_bulk hti
        exact ⟨g, fun _ => ⟨ci, hci, hg⟩⟩
      · exact ⟨(⟨#[]⟩, [], 0, .slice none 0 0), fun h => absurd h (by omega)⟩
    obtain ⟨fs, hfv⟩ := Classical.axiomOfChoice hpick
    have hll : ((List.range len).map fs).length = len := by simp
    have hget : ∀ i (hi : i < ((List.range len).map fs).length), ((List.range len).map fs)[i] = fs i := fun i hi => by simp
    refine ⟨(List.range len).map fs, hll, ⟨⟨_, _, by rw [hll]⟩, fun i hi => ?_, fun f hf => ?_⟩, fun f hf => ?_, ?_⟩
    · have hi2 : i < elems.length := by rw [hll] at hi; omega
      obtain ⟨cs, hcs, hfi⟩ := hfv i hi2
      obtain ⟨a1, c1, rfl, e2⟩ := hfi.cells
      have hc := (World.cells?_some hcs).2.2
      have hlt := World.cells?_block hcs (by omega)
      obtain ⟨pb, po, spot⟩ := y
      have hspot : spot = none := by
        obtain ⟨cs0, hcs0, hfi0⟩ := hfv 0 (by omega)
        obtain ⟨a0, c0, rfl, _⟩ := hfi0.cells
        have h0 : World.cell? W (((⟨pb, po, spot⟩ : Addr).add (0 * 3)).add 0) = some (.string (fs 0).1) := (World.cells?_some hcs0).2.2 0 (by omega)
        simpa [Addr.add] using World.cell?_spot h0
      subst hspot
      rw [add_noneX] at hlt
      have k0 := hc 0 (by omega)
      have k1 := hc 1 (by omega)
      have k2 := hc 2 (by omega)
      rw [add_noneX, add_noneX] at k0 k1 k2
      rw [hget i hi]
      exact ⟨pb, po, cap, a1, c1, by rw [hll], hlt, k0, k1, k2, e2⟩
    · obtain ⟨i, hi, rfl⟩ := List.mem_map.1 hf
      obtain ⟨cs, hcs, hfi⟩ := hfv i (by rw [List.mem_range] at hi; omega)
      exact hfi.rb
    · obtain ⟨i, hi, rfl⟩ := List.mem_map.1 hf
      have hi2 : i < elems.length := by rw [List.mem_range] at hi; omega
      obtain ⟨cs, hcs, hfi⟩ := hfv i hi2
      have hbe : Rows.uptoBulk elems[i].1 ≤ Rows.uptoBulkAll (elems.map (·.1)) := bulk_memX (List.mem_map.2 ⟨elems[i], List.getElem_mem _, rfl⟩)
      have h1 := hfi.nam
      have h2 := hfi.bulk
      simp only [Rows.uptoBulk]
      exact ⟨by omega, by omega⟩
    · have h5 := usd_bulk ((List.range len).map fs) (elems.map (·.1)) (by rw [hll, List.length_map]; omega) (fun i h1 h2 => by
        rw [hget i h1]
        have hi2 : i < elems.length := by rw [hll] at h1; omega
        obtain ⟨cs, hcs, hfi⟩ := hfv i hi2
        have := hfi.bulk
        simpa using this)
      rw [hll] at h5
      simp only [Rows.uptoBulk]
      omega
end Go.Proofs.Ytgkdecjlanbmhaa
