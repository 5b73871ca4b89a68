
/- Stages 19, 20: what came in: files. -/
import Derived.Test.YtgkdecjlanbmhaaJXn
import Derived.Test.YtgkdecjlanbmhaaRows
import Derived.SizedLaws
import Derived.JoinedOf
import Derived.WalkKit
import Derived.ProofKit
import Derived.OpenShut
import Derived.ChangeMaps5
namespace Go.Proofs.Ytgkdecjlanbmhaa
open Go.RowKit Go.ChangeShapes Go.WideShapes Go.ChangeAt
set_option linter.unusedVariables false
theorem Try.cellsIX : Try.prog.cellsOf 3 = 1 := by kernel_rfl
theorem Try.cellsSX : Try.prog.cellsOf 9 = 1 := by kernel_rfl
theorem Try.cells5X : Try.prog.cellsOf 5 = 1 := by kernel_rfl
theorem Try.cellsBX : Try.prog.cellsOf 34 = 1 := by kernel_rfl
theorem Try.cellsFX : Try.prog.cellsOf 44 = 3 := by kernel_rfl
theorem Try.bytes5X : Try.prog.bytesOf 5 = 1 := by kernel_rfl
theorem Try.bytesFX : Try.prog.bytesOf 44 = 48 := by kernel_rfl
theorem add_noneX (b off j : Nat) : (⟨b, off, none⟩ : Addr).add j = ⟨b, off + j, none⟩ := by
  by_cases h : j = 0 <;> simp [Addr.add, h]
theorem weights_allX {H : Type} {P : Program} {t : TypeId} : ∀ {ds : List (DataW H)} {d : DataW H}, d ∈ ds → ∀ n ∈ d.weights P t, n ∈ DataW.weightsAll P t ds
  | d0 :: ds, d, hd, n, hn => by
    simp only [DataW.weightsAll, List.mem_append]
    rcases List.mem_cons.1 hd with rfl | h
    · exact .inl hn
    · exact .inr (weights_allX h n hn)
theorem wf_u8X {n : Int} (h : (Lit.int .u8 n).wf = true) : 0 ≤ n ∧ n ≤ 255 := by
  simpa [Lit.wf, IntKind.min, IntKind.max, IntKind.signed, IntKind.bits] using h
theorem wf_i64X {n : Int} (h : (Lit.int .i64 n).wf = true) : -9223372036854775808 ≤ n ∧ n ≤ 9223372036854775807 := by
  simpa [Lit.wf, IntKind.min, IntKind.max, IntKind.signed, IntKind.bits] using h
theorem Rd.of_cellsX {W : World} {x : Addr} {len cap : Nat} {zs : List Int} (hl : len ≤ cap) (hz : zs.length = cap)
    (hcell : ∀ i, i < zs.length → W.cell? (x.add i) = some (.int .u8 (zs.getD i 0))) (hwz : ∀ n ∈ zs, (Lit.int .u8 n).wf = true) :
    Rd W (some x) len ((zs.take len).map Int.toNat) := by
  have hb : ∀ n ∈ zs, 0 ≤ n ∧ n ≤ 255 := fun n hn => wf_u8X (hwz n hn)
  refine ⟨by simp; omega, ?_, fun hn => ?_⟩
  · intro c hc
    obtain ⟨n, hn, rfl⟩ := List.mem_map.1 hc
    have := hb n (List.mem_of_mem_take hn)
    omega
  · obtain ⟨b, off, spot⟩ := x
    have hc := hcell 0 (by omega)
    have hspot : spot = none := by simpa [Addr.add] using World.cell?_spot hc
    subst hspot
    refine ⟨b, off, rfl, block_lt_of_cell hc, fun j hj => ?_⟩
    have hcj := hcell j (by omega)
    have hcj' : W.cell? ⟨b, off + j, none⟩ = some (.int .u8 (zs.getD j 0)) := by rw [← add_noneX]; exact hcj
    rw [hcj']
    have hjz : j < zs.length := by omega
    have h0 := hb zs[j] (List.getElem_mem _)
    have e1 : zs.getD j 0 = zs[j] := by rw [List.getD_eq_getElem?_getD, List.getElem?_eq_getElem hjz]; rfl
    have e2 : ((zs.take len).map Int.toNat).getD j 0 = zs[j].toNat := by
      simp [List.getD_eq_getElem?_getD, hj, List.getElem?_eq_getElem hjz]
    rw [e1, e2]
    congr 2
    omega
theorem bulk_posX {H : Type} (d : DataW H) : 1 ≤ Rows.uptoBulk d := by
  cases d with
  | lit l => cases l <;> simp [Rows.uptoBulk]
  | nil | ptr _ | slice _ _ | agg _ | iface _ _ | map _ | held _ => simp [Rows.uptoBulk]
theorem bulk_lenX {H : Type} (l : List (DataW H)) : l.length ≤ Rows.uptoBulkAll l := by
  induction l with
  | nil => simp [Rows.uptoBulkAll]
  | cons x r ih => have := bulk_posX x; simp only [Rows.uptoBulkAll, List.length_cons]; omega
theorem bulk_memX {H : Type} {d : DataW H} {l : List (DataW H)} (h : d ∈ l) : Rows.uptoBulk d ≤ Rows.uptoBulkAll l := by
  induction l with
  | nil => cases h
  | cons x r ih =>
    simp only [Rows.uptoBulkAll]
    rcases List.mem_cons.1 h with rfl | h
    · omega
    · have := ih h; omega
theorem threeX {α : Type} (l : List α) (h : l.length = 3) : ∃ a b c, l = [a, b, c] := by
  match l, h with
  | [a, b, c], _ => exact ⟨a, b, c, rfl⟩
/-- a file that came in -/
structure FileIn (W : World) (f : Lf) (cs : List Value) (bk : Nat) : Prop where
  cells : ∃ a c, cs = [.string f.1, .slice a f.2.1.length c, .int .i64 f.2.2.1] ∧ f.2.2.2 = .slice a f.2.1.length c
  rb : Rb W f.2.2.2 f.2.1
  nam : f.1.size ≤ 140737488351232
  dat : f.2.1.length ≤ 140737488351232
  bulk : f.2.1.length + 1 ≤ bk
  saf : -9223372036854775808 ≤ f.2.2.1 ∧ f.2.2.1 ≤ 9223372036854775807
set_option maxRecDepth 100000 in
theorem file_fit {H : Type} {enc : TypeId × Value → H} {W : World} {fuel : Nat} {cs : List Value} {x : DataW H × List MemPlace}
    (hf : DataW.trod enc Try.prog W 0 (fun _ => true) true fuel 44 cs = some x) (hw : ∀ n ∈ x.1.weights Try.prog 44, n ≤ reachBytes) : ∃ f : Lf, FileIn W f cs (Rows.uptoBulk x.1) := by
  obtain ⟨xs, n, hfu, hx, hlen, hxl, hff⟩ := DataW.trod_struct Try.underlying44 hf
  rw [Try.cellsFX] at hlen
  obtain ⟨c0, c1, c2, rfl⟩ := threeX _ hlen
  obtain ⟨x0, x1, x2, rfl⟩ := threeX xs hxl
  have f0 : DataW.trod enc Try.prog W 0 (fun _ => true) true n 9 ([c0, c1, c2].take (Try.prog.cellsOf 9)) = some x0 := hff 0 _ rfl
  have f1 : DataW.trod enc Try.prog W 0 (fun _ => true) true n 34 ([c1, c2].take (Try.prog.cellsOf 34)) = some x1 := hff 1 _ rfl
  have f2 : DataW.trod enc Try.prog W 0 (fun _ => true) true n 3 ([c2].take (Try.prog.cellsOf 3)) = some x2 := hff 2 _ rfl
  rw [Try.cellsSX] at f0
  rw [Try.cellsBX] at f1
  rw [Try.cellsIX] at f2
  simp only [List.take_succ_cons, List.take_zero] at f0 f1 f2
  obtain ⟨s, e0, hx0, _⟩ := DataW.trod_string Try.underlying9 f0
  obtain ⟨z, e2, _, w2⟩ := DataW.trod_int Try.underlying3 f2
  have hwe : ∀ m, m ∈ x0.1.weights Try.prog 9 ∨ m ∈ x1.1.weights Try.prog 34 → m ≤ reachBytes := fun m hm => hw m (by
    rw [hx]
    simp only [DataW.weights, Try.underlying44, List.map_cons, List.map_nil, DataW.weightsEach, List.mem_append]
    rcases hm with h | h <;> simp [h])
  have hb : Rows.uptoBulk x.1 = Rows.uptoBulkAll [x0.1, x1.1, x2.1] + 1 := by rw [hx]; rfl
  have hsz : s.size ≤ 140737488351232 := by
    have h3 := hwe s.data.toList.length (.inl (by rw [hx0]; simp [DataW.weights]))
    have h4 : s.data.toList.length = s.size := by simp
    simp only [reachBytes] at h3
    omega
  have b2 := wf_i64X w2
  obtain rfl : c0 = .string s := by simpa using e0
  obtain rfl : c2 = .int .i64 z := by simpa using e2
  have hbl : Rows.uptoBulk x1.1 ≤ Rows.uptoBulkAll [x0.1, x1.1, x2.1] := bulk_memX (by simp)
  rcases open_ints Try.underlying34 Try.underlying5 Try.cells5X f1 with ⟨hcs, hx1⟩ | ⟨y, l, c', zs, hcs, _, hl, hm, hz, hx1, hcell, hwz⟩
  · obtain rfl : c1 = .slice none 0 0 := by simpa using hcs
    exact ⟨(s, [], z, .slice none 0 0), ⟨none, 0, rfl, rfl⟩, Rb.nil W, hsz, by show (0 : Nat) ≤ _; omega, by show 0 + 1 ≤ _; omega, b2⟩
  · obtain rfl : c1 = .slice (some y) l c' := by simpa using hcs
    simp only [if_true] at hz
    have hcap : c' ≤ 140737488351232 := by
      have := hwe (((lits (H := H) .u8 (zs.take l)).length + (lits (H := H) .u8 (zs.drop l)).length) * Try.prog.bytesOf 5) (.inr (by
        rw [hx1]
        simp [DataW.weights, Try.underlying34]))
      rw [Try.bytes5X] at this
      simp only [reachBytes, lits, List.length_map, List.length_take, List.length_drop] at this
      omega
    have hr := Rd.of_cellsX hl hz hcell hwz
    have hlen2 : ((zs.take l).map Int.toNat).length = l := hr.1
    have hbk : l ≤ Rows.uptoBulk x1.1 := by
      have h1 := bulk_lenX (lits (H := H) .u8 (zs.take l))
      have h2 : (lits (H := H) .u8 (zs.take l)).length = l := by simp [lits]; omega
      rw [hx1]
      simp only [Rows.uptoBulk]
      omega
    refine ⟨(s, (zs.take l).map Int.toNat, z, .slice (some y) l c'), ⟨some y, c', by rw [hlen2], by rw [hlen2]⟩, ⟨some y, c', by rw [hlen2], fun h => (by cases h), by rw [hlen2]; exact hl, by rw [hlen2]; exact hr⟩, hsz, by show List.length _ ≤ _; rw [hlen2]; omega, by show List.length _ + 1 ≤ _; rw [hlen2]; omega, b2⟩
theorem usd_bulk {H : Type} : ∀ (L : List Lf) (ds : List (DataW H)), L.length = ds.length → (∀ i (h1 : i < L.length) (h2 : i < ds.length), L[i].2.1.length + 1 ≤ Rows.uptoBulk ds[i]) → usd (L.map inF) + L.length ≤ Rows.uptoBulkAll ds
  | [], [], _, _ => by simp [usd, Rows.uptoBulkAll]
  | f :: L, d :: ds, hl, h => by
    have h1 := usd_bulk L ds (by simpa using hl) (fun i a b => h (i + 1) (by simpa using a) (by simpa using b))
    have h2 := h 0 (by simp) (by simp)
    rw [List.map_cons, usd_cons]
    simp only [Rows.uptoBulkAll, List.length_cons]
    have h3 : (inF f).2.1.length = f.2.1.length := rfl
    have h4 : f.2.1.length + 1 ≤ Rows.uptoBulk d := h2
    omega
  | [], _ :: _, hl, _ => by simp at hl
  | _ :: _, [], hl, _ => by simp at hl
set_option maxRecDepth 100000 in
/-- files that came in -/
theorem files_fit {H : Type} {enc : TypeId × Value → H} {W : World} {a : Option Addr} {len cap fuel : Nat} {x : DataW H × List MemPlace}
    (hf : DataW.trod enc Try.prog W 0 (fun _ => true) true fuel 39 [.slice a len cap] = some x) (hw : ∀ n ∈ x.1.weights Try.prog 39, n ≤ reachBytes) : ∃ L : List Lf, L.length = len ∧ LR W (.slice a len cap) L ∧ len ≤ 2932031007402 ∧ len ≤ cap ∧ (∀ f ∈ L, f.1.size ≤ 140737488351232 ∧ f.2.1.length ≤ 140737488351232 ∧ -9223372036854775808 ≤ f.2.2.1 ∧ f.2.2.1 ≤ 9223372036854775807) ∧ usd (L.map inF) + len ≤ Rows.uptoBulk x.1 := by
  rcases DataW.trod_slice Try.underlying39 hf with ⟨e3, rfl⟩ | ⟨y, l, c, elems, rest, n', hn', e3, rfl, _, hlc, hcm, hel, hE, hR, _⟩
  · simp at e3
    obtain ⟨rfl, rfl, rfl⟩ := e3
    exact ⟨[], rfl, ⟨⟨_, _, rfl⟩, fun i hi => absurd hi (Nat.not_lt_zero _), fun f hf => absurd hf (by simp)⟩, by omega, Nat.le_refl _, fun f hf => absurd hf (by simp), by simp [usd]⟩
  · simp at e3
    obtain ⟨rfl, rfl, rfl⟩ := e3
    have hwE : ∀ d ∈ elems.map (·.1), ∀ n ∈ d.weights Try.prog 44, n ≤ reachBytes := fun d hd n hn => hw n (by
      simp only [DataW.weights, Try.underlying39, List.mem_cons, List.mem_append]
      exact .inr (.inl (weights_allX hd n hn)))
    have hwl : len ≤ 2932031007402 := by
      have := hw (((elems.map (·.1)).length + _) * Try.prog.bytesOf 44) (by
        simp only [DataW.weights, Try.underlying39, List.mem_cons]
        exact .inl rfl)
      rw [Try.bytesFX, List.length_map, hel] at this
      simp only [reachBytes] at this
      omega
    rw [Try.cellsFX] at hE
    have hpick : ∀ i, ∃ g : Lf, ∀ hi : i < elems.length, ∃ cs, W.cells? 0 (y.add (i * 3)) 3 = some cs ∧ FileIn W g cs (Rows.uptoBulk elems[i].1) := by
      intro i
      by_cases hi : i < len
      · have h1 := hE i hi
        rw [List.getElem?_eq_getElem (by omega)] at h1
        obtain ⟨ci, hci, hti⟩ := Option.bind_eq_some_iff.1 h1
        obtain ⟨g, hg⟩ := file_fit hti (hwE _ (List.mem_map_of_mem (List.getElem_mem _)))
        exact ⟨g, fun _ => ⟨ci, hci, hg⟩⟩
      · exact ⟨(⟨#[]⟩, [], 0, .slice none 0 0), fun h => absurd h (by omega)⟩
    obtain ⟨fs, hfv⟩ := Classical.axiomOfChoice hpick
    have hll : ((List.range len).map fs).length = len := by simp
    have hget : ∀ i (hi : i < ((List.range len).map fs).length), ((List.range len).map fs)[i] = fs i := fun i hi => by simp
    refine ⟨(List.range len).map fs, hll, ⟨⟨_, _, by rw [hll]⟩, fun i hi => ?_, fun f hf => ?_⟩, hwl, hlc, fun f hf => ?_, ?_⟩
    · have hi2 : i < elems.length := by rw [hll] at hi; omega
      obtain ⟨cs, hcs, hfi⟩ := hfv i hi2
      obtain ⟨a1, c1, rfl, e2⟩ := hfi.cells
      have hc := (World.cells?_some hcs).2.2
      have hlt := World.cells?_block hcs (by omega)
      obtain ⟨pb, po, spot⟩ := y
      have hspot : spot = none := by
        obtain ⟨cs0, hcs0, hfi0⟩ := hfv 0 (by omega)
        obtain ⟨a0, c0, rfl, _⟩ := hfi0.cells
        have h0 : World.cell? W (((⟨pb, po, spot⟩ : Addr).add (0 * 3)).add 0) = some (.string (fs 0).1) := (World.cells?_some hcs0).2.2 0 (by omega)
        simpa [Addr.add] using World.cell?_spot h0
      subst hspot
      rw [add_noneX] at hlt
      have k0 := hc 0 (by omega)
      have k1 := hc 1 (by omega)
      have k2 := hc 2 (by omega)
      rw [add_noneX, add_noneX] at k0 k1 k2
      rw [hget i hi]
      exact ⟨pb, po, cap, a1, c1, by rw [hll], hlt, k0, k1, k2, e2⟩
    · obtain ⟨i, hi, rfl⟩ := List.mem_map.1 hf
      obtain ⟨cs, hcs, hfi⟩ := hfv i (by rw [List.mem_range] at hi; omega)
      exact hfi.rb
    · obtain ⟨i, hi, rfl⟩ := List.mem_map.1 hf
      obtain ⟨cs, hcs, hfi⟩ := hfv i (by rw [List.mem_range] at hi; omega)
      exact ⟨hfi.nam, hfi.dat, hfi.saf.1, hfi.saf.2⟩
    · have h5 := usd_bulk ((List.range len).map fs) (elems.map (·.1)) (by rw [hll, List.length_map]; omega) (fun i h1 h2 => by
        rw [hget i h1]
        have hi2 : i < elems.length := by rw [hll] at h1; omega
        obtain ⟨cs, hcs, hfi⟩ := hfv i hi2
        have := hfi.bulk
        simpa using this)
      rw [hll] at h5
      simp only [Rows.uptoBulk]
      omega
end Go.Proofs.Ytgkdecjlanbmhaa
