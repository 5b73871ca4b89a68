
/- Stage 6: Same of frames and of items, sameItems, where they are the same. -/
import Derived.Test.YtaijcnkmklibcaaSCutM
import Derived.Deep.DeepCutAuto
import Derived.Deep.RegionHeld3
namespace Go.Proofs.Ytaijcnkmklibcaa
open Go.RowKit Go.Deep
set_option linter.unusedVariables false
set_option linter.unusedSimpArgs false

set_option maxRecDepth 100000 in
set_option maxHeartbeats 2000000 in
theorem same5 (ty ch : Int) (X Y : List Nat) (a : Option Addr) (n c : Nat) (b : Option Addr) (m d : Nat) (a' : Option Addr) (n' c' : Nat) (b' : Option Addr) (m' d' : Nat) (w : World) (h1 : Rd w a n X) (h2 : Rd w b m Y) (h3 : Rd w a' n' X) (h4 : Rd w b' m' Y) :
    Calls Try.prog 43 #[.agg #[.int .i64 ty, .int .i64 ch, .slice a n c, .slice b m d], .agg #[.int .i64 ty, .int .i64 ch, .slice a' n' c', .slice b' m' d']] w fun e w' => e = .returned (.bool true) ∧ Below w.heap.size w w' := by
  have hb : Below w.heap.size w ((w.alloc (.cells #[.int .i64 ty, .int .i64 ch, .slice a n c, .slice b m d] 49)).alloc (.cells #[.int .i64 ty, .int .i64 ch, .slice a' n' c', .slice b' m' d'] 49)) := ((Below.refl _ _).alloc (Nat.le_refl _) _).alloc (by simp) _
  have q1 := conv_any (h1.below hb) c
  have q2 := conv_any (h2.below hb) d
  have q3 := conv_any (h3.below hb) c'
  have q4 := conv_any (h4.below hb) d'
  have HB := hide hb
  clear h1 h2 h3 h4 hb
  go_enter Try.func43, Try.ntmps43
  go_wp2
  go_ret
  exact ⟨rfl, HB.out⟩
/-- an item with lists of any kind: where they lie, their room -/
abbrev Gv : Type := ((Option Addr × Nat) × (Option Addr × Nat)) × It6
def Gv.cs (y : Gv) : List Value := [.int .i64 y.2.1.1, .int .i64 y.2.1.2.1, .int .i64 y.2.1.2.2.1, .int .i64 y.2.1.2.2.2, .slice y.1.1.1 y.2.2.1.length y.1.1.2, .slice y.1.2.1 y.2.2.2.length y.1.2.2]
def Gv.ok (W : World) (y : Gv) : Prop := Rd W y.1.1.1 y.2.2.1.length y.2.2.1 ∧ Rd W y.1.2.1 y.2.2.2.length y.2.2.2
theorem Gv.ok.below {w W : World} {y : Gv} (h : y.ok w) (hb : Below w.heap.size w W) : y.ok W := ⟨h.1.below hb, h.2.below hb⟩
def Ev.g (y : Ev) : Gv := (((adr y.1.1, y.2.2.1.length), (adr y.1.2, y.2.2.2.length)), y.2)
theorem Ev.ok.g {W : World} {lo : Nat} {y : Ev} (h : y.ok W lo) : y.g.ok W := ⟨h.rdx, h.rdy⟩
theorem flat_g (ys : List Ev) : (ys.map Ev.g).flatMap Gv.cs = ys.flatMap Ev.cs := by
  induction ys with
  | nil => rfl
  | cons y r ih => rw [List.map_cons, List.flatMap_cons, List.flatMap_cons, ih]; rfl
theorem map_g (ys : List Ev) : (ys.map Ev.g).map (·.2) = ys.map (·.2) := by
  rw [List.map_map]
  rfl
set_option maxRecDepth 100000 in
set_option maxHeartbeats 2000000 in
theorem same6 (y z : Gv) (hc : y.2 = z.2) (w : World) (hy : y.ok w) (hz : z.ok w) :
    Calls Try.prog 30 #[.agg #[.int .i64 y.2.1.1, .int .i64 y.2.1.2.1, .int .i64 y.2.1.2.2.1, .int .i64 y.2.1.2.2.2, .slice y.1.1.1 y.2.2.1.length y.1.1.2, .slice y.1.2.1 y.2.2.2.length y.1.2.2], .agg #[.int .i64 z.2.1.1, .int .i64 z.2.1.2.1, .int .i64 z.2.1.2.2.1, .int .i64 z.2.1.2.2.2, .slice z.1.1.1 z.2.2.1.length z.1.1.2, .slice z.1.2.1 z.2.2.2.length z.1.2.2]] w fun e w' => e = .returned (.bool true) ∧ Below w.heap.size w w' := by
  obtain ⟨⟨⟨a1, c1'⟩, ⟨a2, c2⟩⟩, ⟨⟨k, p, ty, ch⟩, X, Y⟩⟩ := y
  obtain ⟨⟨⟨a3, c3⟩, ⟨a4, c4⟩⟩, cz⟩ := z
  simp only at hc
  subst hc
  have hb : Below w.heap.size w ((w.alloc (.cells #[.int .i64 k, .int .i64 p, .int .i64 ty, .int .i64 ch, .slice a1 X.length c1', .slice a2 Y.length c2] 51)).alloc (.cells #[.int .i64 k, .int .i64 p, .int .i64 ty, .int .i64 ch, .slice a3 X.length c3, .slice a4 Y.length c4] 51)) := ((Below.refl _ _).alloc (Nat.le_refl _) _).alloc (by simp) _
  have HS := hide (same5 ty ch X Y a1 X.length c1' a2 Y.length c2 a3 X.length c3 a4 Y.length c4 _ (hy.1.below hb) (hy.2.below hb) (hz.1.below hb) (hz.2.below hb))
  have HB := hide hb
  clear hy hz hb
  simp only
  go_enter Try.func30, Try.ntmps30
  go_wp2_with fail
  refine HS.out.mono ?_
  rintro e w1 ⟨rfl, hb1⟩
  have HB1 : Hid (Below w.heap.size w w1) := HB.out.trans (hb1.mono HB.out.size)
  have hz1 := hb1.size
  simp at hz1
  have e1 : w1.heap[w.heap.size]? = some (.cells #[.int .i64 k, .int .i64 p, .int .i64 ty, .int .i64 ch, .slice a1 X.length c1', .slice a2 Y.length c2] 51 (0, 0)) := (hb1.block _ (by simp; omega)).trans (heap_past (World.alloc_heap_new _ _) _)
  have e2 : w1.heap[w.heap.size + 1]? = some (.cells #[.int .i64 k, .int .i64 p, .int .i64 ty, .int .i64 ch, .slice a3 X.length c3, .slice a4 Y.length c4] 51 (0, 0)) := (hb1.block _ (by simp)).trans (heap_at1 _ _ _)
  have c0 : w1.cell? ⟨w.heap.size, 0, none⟩ = some (.int .i64 k) := by simp [World.cell?, e1]
  have c1 : w1.cell? ⟨w.heap.size, 1, none⟩ = some (.int .i64 p) := by simp [World.cell?, e1]
  have d0 : w1.cell? ⟨w.heap.size + 1, 0, none⟩ = some (.int .i64 k) := by simp [World.cell?, e2]
  have d1 : w1.cell? ⟨w.heap.size + 1, 1, none⟩ = some (.int .i64 p) := by simp [World.cell?, e2]
  clear hb1 e1 e2
  go_wp2
  go_ret
  exact ⟨rfl, HB1.out⟩
theorem flat6 (ys : List Gv) (i j : Nat) (hi : i < ys.length) (hj : j < 6) : (ys.flatMap Gv.cs)[i * 6 + j]? = (ys[i]).cs[j]? := by
  induction ys generalizing i with
  | nil => simp at hi
  | cons y r ih =>
    rw [List.flatMap_cons]
    cases i with
    | zero =>
      rw [List.getElem?_append_left (by simp [Gv.cs]; omega)]
      simp
    | succ i =>
      rw [List.getElem?_append_right (by simp [Gv.cs]; omega)]
      have : (i + 1) * 6 + j - y.cs.length = i * 6 + j := by simp [Gv.cs]; omega
      rw [this]
      exact ih i (by simpa using hi)
theorem row6 {w : World} {N : Nat} {g n cap : Nat} {ys : List Gv} (h : w.ownsRow N 51 6 (.slice (some ⟨g, 0, none⟩) n cap) ys.length (ys.flatMap Gv.cs)) (i j : Nat) (hi : i < ys.length) (hj : j < 6) : w.cell? ⟨g, i * 6 + j, none⟩ = (ys[i]).cs[j]? := by
  obtain ⟨_, (⟨e, _⟩ | ⟨g', cap', cur, e, _, q2, q3, _, q5, q6⟩)⟩ := h
  · cases e
  · injection e with e1 e2 e3
    injection e1 with e1
    have e1 : g = g' := congrArg Addr.block e1
    subst e1
    rw [← flat6 ys i j hi hj, ← q6]
    have hlt : i * 6 + j < ys.length * 6 := by omega
    simp [World.cell?, q2, List.getElem?_take, hlt]
theorem row6_slice {W : World} {N n : Nat} {v : Value} {xs : List Value} (h : W.ownsRow N 51 6 v n xs) : (v = .slice none 0 0 ∧ n = 0) ∨ ∃ g c, v = .slice (some ⟨g, 0, none⟩) n c ∧ n ≤ c ∧ g < W.heap.size := by
  obtain ⟨_, (⟨rfl, rfl⟩ | ⟨g, cap, cur, rfl, _, q2, q3, _⟩)⟩ := h
  · exact .inl ⟨rfl, rfl⟩
  · exact .inr ⟨g, cap, rfl, q3, (Array.getElem?_eq_some_iff.1 q2).1⟩
/-- six cells of a row -/
def C6 (W : World) (g i : Nat) (y : Gv) : Prop := W.cell? ⟨g, i * 6, none⟩ = some (.int .i64 y.2.1.1) ∧ W.cell? ⟨g, i * 6 + 1, none⟩ = some (.int .i64 y.2.1.2.1) ∧ W.cell? ⟨g, i * 6 + 2, none⟩ = some (.int .i64 y.2.1.2.2.1) ∧ W.cell? ⟨g, i * 6 + 3, none⟩ = some (.int .i64 y.2.1.2.2.2) ∧ W.cell? ⟨g, i * 6 + 4, none⟩ = some (.slice y.1.1.1 y.2.2.1.length y.1.1.2) ∧ W.cell? ⟨g, i * 6 + 5, none⟩ = some (.slice y.1.2.1 y.2.2.2.length y.1.2.2)
theorem row6_cells {w : World} {N : Nat} {g n cap : Nat} {ys : List Gv} (h : w.ownsRow N 51 6 (.slice (some ⟨g, 0, none⟩) n cap) ys.length (ys.flatMap Gv.cs)) {i : Nat} (hi : i < ys.length) : C6 w g i ys[i] :=
  ⟨row6 h i 0 hi (by omega), row6 h i 1 hi (by omega), row6 h i 2 hi (by omega), row6 h i 3 hi (by omega), row6 h i 4 hi (by omega), row6 h i 5 hi (by omega)⟩
theorem C6.below {w W : World} {g i B : Nat} {y : Gv} (h : C6 w g i y) (hb : Below B w W) (hg : g < B) : C6 W g i y := by
  obtain ⟨h0, h1, h2, h3, h4, h5⟩ := h
  exact ⟨(hb.cell (p := ⟨g, _, none⟩) hg).trans h0, (hb.cell (p := ⟨g, _, none⟩) hg).trans h1, (hb.cell (p := ⟨g, _, none⟩) hg).trans h2, (hb.cell (p := ⟨g, _, none⟩) hg).trans h3, (hb.cell (p := ⟨g, _, none⟩) hg).trans h4, (hb.cell (p := ⟨g, _, none⟩) hg).trans h5⟩
theorem Ev.ok.below {w W : World} {lo : Nat} {y : Ev} (h : y.ok w lo) (hb : Below w.heap.size w W) : y.ok W lo := h.keep (fun g l _ hl => hb.block g hl.lt)

set_option maxRecDepth 100000 in
set_option maxHeartbeats 2000000 in
theorem sameItems_any (ys zs : List Gv) (hc : ys.map (·.2) = zs.map (·.2)) (va vb : Value) (N N' : Nat) (w : World) (ra : w.ownsRow N 51 6 va ys.length (ys.flatMap Gv.cs)) (rb : w.ownsRow N' 51 6 vb zs.length (zs.flatMap Gv.cs)) (oka : ∀ y ∈ ys, y.ok w) (okb : ∀ z ∈ zs, z.ok w) (hl : ys.length ≤ 200000000) :
    Calls Try.prog 14 #[va, vb] w fun e w' => e = .returned (.bool true) ∧ Below w.heap.size w w' := by
  have hlen : zs.length = ys.length := by have := congrArg List.length hc; simpa using this.symm
  have key : ∀ i (hi : i < ys.length), ∃ ga ca gb cb, va = .slice (some ⟨ga, 0, none⟩) ys.length ca ∧ vb = .slice (some ⟨gb, 0, none⟩) ys.length cb ∧ ys.length ≤ ca ∧ ys.length ≤ cb ∧ ∃ y z : Gv, ∀ W, Below w.heap.size w W → C6 W ga i y ∧ C6 W gb i z ∧ Calls Try.prog 30 #[.agg #[.int .i64 y.2.1.1, .int .i64 y.2.1.2.1, .int .i64 y.2.1.2.2.1, .int .i64 y.2.1.2.2.2, .slice y.1.1.1 y.2.2.1.length y.1.1.2, .slice y.1.2.1 y.2.2.2.length y.1.2.2], .agg #[.int .i64 z.2.1.1, .int .i64 z.2.1.2.1, .int .i64 z.2.1.2.2.1, .int .i64 z.2.1.2.2.2, .slice z.1.1.1 z.2.2.1.length z.1.1.2, .slice z.1.2.1 z.2.2.2.length z.1.2.2]] W fun e w' => e = .returned (.bool true) ∧ Hid (Below w.heap.size w w') := by
    intro i hi
    rcases row6_slice ra with ⟨rfl, h⟩ | ⟨ga, ca, rfl, hca, hga⟩
    · omega
    rcases row6_slice rb with ⟨rfl, h⟩ | ⟨gb, cb, rfl, hcb, hgb⟩
    · omega
    refine ⟨ga, ca, gb, cb, rfl, by rw [hlen], hca, by omega, ys[i], zs[i]'(by omega), fun W hb => ⟨(row6_cells ra hi).below hb hga, (row6_cells rb (by omega)).below hb hgb, ?_⟩⟩
    have e : (ys[i]).2 = (zs[i]'(by omega)).2 := by
      have h1 : (ys.map (·.2))[i]? = (zs.map (·.2))[i]? := by rw [hc]
      simp only [List.getElem?_map, List.getElem?_eq_getElem hi, List.getElem?_eq_getElem (show i < zs.length by omega), Option.map_some] at h1
      exact Option.some.inj h1
    refine (same6 ys[i] (zs[i]'(by omega)) e W ((oka _ (List.getElem_mem hi)).below hb) ((okb _ (List.getElem_mem _)).below hb)).mono ?_
    rintro e w' ⟨h1, h2⟩
    exact ⟨h1, hb.trans (h2.mono hb.size)⟩
  have hva : ∃ a c, va = .slice a ys.length c := by
    rcases row6_slice ra with ⟨rfl, h⟩ | ⟨ga, ca, rfl, hca, hga⟩
    · exact ⟨none, 0, by rw [h]⟩
    · exact ⟨_, _, rfl⟩
  have hvb : ∃ a c, vb = .slice a ys.length c := by
    rcases row6_slice rb with ⟨rfl, h⟩ | ⟨ga, ca, rfl, hca, hga⟩
    · exact ⟨none, 0, by rw [← hlen, h]⟩
    · exact ⟨_, _, by rw [hlen]⟩
  obtain ⟨aa, cA, rfl⟩ := hva
  obtain ⟨ab, cB, rfl⟩ := hvb
  have HKEY := hide key
  clear ra rb oka okb key hc hlen
  go_enter Try.func14, Try.ntmps14
  go_wp2
  go_loopw [5] (fun i wr => ∃ j : Nat, i = .int .i64 j ∧ j ≤ ys.length ∧ Hid (Below w.heap.size w wr)) (fun i _ => ys.length - (intOf i).toNat)
  case atStart => exact ⟨0, rfl, Nat.zero_le _, Below.refl _ _⟩
  case round =>
    obtain ⟨j, rfl, hj, HB⟩ := hrel
    by_cases hjl : j < ys.length
    · obtain ⟨ga, ca, gb, cb, e1, e2, hca, hcb, y, z, hk⟩ := HKEY.out j hjl
      injection e1 with e1 _ e1c
      injection e2 with e2 _ e2c
      subst e1 e1c e2 e2c
      have HK := hide hk
      clear hk
      have HS0 := hide (And.intro (HK.out wr HB.out).1 (HK.out wr HB.out).2.1)
      go_upto_region 6 with fail
      go_cut [6] (fun v wx => v = .bool true ∧ Hid (Below w.heap.size w wx))
      case first =>
        have HS1 : Hid (∀ w9, Below w.heap.size w w9 → C6 w9 ga j y ∧ C6 w9 gb j z) := fun w9 h => ⟨(HK.out w9 h).1, (HK.out w9 h).2.1⟩
        clear HKEY
        go_region_held3 (fun W => (W.cell? ⟨ga, j * 6, none⟩ = some (.int .i64 y.2.1.1) ∧ W.cell? ⟨ga, j * 6 + 1, none⟩ = some (.int .i64 y.2.1.2.1) ∧ W.cell? ⟨ga, j * 6 + 2, none⟩ = some (.int .i64 y.2.1.2.2.1) ∧ W.cell? ⟨ga, j * 6 + 3, none⟩ = some (.int .i64 y.2.1.2.2.2) ∧ W.cell? ⟨ga, j * 6 + 4, none⟩ = some (.slice y.1.1.1 y.2.2.1.length y.1.1.2) ∧ W.cell? ⟨ga, j * 6 + 5, none⟩ = some (.slice y.1.2.1 y.2.2.2.length y.1.2.2)) ∧ (W.cell? ⟨gb, j * 6, none⟩ = some (.int .i64 z.2.1.1) ∧ W.cell? ⟨gb, j * 6 + 1, none⟩ = some (.int .i64 z.2.1.2.1) ∧ W.cell? ⟨gb, j * 6 + 2, none⟩ = some (.int .i64 z.2.1.2.2.1) ∧ W.cell? ⟨gb, j * 6 + 3, none⟩ = some (.int .i64 z.2.1.2.2.2) ∧ W.cell? ⟨gb, j * 6 + 4, none⟩ = some (.slice z.1.1.1 z.2.2.1.length z.1.1.2) ∧ W.cell? ⟨gb, j * 6 + 5, none⟩ = some (.slice z.1.2.1 z.2.2.2.length z.1.2.2))) (first | exact HS0.out | exact HS1.out _ HB2.out) ((first
          | (go_at_call 30; refine Calls.mono (HK.out wr.drew HB.out.drew).2.2 ?_; rintro e10 w10 ⟨rfl, HB2⟩)
          | (go_at_call 30; refine Calls.mono (HK.out wr HB.out).2.2 ?_; rintro e10 w10 ⟨rfl, HB2⟩)))
        go_wp2
        go_meet
        exact ⟨rfl, HB2⟩
      case rest =>
        obtain ⟨rfl, HB2⟩ := hcut
        go_wp2
        refine ⟨⟨j + 1, by go_num, hjl, HB2⟩, ?_⟩
        simp [intOf]
        omega
    · have hje : j = ys.length := by omega
      subst hje
      go_wp2
      go_ret
      exact ⟨rfl, HB.out⟩
end Go.Proofs.Ytaijcnkmklibcaa
