import Derived.Test.YtgpimajdcfoigabDoorD43
import Derived.Test.YtgpimajdcfoigabDoorD44
import Derived.Test.YtgpimajdcfoigabDoorD46
import Derived.Test.YtgpimajdcfoigabDoorD47

/- codec's reader: data of lists, maps and arrays; all of data. -/
namespace Go.Proofs.YtgpimajdcfoigabDoor
open Go.RowKit
set_option linter.unusedVariables false
set_option linter.unusedSimpArgs false
theorem arr_kind (l : List Nat) (f wd p fin : Nat) (sz : Int) {x : Nat × List T} {q' : Nat} (h : rspan l wd (wd + 1) p fin sz (rarrI l (rdat badB twiceW l f) f) = .ok (x, q')) : x.1 ≤ 24 := by
  obtain ⟨size, count, b1, b2, b3, b4, b5, b6, b7⟩ := rspan_far l (fun count q fin sz x q' hq hi => by have := rarrI_far l (rdat_far badB twiceW l f) hi; omega) h
  unfold rarrI at b6
  obtain ⟨c, h1, h2⟩ := bindR_ok b6
  split at h2
  · obtain ⟨xq, h3, h4⟩ := bindR_ok h2
    cases h4
    simp only
    cases hk : kindC c with
    | none => simp
    | some e => rcases kind_cases hk with h | h | h | h | h | h <;> simp <;> omega
  · cases h2
set_option maxRecDepth 100000 in
set_option maxHeartbeats 2000000 in
theorem dat_list1 (f k c : Nat) (hc : c < 256) (hk : k ≤ 24) (hlay : c / 16 = 12)
    (HV : ∀ (d R : Nat) (a : Option Addr) (n cap : Nat) (l : List Nat), d + (f + 1) = 33 → ValAt f d R a n cap l) : DatC (f + 1) k c := by
  intro d R a n cap place p fin sz l w hd hs hr hp hfin hpl
  have hrd : rdat badB twiceW l (f + 1) k c place p fin sz = bindR (relems twiceW l (rvalG l (rdat badB twiceW l f) f) k 1 place p fin sz) fun xq => .ok (T.of k 0 e0 0 xq.1, xq.2) := by
    rw [rdat_b]
    rw [if_neg (by omega), if_neg (by omega), if_neg (by omega), if_neg (by omega), if_pos (by omega)]
    simp [hlay]
  rw [hrd]
  clear hrd
  have H12 : Hid (∀ W1, Calls Tryd.prog 33 #[.int .u8 (c : Int)] W1 fun e w' => e = .returned (.int .u8 12) ∧ W1 = w') := fun W1 => by
    have := layout_any c hc W1
    rw [hlay] at this
    exact this
  have hlt := hr.cells.2.2.2.2.2.2.2
  have hn := hs.small
  have hby := hs.rd.2.1
  have HG0 : Hid (∀ A B, Gro R w ((w.alloc A).alloc B)) := fun A B => ((Gro.refl R w).alloc A).alloc B
  have HE : Hid (∀ W', Gro R w W' → RB W' R a n cap p fin sz → Calls Tryd.prog 42 #[.pointer (some ⟨R, 0, none⟩), .int .i64 (k : Int), .int .i64 1, .int .i64 (place : Int), .int .i64 (d : Int)] W' (OutL (relems twiceW l (rvalG l (rdat badB twiceW l f) f) k 1 place p fin sz) R a n cap fin sz W')) := fun W' h1 h2 => elems_any R k place d f 1 a n cap p fin sz l W' (hs.gro h1) h2 hp hfin (by omega) hk (by omega) hpl (HV d R a n cap l hd)
  have HR := hide hr
  clear hr HV hlay
  have HBD : Hid (∀ xq, relems twiceW l (rvalG l (rdat badB twiceW l f) f) k 1 place p fin sz = .ok xq → p ≤ xq.2 ∧ xq.2 ≤ fin) := fun xq h => by
    have hrel : relems twiceW l (rvalG l (rdat badB twiceW l f) f) k 1 place p fin sz = bindR (rspan l 1 1 p fin sz (relemI l f k place)) (fun xq => if k = 22 ∧ twiceW xq.1 = true then .error ((place : Int), 34) else .ok xq) := relems_b twiceW l _ k 1 place p fin sz
    rw [hrel] at h
    obtain ⟨⟨xs, q⟩, h1, h2⟩ := bindR_ok h
    split at h2
    · cases h2
    · cases h2
      have := span_len l hby f k place 1 p fin sz (by omega) h1
      exact ⟨this.2.1, this.2.2.1⟩
  cases hrv : relems twiceW l (rvalG l (rdat badB twiceW l f) f) k 1 place p fin sz with
  | error x =>
    rw [hrv] at HE
    clear hrv HBD
    go_enter Tryd.func26, Tryd.ntmps26
    go_wp2_with fail
    refine Calls.mono (H12.out _) ?_
    rintro e1 w1 ⟨rfl, rfl⟩
    go_wp2_with fail
    refine Calls.mono (HE.out _ (HG0.out _ _) ((HR.out.alloc _).alloc _)) ?_
    rintro e1 w1 ⟨rfl, hg⟩
    exact ⟨rfl, rfl, (HG0.out _ _).trans hg⟩
  | ok xq =>
    have hbd := HBD.out xq hrv
    rw [hrv] at HE
    obtain ⟨xs, q⟩ := xq
    have HE2 : Hid (∀ W', Gro R w W' → RB W' R a n cap p fin sz → Calls Tryd.prog 42 #[.pointer (some ⟨R, 0, none⟩), .int .i64 (k : Int), .int .i64 1, .int .i64 (place : Int), .int .i64 (d : Int)] W' (fun e w' => (∃ ys la lc, e = .returned (.slice la (ys : List V).length lc) ∧ Hid (GotL W' ys la lc w' ∧ V.ts ys = xs ∧ RB w' R a n cap q fin sz ∧ q ≤ fin)) ∧ Gro R W' w')) := HE.out
    show Calls _ _ _ _ (Outc (.ok (T.of k 0 e0 0 xs, q)) R w (GotV R a n cap p fin sz w))
    clear HE hrv HBD
    simp only at hbd
    go_enter Tryd.func26, Tryd.ntmps26
    go_wp2_with fail
    refine Calls.mono (H12.out _) ?_
    rintro e1 w1 ⟨rfl, rfl⟩
    go_wp2_with fail
    refine Calls.mono (HE2.out _ (HG0.out _ _) ((HR.out.alloc _).alloc _)) ?_
    rintro e2 w2 ⟨⟨ys, la, lc, rfl, HY⟩, hg⟩
    obtain ⟨g1, g2, g3, g4, hz⟩ := two_boxes hlt hg
    have HGA : Hid (Gro R w w2) := (HG0.out _ _).trans hg
    have k0 := g1 0
    have k1 := g1 1
    have k2 := g1 2
    have k3 := g1 3
    have k4 := g1 4
    have j0 := g2 0
    have j1 := g2 1
    have j2 := g2 2
    have j3 := g2 3
    have j4 := g2 4
    simp only [List.getElem?_toArray, List.getElem?_cons_zero, List.getElem?_cons_succ] at k0 k1 k2 k3 k4 j0 j1 j2 j3 j4
    have hwn : w.heap.size ≠ w.heap.size + 1 := by omega
    clear hg g1 g2
    go_wp2
    obtain ⟨hGL, hts, hrb, hqf⟩ := HY.out
    have hll := hGL.len
    have hcp := hGL.cap
    have hsa : ∀ (A B : Obj), ((w.alloc A).alloc B).heap.size = w.heap.size + 2 := fun A B => by simp
    refine bodyPost_ret (v := .agg #[.int .i64 (k : Int), .int .u64 0, .string ⟨#[]⟩, .slice la ys.length lc, .int .i64 0]) (by simp [results, Tryd.results26, go_sem, k0, k1, k2, k3, k4]) rfl ⟨⟨.of (k : Int) 0 e0 la lc 0 ys, by rw [V.l_of]; rfl, ⟨?_, LiesIn.mk ⟨by omega, by omega, by decide, by omega, hcp, by omega⟩ (fun h0 => ?_) (fun x hx => ?_), ?_, hbd.1, hqf⟩⟩, ?_⟩
    · rw [V.t_of, hts]
    · obtain ⟨b, hla, hb1, hb2, hrow⟩ := hGL.row h0
      rw [hsa] at hb1
      have o1 : b ≠ w.heap.size := by omega
      have o2 : b ≠ w.heap.size + 1 := by omega
      refine ⟨b, 0, hla, ⟨by omega, by simp; omega⟩, fun i hi => ?_⟩
      obtain ⟨r0, r1, r2, r3, r4⟩ := hrow i hi
      exact ⟨((cell_over _ o1).trans ((cell_over _ o1).trans ((cell_over _ o1).trans ((cell_over _ o1).trans ((cell_over _ o1).trans (cell_over _ o2)))))).trans r0, ((cell_over _ o1).trans ((cell_over _ o1).trans ((cell_over _ o1).trans ((cell_over _ o1).trans ((cell_over _ o1).trans (cell_over _ o2)))))).trans r1, ((cell_over _ o1).trans ((cell_over _ o1).trans ((cell_over _ o1).trans ((cell_over _ o1).trans ((cell_over _ o1).trans (cell_over _ o2)))))).trans r2, ((cell_over _ o1).trans ((cell_over _ o1).trans ((cell_over _ o1).trans ((cell_over _ o1).trans ((cell_over _ o1).trans (cell_over _ o2)))))).trans r3, ((cell_over _ o1).trans ((cell_over _ o1).trans ((cell_over _ o1).trans ((cell_over _ o1).trans ((cell_over _ o1).trans (cell_over _ o2)))))).trans r4⟩
    · refine (hGL.lies x hx).keep (fun b hb o => ?_) (fun b hb => ⟨by have := hb.1; rw [hsa] at this; omega, by simp; omega⟩)
      have hb1 := hb.1
      rw [hsa] at hb1
      have o1 : b ≠ w.heap.size := by omega
      have o2 : b ≠ w.heap.size + 1 := by omega
      exact ((cell_over _ o1).trans ((cell_over _ o1).trans ((cell_over _ o1).trans ((cell_over _ o1).trans ((cell_over _ o1).trans (cell_over _ o2))))))
    · exact RB.over (RB.over (RB.over (RB.over (RB.over (RB.over (hrb) (by omega) _ _) (by omega) _ _) (by omega) _ _) (by omega) _ _) (by omega) _ _) (by omega) _ _
    · exact Gro.over (Gro.over (Gro.over (Gro.over (Gro.over (Gro.over (HGA.out) (by omega) _ _) (by omega) _ _) (by omega) _ _) (by omega) _ _) (by omega) _ _) (by omega) _ _
set_option maxRecDepth 100000 in
set_option maxHeartbeats 2000000 in
theorem dat_list4 (f k c : Nat) (hc : c < 256) (hk : k ≤ 24) (hlay : c / 16 = 13)
    (HV : ∀ (d R : Nat) (a : Option Addr) (n cap : Nat) (l : List Nat), d + (f + 1) = 33 → ValAt f d R a n cap l) : DatC (f + 1) k c := by
  intro d R a n cap place p fin sz l w hd hs hr hp hfin hpl
  have hrd : rdat badB twiceW l (f + 1) k c place p fin sz = bindR (relems twiceW l (rvalG l (rdat badB twiceW l f) f) k 4 place p fin sz) fun xq => .ok (T.of k 0 e0 0 xq.1, xq.2) := by
    rw [rdat_b]
    rw [if_neg (by omega), if_neg (by omega), if_neg (by omega), if_neg (by omega), if_pos (by omega)]
    simp [hlay]
  rw [hrd]
  clear hrd
  have H13 : Hid (∀ W1, Calls Tryd.prog 33 #[.int .u8 (c : Int)] W1 fun e w' => e = .returned (.int .u8 13) ∧ W1 = w') := fun W1 => by
    have := layout_any c hc W1
    rw [hlay] at this
    exact this
  have hlt := hr.cells.2.2.2.2.2.2.2
  have hn := hs.small
  have hby := hs.rd.2.1
  have HG0 : Hid (∀ A B, Gro R w ((w.alloc A).alloc B)) := fun A B => ((Gro.refl R w).alloc A).alloc B
  have HE : Hid (∀ W', Gro R w W' → RB W' R a n cap p fin sz → Calls Tryd.prog 42 #[.pointer (some ⟨R, 0, none⟩), .int .i64 (k : Int), .int .i64 4, .int .i64 (place : Int), .int .i64 (d : Int)] W' (OutL (relems twiceW l (rvalG l (rdat badB twiceW l f) f) k 4 place p fin sz) R a n cap fin sz W')) := fun W' h1 h2 => elems_any R k place d f 4 a n cap p fin sz l W' (hs.gro h1) h2 hp hfin (by omega) hk (by omega) hpl (HV d R a n cap l hd)
  have HR := hide hr
  clear hr HV hlay
  have HBD : Hid (∀ xq, relems twiceW l (rvalG l (rdat badB twiceW l f) f) k 4 place p fin sz = .ok xq → p ≤ xq.2 ∧ xq.2 ≤ fin) := fun xq h => by
    have hrel : relems twiceW l (rvalG l (rdat badB twiceW l f) f) k 4 place p fin sz = bindR (rspan l 4 4 p fin sz (relemI l f k place)) (fun xq => if k = 22 ∧ twiceW xq.1 = true then .error ((place : Int), 34) else .ok xq) := relems_b twiceW l _ k 4 place p fin sz
    rw [hrel] at h
    obtain ⟨⟨xs, q⟩, h1, h2⟩ := bindR_ok h
    split at h2
    · cases h2
    · cases h2
      have := span_len l hby f k place 4 p fin sz (by omega) h1
      exact ⟨this.2.1, this.2.2.1⟩
  cases hrv : relems twiceW l (rvalG l (rdat badB twiceW l f) f) k 4 place p fin sz with
  | error x =>
    rw [hrv] at HE
    clear hrv HBD
    go_enter Tryd.func26, Tryd.ntmps26
    go_wp2_with fail
    refine Calls.mono (H13.out _) ?_
    rintro e1 w1 ⟨rfl, rfl⟩
    go_wp2_with fail
    refine Calls.mono (HE.out _ (HG0.out _ _) ((HR.out.alloc _).alloc _)) ?_
    rintro e1 w1 ⟨rfl, hg⟩
    exact ⟨rfl, rfl, (HG0.out _ _).trans hg⟩
  | ok xq =>
    have hbd := HBD.out xq hrv
    rw [hrv] at HE
    obtain ⟨xs, q⟩ := xq
    have HE2 : Hid (∀ W', Gro R w W' → RB W' R a n cap p fin sz → Calls Tryd.prog 42 #[.pointer (some ⟨R, 0, none⟩), .int .i64 (k : Int), .int .i64 4, .int .i64 (place : Int), .int .i64 (d : Int)] W' (fun e w' => (∃ ys la lc, e = .returned (.slice la (ys : List V).length lc) ∧ Hid (GotL W' ys la lc w' ∧ V.ts ys = xs ∧ RB w' R a n cap q fin sz ∧ q ≤ fin)) ∧ Gro R W' w')) := HE.out
    show Calls _ _ _ _ (Outc (.ok (T.of k 0 e0 0 xs, q)) R w (GotV R a n cap p fin sz w))
    clear HE hrv HBD
    simp only at hbd
    go_enter Tryd.func26, Tryd.ntmps26
    go_wp2_with fail
    refine Calls.mono (H13.out _) ?_
    rintro e1 w1 ⟨rfl, rfl⟩
    go_wp2_with fail
    refine Calls.mono (HE2.out _ (HG0.out _ _) ((HR.out.alloc _).alloc _)) ?_
    rintro e2 w2 ⟨⟨ys, la, lc, rfl, HY⟩, hg⟩
    obtain ⟨g1, g2, g3, g4, hz⟩ := two_boxes hlt hg
    have HGA : Hid (Gro R w w2) := (HG0.out _ _).trans hg
    have k0 := g1 0
    have k1 := g1 1
    have k2 := g1 2
    have k3 := g1 3
    have k4 := g1 4
    have j0 := g2 0
    have j1 := g2 1
    have j2 := g2 2
    have j3 := g2 3
    have j4 := g2 4
    simp only [List.getElem?_toArray, List.getElem?_cons_zero, List.getElem?_cons_succ] at k0 k1 k2 k3 k4 j0 j1 j2 j3 j4
    have hwn : w.heap.size ≠ w.heap.size + 1 := by omega
    clear hg g1 g2
    go_wp2
    obtain ⟨hGL, hts, hrb, hqf⟩ := HY.out
    have hll := hGL.len
    have hcp := hGL.cap
    have hsa : ∀ (A B : Obj), ((w.alloc A).alloc B).heap.size = w.heap.size + 2 := fun A B => by simp
    refine bodyPost_ret (v := .agg #[.int .i64 (k : Int), .int .u64 0, .string ⟨#[]⟩, .slice la ys.length lc, .int .i64 0]) (by simp [results, Tryd.results26, go_sem, k0, k1, k2, k3, k4]) rfl ⟨⟨.of (k : Int) 0 e0 la lc 0 ys, by rw [V.l_of]; rfl, ⟨?_, LiesIn.mk ⟨by omega, by omega, by decide, by omega, hcp, by omega⟩ (fun h0 => ?_) (fun x hx => ?_), ?_, hbd.1, hqf⟩⟩, ?_⟩
    · rw [V.t_of, hts]
    · obtain ⟨b, hla, hb1, hb2, hrow⟩ := hGL.row h0
      rw [hsa] at hb1
      have o1 : b ≠ w.heap.size := by omega
      have o2 : b ≠ w.heap.size + 1 := by omega
      refine ⟨b, 0, hla, ⟨by omega, by simp; omega⟩, fun i hi => ?_⟩
      obtain ⟨r0, r1, r2, r3, r4⟩ := hrow i hi
      exact ⟨((cell_over _ o1).trans ((cell_over _ o1).trans ((cell_over _ o1).trans ((cell_over _ o1).trans ((cell_over _ o1).trans (cell_over _ o2)))))).trans r0, ((cell_over _ o1).trans ((cell_over _ o1).trans ((cell_over _ o1).trans ((cell_over _ o1).trans ((cell_over _ o1).trans (cell_over _ o2)))))).trans r1, ((cell_over _ o1).trans ((cell_over _ o1).trans ((cell_over _ o1).trans ((cell_over _ o1).trans ((cell_over _ o1).trans (cell_over _ o2)))))).trans r2, ((cell_over _ o1).trans ((cell_over _ o1).trans ((cell_over _ o1).trans ((cell_over _ o1).trans ((cell_over _ o1).trans (cell_over _ o2)))))).trans r3, ((cell_over _ o1).trans ((cell_over _ o1).trans ((cell_over _ o1).trans ((cell_over _ o1).trans ((cell_over _ o1).trans (cell_over _ o2)))))).trans r4⟩
    · refine (hGL.lies x hx).keep (fun b hb o => ?_) (fun b hb => ⟨by have := hb.1; rw [hsa] at this; omega, by simp; omega⟩)
      have hb1 := hb.1
      rw [hsa] at hb1
      have o1 : b ≠ w.heap.size := by omega
      have o2 : b ≠ w.heap.size + 1 := by omega
      exact ((cell_over _ o1).trans ((cell_over _ o1).trans ((cell_over _ o1).trans ((cell_over _ o1).trans ((cell_over _ o1).trans (cell_over _ o2))))))
    · exact RB.over (RB.over (RB.over (RB.over (RB.over (RB.over (hrb) (by omega) _ _) (by omega) _ _) (by omega) _ _) (by omega) _ _) (by omega) _ _) (by omega) _ _
    · exact Gro.over (Gro.over (Gro.over (Gro.over (Gro.over (Gro.over (HGA.out) (by omega) _ _) (by omega) _ _) (by omega) _ _) (by omega) _ _) (by omega) _ _) (by omega) _ _
set_option maxRecDepth 100000 in
set_option maxHeartbeats 2000000 in
theorem dat_arr1 (f k c : Nat) (hc : c < 256) (hk : k ≤ 24) (hlay : c / 16 = 14)
    (HV : ∀ (d R : Nat) (a : Option Addr) (n cap : Nat) (l : List Nat), d + (f + 1) = 33 → f ≠ 0 → ∀ c k, c < 256 → kindC c = some k → DatAt f d R a n cap l k c) : DatC (f + 1) k c := by
  intro d R a n cap place p fin sz l w hd hs hr hp hfin hpl
  have hrd : rdat badB twiceW l (f + 1) k c place p fin sz = bindR (rarr l (rdat badB twiceW l f) f 1 p fin sz) fun xq => .ok (T.of k 0 e0 xq.1.1 xq.1.2, xq.2) := by
    rw [rdat_b]
    rw [if_neg (by omega), if_neg (by omega), if_neg (by omega), if_neg (by omega), if_neg (by omega), if_pos (by omega)]
    simp [hlay]
  rw [hrd]
  clear hrd
  have H14 : Hid (∀ W1, Calls Tryd.prog 33 #[.int .u8 (c : Int)] W1 fun e w' => e = .returned (.int .u8 14) ∧ W1 = w') := fun W1 => by
    have := layout_any c hc W1
    rw [hlay] at this
    exact this
  have hlt := hr.cells.2.2.2.2.2.2.2
  have hn := hs.small
  have hby := hs.rd.2.1
  have HG0 : Hid (∀ A B, Gro R w ((w.alloc A).alloc B)) := fun A B => ((Gro.refl R w).alloc A).alloc B
  have HE : Hid (∀ W', Gro R w W' → RB W' R a n cap p fin sz → Calls Tryd.prog 43 #[.pointer (some ⟨R, 0, none⟩), .int .i64 1, .int .i64 (d : Int)] W' (OutA (rarr l (rdat badB twiceW l f) f 1 p fin sz) R a n cap fin sz W')) := fun W' h1 h2 => arr_any R d f 1 a n cap p fin sz l W' (hs.gro h1) h2 hp hfin (by omega) hd (HV d R a n cap l hd)
  have HR := hide hr
  clear hr HV hlay
  have HBD : Hid (∀ xq, rarr l (rdat badB twiceW l f) f 1 p fin sz = .ok xq → p ≤ xq.2 ∧ xq.2 ≤ fin ∧ xq.1.1 ≤ 24) := fun xq h => by
    rw [rarr_b] at h
    have h1 := arr_len l hby f 1 p fin sz (by omega) (x := xq.1) (q' := xq.2) h
    exact ⟨h1.2.1, h1.2.2, arr_kind l f 1 p fin sz (x := xq.1) (q' := xq.2) h⟩
  cases hrv : rarr l (rdat badB twiceW l f) f 1 p fin sz with
  | error x =>
    rw [hrv] at HE
    clear hrv HBD
    go_enter Tryd.func26, Tryd.ntmps26
    go_wp2_with fail
    refine Calls.mono (H14.out _) ?_
    rintro e1 w1 ⟨rfl, rfl⟩
    go_wp2_with fail
    refine Calls.mono (HE.out _ (HG0.out _ _) ((HR.out.alloc _).alloc _)) ?_
    rintro e1 w1 ⟨rfl, hg⟩
    exact ⟨rfl, rfl, (HG0.out _ _).trans hg⟩
  | ok xq =>
    have hbd := HBD.out xq hrv
    rw [hrv] at HE
    obtain ⟨⟨e, xs⟩, q⟩ := xq
    have HE2 : Hid (∀ W', Gro R w W' → RB W' R a n cap p fin sz → Calls Tryd.prog 43 #[.pointer (some ⟨R, 0, none⟩), .int .i64 1, .int .i64 (d : Int)] W' (fun e' w' => (∃ ys la lc, e' = .returned (.tuple #[.int .i64 (e : Int), .slice la (ys : List V).length lc]) ∧ Hid (GotL W' ys la lc w' ∧ V.ts ys = xs ∧ RB w' R a n cap q fin sz ∧ q ≤ fin)) ∧ Gro R W' w')) := HE.out
    show Calls _ _ _ _ (Outc (.ok (T.of k 0 e0 e xs, q)) R w (GotV R a n cap p fin sz w))
    clear HE hrv HBD
    simp only at hbd
    go_enter Tryd.func26, Tryd.ntmps26
    go_wp2_with fail
    refine Calls.mono (H14.out _) ?_
    rintro e1 w1 ⟨rfl, rfl⟩
    go_wp2_with fail
    refine Calls.mono (HE2.out _ (HG0.out _ _) ((HR.out.alloc _).alloc _)) ?_
    rintro e2 w2 ⟨⟨ys, la, lc, rfl, HY⟩, hg⟩
    obtain ⟨g1, g2, g3, g4, hz⟩ := two_boxes hlt hg
    have HGA : Hid (Gro R w w2) := (HG0.out _ _).trans hg
    have k0 := g1 0
    have k1 := g1 1
    have k2 := g1 2
    have k3 := g1 3
    have k4 := g1 4
    have j0 := g2 0
    have j1 := g2 1
    have j2 := g2 2
    have j3 := g2 3
    have j4 := g2 4
    simp only [List.getElem?_toArray, List.getElem?_cons_zero, List.getElem?_cons_succ] at k0 k1 k2 k3 k4 j0 j1 j2 j3 j4
    have hwn : w.heap.size ≠ w.heap.size + 1 := by omega
    clear hg g1 g2
    go_wp2
    obtain ⟨hGL, hts, hrb, hqf⟩ := HY.out
    have hll := hGL.len
    have hcp := hGL.cap
    have hsa : ∀ (A B : Obj), ((w.alloc A).alloc B).heap.size = w.heap.size + 2 := fun A B => by simp
    refine bodyPost_ret (v := .agg #[.int .i64 (k : Int), .int .u64 0, .string ⟨#[]⟩, .slice la ys.length lc, .int .i64 (e : Int)]) (by simp [results, Tryd.results26, go_sem, k0, k1, k2, k3, k4]) rfl ⟨⟨.of (k : Int) 0 e0 la lc (e : Int) ys, by rw [V.l_of]; rfl, ⟨?_, LiesIn.mk ⟨by omega, by omega, by decide, by omega, hcp, by omega⟩ (fun h0 => ?_) (fun x hx => ?_), ?_, hbd.1, hqf⟩⟩, ?_⟩
    · rw [V.t_of, hts]
    · obtain ⟨b, hla, hb1, hb2, hrow⟩ := hGL.row h0
      rw [hsa] at hb1
      have o1 : b ≠ w.heap.size := by omega
      have o2 : b ≠ w.heap.size + 1 := by omega
      refine ⟨b, 0, hla, ⟨by omega, by simp; omega⟩, fun i hi => ?_⟩
      obtain ⟨r0, r1, r2, r3, r4⟩ := hrow i hi
      exact ⟨((cell_over _ o1).trans ((cell_over _ o1).trans ((cell_over _ o1).trans ((cell_over _ o1).trans ((cell_over _ o1).trans ((cell_over _ o2).trans (cell_over _ o2))))))).trans r0, ((cell_over _ o1).trans ((cell_over _ o1).trans ((cell_over _ o1).trans ((cell_over _ o1).trans ((cell_over _ o1).trans ((cell_over _ o2).trans (cell_over _ o2))))))).trans r1, ((cell_over _ o1).trans ((cell_over _ o1).trans ((cell_over _ o1).trans ((cell_over _ o1).trans ((cell_over _ o1).trans ((cell_over _ o2).trans (cell_over _ o2))))))).trans r2, ((cell_over _ o1).trans ((cell_over _ o1).trans ((cell_over _ o1).trans ((cell_over _ o1).trans ((cell_over _ o1).trans ((cell_over _ o2).trans (cell_over _ o2))))))).trans r3, ((cell_over _ o1).trans ((cell_over _ o1).trans ((cell_over _ o1).trans ((cell_over _ o1).trans ((cell_over _ o1).trans ((cell_over _ o2).trans (cell_over _ o2))))))).trans r4⟩
    · refine (hGL.lies x hx).keep (fun b hb o => ?_) (fun b hb => ⟨by have := hb.1; rw [hsa] at this; omega, by simp; omega⟩)
      have hb1 := hb.1
      rw [hsa] at hb1
      have o1 : b ≠ w.heap.size := by omega
      have o2 : b ≠ w.heap.size + 1 := by omega
      exact ((cell_over _ o1).trans ((cell_over _ o1).trans ((cell_over _ o1).trans ((cell_over _ o1).trans ((cell_over _ o1).trans ((cell_over _ o2).trans (cell_over _ o2)))))))
    · exact RB.over (RB.over (RB.over (RB.over (RB.over (RB.over (RB.over (hrb) (by omega) _ _) (by omega) _ _) (by omega) _ _) (by omega) _ _) (by omega) _ _) (by omega) _ _) (by omega) _ _
    · exact Gro.over (Gro.over (Gro.over (Gro.over (Gro.over (Gro.over (Gro.over (HGA.out) (by omega) _ _) (by omega) _ _) (by omega) _ _) (by omega) _ _) (by omega) _ _) (by omega) _ _) (by omega) _ _
set_option maxRecDepth 100000 in
set_option maxHeartbeats 2000000 in
theorem dat_arr4 (f k c : Nat) (hc : c < 256) (hk : k ≤ 24) (hlay : c / 16 = 15)
    (HV : ∀ (d R : Nat) (a : Option Addr) (n cap : Nat) (l : List Nat), d + (f + 1) = 33 → f ≠ 0 → ∀ c k, c < 256 → kindC c = some k → DatAt f d R a n cap l k c) : DatC (f + 1) k c := by
  intro d R a n cap place p fin sz l w hd hs hr hp hfin hpl
  have hrd : rdat badB twiceW l (f + 1) k c place p fin sz = bindR (rarr l (rdat badB twiceW l f) f 4 p fin sz) fun xq => .ok (T.of k 0 e0 xq.1.1 xq.1.2, xq.2) := by
    rw [rdat_b]
    rw [if_neg (by omega), if_neg (by omega), if_neg (by omega), if_neg (by omega), if_neg (by omega), if_pos (by omega)]
    simp [hlay]
  rw [hrd]
  clear hrd
  have H15 : Hid (∀ W1, Calls Tryd.prog 33 #[.int .u8 (c : Int)] W1 fun e w' => e = .returned (.int .u8 15) ∧ W1 = w') := fun W1 => by
    have := layout_any c hc W1
    rw [hlay] at this
    exact this
  have hlt := hr.cells.2.2.2.2.2.2.2
  have hn := hs.small
  have hby := hs.rd.2.1
  have HG0 : Hid (∀ A B, Gro R w ((w.alloc A).alloc B)) := fun A B => ((Gro.refl R w).alloc A).alloc B
  have HE : Hid (∀ W', Gro R w W' → RB W' R a n cap p fin sz → Calls Tryd.prog 43 #[.pointer (some ⟨R, 0, none⟩), .int .i64 4, .int .i64 (d : Int)] W' (OutA (rarr l (rdat badB twiceW l f) f 4 p fin sz) R a n cap fin sz W')) := fun W' h1 h2 => arr_any R d f 4 a n cap p fin sz l W' (hs.gro h1) h2 hp hfin (by omega) hd (HV d R a n cap l hd)
  have HR := hide hr
  clear hr HV hlay
  have HBD : Hid (∀ xq, rarr l (rdat badB twiceW l f) f 4 p fin sz = .ok xq → p ≤ xq.2 ∧ xq.2 ≤ fin ∧ xq.1.1 ≤ 24) := fun xq h => by
    rw [rarr_b] at h
    have h1 := arr_len l hby f 4 p fin sz (by omega) (x := xq.1) (q' := xq.2) h
    exact ⟨h1.2.1, h1.2.2, arr_kind l f 4 p fin sz (x := xq.1) (q' := xq.2) h⟩
  cases hrv : rarr l (rdat badB twiceW l f) f 4 p fin sz with
  | error x =>
    rw [hrv] at HE
    clear hrv HBD
    go_enter Tryd.func26, Tryd.ntmps26
    go_wp2_with fail
    refine Calls.mono (H15.out _) ?_
    rintro e1 w1 ⟨rfl, rfl⟩
    go_wp2_with fail
    refine Calls.mono (HE.out _ (HG0.out _ _) ((HR.out.alloc _).alloc _)) ?_
    rintro e1 w1 ⟨rfl, hg⟩
    exact ⟨rfl, rfl, (HG0.out _ _).trans hg⟩
  | ok xq =>
    have hbd := HBD.out xq hrv
    rw [hrv] at HE
    obtain ⟨⟨e, xs⟩, q⟩ := xq
    have HE2 : Hid (∀ W', Gro R w W' → RB W' R a n cap p fin sz → Calls Tryd.prog 43 #[.pointer (some ⟨R, 0, none⟩), .int .i64 4, .int .i64 (d : Int)] W' (fun e' w' => (∃ ys la lc, e' = .returned (.tuple #[.int .i64 (e : Int), .slice la (ys : List V).length lc]) ∧ Hid (GotL W' ys la lc w' ∧ V.ts ys = xs ∧ RB w' R a n cap q fin sz ∧ q ≤ fin)) ∧ Gro R W' w')) := HE.out
    show Calls _ _ _ _ (Outc (.ok (T.of k 0 e0 e xs, q)) R w (GotV R a n cap p fin sz w))
    clear HE hrv HBD
    simp only at hbd
    go_enter Tryd.func26, Tryd.ntmps26
    go_wp2_with fail
    refine Calls.mono (H15.out _) ?_
    rintro e1 w1 ⟨rfl, rfl⟩
    go_wp2_with fail
    refine Calls.mono (HE2.out _ (HG0.out _ _) ((HR.out.alloc _).alloc _)) ?_
    rintro e2 w2 ⟨⟨ys, la, lc, rfl, HY⟩, hg⟩
    obtain ⟨g1, g2, g3, g4, hz⟩ := two_boxes hlt hg
    have HGA : Hid (Gro R w w2) := (HG0.out _ _).trans hg
    have k0 := g1 0
    have k1 := g1 1
    have k2 := g1 2
    have k3 := g1 3
    have k4 := g1 4
    have j0 := g2 0
    have j1 := g2 1
    have j2 := g2 2
    have j3 := g2 3
    have j4 := g2 4
    simp only [List.getElem?_toArray, List.getElem?_cons_zero, List.getElem?_cons_succ] at k0 k1 k2 k3 k4 j0 j1 j2 j3 j4
    have hwn : w.heap.size ≠ w.heap.size + 1 := by omega
    clear hg g1 g2
    go_wp2
    obtain ⟨hGL, hts, hrb, hqf⟩ := HY.out
    have hll := hGL.len
    have hcp := hGL.cap
    have hsa : ∀ (A B : Obj), ((w.alloc A).alloc B).heap.size = w.heap.size + 2 := fun A B => by simp
    refine bodyPost_ret (v := .agg #[.int .i64 (k : Int), .int .u64 0, .string ⟨#[]⟩, .slice la ys.length lc, .int .i64 (e : Int)]) (by simp [results, Tryd.results26, go_sem, k0, k1, k2, k3, k4]) rfl ⟨⟨.of (k : Int) 0 e0 la lc (e : Int) ys, by rw [V.l_of]; rfl, ⟨?_, LiesIn.mk ⟨by omega, by omega, by decide, by omega, hcp, by omega⟩ (fun h0 => ?_) (fun x hx => ?_), ?_, hbd.1, hqf⟩⟩, ?_⟩
    · rw [V.t_of, hts]
    · obtain ⟨b, hla, hb1, hb2, hrow⟩ := hGL.row h0
      rw [hsa] at hb1
      have o1 : b ≠ w.heap.size := by omega
      have o2 : b ≠ w.heap.size + 1 := by omega
      refine ⟨b, 0, hla, ⟨by omega, by simp; omega⟩, fun i hi => ?_⟩
      obtain ⟨r0, r1, r2, r3, r4⟩ := hrow i hi
      exact ⟨((cell_over _ o1).trans ((cell_over _ o1).trans ((cell_over _ o1).trans ((cell_over _ o1).trans ((cell_over _ o1).trans ((cell_over _ o2).trans (cell_over _ o2))))))).trans r0, ((cell_over _ o1).trans ((cell_over _ o1).trans ((cell_over _ o1).trans ((cell_over _ o1).trans ((cell_over _ o1).trans ((cell_over _ o2).trans (cell_over _ o2))))))).trans r1, ((cell_over _ o1).trans ((cell_over _ o1).trans ((cell_over _ o1).trans ((cell_over _ o1).trans ((cell_over _ o1).trans ((cell_over _ o2).trans (cell_over _ o2))))))).trans r2, ((cell_over _ o1).trans ((cell_over _ o1).trans ((cell_over _ o1).trans ((cell_over _ o1).trans ((cell_over _ o1).trans ((cell_over _ o2).trans (cell_over _ o2))))))).trans r3, ((cell_over _ o1).trans ((cell_over _ o1).trans ((cell_over _ o1).trans ((cell_over _ o1).trans ((cell_over _ o1).trans ((cell_over _ o2).trans (cell_over _ o2))))))).trans r4⟩
    · refine (hGL.lies x hx).keep (fun b hb o => ?_) (fun b hb => ⟨by have := hb.1; rw [hsa] at this; omega, by simp; omega⟩)
      have hb1 := hb.1
      rw [hsa] at hb1
      have o1 : b ≠ w.heap.size := by omega
      have o2 : b ≠ w.heap.size + 1 := by omega
      exact ((cell_over _ o1).trans ((cell_over _ o1).trans ((cell_over _ o1).trans ((cell_over _ o1).trans ((cell_over _ o1).trans ((cell_over _ o2).trans (cell_over _ o2)))))))
    · exact RB.over (RB.over (RB.over (RB.over (RB.over (RB.over (RB.over (hrb) (by omega) _ _) (by omega) _ _) (by omega) _ _) (by omega) _ _) (by omega) _ _) (by omega) _ _) (by omega) _ _
    · exact Gro.over (Gro.over (Gro.over (Gro.over (Gro.over (Gro.over (Gro.over (HGA.out) (by omega) _ _) (by omega) _ _) (by omega) _ _) (by omega) _ _) (by omega) _ _) (by omega) _ _) (by omega) _ _
/-- data, of every constructor in every depth -/
theorem dat_all : ∀ f, f ≠ 0 → ∀ c k, c < 256 → kindC c = some k → DatC f k c
  | 0 => fun h => absurd rfl h
  | f + 1 => fun _ c k hc hkc => by
    have hk : k ≤ 24 := by rcases kind_cases hkc with h | h | h | h | h | h <;> omega
    have HVal : ∀ (d R : Nat) (a : Option Addr) (n cap : Nat) (l : List Nat), d + (f + 1) = 33 → ValAt f d R a n cap l := fun d R a n cap l hd q fin sz W hs hr hq hfin => by
      have := val_of f R a n cap q fin sz l W hs hr hq hfin (fun c k h1 h2 h3 => dat_all f h3 c k (by
        have h4 := rnum_lt l hs.rd.2.1 h1
        simpa using h4) h2) (d + 1) (by omega)
      rw [show ((d + 1 : Nat) : Int) = (d : Int) + 1 by omega] at this
      exact this
    have HDat : ∀ (d R : Nat) (a : Option Addr) (n cap : Nat) (l : List Nat), d + (f + 1) = 33 → f ≠ 0 → ∀ c k, c < 256 → kindC c = some k → DatAt f d R a n cap l k c := fun d R a n cap l hd hf c k hc hkc q fin sz W hs hr hq hfin => by
      have := dat_all f hf c k hc hkc (d + 1) R a n cap q q fin sz l W (by omega) hs hr hq hfin (by have := hs.small; omega)
      rw [show ((d + 1 : Nat) : Int) = (d : Int) + 1 by omega] at this
      exact this
    have hlay : c / 16 = 0 ∨ c / 16 = 4 ∨ (c / 16 = 5 ∨ c / 16 = 6 ∨ c / 16 = 7 ∨ c / 16 = 8) ∨ c / 16 = 9 ∨ c / 16 = 10 ∨ c / 16 = 11 ∨ c / 16 = 12 ∨ c / 16 = 13 ∨ c / 16 = 14 ∨ c / 16 = 15 := by
      rcases kind_cases hkc with h | h | h | h | h | ⟨h, h2 | h2⟩
      · omega
      · omega
      · omega
      · omega
      · omega
      · have := lay_le k h true; rw [← h2] at this; omega
      · have := lay_le k h false; rw [← h2] at this; omega
    rcases hlay with h | h | h | h | h | h | h | h | h | h
    · exact dat_desc f k c hc hk h HVal
    · exact dat_none (f + 1) k c (by omega) hc hk h
    · exact dat_num (f + 1) k c (by omega) hc hk h
    · exact dat_sixteen (f + 1) k c (by omega) hc hk h
    · exact dat_short (f + 1) k c (by omega) hc hk h
    · exact dat_long (f + 1) k c (by omega) hc hk h
    · exact dat_list1 f k c hc hk h HVal
    · exact dat_list4 f k c hc hk h HVal
    · exact dat_arr1 f k c hc hk h HDat
    · exact dat_arr4 f k c hc hk h HDat
end Go.Proofs.YtgpimajdcfoigabDoor
