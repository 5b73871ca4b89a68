import Derived.Test.YtondbhdlccpklaaQPfM9
import Derived.Deep.RegionHeldLaw

/- Stage 13: live. -/
namespace Go.Proofs.Ytondbhdlccpklaa
open Go.RowKit Go.Maps
set_option linter.unusedVariables false
set_option linter.unusedSimpArgs false

theorem pf0_pf : PfB pf0 17 0 2 5 10 1 := pfA_pf 17 0 0 2 5 10 1 0 0 0 0 false
theorem four0 : four 17 2 5 10 1 = true := by decide
def tT : ByteArray := ⟨#[116]⟩
def s1 (n : Nat) : Sn := (newSn 2 5 10 1 n).peered 2 5 10 1
theorem s1_room (n : Nat) : (s1 n).room = 2 := by
  simp [s1, newSn, Sn.peered, Sn.room, lesser]
theorem note0 : noteE [((0 : Int), (-1 : Int))] ([] : List (Int × Pd)) 0 0 = 0 := by decide
def L1 : List (Int × Pd) := [(0, (0, 0, tT))]
theorem range1 : rangeL L1 0 0 = [((0, 0, tT) : Pd)] := by
  have h0 : gapZ 0 0 = 0 := by decide
  simp [rangeL, isW, rgL, gsL, L1, h0, gin, srt, thing, lu]
  rfl
theorem kpNew {X : Nat → Prop} {B : Nat} {w w1 w2 : World} (h : Below B w w1) (hB : B ≤ w1.heap.size) (hk : Kp X w1 w2) (hx : ∀ k, X k → B ≤ k) : Below B w w2 :=
  h.trans (hk.toBelow hB (fun k hk' hX => by have := hx k hX; omega))
theorem flatP_get : ∀ (ps : List Pd) (j i : Nat) (hj : j < ps.length), i < 3 → (flatP ps)[j * 3 + i]? = (pdL ps[j])[i]?
  | p :: t, 0, i, hj, hi => by
    simp only [flatP, List.flatMap_cons, Nat.zero_mul, Nat.zero_add, List.getElem_cons_zero]
    rw [List.getElem?_append_left (by simp [pdL]; omega)]
  | p :: t, j + 1, i, hj, hi => by
    have := flatP_get t j i (by simpa using hj) hi
    simp only [flatP, List.flatMap_cons, List.getElem_cons_succ] at this ⊢
    rw [List.getElem?_append_right (by simp [pdL]; omega), ← this]
    congr 1
    simp [pdL]
    omega
theorem own_formP {w : World} {base : Nat} {v : Value} {ps : List Pd} (h : OwnP w base v ps) : (v = .slice none 0 0 ∧ ps = []) ∨ ∃ g cap, v = .slice (some ⟨g, 0, none⟩) ps.length cap ∧ base ≤ g ∧ g < w.heap.size ∧ ps.length ≤ cap ∧ ∀ j (hj : j < ps.length), w.cell? ⟨g, j * 3, none⟩ = some (.int .i64 ps[j].1) ∧ w.cell? ⟨g, j * 3 + 1, none⟩ = some (.int .i64 ps[j].2.1) ∧ w.cell? ⟨g, j * 3 + 2, none⟩ = some (.string ps[j].2.2) := by
  rcases h.2 with ⟨h1, h2⟩ | ⟨g, cap, cur, rfl, r1, r2, r3, r4, r5, r6⟩
  · exact .inl ⟨h1, List.length_eq_zero_iff.1 h2⟩
  · refine .inr ⟨g, cap, rfl, r1, (Array.getElem?_eq_some_iff.1 r2).1, r3, fun j hj => ⟨?_, ?_, ?_⟩⟩
    · rw [World.ownsRow.cellAt h (j * 3) (by omega)]
      exact flatP_get ps j 0 hj (by omega)
    · rw [World.ownsRow.cellAt h (j * 3 + 1) (by omega)]
      exact flatP_get ps j 1 hj (by omega)
    · rw [World.ownsRow.cellAt h (j * 3 + 2) (by omega)]
      exact flatP_get ps j 2 hj (by omega)
set_option maxRecDepth 100000 in
set_option maxHeartbeats 4000000 in
theorem live_any (w : World) : Calls Try.prog 9 #[] w fun e w' => e = .returned (.bool true) ∧ Below w.heap.size w w' := by
  go_enter Try.func9, Try.ntmps9
  go_wp2_with fail
  refine (first_any w).mono ?_
  rintro e1 w1 ⟨rfl, hb1⟩
  obtain ⟨V1, hV1⟩ : ∃ V1, w1.alloc (.cells pf0 39) = V1 := ⟨_, rfl⟩
  have HV1 := hide hV1
  have hp1 : V1.heap[w1.heap.size]? = some (.cells pf0 39 (0, 0)) := by rw [← hV1]; exact heap_alloc_last _ _
  have hc1 : Below w.heap.size w V1 := by rw [← hV1]; exact bel1 hb1 hb1.size _
  have HP1 := hide hp1
  have HC1 := hide hc1
  have hsz1 := hb1.size
  clear hV1 hp1 hc1 hb1
  go_wp2_with (first | (refine wpList_store_row rfl 39 (.tmp 1) (.tmp 10) rfl w1.heap.size pf0 rfl rfl 39 _ (heap_alloc_last w1 _) Try.infoPf rfl (by kernel_rfl) ?_; rw [World.setRow_alloc_new, HV1.out]) | (refine wpList_load_row rfl 39 (.tmp 1) rfl w1.heap.size rfl 39 pf0 (0, 0) _ HP1.out Try.underlying39 rfl Try.infoPf ?_))
  refine (new_yes pf0 17 0 2 5 10 1 pf0_pf four0 V1).mono ?_
  rintro e2 w2 ⟨n, rfl, hn, hses, hb2⟩
  have HP2 : Hid (w2.heap[w1.heap.size]? = some (.cells pf0 39 (0, 0))) := (hb2.block _ (Array.getElem?_eq_some_iff.1 HP1.out).1).trans HP1.out
  have HS2 := hide hses
  have hnw : w.heap.size ≤ n := by have := HC1.out.size; omega
  have HC2 : Hid (Below w.heap.size w w2) := belOn HC1.out HC1.out.size hb2
  clear hses hb2 hn
  go_wp2_with (first | (refine wpList_load_row rfl 39 (.tmp 1) rfl w1.heap.size rfl 39 pf0 (0, 0) _ HP2.out Try.underlying39 rfl Try.infoPf ?_))
  refine (peer_yes (n + 4) (newSn 2 5 10 1 n) pf0 17 0 2 5 10 1 w2 HS2.out.sb rfl pf0_pf four0).mono ?_
  rintro e3 w3 ⟨rfl, sb3, k3⟩
  have HS3 : Hid (Ses w3 (n + 4) (s1 n) [] [] [] []) := HS2.out.turn sb3 ⟨rfl, rfl, rfl, rfl⟩ k3
  have HC3 : Hid (Below w.heap.size w w3) := kpNew HC2.out HC2.out.size k3 (fun k hk => by omega)
  have HR := hide (room_any (n + 4) (s1 n) w3 HS3.out.sb)
  rw [s1_room] at HR
  clear sb3 k3
  go_wp2_with fail
  refine HR.out.mono ?_
  rintro e4 w4 ⟨rfl, hb4⟩
  have HS4 := hide (HS3.out.below hb4)
  have HC4 : Hid (Below w.heap.size w w4) := belOn HC3.out HC3.out.size hb4
  have HH : Hid (Calls Try.prog 27 #[.pointer (some ⟨n + 4, 0, none⟩)] w4 fun e w' => e = .returned (.tuple #[.int .i64 0, .int .i64 0]) ∧ TbI w' n [(0, -1)] ∧ Kp (fun q => q = n) w4 w') :=
    handle_yes (n + 4) (s1 n) [] 0 w4 HS4.out.sb HS4.out.th rfl (by decide) (by omega) (show (0 : Int) ≤ 1 by decide) (fun j hj => by omega) rfl
  clear hb4
  go_wp2_with fail
  refine HH.out.mono ?_
  rintro e5 w5 ⟨rfl, t5, k5⟩
  have h5 : SB w5 (n + 4) (s1 n) := HS4.out.sb.at (k5.block HS4.out.sb.lt (by omega))
  have hs5 : TbP w5 (n + 2) [] := HS4.out.ts.at (k5.block HS4.out.ts.lt (show n + 2 ≠ n by omega))
  have HC5 : Hid (Below w.heap.size w w5) := kpNew HC4.out HC4.out.size k5 (fun k hk => by omega)
  have HD : Hid (Calls Try.prog 35 #[.pointer (some ⟨n + 4, 0, none⟩), .int .i64 0, .string tT, .bool false] w5 fun e w' => e = .returned (.tuple #[.int .i64 0, .int .i64 0]) ∧ SB w' (n + 4) { s1 n with nd := (0 + 1) % 4294967296 } ∧ TbP w' (n + 2) L1 ∧ Kp (fun k => k = n + 4 ∨ k = n + 2) w5 w') :=
    deliver_yes (n + 4) (s1 n) [(0, -1)] [] 0 tT w5 h5 t5 hs5 (show (0 : Int) ≤ 0 ∧ (0 : Int) ≤ 4294967295 by decide) (wf_of (by decide) (by decide)) note0 (by decide)
  clear t5 k5 h5 hs5
  go_wp2_with fail
  refine HD.out.mono ?_
  rintro e6 w6 ⟨rfl, b6, t6, k6⟩
  have HC6 : Hid (Below w.heap.size w w6) := kpNew HC5.out HC5.out.size k6 (fun k hk => by omega)
  have HG := hide (range_any (n + 4) { s1 n with nd := (0 + 1) % 4294967296 } true L1 0 0 w6 b6 t6 (fun p hp => by simp [L1] at hp; subst hp; decide) (by decide))
  rw [range1] at HG
  clear b6 t6 k6
  go_wp2_with fail
  refine HG.out.mono ?_
  rintro e7 w7 ⟨v, rfl, o7, b7⟩
  have HC7 : Hid (Below w.heap.size w w7) := belOn HC6.out HC6.out.size b7
  rcases own_formP o7 with ⟨_, h⟩ | ⟨gg, cap, rfl, r1, r2, r3, r4⟩
  · cases h
  · have c2 : w7.cell? ⟨gg, 2, none⟩ = some (.string ⟨#[116]⟩) := (r4 0 (by decide)).2.2
    clear o7 b7 r4 r1
    go_wp2
    go_ret
    exact ⟨rfl, HC7.out⟩
end Go.Proofs.Ytondbhdlccpklaa


/- Stage 13: State. -/
namespace Go.Proofs.Ytondbhdlccpklaa
open Go.RowKit Go.Maps
set_option linter.unusedVariables false
set_option linter.unusedSimpArgs false

theorem bel2d (w : World) (o p : Obj) : Below w.heap.size w (((w.alloc o).alloc p).drew) := (bel1 (bel1 (Below.refl _ _) (Nat.le_refl _) o) (by simp) p).trans ((bel_drew _).mono (by simp; omega))
/-- a session's state, as it is told -/
def Sn.st (s : Sn) (nS nC : Nat) : Array Value := #[.bool s.peer, .int .i64 s.no, .int .i64 s.ow, .int .i64 s.ni, .int .i64 s.iw, .int .i64 s.ri, .int .i64 s.ro, .int .i64 s.nd, .int .i64 (nS : Int), .int .i64 (nC : Int), .int .i64 s.hm, .int .i64 s.rh]
theorem lenE {w : World} {b : Nat} {l : List (Int × Pd)} (h : TbP w b l) (ty : TypeId) : (Builtin.len_ #[90] ty #[.map (some b)]).run Try.prog w = .ok (.int .i64 (l.length : Int)) w := by
  obtain ⟨D, h1, h2⟩ := h
  have := h1.len Try.underlying90 ty
  rw [h2.size] at this
  exact this
def StS (g : Nat) (s : Sn) (S C : List (Int × Pd)) (W : World) : Prop := SB W g s ∧ TbP W s.bs S ∧ TbP W s.bc C ∧ W.cell? ⟨g, 15, none⟩ = some (.map (some s.bs)) ∧ W.cell? ⟨g, 16, none⟩ = some (.map (some s.bc)) ∧
  (∀ ty, (Builtin.len_ #[90] ty #[.map (some s.bs)]).run Try.prog W = .ok (.int .i64 (S.length : Int)) W) ∧ (∀ ty, (Builtin.len_ #[90] ty #[.map (some s.bc)]).run Try.prog W = .ok (.int .i64 (C.length : Int)) W)
theorem StS.mk {g : Nat} {s : Sn} {S C : List (Int × Pd)} {W : World} (h1 : SB W g s) (h2 : TbP W s.bs S) (h3 : TbP W s.bc C) : StS g s S C W := by
  obtain ⟨s0, s1, s2, s3, s4, s5, s6, s7, s8, s9, s10, s11, s12, s13, s14, s15, s16⟩ := h1.facts
  exact ⟨h1, h2, h3, s15, s16, lenE h2, lenE h3⟩
theorem StS.set {g : Nat} {s : Sn} {S C : List (Int × Pd)} {W : World} (h : StS g s S C W) {N o : Nat} {cs : Array Value} {t : TypeId} {fr : Nat × Nat} (hc : W.heap[N]? = some (.cells cs t fr)) (hN : N ≠ g) (v : Value) : StS g s S C (W.setCell ⟨N, o, none⟩ v) := by
  obtain ⟨h1, h2, h3, _⟩ := h
  exact StS.mk (h1.setOther hN v) (h2.at (blk_set_other _ _ _ _ (h2.ne hc))) (h3.at (blk_set_other _ _ _ _ (h3.ne hc)))
set_option maxRecDepth 100000 in
set_option maxHeartbeats 2000000 in
theorem state_any (g : Nat) (s : Sn) (S C : List (Int × Pd)) (w : World) (hS : SB w g s) (hs : TbP w s.bs S) (hc : TbP w s.bc C) :
    Calls Try.prog 25 #[.pointer (some ⟨g, 0, none⟩)] w fun e w' => e = .returned (.agg (s.st S.length C.length)) ∧ Below w.heap.size w w' := by
  obtain ⟨s0, s1, s2, s3, s4, s5, s6, s7, s8, s9, s10, s11, s12, s13, s14, s15, s16⟩ := hS.facts
  have hl := hS.lt
  have HS := hide hS
  have HT := hide hs
  have HC := hide hc
  clear hS hs hc
  go_enter Try.func25, Try.ntmps25
  go_wp2
  go_region_held (fun W => SB W g s ∧ TbP W s.bs S ∧ TbP W s.bc C ∧ W.cell? ⟨g, 15, none⟩ = some (.map (some s.bs)) ∧ W.cell? ⟨g, 16, none⟩ = some (.map (some s.bc)) ∧ (∀ ty, (Builtin.len_ #[90] ty #[.map (some s.bs)]).run Try.prog W = .ok (.int .i64 (S.length : Int)) W) ∧ (∀ ty, (Builtin.len_ #[90] ty #[.map (some s.bc)]).run Try.prog W = .ok (.int .i64 (C.length : Int)) W)) (exact StS.mk (((HS.out.alloc _).alloc _).at rfl) (((HT.out.alloc _).alloc _).at rfl) (((HC.out.alloc _).alloc _).at rfl)) (fail)
  all_goals
    go_wp2
    exact bodyPost_ret (v := .agg (s.st S.length C.length)) (results_cell_row Try.results25 _ _ w.heap.size 66 (s.st S.length C.length) (0, 0) _ rfl (heap_past (heap_alloc_last w _) _) Try.underlying66 rfl (by kernel_rfl)) rfl ⟨rfl, bel2d w _ _⟩
end Go.Proofs.Ytondbhdlccpklaa
