/- FrameHeads: the walk. -/
import Derived.Test.YtboacpneoblklaaFAwake
import Derived.Test.YtboacpneoblklaaFRHead
import Derived.Test.YtboacpneoblklaaFBook
import Derived.Test.YtboacpneoblklaaFCopy
namespace Go.Proofs.Ytboacpneoblklaa
open Go.RowKit Go.Deep
set_option linter.unusedVariables false
set_option linter.unusedSimpArgs false

/-- the header of a protocol, or nothing -/
def hdE (p : Int) : Int := if p = 0 ∨ p = 3 then 0 else 50
def hdL (p : Int) : List Nat := if p = 0 ∨ p = 3 then hdr p.toNat else []
theorem hdL_lt (p : Int) : ∀ c ∈ hdL p, c < 256 := by
  unfold hdL
  split
  · rename_i h
    exact hdr_lt (by omega)
  · simp
theorem hdL_length (p : Int) : (hdL p).length ≤ 8 := by
  unfold hdL
  split <;> simp [hdr]
/-- Header, in one form -/
theorem header_any (p : Int) (w : World) : Calls Try.prog 17 #[.int .i64 p] w fun e w' => ∃ o, e = .returned (.tuple #[.slice (o.map (fun g => (⟨g, 0, none⟩ : Addr))) (hdL p).length (hdL p).length, .int .i64 (hdE p)]) ∧ (o = none → hdL p = []) ∧ (∀ g, o = some g → w.heap.size ≤ g ∧ Bl w' g (hdL p)) ∧ Below w.heap.size w w' := by
  by_cases h : p = 0 ∨ p = 3
  · obtain ⟨q, rfl⟩ : ∃ q : Nat, p = q := ⟨p.toNat, by omega⟩
    refine (header_yes q w (by omega)).mono ?_
    rintro e w' ⟨rfl, h1, h2, h3⟩
    have e1 : hdL (q : Int) = hdr q := by unfold hdL; rw [if_pos h]; rfl
    have e2 : hdE (q : Int) = 0 := by unfold hdE; rw [if_pos h]
    refine ⟨some w.heap.size, by rw [e1, e2]; rfl, fun h => (by cases h), fun g hg => ?_, h3⟩
    simp only [Option.some.injEq] at hg
    subst hg
    exact ⟨Nat.le_refl _, by rw [e1]; exact h1⟩
  · refine (header_no p w (by omega) (by omega)).mono ?_
    rintro e w' ⟨rfl, rfl⟩
    have e1 : hdL p = [] := by unfold hdL; rw [if_neg h]
    have e2 : hdE p = 50 := by unfold hdE; rw [if_neg h]
    exact ⟨none, by rw [e1, e2]; rfl, fun _ => e1, fun g hg => (by cases hg), Below.refl _ _⟩
theorem refheader_any (p : Int) (w : World) : Calls Try.prog 18 #[.int .i64 p] w fun e w' => ∃ o, e = .returned (.tuple #[.slice (o.map (fun g => (⟨g, 0, none⟩ : Addr))) (hdL p).length (hdL p).length, .int .i64 (hdE p)]) ∧ (o = none → hdL p = []) ∧ (∀ g, o = some g → w.heap.size ≤ g ∧ Bl w' g (hdL p)) ∧ Below w.heap.size w w' := by
  by_cases h : p = 0 ∨ p = 3
  · obtain ⟨q, rfl⟩ : ∃ q : Nat, p = q := ⟨p.toNat, by omega⟩
    refine (refheader_yes q w (by omega)).mono ?_
    rintro e w' ⟨rfl, h1, h2, h3⟩
    have e1 : hdL (q : Int) = hdr q := by unfold hdL; rw [if_pos h]; rfl
    have e2 : hdE (q : Int) = 0 := by unfold hdE; rw [if_pos h]
    refine ⟨some w.heap.size, by rw [e1, e2]; rfl, fun h => (by cases h), fun g hg => ?_, h3⟩
    simp only [Option.some.injEq] at hg
    subst hg
    exact ⟨Nat.le_refl _, by rw [e1]; exact h1⟩
  · refine (refheader_no p w (by omega) (by omega)).mono ?_
    rintro e w' ⟨rfl, rfl⟩
    have e1 : hdL p = [] := by unfold hdL; rw [if_neg h]
    have e2 : hdE p = 50 := by unfold hdE; rw [if_neg h]
    exact ⟨none, by rw [e1, e2]; rfl, fun _ => e1, fun g hg => (by cases hg), Below.refl _ _⟩
/-- what came out reads -/
theorem rd_ev {w : World} {o : Option Nat} {l : List Nat} (h0 : o = none → l = []) (hl : ∀ c ∈ l, c < 256) (hg : ∀ g, o = some g → Bl w g l) : Rd w (o.map (fun g => ⟨g, 0, none⟩)) l.length l := by
  cases o with
  | none => rw [h0 rfl]; exact ⟨rfl, fun c hc => by simp at hc, fun h => by simp at h⟩
  | some g => exact (hg g rfl).rd0 hl
theorem ownsRow_below {w w' : World} {B n : Nat} {t : TypeId} {v : Value} {xs : List Value} (h : w.ownsRow B t 1 v n xs) (hb : Below w.heap.size w w') : w'.ownsRow B t 1 v n xs := by
  refine ⟨h.1, ?_⟩
  rcases h.2 with hn | ⟨g, cap, cur, hv, hbg, hg, rest⟩
  · exact .inl hn
  · exact .inr ⟨g, cap, cur, hv, hbg, (hb.block g (Array.getElem?_eq_some_iff.1 hg).1).trans hg, rest⟩
theorem rdH_trip (l : List Nat) (x : Int) : ∃ t1 t2 t3, trip (rdH l x) = .tuple #[.int .i64 t1, .int .i64 t2, .int .i64 t3] := ⟨_, _, _, rfl⟩
def askL (p : Int) : List Int := [p, 0, 3, p, p]
theorem below_w {w w1 w2 : World} {B : Nat} (h1 : Below w.heap.size w w1) (hB : w.heap.size ≤ B) (h2 : Below B w1 w2) : Below w.heap.size w w2 := h1.trans (h2.mono hB)

set_option maxRecDepth 100000 in
set_option maxHeartbeats 4000000 in
theorem heads_walk (p : Int) (a : Option Addr) (n cap : Nat) (l : List Nat) (x : Int) (w : World) (wp : (Lit.int .i64 p).wf = true) (hr : Rd w a n l) (hnc : n ≤ cap) (hz : cap ≤ 140737488351232) (wx : (Lit.int .i64 x).wf = true) :
    Calls Try.prog 5 #[.int .i64 p, .slice a n cap, .int .i64 x] w fun e w' => e = .returned (.bool true) ∧ Below w.heap.size w w' := by
  obtain ⟨i0, hi, hz0, hz1, hz2⟩ := info_parts Try.infoL
  have HI := hide hi
  have HZ0 := hide hz0
  have HZ1 := hide hz1
  have HZ2 := hide hz2
  clear hi hz0 hz1 hz2
  have HR := hide hr
  clear hr
  go_enter Try.func5, Try.ntmps5
  go_wp2_with fail
  refine (awake_any w).mono ?_
  rintro e w1 ⟨rfl, hb1⟩
  have HB1 := hide hb1
  clear hb1
  go_wp2
  obtain ⟨B, hB⟩ : ∃ B, B = w1.heap.size := ⟨_, rfl⟩
  have hwB : w.heap.size ≤ B := by rw [hB]; exact HB1.out.size
  obtain ⟨W0, hW0⟩ : ∃ W0, W0 = (w1.alloc (.cells #[.slice none 0 0] 31)).alloc (.cells #[.int .i64 p, .int .i64 0, .int .i64 3, .int .i64 p, .int .i64 p] 3) := ⟨_, rfl⟩
  have HK0 : Hid (Book W0 B 31 (.slice none 0 0)) := by
    rw [hW0, hB]
    exact Book.alloc (show Book _ _ _ _ from heap_alloc_new _ _) _
  have HA0 : Hid (W0.heap[B + 1]? = some (.cells #[.int .i64 p, .int .i64 0, .int .i64 3, .int .i64 p, .int .i64 p] 3 (0, 0))) := by
    have h := heap_alloc_new (w1.alloc (.cells #[.slice none 0 0] 31)) (.cells #[.int .i64 p, .int .i64 0, .int .i64 3, .int .i64 p, .int .i64 p] 3)
    rw [hW0, hB]
    simpa [Hid] using h
  have HB0 : Hid (Below B w1 W0) := by
    rw [hW0]
    exact ((Below.refl _ _).alloc (by omega) _).alloc (by simp; omega) _
  have HS0 : Hid (B + 2 ≤ W0.heap.size) := by show _ ≤ _; rw [hW0, hB]; simp
  rw [← hW0, ← hB]
  have HBE := hide hB
  clear hW0 hB
  have HAC : Hid (∀ (W : World), W.heap[B + 1]? = some (.cells #[.int .i64 p, .int .i64 0, .int .i64 3, .int .i64 p, .int .i64 p] 3 (0, 0)) → ∀ j, j < 5 → W.cell? ⟨B + 1, j, none⟩ = some (.int .i64 ((askL p).getD j 0))) := fun W h j hj => by
    have : j = 0 ∨ j = 1 ∨ j = 2 ∨ j = 3 ∨ j = 4 := by omega
    rcases this with rfl | rfl | rfl | rfl | rfl <;> simp [World.cell?, h, askL]
  go_loopw [10] (fun i wr => ∃ (k : Nat) (es : List (Option Nat × List Nat)) (v : Value), k ≤ 5 ∧ i = .int .i64 k ∧ Hid (es.length = k) ∧ Hid (∀ j (h : j < es.length), es[j].2 = hdL ((askL p).getD j 0)) ∧ Hid (Book wr B 31 v) ∧ Hid (wr.ownsRow B 22 1 v k (es.map ev)) ∧ Hid (Ents wr B es) ∧ Hid (Below B w1 wr) ∧ Hid (B + 2 ≤ wr.heap.size) ∧ Hid (wr.heap[B + 1]? = some (.cells #[.int .i64 p, .int .i64 0, .int .i64 3, .int .i64 p, .int .i64 p] 3 (0, 0)))) (fun i _ => 5 - (intOf i).toNat)
  case atStart => exact ⟨0, [], _, Nat.zero_le _, rfl, hide rfl, hide (fun j h => by simp at h), HK0, hide (World.ownsRow_nil _ _ _ _), hide (Ents.nil _ _), HB0, HS0, HA0⟩
  case round =>
    obtain ⟨k, es, v, hk, rfl, HLE, HES, HBK, HOW, HEN, HBW, HSZ, HAB⟩ := hrel
    by_cases hk5 : k < 5
    · have hca := HAC.out _ HAB.out k hk5
      obtain ⟨P, hP⟩ : ∃ P, P = (askL p).getD k 0 := ⟨_, rfl⟩
      rw [← hP] at hca
      have HP := hide hP
      clear hP
      have HH := hide (header_any P wr)
      have hL8 := hdL_length P
      obtain ⟨L, hL⟩ : ∃ L, L = hdL P := ⟨_, rfl⟩
      have HLL := hide hL
      have HLT : Hid (∀ c ∈ L, c < 256) := by rw [hL]; exact hdL_lt P
      rw [← hL] at HH hL8
      clear hL
      generalize hdE P = EP at *
      obtain ⟨m, hm⟩ : ∃ m, m = L.length := ⟨_, rfl⟩
      rw [← hm] at HH hL8
      have HM := hide hm
      clear hm
      have hk5' : (k : Int) < 5 := by omega
      go_wp2_with (first
        | (go_at_call 17; refine HH.out.mono ?_; rintro e w2 ⟨o, rfl, h1, h2, h3⟩; have HO1 := hide h1; have HO2 := hide h2; have HO3 := hide h3; have HBK2 : Hid (Book w2 B 31 v) := (h3.block B (by have := HSZ.out; omega)).trans HBK.out; have hcb := (cell_of_blk HBK2.out).1; have hfb := (cell_of_blk HBK2.out).2; have HOW2 : Hid (w2.ownsRow B 22 1 v k (es.map ev)) := ownsRow_below HOW.out h3; have HEN2 : Hid (Ents w2 B (es ++ [(o, L)])) := Ents.snoc HEN.out h3 (by have := HSZ.out; omega) h1 HLT.out h2; have HBW2 : Hid (Below B w1 w2) := HBW.out.trans (h3.mono (by have := HSZ.out; omega)); have HSZ2 : Hid (B + 2 ≤ w2.heap.size) := Nat.le_trans HSZ.out h3.size; have HAB2 : Hid (w2.heap[B + 1]? = some (.cells #[.int .i64 p, .int .i64 0, .int .i64 3, .int .i64 p, .int .i64 p] 3 (0, 0))) := (h3.block (B + 1) (by have := HSZ.out; omega)).trans HAB.out; clear h1 h2 h3; obtain ⟨A, hA⟩ : ∃ A, A = o.map (fun g => (⟨g, 0, none⟩ : Addr)) := ⟨_, rfl⟩; rw [← hA]; have HAE := hide hA; clear hA)
        | (at_builtin; refine wpList_append_new _ rfl (.tmp 61) (.tmp 63) 29 rfl B 22 i0 (.slice none 0 0) 24 Try.underlying29 HI.out HZ0.out HZ1.out HZ2.out rfl _ k _ rfl (HOW2.out.alloc _) ⟨w2.heap.size, 0, none⟩ 1 (.slice A m m) rfl (cell_new1 _ _ _) rfl (by unfold maxLen; omega) (by omega) (by have := HSZ2.out; simp; omega) ?_; intro v' w3 r1 r2 r3; have HST := hide (book_step HBK2.out HOW2.out HEN2.out HBW2.out (by have := HSZ2.out; omega) (Nat.le_refl _) r1 r2); have HKE := hide (book_keep (v' := v') HBK2.out HOW2.out r2 (B + 1) _ _ _ (by decide) (by decide) HAB2.out); have HB3 := hide HST.out.2.2.2.2.2; have hc3 := (cell_of_blk HB3.out).1; have hf3 := (cell_of_blk HB3.out).2; obtain ⟨gn, cn, rfl, hbg, hglt⟩ := own_shape r1 (Nat.succ_pos k); clear r1 r2 r3))
      go_roundw
      case rel =>
        obtain ⟨s1, s2, s3, s4, s5, s6⟩ := HST.out
        refine ⟨k + 1, es ++ [(o, L)], _, by omega, by go_num, hide (by simp [HLE.out]), hide (fun j hj => ?_), hide s1, hide ?_, hide s3, hide s4, hide (Nat.le_trans HSZ2.out s5), HKE⟩
        · by_cases hjl : j < es.length
          · rw [List.getElem_append_left hjl]; exact HES.out j hjl
          · have hje : j = es.length := by simp at hj; omega
            subst hje
            rw [List.getElem_append_right (Nat.le_refl _)]
            simp only [Nat.sub_self, List.getElem_cons_zero]
            rw [HLE.out, ← HP.out]
            exact HLL.out
        · rw [List.map_append]
          have := s2
          rw [HM.out] at this
          simpa [ev, HAE.out] using this
      case measure => simp [intOf]; omega
    · have HK5 : Hid (k = 5) := by show _ = _; omega
      have HLE : Hid (es.length = 5) := by have := HLE.out; rw [HK5.out] at this; exact this
      have HOW : Hid (wr.ownsRow B 22 1 v es.length (es.map ev)) := by have := HOW.out; rw [HK5.out] at this; rw [HLE.out]; exact this
      obtain ⟨gl, cl, rfl, hglB, hgll⟩ := own_shape HOW.out (by rw [HLE.out]; omega)
      rw [HLE.out] at HBK HOW
      have HAC2 : Hid (∀ (W : World), Below wr.heap.size wr W → W.cell? ⟨B, 0, none⟩ = some (.slice (some ⟨gl, 0, none⟩) 5 cl) ∧ ∀ j, j < 5 → W.cell? ⟨B + 1, j, none⟩ = some (.int .i64 ((askL p).getD j 0)) ∧ ∃ o : Option Nat, W.cell? ⟨gl, j, none⟩ = some (.slice (o.map (fun g => (⟨g, 0, none⟩ : Addr))) (hdL ((askL p).getD j 0)).length (hdL ((askL p).getD j 0)).length) ∧ Rd W (o.map (fun g => (⟨g, 0, none⟩ : Addr))) (hdL ((askL p).getD j 0)).length (hdL ((askL p).getD j 0))) := fun W hW => by
        have hsz := HSZ.out
        refine ⟨(hW.cell (by show B < _; omega)).trans (cell_of_blk HBK.out).1, fun j hj => ⟨(hW.cell (by show B + 1 < _; omega)).trans (HAC.out _ HAB.out j hj), ?_⟩⟩
        have hjl : j < es.length := by rw [HLE.out]; exact hj
        have hc := HOW.out.cellAt j (by omega)
        rw [List.getElem?_map, List.getElem?_eq_getElem hjl] at hc
        simp only [Option.map_some, ev, HES.out j hjl] at hc
        refine ⟨es[j].1, (hW.cell (by exact hgll)).trans hc, ?_⟩
        obtain ⟨e1, e2, e3⟩ := HEN.out j hjl
        rw [HES.out j hjl] at e1 e2 e3
        exact (rd_ev e1 e2 (fun g hg => (e3 g hg).2.1)).below hW
      go_wp2
      rename World => W2
      go_loopw [13] (fun i wr => ∃ k : Nat, k ≤ 5 ∧ i = .int .i64 k ∧ Hid (Below W2.heap.size W2 wr)) (fun i _ => 5 - (intOf i).toNat)
      case atStart => exact ⟨0, Nat.zero_le _, rfl, hide (Below.refl _ _)⟩
      case round =>
        obtain ⟨k, hk, rfl, HBR⟩ := hrel
        by_cases hk5 : k < 5
        · obtain ⟨hcb, hall⟩ := HAC2.out _ HBR.out
          obtain ⟨hca, o0, hcl, hrd⟩ := hall k hk5
          have HALL := hide hall
          clear hall
          obtain ⟨P, hP⟩ : ∃ P, P = (askL p).getD k 0 := ⟨_, rfl⟩
          rw [← hP] at hca hcl hrd
          have HP := hide hP
          clear hP
          have HH1 := hide (refheader_any P wr)
          have HH2 := hide (fun W => header_any P W)
          have HLT := hide (hdL_lt P)
          have HRD := hide hrd
          clear hrd
          generalize hdL P = L at *
          generalize hdE P = EP at *
          obtain ⟨m, hm⟩ : ∃ m, m = L.length := ⟨_, rfl⟩
          rw [← hm] at HH1 HH2 hcl HRD
          have HM := hide hm
          clear hm
          generalize (o0.map (fun g => (⟨g, 0, none⟩ : Addr))) = A0 at *
          have hk5' : (k : Int) < 5 := by omega
          go_wp2_with fail
          refine HH1.out.mono ?_
          rintro e w3 ⟨o1, rfl, h1, h2, h3⟩
          have HR1 : Hid (Rd w3 (o1.map (fun g => (⟨g, 0, none⟩ : Addr))) m L) := by
            have := rd_ev (w := w3) h1 HLT.out (fun g hg => (h2 g hg).2)
            rw [← HM.out] at this
            exact this
          have HB3 := hide h3
          have hca3 := (h3.cell (p := ⟨B + 1, k, none⟩) (by have := HSZ.out; have := HBR.out.size; show B + 1 < _; omega)).trans hca
          generalize (o1.map (fun g => (⟨g, 0, none⟩ : Addr))) = A1 at *
          clear h1 h2 h3
          go_wp2_with fail
          refine (HH2.out w3).mono ?_
          rintro e w4 ⟨o2, rfl, h1, h2, h3⟩
          have HB4 : Hid (Below wr.heap.size wr w4) := HB3.out.trans (h3.mono HB3.out.size)
          have HR4 : Hid (Rd w4 A1 m L) := HR1.out.below h3
          have HR0 : Hid (Rd w4 A0 m L) := HRD.out.below HB4.out
          have HBR4 : Hid (Below W2.heap.size W2 w4) := HBR.out.trans (HB4.out.mono HBR.out.size)
          generalize (o2.map (fun g => (⟨g, 0, none⟩ : Addr))) = A2 at *
          clear h1 h2 h3
          have hv0 : ∀ q, (convert 22 9 (.slice A0 m m)).run Try.prog (w4.drewN q) = .ok (.string (mkS L)) (w4.drewN q) := fun q => conv_any (HR0.out.below (below_drewN (Below.refl _ _) q)) m
          have hv1 : ∀ q, (convert 22 9 (.slice A1 m m)).run Try.prog (w4.drewN q) = .ok (.string (mkS L)) (w4.drewN q) := fun q => conv_any (HR4.out.below (below_drewN (Below.refl _ _) q)) m
          have hcb4 := (HB4.out.cell (p := ⟨B, 0, none⟩) (by have := HSZ.out; have := HBR.out.size; show B < _; omega)).trans hcb
          have hcl4 := (HB4.out.cell (p := ⟨gl, k, none⟩) (by have := HBR.out.size; show gl < _; omega)).trans hcl
          clear hcb hcl hca hca3
          go_wp2
          go_quiet (fail)
          go_wp2
          go_roundw
          case rel => exact ⟨k + 1, by omega, by go_num, hide (below_drewN HBR4.out _)⟩
          case measure => simp [intOf]; omega
        · rename World => W3
          have HWW : Hid (Below w.heap.size w W3) := below_w (below_w HB1.out hwB HBW.out) (by have := HSZ.out; omega) HBR.out
          have hsz3 : B + 2 ≤ W3.heap.size := Nat.le_trans HSZ.out HBR.out.size
          have HRA := hide (HR.out.below HWW.out)
          have hcl := lent_any a n cap l W3 HRA.out (by omega)
          have HT1 := hide (rdH_trip l x)
          have HT2 := hide (rdH_trip (turnB l) x)
          obtain ⟨p1, p2, p3, hp⟩ := HT1.out
          obtain ⟨q1, q2, q3, hq⟩ := HT2.out
          have HLN := hide HR.out.1
          have HLE2 := hide HR.out.2.1
          clear HT1 HT2
          have HCL := hide hcl
          clear hcl
          have HRH1 := hide (fun A C W (h : Rd W A n l) (h1 : n ≤ C) (h2 : A = none → C = 0) => readHeader_any A n C x l W h h1 (by omega) h2)
          have HRR1 := hide (fun W (h : Rd W a n l) => refReadHeader_any a n cap x l W h (by omega))
          have HTU := hide (fun W (h : Rd W a n l) => turned_any a n cap l W h (by omega))
          have HRH2 := hide (fun A C W (h : Rd W A n (turnB l)) (h1 : n ≤ C) (h2 : A = none → C = 0) => readHeader_any A n C x (turnB l) W h h1 (by omega) h2)
          have HRR2 := hide (fun A C W (h : Rd W A n (turnB l)) => refReadHeader_any A n C x (turnB l) W h (by omega))
          rw [hp] at HRH1 HRR1
          rw [hq] at HRH2 HRR2
          clear hp hq
          go_wp2_with fail
          refine HCL.out.mono ?_
          rintro e w4 ⟨gx, cx, rfl, hlb, hb4⟩
          have HL4 := hide hlb
          obtain ⟨hncx, hgx, hgx4⟩ := hlb.room
          have HB4 := hide hb4
          have HRX4 := hide hlb.rd
          clear hlb hb4
          go_wp2_with fail
          refine (HRH1.out _ _ _ HRX4.out hncx (fun h => by cases h)).mono ?_
          rintro e w5 ⟨rfl, hb5⟩
          have HB5 := hide hb5
          have HA5 : Hid (Rd w5 a n l) := (HRA.out.below HB4.out).below hb5
          clear hb5
          go_wp2_with fail
          refine (HRR1.out _ HA5.out).mono ?_
          rintro e w6 ⟨rfl, hb6⟩
          have HB6 := hide hb6
          have HA6 := hide (HA5.out.below hb6)
          clear hb6
          go_wp2_with fail
          refine (HTU.out _ HA6.out).mono ?_
          rintro e w7 ⟨at', ct, rfl, hrt, hct, hbt, hb7⟩
          have HRT := hide hrt
          have HBT := hide hbt
          have HB47 : Hid (Below w4.heap.size w4 w7) := (HB5.out.trans (HB6.out.mono HB5.out.size)).trans (hb7.mono (Nat.le_trans HB5.out.size HB6.out.size))
          have hs67 : w4.heap.size ≤ w6.heap.size := Nat.le_trans HB5.out.size HB6.out.size
          have HL7 := hide (HL4.out.below HB47.out)
          clear hrt hbt hb7
          have hlt : (turnB l).length = n := by rw [turnB_length]; exact HLN.out
          have HB37 : Hid (Below W3.heap.size W3 w7) := HB4.out.trans (HB47.out.mono HB4.out.size)
          obtain ⟨w8, hrun8, hl8, hb8, hs8, hk8⟩ := copy_lent w7 W3 W3.heap.size gx n cx ct at' l (turnB l) 3 HL7.out HRT.out HB37.out
          have HL8 := hide hl8
          have HB8 := hide hb8
          have HRX8 := hide hl8.rd
          have HRT8 : Hid (Rd w8 at' n (turnB l)) := rd_other HRT.out hk8 (fun b o h => by have := (HBT.out b o h).1; omega) (by omega)
          clear hl8 hb8 hs8 hk8
          go_wp2_with fail
          refine (HRH2.out _ _ _ HRX8.out hncx (fun h => by cases h)).mono ?_
          rintro e w9 ⟨rfl, hb9⟩
          have HB9 := hide hb9
          have HT9 : Hid (Rd w9 at' n (turnB l)) := HRT8.out.below hb9
          have HL9 := hide (HL8.out.below hb9)
          clear hb9
          go_wp2_with fail
          refine (HRR2.out _ _ _ HT9.out).mono ?_
          rintro e w10 ⟨rfl, hb10⟩
          have HB10 := hide hb10
          have HT10 : Hid (Rd w10 at' n (turnB l)) := HT9.out.below hb10
          have HL10 := hide (HL9.out.below hb10)
          have HB310 : Hid (Below W3.heap.size W3 w10) := (HB8.out.trans (HB9.out.mono HB8.out.size)).trans (hb10.mono (Nat.le_trans HB8.out.size HB9.out.size))
          clear hb10
          go_wp2_with fail
          refine (kept_eq gx n cx ct at' (turnB l) W3.heap.size w10 HL10.out HT10.out (by omega)).mono ?_
          rintro e w11 ⟨rfl, hk11⟩
          have HB311 : Hid (Below W3.heap.size W3 w11) := HB310.out.trans (hk11.toBelow HB310.out.size (fun k hk e => by omega))
          have HB211 : Hid (Below W2.heap.size W2 w11) := HBR.out.trans (HB311.out.mono HBR.out.size)
          have HEN11 : Hid (Ents w11 B es) := HEN.out.below HB211.out
          have HBK11 : Hid (Book w11 B 31 (.slice (some ⟨gl, 0, none⟩) 5 cl)) := (HB211.out.block B (by have := HSZ.out; omega)).trans HBK.out
          have HOW11 : Hid (w11.ownsRow B 22 1 (.slice (some ⟨gl, 0, none⟩) 5 cl) es.length (es.map ev)) := by
            have := ownsRow_below HOW.out HB211.out
            rw [HLE.out]
            exact this
          have HFW : Hid (Below w.heap.size w w11) := HWW.out.trans (HB311.out.mono HWW.out.size)
          have HB11 : Hid (B ≤ w11.heap.size) := by have := HB311.out.size; show _ ≤ _; omega
          clear hk11
          go_wp2_with fail
          refine (owned_ents B B _ es w11 HBK11.out HOW11.out HEN11.out (by rw [HLE.out]; omega) (by rw [HLE.out]; omega) (fun j hj => by rw [HES.out j hj]; have := hdL_length ((askL p).getD j 0); omega)).mono ?_
          rintro e w12 ⟨rfl, hk12⟩
          have HFIN : Hid (Below w.heap.size w w12) := HFW.out.trans (hk12.toBelow HFW.out.size (fun k hk => by omega))
          clear hk12
          go_wp2
          go_ret
          exact ⟨rfl, HFIN.out⟩
end Go.Proofs.Ytboacpneoblklaa
