import Derived.Test.YtgpimajdcfoigabDoorD38
import Derived.Test.YtgpimajdcfoigabDoorD41
import Derived.Test.YtgpimajdcfoigabDoorD39

/- codec's reader: elements. -/
namespace Go.Proofs.YtgpimajdcfoigabDoor
open Go.RowKit
set_option linter.unusedVariables false
set_option linter.unusedSimpArgs false
/-- a list that came out -/
structure GotL (w : World) (ys : List V) (la : Option Addr) (lc : Nat) (w' : World) : Prop where
  row : 0 < ys.length → ∃ b, la = some ⟨b, 0, none⟩ ∧ w.heap.size ≤ b ∧ b < w'.heap.size ∧ Row w' b 0 ys
  cap : ys.length ≤ lc
  len : ys.length < 4294967296
  lies : ∀ y ∈ ys, LiesIn (fun b => w.heap.size ≤ b ∧ b < w'.heap.size) w' y
theorem Gat.got {w W : World} {M lb : Nat} {ys : List V} {la : Option Addr} {lc : Nat} (h : Gat M lb ys (.slice la ys.length lc) W) (hM : w.heap.size ≤ M) (hl : ys.length < 4294967296) : GotL w ys la lc W := by
  have hr := h.row
  refine ⟨fun h0 => ?_, ?_, hl, fun y hy => (h.lies y hy).keep (fun _ _ _ => rfl) (fun b hb => ⟨by omega, hb.2.1⟩)⟩
  · rcases hr.2 with ⟨_, h1⟩ | ⟨g, cap, cur, e, hb, hh, _⟩
    · omega
    · simp only [Value.slice.injEq] at e
      obtain ⟨rfl, _, rfl⟩ := e
      exact ⟨g, rfl, by omega, (Array.getElem?_eq_some_iff.1 hh).1, flat_row hr⟩
  · rcases hr.2 with ⟨_, h1⟩ | ⟨g, cap, cur, e, _, _, h3, _⟩
    · omega
    · simp only [Value.slice.injEq] at e
      omega
theorem relemI_len (l : List Nat) (f k place count q fin : Nat) (sz : Int) {xs : List T} {q' : Nat} (hq : q ≤ fin) (h : relemI l f k place count q fin sz = .ok (xs, q')) : xs.length = count ∧ q ≤ q' ∧ q' ≤ fin ∧ (k = 22 → count ≤ 2049) := by
  unfold relemI at h
  split at h
  · cases h
  split at h
  · cases h
  rename_i hb
  have := rmany_far (fin := fin) (fun p t q hp h => rvalG_far l (rdat_far badB twiceW l f) h) _ _ _ _ hq h
  exact ⟨this.2.2, by omega, this.2.1, fun hk => by
    by_cases h2 : 1024 < count / 2
    · exact absurd ⟨hk, h2⟩ hb
    · omega⟩
theorem span_len (l : List Nat) (hl : ∀ b ∈ l, b < 256) (f k place wd p fin : Nat) (sz : Int) (hwd : wd = 1 ∨ wd = 4) {xs : List T} {q' : Nat} (h : rspan l wd wd p fin sz (relemI l f k place) = .ok (xs, q')) : xs.length < 4294967296 ∧ p ≤ q' ∧ q' ≤ fin ∧ (k = 22 → xs.length ≤ 2049) := by
  obtain ⟨size, count, b1, b2, b3, b4, b5, b6, b7⟩ := rspan_far l (fun count q fin sz x q' hq hi => by have := relemI_len l f k place count q fin sz hq hi; omega) h
  have h1 := rnum_lt l hl b4
  have h2 := relemI_len l f k place count _ _ _ b5 b6
  have h3 : (256 : Nat) ^ wd ≤ 4294967296 := by rcases hwd with rfl | rfl <;> decide
  exact ⟨by omega, by omega, by omega, fun h => by have := h2.2.2.2 h; omega⟩
/-- what elements gives -/
def OutL (r : Res (List T × Nat)) (R : Nat) (a : Option Addr) (n cap fin : Nat) (sz : Int) (w : World) (e : Ending) (w' : World) : Prop :=
  match r with
  | .error x => e = Flt x ∧ Gro R w w'
  | .ok xq => (∃ ys la lc, e = .returned (.slice la (ys : List V).length lc) ∧ Hid (GotL w ys la lc w' ∧ V.ts ys = xq.1 ∧ RB w' R a n cap xq.2 fin sz ∧ xq.2 ≤ fin)) ∧ Gro R w w'
set_option maxRecDepth 100000 in
set_option maxHeartbeats 4000000 in
theorem elems_any (R k place d f wd : Nat) (a : Option Addr) (n cap p fin : Nat) (sz : Int) (l : List Nat) (w : World) (hs : Src w R a n cap l) (hr : RB w R a n cap p fin sz) (hp : p ≤ fin) (hfin : fin ≤ n) (hwd : wd = 1 ∨ wd = 4) (hk : k ≤ 24) (hd : d ≤ 32) (hpl : place ≤ 281474976710656) (HV : Hid (ValAt f d R a n cap l)) :
    Calls Tryd.prog 42 #[.pointer (some ⟨R, 0, none⟩), .int .i64 (k : Int), .int .i64 (wd : Int), .int .i64 (place : Int), .int .i64 (d : Int)] w (OutL (relems twiceW l (rvalG l (rdat badB twiceW l f) f) k wd place p fin sz) R a n cap fin sz w) := by
  have hRl := hr.cells.2.2.2.2.2.2.2
  have hby := hs.rd.2.1
  obtain ⟨N, hN⟩ : ∃ N, w.heap.size = N := ⟨_, rfl⟩
  obtain ⟨W5, hW5⟩ : ∃ W5, (((((w.alloc (.cells #[.pointer (some ⟨R, 0, none⟩)] 55)).alloc (.cells #[.int .i64 (k : Int)] 3)).alloc (.cells #[.int .i64 (place : Int)] 3)).alloc (.cells #[.int .i64 (d : Int)] 3)).alloc (.cells #[.slice none 0 0] 23)) = W5 := ⟨_, rfl⟩
  have hg5 : Gro R w W5 := by rw [← hW5]; exact (((((Gro.refl R w).alloc _).alloc _).alloc _).alloc _).alloc _
  have hsz5 : W5.heap.size = N + 5 := by rw [← hW5]; simp; omega
  have hEF : EF w N R k place d W5 := by
    subst hN
    refine ⟨⟨hg5, ⟨?_, ?_, ?_, ?_, by omega⟩⟩, ?_⟩
    · rw [← hW5]; exact heap_past (heap_past (heap_past (heap_past (World.alloc_heap_new _ _) _) _) _) _
    · rw [← hW5]; exact heap_past (heap_past (heap_past (heap_at1 _ _ _) _) _) _
    · rw [← hW5]; exact heap_past (heap_past (heap_at2 _ _ _ _) _) _
    · rw [← hW5]
      refine heap_past ?_ _
      have := World.alloc_heap_new (((w.alloc (.cells #[.pointer (some ⟨R, 0, none⟩)] 55)).alloc (.cells #[.int .i64 (k : Int)] 3)).alloc (.cells #[.int .i64 (place : Int)] 3)) (.cells #[.int .i64 (d : Int)] 3)
      simp only [World.size_alloc] at this
      exact this
    · rw [← hW5]
      have := World.alloc_heap_new ((((w.alloc (.cells #[.pointer (some ⟨R, 0, none⟩)] 55)).alloc (.cells #[.int .i64 (k : Int)] 3)).alloc (.cells #[.int .i64 (place : Int)] 3)).alloc (.cells #[.int .i64 (d : Int)] 3)) (.cells #[.slice none 0 0] 23)
      simp only [World.size_alloc] at this
      exact this
  have hr5 : RB W5 R a n cap p fin sz := by rw [← hW5]; exact ((((hr.alloc _).alloc _).alloc _).alloc _).alloc _
  have hRN : R < N := by omega
  have HSP := hide (span5 (relemI l f k place) R a n cap p fin wd wd sz l (EF w N R k place d) (EG w N R k place d) (EJ N) (N + 1) (N + 2) (N + 4) N (N + 3) W5 hEF hr5 hp hfin hwd (by omega) (fun W W' h hg => h.on hg hRN) (fun W h => hs.gro h.g.gro) (fun W h => h.g) (fun W W' h hg => h.on hg hRN)
    (fun x W W' hj hG hg => by
      obtain ⟨ys, lv, h1, h2⟩ := hj
      exact ⟨ys, lv, h1.gro hg (by omega) (by omega), h2⟩)
    (fun count q fin' sz' W1 h1 h2 h3 h4 h5 h6 => elems1_any w N R k place d f a n cap l hN hs hRN hk hd hpl HV count q fin' sz' W1 h1 h2 h3 h4 h5 h6))
  have hrel : relems twiceW l (rvalG l (rdat badB twiceW l f) f) k wd place p fin sz = bindR (rspan l wd wd p fin sz (relemI l f k place)) (fun xq => if k = 22 ∧ twiceW xq.1 = true then .error ((place : Int), 34) else .ok xq) := relems_b twiceW l _ k wd place p fin sz
  rw [hrel]
  clear hrel
  have HW5 := hide hW5
  have HEF := hide hEF
  have hmf : ∀ (fn : Fn) (first cap : Array Value) (w : World), (Instr.makeFunc fn first cap).run Tryd.prog w = .ok (.func fn first cap) w := fun _ _ _ _ => rfl
  subst hN
  clear hW5 hEF hr5 hr HV
  cases hsp : rspan l wd wd p fin sz (relemI l f k place) with
  | error x =>
    rw [hsp] at HSP
    show Calls _ _ _ _ (OutL (.error x) R a n cap fin sz w)
    clear hsp
    go_enter Tryd.func42, Tryd.ntmps42
    go_wp2_with fail
    rw [HW5.out]
    refine Calls.mono HSP.out ?_
    rintro e1 w1 ⟨rfl, hG⟩
    exact ⟨rfl, rfl, hG.gro⟩
  | ok xq =>
    obtain ⟨xs, q⟩ := xq
    rw [hsp] at HSP
    obtain ⟨l1, l2, l3, l4⟩ := span_len l hby f k place wd p fin sz hwd hsp
    have HL := hide (And.intro l1 (And.intro l2 l3))
    show Calls _ _ _ _ (OutL (if k = 22 ∧ twiceW xs = true then .error ((place : Int), 34) else .ok (xs, q)) R a n cap fin sz w)
    have HSP2 : Hid (Calls Tryd.prog 56 #[.pointer (some ⟨R, 0, none⟩), .int .i64 (wd : Int), .int .i64 (wd : Int), .func (.func 57) #[] #[.pointer (some ⟨w.heap.size + 1, 0, none⟩), .pointer (some ⟨w.heap.size + 2, 0, none⟩), .pointer (some ⟨w.heap.size + 4, 0, none⟩), .pointer (some ⟨w.heap.size, 0, none⟩), .pointer (some ⟨w.heap.size + 3, 0, none⟩)]] W5 (fun e w' => e = .returned (.tuple #[]) ∧ RB w' R a n cap q fin sz ∧ q ≤ fin ∧ EJ w.heap.size xs w' ∧ EG w w.heap.size R k place d w')) := HSP.out
    clear HSP hsp l1 l2 l3 hby hs
    by_cases h22 : k = 22
    · have hl4 := l4 h22
      have hkt : ((k : Int) == 22) = true := by rw [beq_iff_eq]; omega
      have H22 := hide h22
      clear l4 h22
      cases htw : twiceW xs
      · rw [if_neg (by simp)]
        go_enter Tryd.func42, Tryd.ntmps42
        go_wp2_with fail
        rw [HW5.out]
        refine Calls.mono HSP2.out ?_
        rintro e1 w1 ⟨rfl, hr1, hq1, ⟨ys, lv, hgat, hts⟩, hG⟩
        obtain ⟨la, lc, rfl, _, hllc⟩ := hgat.slice
        have HLEN : Hid (ys.length = xs.length) := by show ys.length = xs.length; rw [← hts, V.ts_length]
        have hbx := hG.bx
        have c1 : w1.cell? ⟨w.heap.size + 1, 0, none⟩ = some (.int .i64 (k : Int)) := by simp [World.cell?, hbx.b1]
        have c2 : w1.cell? ⟨w.heap.size + 2, 0, none⟩ = some (.int .i64 (place : Int)) := by simp [World.cell?, hbx.b2]
        have c4 : w1.cell? ⟨w.heap.size + 4, 0, none⟩ = some (.slice la ys.length lc) := by simp [World.cell?, hgat.box]
        have hsz1 := hbx.sz
        have HGT := hide hgat
        have HTS := hide hts
        have HR1 := hide hr1
        have HG1 := hide hG
        have HRL : Hid (w.heap.size + 4 ≠ R) := by show w.heap.size + 4 ≠ R; omega
        have HRM : Hid (R < w.heap.size + 5) := by show R < w.heap.size + 5; omega
        have htc := twice_any ys la lc w1.heap.size w1 (Nat.le_refl _) hllc (by have := HLEN.out; omega) (fun h0 => by
          obtain ⟨b, e, _, h2, h3⟩ := (hgat.got (w := w) (by omega) (by have := HLEN.out; omega)).row h0
          exact ⟨b, 0, e, h2, h3⟩) (fun x hx => (hgat.lies x hx).keep (fun _ _ _ => rfl) (fun b hb => hb.2.1))
        clear hgat hr1 hG hbx
        rw [hts, htw] at htc
        have HTC := hide htc
        clear htc
        go_wp2_with fail
        refine Calls.mono HTC.out ?_
        rintro e2 w2 ⟨rfl, hb2⟩
        have HB2 := hide hb2
        have k4 : w2.cell? ⟨w.heap.size + 4, 0, none⟩ = some (.slice la ys.length lc) := (World.cell?_of_block (hb2.block (w.heap.size + 4) (by omega))).trans c4
        have hz2 : w.heap.size + 4 < w2.heap.size := by have := hb2.size; omega
        clear hb2
        go_wp2
        go_ret
        exact ⟨⟨ys, la, lc, rfl, ⟨(HGT.out.gro (Gro.of_below HB2.out) HRL.out HRM.out).got (by omega) (by have := HLEN.out; omega), HTS.out, HR1.out.keep HB2.out, hq1⟩⟩, HG1.out.gro.trans (Gro.of_below HB2.out)⟩
      · rw [if_pos ⟨H22.out, rfl⟩]
        go_enter Tryd.func42, Tryd.ntmps42
        go_wp2_with fail
        rw [HW5.out]
        refine Calls.mono HSP2.out ?_
        rintro e1 w1 ⟨rfl, hr1, hq1, ⟨ys, lv, hgat, hts⟩, hG⟩
        obtain ⟨la, lc, rfl, _, hllc⟩ := hgat.slice
        have HLEN : Hid (ys.length = xs.length) := by show ys.length = xs.length; rw [← hts, V.ts_length]
        have hbx := hG.bx
        have c1 : w1.cell? ⟨w.heap.size + 1, 0, none⟩ = some (.int .i64 (k : Int)) := by simp [World.cell?, hbx.b1]
        have c2 : w1.cell? ⟨w.heap.size + 2, 0, none⟩ = some (.int .i64 (place : Int)) := by simp [World.cell?, hbx.b2]
        have c4 : w1.cell? ⟨w.heap.size + 4, 0, none⟩ = some (.slice la ys.length lc) := by simp [World.cell?, hgat.box]
        have hsz1 := hbx.sz
        have HGT := hide hgat
        have HTS := hide hts
        have HR1 := hide hr1
        have HG1 := hide hG
        have HRL : Hid (w.heap.size + 4 ≠ R) := by show w.heap.size + 4 ≠ R; omega
        have HRM : Hid (R < w.heap.size + 5) := by show R < w.heap.size + 5; omega
        have htc := twice_any ys la lc w1.heap.size w1 (Nat.le_refl _) hllc (by have := HLEN.out; omega) (fun h0 => by
          obtain ⟨b, e, _, h2, h3⟩ := (hgat.got (w := w) (by omega) (by have := HLEN.out; omega)).row h0
          exact ⟨b, 0, e, h2, h3⟩) (fun x hx => (hgat.lies x hx).keep (fun _ _ _ => rfl) (fun b hb => hb.2.1))
        clear hgat hr1 hG hbx
        rw [hts, htw] at htc
        have HTC := hide htc
        clear htc
        go_wp2_with fail
        refine Calls.mono HTC.out ?_
        rintro e2 w2 ⟨rfl, hb2⟩
        have HB2 := hide hb2
        have k2 : w2.cell? ⟨w.heap.size + 2, 0, none⟩ = some (.int .i64 (place : Int)) := (World.cell?_of_block (hb2.block (w.heap.size + 2) (by omega))).trans c2
        have hz2 : w.heap.size + 4 < w2.heap.size := by have := hb2.size; omega
        clear hb2
        go_wp2
        exact ⟨rfl, rfl, rfl, HG1.out.gro.trans (Gro.of_below HB2.out)⟩
    · rw [if_neg (fun h => h22 h.1)]
      have hkb : ((k : Int) == 22) = false := by rw [beq_eq_false_iff_ne]; omega
      clear l4 h22
      go_enter Tryd.func42, Tryd.ntmps42
      go_wp2_with fail
      rw [HW5.out]
      refine Calls.mono HSP2.out ?_
      rintro e1 w1 ⟨rfl, hr1, hq1, ⟨ys, lv, hgat, hts⟩, hG⟩
      obtain ⟨la, lc, rfl, _, hllc⟩ := hgat.slice
      have HLEN : Hid (ys.length = xs.length) := by show ys.length = xs.length; rw [← hts, V.ts_length]
      have hbx := hG.bx
      have c1 : w1.cell? ⟨w.heap.size + 1, 0, none⟩ = some (.int .i64 (k : Int)) := by simp [World.cell?, hbx.b1]
      have c2 : w1.cell? ⟨w.heap.size + 2, 0, none⟩ = some (.int .i64 (place : Int)) := by simp [World.cell?, hbx.b2]
      have c4 : w1.cell? ⟨w.heap.size + 4, 0, none⟩ = some (.slice la ys.length lc) := by simp [World.cell?, hgat.box]
      have hsz1 := hbx.sz
      have HGT := hide hgat
      have HTS := hide hts
      have HR1 := hide hr1
      have HG1 := hide hG
      have HRL : Hid (w.heap.size + 4 ≠ R) := by show w.heap.size + 4 ≠ R; omega
      have HRM : Hid (R < w.heap.size + 5) := by show R < w.heap.size + 5; omega
      clear hgat hr1 hG hbx
      go_wp2
      first | go_ret | (refine ⟨trivial, ?_⟩; go_wp2; go_ret)
      exact ⟨⟨ys, la, lc, rfl, ⟨HGT.out.got (by omega) (by have := HL.out.1; have := HLEN.out; omega), HTS.out, HR1.out, hq1⟩⟩, HG1.out.gro⟩
end Go.Proofs.YtgpimajdcfoigabDoor
