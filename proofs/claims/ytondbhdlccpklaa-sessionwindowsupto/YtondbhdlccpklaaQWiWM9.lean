import Derived.Test.YtondbhdlccpklaaQWiEM9
import Derived.Test.YtondbhdlccpklaaQWiFM9
import Derived.Test.YtondbhdlccpklaaQOpenLM9
import Derived.BigQuiet
import Derived.Deep.QuietTactic

/- SessionWindows: the walk. -/
namespace Go.Proofs.Ytondbhdlccpklaa
open Go.RowKit Go.Maps
set_option linter.unusedVariables false
set_option linter.unusedSimpArgs false

def Opd.z (o : Opd) : Opd := { o with e := 0 }
theorem new_okW {ki iw no ow hm : Int} {n : Nat} (hf : four ki iw no ow hm = true) : (newSn iw no ow hm n).ok := by
  simp [four, isW] at hf
  refine ⟨?_, ?_, ?_, ?_, ?_, ?_, ?_, ?_, ?_, ?_⟩ <;> simp [newSn] <;> omega
theorem lesser_le (a b : Int) : lesser a b ≤ a := by unfold lesser; split <;> omega
/-- the beginning -/
theorem win_start {p q : Opd} {n m : Nat} (hp : four p.bk p.b p.a p.c p.d = true) (hq : four q.bk q.b q.a q.c q.d = true) : Win ((0 : Nat) : Int) ((newSn p.b p.a p.c p.d n).peered q.b q.a q.c q.d) ((newSn q.b q.a q.c q.d m).peered p.b p.a p.c p.d) [] [] := by
  have h1 := hp
  have h2 := hq
  simp [four, isW] at h1 h2
  refine ⟨⟨peered_ok (new_okW hp) hq, rfl⟩, ⟨peered_ok (new_okW hq) hp, rfl⟩, fun f h => (by cases h), fun f h => (by cases h), ⟨p.a, 0, 0, ?_⟩, ⟨q.a, 0, 0, ?_⟩⟩
  · refine ⟨by show p.a = (p.a + 0) % 4294967296; omega, by show p.a = (p.a + 0) % 4294967296; omega, rfl, ?_, Int.le_refl _, Int.le_refl _⟩
    show 0 + lesser q.b 2147483647 ≤ 0 + q.b
    have := lesser_le q.b 2147483647
    omega
  · refine ⟨by show q.a = (q.a + 0) % 4294967296; omega, by show q.a = (q.a + 0) % 4294967296; omega, rfl, ?_, Int.le_refl _, Int.le_refl _⟩
    show 0 + lesser p.b 2147483647 ≤ 0 + p.b
    have := lesser_le p.b 2147483647
    omega
/-- at last each takes the other's Flow -/
theorem win_end {N : Int} {a b : Sn} (h : Win N a b [] []) (hN : N ≤ 1900000000) : (¬ (b.ahead a.ni < 0 ∨ b.ahead a.ni > a.iw)) ∧ (¬ (a.ahead b.ni < 0 ∨ a.ahead b.ni > b.iw)) ∧ (a.flowed b.ni b.iw b.no b.ow).ni = b.no ∧ (b.flowed a.ni a.iw a.no a.ow).ni = a.no ∧ (b.iw ≤ 2147483647 → b.iw ≤ a.ow → (a.flowed b.ni b.iw b.no b.ow).room = b.iw) ∧ (a.iw ≤ 2147483647 → a.iw ≤ b.ow → (b.flowed a.ni a.iw a.no a.ow).room = a.iw) := by
  obtain ⟨_, h1, _⟩ := (h.fields.swap : Win (N + 1) b a [some a] []).flow (by omega)
  obtain ⟨_, h2, _⟩ := (h.swap.fields.swap : Win (N + 1) a b [some b] []).flow (by omega)
  obtain ⟨l1, l2⟩ := h.last
  have ha := h.oa
  have hb := h.ob
  have room : ∀ {a b : Sn}, Sok a → Sok b → b.ni = a.no → b.iw ≤ 2147483647 → b.iw ≤ a.ow → (a.flowed b.ni b.iw b.no b.ow).room = b.iw := fun {a b} ha hb e h3 h4 => by
    have e0 : a.ahead b.ni = 0 := by
      unfold Sn.ahead
      rw [heard_word (by have := hb.1.ni.1; omega), e]
      exact gap_self _
    show (if a.peer then lesser (lesser (b.iw - a.ahead b.ni) 2147483647) a.ow else 0) = b.iw
    rw [if_pos ha.2, e0]
    unfold lesser
    (repeat' split) <;> omega
  refine ⟨h1, h2, ?_, ?_, room ha hb l2, room hb ha l1⟩
  · show (if 0 ≤ gapZ a.ni b.no then b.no else a.ni) = b.no
    rw [l1]
    split <;> rfl
  · show (if 0 ≤ gapZ b.ni a.no then a.no else b.ni) = a.no
    rw [l2]
    split <;> rfl
theorem st_size (s : Sn) (a b : Nat) : (Try.prog.info? 66).map (·.size) = some (s.st a b).size := by kernel_rfl
theorem st_one (s : Sn) (a b : Nat) : (s.st a b).all (·.oneCell') = true := by kernel_rfl
theorem zcells (o : Opd) : o.cells.setIfInBounds 5 (.int .i64 0) = o.z.cells := rfl
theorem op_sizeW (o : Opd) : (Try.prog.info? 24).map (·.size) = some o.cells.toList.length := by kernel_rfl
theorem op_sizeA (o : Opd) : (Try.prog.info? 24).map (·.size) = some o.cells.size := by kernel_rfl
theorem set_block {w : World} {b o : Nat} {cs : Array Value} {t : TypeId} {fr : Nat × Nat} (h : w.heap[b]? = some (.cells cs t fr)) (v : Value) : (w.setCell ⟨b, o, none⟩ v).heap[b]? = some (.cells (cs.setIfInBounds o v) t fr) := by simp [World.setCell, Array.getElem?_modify, h]
theorem RO.rangeW {w w' : World} {a : Option Addr} {n j : Nat} {fs : Nat → Opd} (h : RO w a n fs) (hj : j < n) (hb : Below w.heap.size w w') : ∃ b off, a = some ⟨b, off, none⟩ ∧ b < w'.heap.size ∧ w'.rangeAt b (off + j * 8) (fs j).cells.toList := by
  obtain ⟨⟨b, off, e, h1, h2⟩, _⟩ := h j hj
  exact ⟨b, off, e, Nat.lt_of_lt_of_le h1 hb.size, fun q v hv => (hb.cell (p := ⟨b, off + j * 8 + q, none⟩) h1).trans (h2 q v hv)⟩
theorem wn_start {z : Nat} {w7 : World} {g1 g2 : Nat} {sx sy : Sn} (h1 : SB w7 g1 sx) (t1 : TbP w7 sx.bs []) (c1 : TbP w7 sx.bc []) (h2 : SB w7 g2 sy) (t2 : TbP w7 sy.bs []) (c2 : TbP w7 sy.bc []) (hg : g1 ≠ g2) (z1 : z ≤ g1) (z2 : z ≤ g2) (hz : z ≤ w7.heap.size) :
    Wn z ((w7.alloc (.cells #[.pointer (some ⟨g1, 0, none⟩), .slice none 0 0, .int .i64 0, .int .i64 0] 62)).alloc (.cells #[.pointer (some ⟨g2, 0, none⟩), .slice none 0 0, .int .i64 0, .int .i64 0] 62)) w7.heap.size g1 (w7.heap.size + 1) g2 0 sx sy (.slice none 0 0) (.slice none 0 0) [] [] := by
  have hb : Below w7.heap.size w7 ((w7.alloc (.cells #[.pointer (some ⟨g1, 0, none⟩), .slice none 0 0, .int .i64 0, .int .i64 0] 62)).alloc (.cells #[.pointer (some ⟨g2, 0, none⟩), .slice none 0 0, .int .i64 0, .int .i64 0] 62)) := bel1 (bel1 (Below.refl _ _) (Nat.le_refl _) _) (by simp) _
  refine ⟨⟨heap_past (heap_alloc_last w7 _) _, h1.at (hb.block _ h1.lt), t1.at (hb.block _ t1.lt), c1.at (hb.block _ c1.lt), .inl ⟨rfl, rfl⟩, hz, z1⟩, ⟨?_, h2.at (hb.block _ h2.lt), t2.at (hb.block _ t2.lt), c2.at (hb.block _ c2.lt), .inl ⟨rfl, rfl⟩, by omega, z2⟩, hg, by omega, fun k e => (by cases e), Nat.le_refl _, Nat.le_refl _⟩
  have := heap_alloc_last (w7.alloc (.cells #[.pointer (some ⟨g1, 0, none⟩), .slice none 0 0, .int .i64 0, .int .i64 0] 62)) (.cells #[.pointer (some ⟨g2, 0, none⟩), .slice none 0 0, .int .i64 0, .int .i64 0] 62)
  simpa using this
set_option maxRecDepth 100000 in
set_option maxHeartbeats 16000000 in
theorem windows_walk (oa ob : Opd) (a : Option Addr) (n c : Nat) (fs : Nat → Opd) (w : World) (ro : RO w a n fs) (hn : n ≤ 1048576) :
    Calls Try.prog 6 #[.agg oa.cells, .agg ob.cells, .slice a n c] w fun e w' => e = .returned (.bool true) ∧ Below w.heap.size w w' := by
  obtain ⟨V0, hV0⟩ : ∃ V0, (w.alloc (.cells oa.cells 24)).alloc (.cells ob.cells 24) = V0 := ⟨_, rfl⟩
  have HV0 := hide hV0
  have HNa : Hid (V0.heap[w.heap.size]? = some (.cells oa.cells 24 (0, 0))) := hV0 ▸ heap_past (heap_alloc_last w _) _
  have HNb : Hid (V0.heap[w.heap.size + 1]? = some (.cells ob.cells 24 (0, 0))) := by
    show _ = _
    have := heap_alloc_last (w.alloc (.cells oa.cells 24)) (.cells ob.cells 24)
    rw [hV0] at this
    simpa using this
  have HB0 : Hid (Below w.heap.size w V0) := hV0 ▸ bel1 (bel1 (Below.refl _ _) (Nat.le_refl _) _) (by simp) _
  have HRO := hide ro
  clear hV0 ro
  go_enter Try.func6, Try.ntmps6
  go_wp2_with fail
  rw [HV0.out]
  refine (live_any V0).mono ?_
  rintro e1 w1 ⟨rfl, b1⟩
  have na := (b1.block _ (Array.getElem?_eq_some_iff.1 HNa.out).1).trans HNa.out
  have nb := (b1.block _ (Array.getElem?_eq_some_iff.1 HNb.out).1).trans HNb.out
  have a5 : w1.cell? ⟨w.heap.size, 5, none⟩ = some (.int .i64 oa.e) := cellOf na 5 _ rfl
  have a5f : w1.frozen? ⟨w.heap.size, 5, none⟩ = false := by simp [World.frozen?, na]
  have b5 : w1.cell? ⟨w.heap.size + 1, 5, none⟩ = some (.int .i64 ob.e) := cellOf nb 5 _ rfl
  have b5f : w1.frozen? ⟨w.heap.size + 1, 5, none⟩ = false := by simp [World.frozen?, nb]
  have la : w.heap.size < w1.heap.size := (Array.getElem?_eq_some_iff.1 na).1
  have lb : w.heap.size + 1 < w1.heap.size := (Array.getElem?_eq_some_iff.1 nb).1
  obtain ⟨W1, hW1⟩ : ∃ W1, (w1.setCell ⟨w.heap.size, 5, none⟩ (.int .i64 0)).setCell ⟨w.heap.size + 1, 5, none⟩ (.int .i64 0) = W1 := ⟨_, rfl⟩
  have HW1 := hide hW1
  have HN1a : Hid (W1.heap[w.heap.size]? = some (.cells oa.z.cells 24 (0, 0))) := by
    show _ = _
    rw [← hW1, blk_set_other _ _ _ _ (by show w.heap.size ≠ w.heap.size + 1; omega)]
    exact set_block na _
  have HN1b : Hid (W1.heap[w.heap.size + 1]? = some (.cells ob.z.cells 24 (0, 0))) := by
    show _ = _
    rw [← hW1]
    exact set_block ((blk_set_other _ _ _ _ (by show w.heap.size + 1 ≠ w.heap.size; omega)).trans nb) _
  have hbw1 : Below w.heap.size w w1 := belOn HB0.out HB0.out.size b1
  have HB1 : Hid (Below w.heap.size w W1) := hW1 ▸ (hbw1.setCell (p := ⟨w.heap.size, 5, none⟩) (Nat.le_refl _) _).setCell (p := ⟨w.heap.size + 1, 5, none⟩) (by show w.heap.size ≤ w.heap.size + 1; omega) _
  clear b1 na nb hW1 hbw1
  go_wp2_with (first | rw [HW1.out] | (refine wpList_load_row rfl 24 (.tmp 3) rfl w.heap.size rfl 24 oa.z.cells (0, 0) _ HN1a.out Try.underlying24 rfl (op_sizeA _) ?_))
  refine (begin_any oa.z W1).mono ?_
  rintro e2 w2 ⟨rfl, b2⟩
  obtain ⟨V2, hV2⟩ : ∃ V2, w2.alloc (.cells oa.z.begin 39) = V2 := ⟨_, rfl⟩
  have HV2 := hide hV2
  have hb2 : Below W1.heap.size W1 V2 := hV2 ▸ bel1 b2 b2.size _
  have HN2 : Hid (V2.heap[w2.heap.size]? = some (.cells oa.z.begin 39 (0, 0))) := hV2 ▸ heap_alloc_last w2 _
  have HN2b : Hid (V2.heap[w.heap.size + 1]? = some (.cells ob.z.cells 24 (0, 0))) := (hb2.block _ (Array.getElem?_eq_some_iff.1 HN1b.out).1).trans HN1b.out
  have HB2 : Hid (Below w.heap.size w V2) := belOn HB1.out HB1.out.size hb2
  clear hV2 b2 hb2 a5 a5f b5 b5f
  go_wp2_with (first | (refine wpList_store_row rfl 39 (.tmp 8) (.tmp 31) rfl w2.heap.size oa.z.begin rfl rfl 39 _ (heap_alloc_last w2 _) (begin_size _) (begin_zero _) (begin_one _) ?_; rw [World.setRow_alloc_new, HV2.out]) | (refine wpList_load_row rfl 24 (.tmp 4) rfl (w.heap.size + 1) rfl 24 ob.z.cells (0, 0) _ HN2b.out Try.underlying24 rfl (op_sizeA _) ?_))
  refine (begin_any ob.z V2).mono ?_
  rintro e3 w3 ⟨rfl, b3⟩
  obtain ⟨V3, hV3⟩ : ∃ V3, w3.alloc (.cells ob.z.begin 39) = V3 := ⟨_, rfl⟩
  have HV3 := hide hV3
  have hb3 : Below V2.heap.size V2 V3 := hV3 ▸ bel1 b3 b3.size _
  have HM3 : Hid (V3.heap[w3.heap.size]? = some (.cells ob.z.begin 39 (0, 0))) := hV3 ▸ heap_alloc_last w3 _
  have HN3 : Hid (V3.heap[w2.heap.size]? = some (.cells oa.z.begin 39 (0, 0))) := (hb3.block _ (Array.getElem?_eq_some_iff.1 HN2.out).1).trans HN2.out
  have HB3 : Hid (Below w.heap.size w V3) := belOn HB2.out HB2.out.size hb3
  clear hV3 b3 hb3 HNa HNb HN1a HN1b HN2b
  go_wp2_with (first | (refine wpList_store_row rfl 39 (.tmp 9) (.tmp 33) rfl w3.heap.size ob.z.begin rfl rfl 39 _ (heap_alloc_last w3 _) (begin_size _) (begin_zero _) (begin_one _) ?_; rw [World.setRow_alloc_new, HV3.out]) | (refine wpList_load_row rfl 39 (.tmp 8) rfl w2.heap.size rfl 39 oa.z.begin (0, 0) _ HN3.out Try.underlying39 rfl (begin_size _) ?_))
  cases hfa : four oa.z.bk oa.z.b oa.z.a oa.z.c oa.z.d
  · refine (new_no oa.z.begin oa.z.bk 0 oa.z.b oa.z.a oa.z.c oa.z.d (begin_pf _) hfa V3).mono ?_
    rintro e4 w4 ⟨rfl, b4⟩
    have HN4 : Hid (w4.heap[w2.heap.size]? = some (.cells oa.z.begin 39 (0, 0))) := (b4.block _ (Array.getElem?_eq_some_iff.1 HN3.out).1).trans HN3.out
    have HM4 : Hid (w4.heap[w3.heap.size]? = some (.cells ob.z.begin 39 (0, 0))) := (b4.block _ (Array.getElem?_eq_some_iff.1 HM3.out).1).trans HM3.out
    have HB4 : Hid (Below w.heap.size w w4) := belOn HB3.out HB3.out.size b4
    clear b4
    go_wp2_with (refine wpList_load_row rfl 39 (.tmp 9) rfl w3.heap.size rfl 39 ob.z.begin (0, 0) _ HM4.out Try.underlying39 rfl (begin_size _) ?_)
    cases hfb : four ob.z.bk ob.z.b ob.z.a ob.z.c ob.z.d
    · refine (new_no ob.z.begin ob.z.bk 0 ob.z.b ob.z.a ob.z.c ob.z.d (begin_pf _) hfb w4).mono ?_
      rintro e5 w5 ⟨rfl, b5⟩
      have HB5 := hide (belOn HB4.out HB4.out.size b5)
      clear b5
      go_wp2
      go_ret
      exact ⟨rfl, HB5.out⟩
    · refine (new_yes ob.z.begin ob.z.bk 0 ob.z.b ob.z.a ob.z.c ob.z.d (begin_pf _) hfb w4).mono ?_
      rintro e5 w5 ⟨n2, rfl, hn2, hs2, b5⟩
      have HB5 := hide (belOn HB4.out HB4.out.size b5)
      clear b5 hn2 hs2
      go_wp2
      go_ret
      exact ⟨rfl, HB5.out⟩
  · refine (new_yes oa.z.begin oa.z.bk 0 oa.z.b oa.z.a oa.z.c oa.z.d (begin_pf _) hfa V3).mono ?_
    rintro e4 w4 ⟨n1, rfl, hn1, hs1, b4⟩
    have HS1 := hide hs1
    have HN1z := hide hn1
    have HN4 : Hid (w4.heap[w2.heap.size]? = some (.cells oa.z.begin 39 (0, 0))) := (b4.block _ (Array.getElem?_eq_some_iff.1 HN3.out).1).trans HN3.out
    have HM4 : Hid (w4.heap[w3.heap.size]? = some (.cells ob.z.begin 39 (0, 0))) := (b4.block _ (Array.getElem?_eq_some_iff.1 HM3.out).1).trans HM3.out
    have HB4 : Hid (Below w.heap.size w w4) := belOn HB3.out HB3.out.size b4
    clear b4 hs1 hn1
    go_wp2_with (refine wpList_load_row rfl 39 (.tmp 9) rfl w3.heap.size rfl 39 ob.z.begin (0, 0) _ HM4.out Try.underlying39 rfl (begin_size _) ?_)
    cases hfb : four ob.z.bk ob.z.b ob.z.a ob.z.c ob.z.d
    · refine (new_no ob.z.begin ob.z.bk 0 ob.z.b ob.z.a ob.z.c ob.z.d (begin_pf _) hfb w4).mono ?_
      rintro e5 w5 ⟨rfl, b5⟩
      have HB5 := hide (belOn HB4.out HB4.out.size b5)
      clear b5
      go_wp2
      go_ret
      exact ⟨rfl, HB5.out⟩
    · refine (new_yes ob.z.begin ob.z.bk 0 ob.z.b ob.z.a ob.z.c ob.z.d (begin_pf _) hfb w4).mono ?_
      rintro e5 w5 ⟨n2, rfl, hn2, hs2, b5⟩
      have hs1 := HS1.out.below b5
      have hn1 := HN1z.out
      have HN5 : Hid (w5.heap[w2.heap.size]? = some (.cells oa.z.begin 39 (0, 0))) := (b5.block _ (Array.getElem?_eq_some_iff.1 HN4.out).1).trans HN4.out
      have HM5 : Hid (w5.heap[w3.heap.size]? = some (.cells ob.z.begin 39 (0, 0))) := (b5.block _ (Array.getElem?_eq_some_iff.1 HM4.out).1).trans HM4.out
      have HB5 : Hid (Below w.heap.size w w5) := belOn HB4.out HB4.out.size b5
      have hgg : n1 + 4 ≠ n2 + 4 := fun e => by have := HS1.out.sb.lt; omega
      obtain ⟨sx, hsx⟩ : ∃ sx, sx = (newSn oa.z.b oa.z.a oa.z.c oa.z.d n1).peered ob.z.b ob.z.a ob.z.c ob.z.d := ⟨_, rfl⟩
      obtain ⟨sy, hsy⟩ : ∃ sy, sy = (newSn ob.z.b ob.z.a ob.z.c ob.z.d n2).peered oa.z.b oa.z.a oa.z.c oa.z.d := ⟨_, rfl⟩
      have hwin : Win ((0 : Nat) : Int) sx sy [] [] := by rw [hsx, hsy]; exact win_start hfa hfb
      have HP1 : Hid (Calls Try.prog 21 #[.pointer (some ⟨n1 + 4, 0, none⟩), .agg ob.z.begin] w5 fun e w6 => e = .returned (.int .i64 0) ∧ SB w6 (n1 + 4) sx ∧ Kp (fun k => k = n1 + 4) w5 w6) := by
        rw [hsx]
        exact peer_yes (n1 + 4) (newSn oa.z.b oa.z.a oa.z.c oa.z.d n1) ob.z.begin ob.z.bk 0 ob.z.b ob.z.a ob.z.c ob.z.d w5 hs1.sb rfl (begin_pf _) hfb
      have HP2 : Hid (∀ w6, SB w6 (n2 + 4) (newSn ob.z.b ob.z.a ob.z.c ob.z.d n2) → Calls Try.prog 21 #[.pointer (some ⟨n2 + 4, 0, none⟩), .agg oa.z.begin] w6 fun e w7 => e = .returned (.int .i64 0) ∧ SB w7 (n2 + 4) sy ∧ Kp (fun k => k = n2 + 4) w6 w7) := fun w6 h6 => by
        rw [hsy]
        exact peer_yes (n2 + 4) (newSn ob.z.b ob.z.a ob.z.c ob.z.d n2) oa.z.begin oa.z.bk 0 oa.z.b oa.z.a oa.z.c oa.z.d w6 h6 rfl (begin_pf _) hfa
      have hm : sx.bs = n1 + 2 ∧ sx.bc = n1 + 3 ∧ sy.bs = n2 + 2 ∧ sy.bc = n2 + 3 := by rw [hsx, hsy]; exact ⟨rfl, rfl, rfl, rfl⟩
      have Hm := hide hm
      have HWin := hide hwin
      have HT1 := hide hs1.ts
      have HC1 := hide hs1.tc
      have HS2 := hide hs2
      have HZ1 := hide hn1
      have HZ2 := hide hn2
      have HGG := hide hgg
      have HSB1 := hide hs1.sb
      clear hsx hsy hwin hm hs1 hs2 hn1 hn2 b5 hfa hfb HS1 hgg HN1z
      go_wp2_with (refine wpList_load_row rfl 39 (.tmp 9) rfl w3.heap.size rfl 39 ob.z.begin (0, 0) _ HM5.out Try.underlying39 rfl (begin_size _) ?_)
      refine HP1.out.mono ?_
      rintro e6 w6 ⟨rfl, s6, k6⟩
      have hP1n : ¬ w2.heap.size = n1 + 4 := fun e => by have := HZ1.out; have := (Array.getElem?_eq_some_iff.1 HN3.out).1; omega
      have HN6 : Hid (w6.heap[w2.heap.size]? = some (.cells oa.z.begin 39 (0, 0))) := (k6.block (Array.getElem?_eq_some_iff.1 HN5.out).1 hP1n).trans HN5.out
      have hg21 : ¬ n2 + 4 = n1 + 4 := fun e => HGG.out e.symm
      have HSB2 : Hid (SB w6 (n2 + 4) (newSn ob.z.b ob.z.a ob.z.c ob.z.d n2)) := HS2.out.sb.at (k6.block HS2.out.sb.lt hg21)
      have HS6 := hide s6
      have HK6 := hide k6
      clear s6 k6 hP1n
      go_wp2_with (refine wpList_load_row rfl 39 (.tmp 8) rfl w2.heap.size rfl 39 oa.z.begin (0, 0) _ HN6.out Try.underlying39 rfl (begin_size _) ?_)
      refine (HP2.out w6 HSB2.out).mono ?_
      rintro e7 w7 ⟨rfl, s7, k7⟩
      have hWn : Wn w.heap.size ((w7.alloc (.cells #[.pointer (some ⟨n1 + 4, 0, none⟩), .slice none 0 0, .int .i64 0, .int .i64 0] 62)).alloc (.cells #[.pointer (some ⟨n2 + 4, 0, none⟩), .slice none 0 0, .int .i64 0, .int .i64 0] 62)) w7.heap.size (n1 + 4) (w7.heap.size + 1) (n2 + 4) 0 sx sy (.slice none 0 0) (.slice none 0 0) [] [] := by
        obtain ⟨m1, m2, m3, m4⟩ := Hm.out
        have keep : ∀ k, k < w5.heap.size → k ≠ n1 + 4 → k ≠ n2 + 4 → w7.heap[k]? = w5.heap[k]? := fun k hk h1 h2 => (k7.block (Nat.lt_of_lt_of_le hk HK6.out.size) h2).trans (HK6.out.block hk h1)
        have l1 := HSB1.out.lt
        have l2 := HS2.out.sb.lt
        have z1 := HZ1.out
        have z2 := HZ2.out
        have z3 := HB3.out.size
        have z5 := HB5.out.size
        have z4 := HB4.out.size
        refine wn_start (HS6.out.at (k7.block HS6.out.lt (fun e => hg21 e.symm))) ?_ ?_ s7 ?_ ?_ HGG.out (by omega) (by omega) (by have := k7.size; have := HK6.out.size; omega)
        · rw [m1]
          exact HT1.out.at (keep _ HT1.out.lt (HT1.out.ne HSB1.out) (HT1.out.ne HS2.out.sb))
        · rw [m2]
          exact HC1.out.at (keep _ HC1.out.lt (HC1.out.ne HSB1.out) (HC1.out.ne HS2.out.sb))
        · rw [m3]
          exact HS2.out.ts.at (keep _ HS2.out.ts.lt (HS2.out.ts.ne HSB1.out) (HS2.out.ts.ne HS2.out.sb))
        · rw [m4]
          exact HS2.out.tc.at (keep _ HS2.out.tc.lt (HS2.out.tc.ne HSB1.out) (HS2.out.tc.ne HS2.out.sb))
      have hb7 : Below w.heap.size w w7 := by
        have z1 := HZ1.out
        have z2 := HZ2.out
        have z3 := HB3.out.size
        have z4 := HB4.out.size
        exact (HB5.out.trans (HK6.out.toBelow HB5.out.size fun k hk e => by omega)).trans (k7.toBelow (by have := HK6.out.size; have := HB5.out.size; omega) fun k hk e => by omega)
      have HWN : Hid (WN w.heap.size w ((w7.alloc (.cells #[.pointer (some ⟨n1 + 4, 0, none⟩), .slice none 0 0, .int .i64 0, .int .i64 0] 62)).alloc (.cells #[.pointer (some ⟨n2 + 4, 0, none⟩), .slice none 0 0, .int .i64 0, .int .i64 0] 62)) w7.heap.size (n1 + 4) (w7.heap.size + 1) (n2 + 4) 0) := ⟨sx, sy, _, _, [], [], hWn, HWin.out, bel1 (bel1 hb7 hb7.size _) (by have := hb7.size; simp; omega) _, by have := hb7.size; simp; omega⟩
      clear hWn hb7 s7 k7 HP1 HP2 HN2 HN3 HM3 HN4 HM4 HN5 HM5 HN6 HT1 HC1 HS2 HS6 HK6 HSB1 HSB2 Hm HWin HGG hg21 HZ1 HZ2
      obtain ⟨gx, hgx⟩ : ∃ gx, gx = n1 + 4 := ⟨_, rfl⟩
      obtain ⟨gy, hgy⟩ : ∃ gy, gy = n2 + 4 := ⟨_, rfl⟩
      rw [← hgx, ← hgy] at HWN ⊢
      clear hgx hgy sx sy
      go_wp2
      go_loopw [16] (fun i wr => ∃ j : Nat, i = .int .i64 j ∧ j ≤ n ∧ WN w.heap.size w wr w7.heap.size gx (w7.heap.size + 1) gy j) (fun i _ => n - (intOf i).toNat)
      case atStart => exact ⟨0, rfl, Nat.zero_le _, HWN.out⟩
      case round =>
        obtain ⟨j, rfl, hj, hwn⟩ := hrel
        have hjb : (j : Int) ≤ 1048576 := by omega
        by_cases hjn : j < n
        · obtain ⟨bs, off, rfl, hbs, hrg⟩ := HRO.out.rangeW hjn hwn.choose_spec.choose_spec.choose_spec.choose_spec.choose_spec.choose_spec.2.2.1
          have HRg := hide hrg
          obtain ⟨fl, hfl⟩ : ∃ fl, fl = (fs j).f := ⟨_, rfl⟩
          have c7 : wr.cell? ⟨bs, off + j * 8 + 7, none⟩ = some (.bool fl) := by rw [hfl]; exact hrg 7 _ rfl
          cases fl
          · have HSt := hide (act_any (fs j) hwn.swap (by omega))
            clear hwn hrg hfl
            go_wp2_with (refine wpList_load_mid rfl 24 (.tmp 89) rfl bs (off + j * 8) rfl (fs j).cells.toList _ HRg.out Try.underlying24 rfl (op_sizeW _) ?_)
            refine HSt.out.mono ?_
            rintro e8 w8 ⟨rfl, h8⟩
            have H8 := hide h8.swap
            clear h8 HSt
            go_wp2
            go_roundw
            case rel => exact ⟨j + 1, by go_num, by omega, H8.out⟩
            case measure => simp [intOf]; omega
          · have HSt := hide (act_any (fs j) hwn (by omega))
            clear hwn hrg hfl
            go_wp2_with (refine wpList_load_mid rfl 24 (.tmp 82) rfl bs (off + j * 8) rfl (fs j).cells.toList _ HRg.out Try.underlying24 rfl (op_sizeW _) ?_)
            refine HSt.out.mono ?_
            rintro e8 w8 ⟨rfl, h8⟩
            have H8 := hide h8
            clear h8 HSt
            go_wp2
            go_roundw
            case rel => exact ⟨j + 1, by go_num, by omega, H8.out⟩
            case measure => simp [intOf]; omega
        · obtain rfl : n = j := by omega
          clear HWN
          obtain ⟨sx0, sy0, vx0, vy0, X0, Y0, h1, h2, h3, h4⟩ := hwn
          have HC := hide (come_any wr X0.length ⟨sx0, vx0, X0, rfl, h1, h2, h3, h4⟩ (by omega))
          clear h1 h2 h3 h4
          go_wp2_with fail
          refine HC.out.mono ?_
          rintro e8 w8 ⟨rfl, sx, vx, X, hx0, g1, g2, g3, g4⟩
          obtain rfl := List.length_eq_zero_iff.1 hx0
          have HC2 := hide (come_any w8 Y0.length ⟨sy0, vy0, Y0, rfl, g1.swap, g2.swap, g3, g4⟩ (by omega))
          clear g1 g2 g3 g4 hx0 HC
          go_wp2_with fail
          refine HC2.out.mono ?_
          rintro e9 w9 ⟨rfl, sy, vy, Y, hy0, g1, g2, g3, g4⟩
          obtain rfl := List.length_eq_zero_iff.1 hy0
          have HWn := hide g1.swap
          have HWi := hide g2.swap
          have HB9 : Hid (Below w.heap.size w w9) := g3
          clear g1 g2 g3 g4 hy0 HC2
          have HE := hide (win_end HWi.out (by omega))
          have HF := hide (fields_any gx sx w9 HWn.out.x.sb)
          go_wp2_with fail
          refine HF.out.mono ?_
          rintro e10 w10 ⟨rfl, b10⟩
          obtain ⟨V10, hV10⟩ : ∃ V10, w10.alloc (.cells sx.flow 39) = V10 := ⟨_, rfl⟩
          have HV10 := hide hV10
          have hb10 : Below w9.heap.size w9 V10 := hV10 ▸ bel1 b10 b10.size _
          have HNm : Hid (V10.heap[w10.heap.size]? = some (.cells sx.flow 39 (0, 0))) := hV10 ▸ heap_alloc_last w10 _
          have HW10 := hide (HWn.out.below hb10)
          have HB10 : Hid (Below w.heap.size w V10) := belOn HB9.out HB9.out.size hb10
          have HF2 := hide (fields_any gy sy V10 HW10.out.y.sb)
          clear b10 hb10 hV10 HF
          go_wp2_with (refine wpList_store_row rfl 39 (.tmp 20) (.tmp 99) rfl w10.heap.size sx.flow rfl rfl 39 _ (heap_alloc_last w10 _) (sflow_size ..) (sflow_zero ..) (sflow_one ..) ?_; rw [World.setRow_alloc_new, HV10.out])
          refine HF2.out.mono ?_
          rintro e11 w11 ⟨rfl, b11⟩
          obtain ⟨V11, hV11⟩ : ∃ V11, w11.alloc (.cells sy.flow 39) = V11 := ⟨_, rfl⟩
          have HV11 := hide hV11
          have hb11 : Below V10.heap.size V10 V11 := hV11 ▸ bel1 b11 b11.size _
          have HNn : Hid (V11.heap[w11.heap.size]? = some (.cells sy.flow 39 (0, 0))) := hV11 ▸ heap_alloc_last w11 _
          have HNm1 : Hid (V11.heap[w10.heap.size]? = some (.cells sx.flow 39 (0, 0))) := (hb11.block _ (Array.getElem?_eq_some_iff.1 HNm.out).1).trans HNm.out
          have HW11 := hide (HW10.out.below hb11)
          have HB11 : Hid (Below w.heap.size w V11) := belOn HB10.out HB10.out.size hb11
          have hAx : PfB sx.flow 19 sx.ni sx.iw sx.no sx.ow 0 := by rw [flow_of HWi.out.oa]; exact pfA_pf ..
          have hAy : PfB sy.flow 19 sy.ni sy.iw sy.no sy.ow 0 := by rw [flow_of HWi.out.ob]; exact pfA_pf ..
          have HG1 := hide (flow_yes gy sy sx.flow 19 sx.ni sx.iw sx.no sx.ow 0 V11 HW11.out.y.sb HWi.out.ob.2 hAx (flow_may HWi.out.oa) HE.out.1)
          have HAy := hide hAy
          have hgyl : gy < w11.heap.size := Nat.lt_of_lt_of_le HW10.out.y.sb.lt b11.size
          clear b11 hb11 hV11 HF2 hAx hAy
          go_wp2_with (first | (refine wpList_store_row rfl 39 (.tmp 21) (.tmp 101) rfl w11.heap.size sy.flow rfl rfl 39 _ (heap_alloc_last w11 _) (sflow_size ..) (sflow_zero ..) (sflow_one ..) ?_; rw [World.setRow_alloc_new, HV11.out]) | (refine wpList_load_row rfl 39 (.tmp 20) rfl w10.heap.size rfl 39 sx.flow (0, 0) _ HNm1.out Try.underlying39 rfl (sflow_size ..) ?_))
          refine HG1.out.mono ?_
          rintro e12 w12 ⟨rfl, s12, k12⟩
          have h12 := HW11.out.swap.turn s12 k12 rfl rfl
          have HW12 := hide h12.1.swap
          have HB12 := hide (h12.2 w HB11.out HB11.out.size)
          have HNn2 : Hid (w12.heap[w11.heap.size]? = some (.cells sy.flow 39 (0, 0))) := (k12.block (Array.getElem?_eq_some_iff.1 HNn.out).1 (fun e => by omega)).trans HNn.out
          have HG2 := hide (flow_yes gx sx sy.flow 19 sy.ni sy.iw sy.no sy.ow 0 w12 HW12.out.x.sb HWi.out.oa.2 HAy.out (flow_may HWi.out.ob) HE.out.2.1)
          have hz12 : w.heap.size ≤ w12.heap.size := Nat.le_trans HB11.out.size k12.size
          clear h12 s12 k12 HG1
          go_wp2_with (refine wpList_load_row rfl 39 (.tmp 21) rfl w11.heap.size rfl 39 sy.flow (0, 0) _ HNn2.out Try.underlying39 rfl (sflow_size ..) ?_)
          refine HG2.out.mono ?_
          rintro e13 w13 ⟨rfl, s13, k13⟩
          have h13 := HW12.out.turn s13 k13 rfl rfl
          have HW13 := hide h13.1
          have HB13 := hide (h13.2 w HB12.out hz12)
          obtain ⟨tx, htx⟩ : ∃ tx, tx = sx.flowed sy.ni sy.iw sy.no sy.ow := ⟨_, rfl⟩
          obtain ⟨ty, hty⟩ : ∃ ty, ty = sy.flowed sx.ni sx.iw sx.no sx.ow := ⟨_, rfl⟩
          have hend : tx.ni = sy.no ∧ ty.ni = sx.no ∧ (sy.iw ≤ 2147483647 → sy.iw ≤ sx.ow → tx.room = sy.iw) ∧ (sx.iw ≤ 2147483647 → sx.iw ≤ sy.ow → ty.room = sx.iw) ∧ tx.no = sx.no ∧ ty.no = sy.no ∧ tx.iw = sx.iw ∧ ty.iw = sy.iw ∧ tx.ow = sx.ow ∧ ty.ow = sy.ow := by
            rw [htx, hty]
            exact ⟨HE.out.2.2.1, HE.out.2.2.2.1, HE.out.2.2.2.2.1, HE.out.2.2.2.2.2, rfl, rfl, rfl, rfl, rfl, rfl⟩
          rw [← htx, ← hty] at HW13
          have HEnd := hide hend
          have HS1 := hide (state_any gx tx [] [] w13 HW13.out.x.sb HW13.out.x.ts HW13.out.x.tc)
          clear h13 s13 k13 HG2 hend htx hty
          go_wp2_with fail
          refine HS1.out.mono ?_
          rintro e14 w14 ⟨rfl, b14⟩
          obtain ⟨V14, hV14⟩ : ∃ V14, w14.alloc (.cells (tx.st ([] : List (Int × Pd)).length ([] : List (Int × Pd)).length) 66) = V14 := ⟨_, rfl⟩
          have HV14 := hide hV14
          have hb14 : Below w13.heap.size w13 V14 := hV14 ▸ bel1 b14 b14.size _
          have HN14 : Hid (V14.heap[w14.heap.size]? = some (.cells (tx.st ([] : List (Int × Pd)).length ([] : List (Int × Pd)).length) 66 (0, 0))) := hV14 ▸ heap_alloc_last w14 _
          have HW14 := hide (HW13.out.below hb14)
          have HB14 : Hid (Below w.heap.size w V14) := belOn HB13.out HB13.out.size hb14
          have HS2 := hide (state_any gy ty [] [] V14 HW14.out.y.sb HW14.out.y.ts HW14.out.y.tc)
          clear b14 hb14 hV14 HS1
          go_wp2_with (refine wpList_store_row rfl 66 (.tmp 24) (.tmp 123) rfl w14.heap.size (tx.st ([] : List (Int × Pd)).length ([] : List (Int × Pd)).length) rfl rfl 66 _ (heap_alloc_last w14 _) (st_size ..) (by kernel_rfl) (st_one ..) ?_; rw [World.setRow_alloc_new, HV14.out])
          refine HS2.out.mono ?_
          rintro e15 w15 ⟨rfl, b15⟩
          obtain ⟨V15, hV15⟩ : ∃ V15, w15.alloc (.cells (ty.st ([] : List (Int × Pd)).length ([] : List (Int × Pd)).length) 66) = V15 := ⟨_, rfl⟩
          have HV15 := hide hV15
          have hb15 : Below V14.heap.size V14 V15 := hV15 ▸ bel1 b15 b15.size _
          have n15 : V15.heap[w15.heap.size]? = some (.cells (ty.st ([] : List (Int × Pd)).length ([] : List (Int × Pd)).length) 66 (0, 0)) := hV15 ▸ heap_alloc_last w15 _
          have n14 : V15.heap[w14.heap.size]? = some (.cells (tx.st ([] : List (Int × Pd)).length ([] : List (Int × Pd)).length) 66 (0, 0)) := (hb15.block _ (Array.getElem?_eq_some_iff.1 HN14.out).1).trans HN14.out
          have HW15 := hide (HW14.out.below hb15)
          have HB15 : Hid (Below w.heap.size w V15) := belOn HB14.out HB14.out.size hb15
          obtain ⟨y1, y2, y3, y4, y5, y6, y7, y8, y9, y10⟩ := HEnd.out
          obtain ⟨p1, hp1⟩ : ∃ p1, p1 = sy.no := ⟨_, rfl⟩
          obtain ⟨p2, hp2⟩ : ∃ p2, p2 = sx.no := ⟨_, rfl⟩
          obtain ⟨q1, hq1⟩ : ∃ q1, q1 = sx.iw := ⟨_, rfl⟩
          obtain ⟨q2, hq2⟩ : ∃ q2, q2 = sy.iw := ⟨_, rfl⟩
          obtain ⟨r1, hr1⟩ : ∃ r1, r1 = sx.ow := ⟨_, rfl⟩
          obtain ⟨r2, hr2⟩ : ∃ r2, r2 = sy.ow := ⟨_, rfl⟩
          have c11 : V15.cell? ⟨w14.heap.size, 1, none⟩ = some (.int .i64 p2) := by rw [hp2, ← y5]; exact cellOf n14 1 _ rfl
          have c12 : V15.cell? ⟨w14.heap.size, 2, none⟩ = some (.int .i64 r1) := by rw [hr1, ← y9]; exact cellOf n14 2 _ rfl
          have c13 : V15.cell? ⟨w14.heap.size, 3, none⟩ = some (.int .i64 p1) := by rw [hp1, ← y1]; exact cellOf n14 3 _ rfl
          have c14 : V15.cell? ⟨w14.heap.size, 4, none⟩ = some (.int .i64 q1) := by rw [hq1, ← y7]; exact cellOf n14 4 _ rfl
          have c21 : V15.cell? ⟨w15.heap.size, 1, none⟩ = some (.int .i64 p1) := by rw [hp1, ← y6]; exact cellOf n15 1 _ rfl
          have c22 : V15.cell? ⟨w15.heap.size, 2, none⟩ = some (.int .i64 r2) := by rw [hr2, ← y10]; exact cellOf n15 2 _ rfl
          have c23 : V15.cell? ⟨w15.heap.size, 3, none⟩ = some (.int .i64 p2) := by rw [hp2, ← y2]; exact cellOf n15 3 _ rfl
          have c24 : V15.cell? ⟨w15.heap.size, 4, none⟩ = some (.int .i64 q2) := by rw [hq2, ← y8]; exact cellOf n15 4 _ rfl
          have l1 : w14.heap.size < V15.heap.size := (Array.getElem?_eq_some_iff.1 n14).1
          have l2 : w15.heap.size < V15.heap.size := (Array.getElem?_eq_some_iff.1 n15).1
          have HR1 : Hid (∀ W, Below V15.heap.size V15 W → q2 ≤ 2147483647 → q2 ≤ r1 → Calls Try.prog 17 #[.pointer (some ⟨gx, 0, none⟩)] W fun e w' => e = .returned (.int .i64 q2) ∧ Hid (Below V15.heap.size V15 w') ∧ w'.cell? ⟨w15.heap.size, 4, none⟩ = some (.int .i64 q2)) := fun W hb h1 h2 => by
            have := room_any gx tx W (HW15.out.below hb).x.sb
            rw [y3 (by rw [← hq2]; exact h1) (by rw [← hq2, ← hr1]; exact h2), ← hq2] at this
            exact this.mono fun e w' ⟨e1, b1⟩ => ⟨e1, belOn hb hb.size b1, ((belOn hb hb.size b1).cell (p := ⟨w15.heap.size, 4, none⟩) l2).trans c24⟩
          have HR2 : Hid (∀ W, Below V15.heap.size V15 W → q1 ≤ 2147483647 → q1 ≤ r2 → Calls Try.prog 17 #[.pointer (some ⟨gy, 0, none⟩)] W fun e w' => e = .returned (.int .i64 q1) ∧ Hid (Below V15.heap.size V15 w') ∧ w'.cell? ⟨w14.heap.size, 4, none⟩ = some (.int .i64 q1)) := fun W hb h1 h2 => by
            have := room_any gy ty W (HW15.out.below hb).y.sb
            rw [y4 (by rw [← hq1]; exact h1) (by rw [← hq1, ← hr2]; exact h2), ← hq1] at this
            exact this.mono fun e w' ⟨e1, b1⟩ => ⟨e1, belOn hb hb.size b1, ((belOn hb hb.size b1).cell (p := ⟨w14.heap.size, 4, none⟩) l1).trans c14⟩
          clear b15 hb15 hV15 n14 n15 y1 y2 y3 y4 y5 y6 y7 y8 y9 y10 hp1 hp2 hq1 hq2 hr1 hr2 HS2
          rcases (by by_cases h1 : q2 ≤ 2147483647
                     · by_cases h2 : q2 ≤ r1
                       · exact .inl ⟨h1, h2⟩
                       · exact .inr (.inr ⟨h1, h2⟩)
                     · exact .inr (.inl h1) : (q2 ≤ 2147483647 ∧ q2 ≤ r1) ∨ ¬ q2 ≤ 2147483647 ∨ (q2 ≤ 2147483647 ∧ ¬ q2 ≤ r1)) with ⟨hA1, hA2⟩ | hA1 | ⟨hA1, hA2⟩
          · go_wp2_with (refine wpList_store_row rfl 66 (.tmp 25) (.tmp 125) rfl w15.heap.size (ty.st ([] : List (Int × Pd)).length ([] : List (Int × Pd)).length) rfl rfl 66 _ (heap_alloc_last w15 _) (st_size ..) (by kernel_rfl) (st_one ..) ?_; rw [World.setRow_alloc_new, HV15.out])
            have HRa := hide (HR1.out V15.drew ⟨rfl, rfl, rfl, Nat.le_refl _, fun _ _ => rfl⟩ hA1 hA2)
            go_region_held (fun W => W.cell? ⟨w15.heap.size, 4, none⟩ = some (.int .i64 q2)) (first | assumption | go_keep) (first | (go_at_call 17; refine Calls.mono HRa.out ?_; rintro e16 w16 ⟨rfl, hM, hs16⟩))
            have d14 : w16.cell? ⟨w14.heap.size, 4, none⟩ = some (.int .i64 q1) := (hM.out.cell (p := ⟨w14.heap.size, 4, none⟩) l1).trans c14
            have d22 : w16.cell? ⟨w15.heap.size, 2, none⟩ = some (.int .i64 r2) := (hM.out.cell (p := ⟨w15.heap.size, 2, none⟩) l2).trans c22
            have m1 : w14.heap.size < w16.heap.size := by have := hM.out.size; omega
            have m2 : w15.heap.size < w16.heap.size := by have := hM.out.size; omega
            clear HRa
            rcases (by by_cases h1 : q1 ≤ 2147483647
                       · by_cases h2 : q1 ≤ r2
                         · exact .inl ⟨h1, h2⟩
                         · exact .inr (.inr ⟨h1, h2⟩)
                       · exact .inr (.inl h1) : (q1 ≤ 2147483647 ∧ q1 ≤ r2) ∨ ¬ q1 ≤ 2147483647 ∨ (q1 ≤ 2147483647 ∧ ¬ q1 ≤ r2)) with ⟨hB1, hB2⟩ | hB1 | ⟨hB1, hB2⟩
            · have HRb := hide (HR2.out w16.drew (⟨hM.out.os, hM.out.tape, hM.out.output, hM.out.size, hM.out.block⟩) hB1 hB2)
              go_wp2
              go_region_held (fun W => W.cell? ⟨w14.heap.size, 4, none⟩ = some (.int .i64 q1)) (first | assumption | go_keep) (first | (go_at_call 17; refine Calls.mono HRb.out ?_; rintro e17 w17 ⟨rfl, hM2, hs17⟩))
              go_wp2
              go_ret
              exact ⟨rfl, belOn HB15.out HB15.out.size hM2.out⟩
            · go_wp2
              go_ret
              exact ⟨rfl, belOn HB15.out HB15.out.size (hM.out)⟩
            · go_wp2
              go_ret
              exact ⟨rfl, belOn HB15.out HB15.out.size (hM.out)⟩
          · rcases (by by_cases h1 : q1 ≤ 2147483647
                       · by_cases h2 : q1 ≤ r2
                         · exact .inl ⟨h1, h2⟩
                         · exact .inr (.inr ⟨h1, h2⟩)
                       · exact .inr (.inl h1) : (q1 ≤ 2147483647 ∧ q1 ≤ r2) ∨ ¬ q1 ≤ 2147483647 ∨ (q1 ≤ 2147483647 ∧ ¬ q1 ≤ r2)) with ⟨hB1, hB2⟩ | hB1 | ⟨hB1, hB2⟩
            · have HRb := hide (HR2.out V15.drew (⟨rfl, rfl, rfl, Nat.le_refl _, fun _ _ => rfl⟩) hB1 hB2)
              go_wp2_with (refine wpList_store_row rfl 66 (.tmp 25) (.tmp 125) rfl w15.heap.size (ty.st ([] : List (Int × Pd)).length ([] : List (Int × Pd)).length) rfl rfl 66 _ (heap_alloc_last w15 _) (st_size ..) (by kernel_rfl) (st_one ..) ?_; rw [World.setRow_alloc_new, HV15.out])
              go_region_held (fun W => W.cell? ⟨w14.heap.size, 4, none⟩ = some (.int .i64 q1)) (first | assumption | go_keep) (first | (go_at_call 17; refine Calls.mono HRb.out ?_; rintro e17 w17 ⟨rfl, hM2, hs17⟩))
              go_wp2_with (refine wpList_store_row rfl 66 (.tmp 25) (.tmp 125) rfl w15.heap.size (ty.st ([] : List (Int × Pd)).length ([] : List (Int × Pd)).length) rfl rfl 66 _ (heap_alloc_last w15 _) (st_size ..) (by kernel_rfl) (st_one ..) ?_; rw [World.setRow_alloc_new, HV15.out])
              go_ret
              exact ⟨rfl, belOn HB15.out HB15.out.size hM2.out⟩
            · go_wp2_with (refine wpList_store_row rfl 66 (.tmp 25) (.tmp 125) rfl w15.heap.size (ty.st ([] : List (Int × Pd)).length ([] : List (Int × Pd)).length) rfl rfl 66 _ (heap_alloc_last w15 _) (st_size ..) (by kernel_rfl) (st_one ..) ?_; rw [World.setRow_alloc_new, HV15.out])
              go_ret
              exact ⟨rfl, belOn HB15.out HB15.out.size (Below.refl _ _)⟩
            · go_wp2_with (refine wpList_store_row rfl 66 (.tmp 25) (.tmp 125) rfl w15.heap.size (ty.st ([] : List (Int × Pd)).length ([] : List (Int × Pd)).length) rfl rfl 66 _ (heap_alloc_last w15 _) (st_size ..) (by kernel_rfl) (st_one ..) ?_; rw [World.setRow_alloc_new, HV15.out])
              go_ret
              exact ⟨rfl, belOn HB15.out HB15.out.size (Below.refl _ _)⟩
          · rcases (by by_cases h1 : q1 ≤ 2147483647
                       · by_cases h2 : q1 ≤ r2
                         · exact .inl ⟨h1, h2⟩
                         · exact .inr (.inr ⟨h1, h2⟩)
                       · exact .inr (.inl h1) : (q1 ≤ 2147483647 ∧ q1 ≤ r2) ∨ ¬ q1 ≤ 2147483647 ∨ (q1 ≤ 2147483647 ∧ ¬ q1 ≤ r2)) with ⟨hB1, hB2⟩ | hB1 | ⟨hB1, hB2⟩
            · have HRb := hide (HR2.out V15.drew (⟨rfl, rfl, rfl, Nat.le_refl _, fun _ _ => rfl⟩) hB1 hB2)
              go_wp2_with (refine wpList_store_row rfl 66 (.tmp 25) (.tmp 125) rfl w15.heap.size (ty.st ([] : List (Int × Pd)).length ([] : List (Int × Pd)).length) rfl rfl 66 _ (heap_alloc_last w15 _) (st_size ..) (by kernel_rfl) (st_one ..) ?_; rw [World.setRow_alloc_new, HV15.out])
              go_region_held (fun W => W.cell? ⟨w14.heap.size, 4, none⟩ = some (.int .i64 q1)) (first | assumption | go_keep) (first | (go_at_call 17; refine Calls.mono HRb.out ?_; rintro e17 w17 ⟨rfl, hM2, hs17⟩))
              go_wp2_with (refine wpList_store_row rfl 66 (.tmp 25) (.tmp 125) rfl w15.heap.size (ty.st ([] : List (Int × Pd)).length ([] : List (Int × Pd)).length) rfl rfl 66 _ (heap_alloc_last w15 _) (st_size ..) (by kernel_rfl) (st_one ..) ?_; rw [World.setRow_alloc_new, HV15.out])
              go_ret
              exact ⟨rfl, belOn HB15.out HB15.out.size hM2.out⟩
            · go_wp2_with (refine wpList_store_row rfl 66 (.tmp 25) (.tmp 125) rfl w15.heap.size (ty.st ([] : List (Int × Pd)).length ([] : List (Int × Pd)).length) rfl rfl 66 _ (heap_alloc_last w15 _) (st_size ..) (by kernel_rfl) (st_one ..) ?_; rw [World.setRow_alloc_new, HV15.out])
              go_ret
              exact ⟨rfl, belOn HB15.out HB15.out.size (Below.refl _ _)⟩
            · go_wp2_with (refine wpList_store_row rfl 66 (.tmp 25) (.tmp 125) rfl w15.heap.size (ty.st ([] : List (Int × Pd)).length ([] : List (Int × Pd)).length) rfl rfl 66 _ (heap_alloc_last w15 _) (st_size ..) (by kernel_rfl) (st_one ..) ?_; rw [World.setRow_alloc_new, HV15.out])
              go_ret
              exact ⟨rfl, belOn HB15.out HB15.out.size (Below.refl _ _)⟩
end Go.Proofs.Ytondbhdlccpklaa
