/- HFlV -/
import Derived.Test.YtgldcchleoklcaaGreatDoorF47
import Derived.Test.YtgldcchleoklcaaGreatDoorF45
namespace Go.Proofs.YtgldcchleoklcaaGreatDoor
open Go.RowKit
set_option linter.unusedVariables false
set_option linter.unusedSimpArgs false
theorem names_all : krows.all (fun r => decide ((nameOf r.1).data = r.2.1.data)) = true := by kernel_rfl
theorem rname_S (k : Int) (w : World) : Calls Tryz.prog 11 #[.int .i64 k] w fun e w' => e = .returned (.string (nameOf k)) ∧ Below w.heap.size w w' := by
  rcases rname_any k with ⟨r, hr, rfl, _, _, h⟩ | ⟨hn, h⟩
  · have e : nameOf r.1 = r.2.1 := by
      have := of_decide_eq_true (List.all_eq_true.1 names_all r hr)
      exact ByteArray.ext this
    rw [e]
    exact h w
  · have e : nameOf k = ⟨#[]⟩ := by
      unfold nameOf
      rw [List.find?_eq_none.2 (fun r hr => by simpa using hn r hr)]
      rfl
    rw [e]
    exact h w
theorem FieldsIn.fldsE {l : List FS} {W w w' : World} {a : Option Addr} {fs : List Fd} (h : FieldsIn l W a fs w) (hs : w.heap.size ≤ w'.heap.size) (hb : ∀ g, W.heap.size ≤ g → g < w.heap.size → w'.heap[g]? = w.heap[g]?) : Flds l w' a fs := by
  refine ⟨h.1, fun h0 => ?_, fun i hi hi' => ?_⟩
  · obtain ⟨b, e, h1, h2, h3⟩ := h.2.1 h0
    exact ⟨b, e, by omega, fun i hi j hj => (World.cell?_of_block (a := ⟨b, i * 9 + j, none⟩) (hb b h1 h2)).trans (h3 i hi j hj)⟩
  · obtain ⟨q1, q2, q3, q4, q5, q6, q7⟩ := h.2.2 i hi hi'
    refine ⟨q1, q2, q3, q4, q5, q6, fun h0 => ?_⟩
    obtain ⟨b, e, r1, r2, r3⟩ := q7 h0
    exact ⟨b, e, Nat.zero_le _, by omega, (hb b r1 r2).trans r3⟩
theorem TurnS.keepF {S : List Value} {a b : World} (h : TurnS S a b) {B : Nat} (hB : B ≤ a.heap.size) (hS : ∀ g ∈ blocksOf S, B ≤ g) : Below B a b :=
  ⟨h.os, h.tape, h.output, h.size, fun k hk => h.block k (Nat.lt_of_lt_of_le hk hB) (fun hm => by have := hS k hm; omega)⟩
set_option maxRecDepth 100000 in
set_option maxHeartbeats 8000000 in
theorem fields_walk (kind other : Int) (w : World) (hT : Lib.Utf8Tabs 0 1 w) :
    Calls Tryz.prog 3 #[.int .i64 kind, .int .i64 other] w fun e w' => e = .returned (.bool true) ∧ Below w.heap.size w w' := by
  have HLV := hide (live_any w hT)
  have HFK : Hid (∀ W, _) := fun W => fields_S kind W
  have HFO : Hid (∀ W, _) := fun W => fields_S other W
  have HRK : Hid (∀ W, _) := fun W => rfields_S kind W
  have HRO : Hid (∀ W, _) := fun W => rfields_S other W
  have HNK : Hid (∀ W, _) := fun W => name_any kind W
  have HNR : Hid (∀ W, _) := fun W => rname_S kind W
  obtain ⟨c1, c2, c3, c4⟩ := ftl_ok kind
  obtain ⟨d1, d2, d3, d4⟩ := ftl_ok other
  generalize ftl kind = l1 at HFK HRK c1 c2 c3 c4
  generalize ftl other = l2 at HFO HRO d1 d2 d3 d4
  generalize (ftab kind).isSome = ok1 at HFK HRK
  generalize (ftab other).isSome = ok2 at HFO HRO
  generalize nameOf kind = nm at HNK HNR
  have HC := hide (And.intro c1 (And.intro c3 c4))
  have HD := hide (And.intro d1 (And.intro d3 d4))
  have HS1 : Hid (∀ (a b : Option Addr) (cb : Nat) (fs gs : List Fd) (W : World), Flds l1 W a fs → Flds l1 W b gs → Calls Tryz.prog 12 #[.slice a l1.length l1.length, .slice b l1.length cb] W fun e w' => e = .returned (.bool true) ∧ Below W.heap.size W w') := fun a b cb fs gs W h1 h2 => sameFields_any l1 _ rfl c2 c1 (fun f hf => by have := c3 f hf; omega) a b _ cb fs gs W h1 h2
  have HS2 : Hid (∀ (a b : Option Addr) (cb : Nat) (fs gs : List Fd) (W : World), Flds l2 W a fs → Flds l2 W b gs → Calls Tryz.prog 12 #[.slice a l2.length l2.length, .slice b l2.length cb] W fun e w' => e = .returned (.bool true) ∧ Below W.heap.size W w') := fun a b cb fs gs W h1 h2 => sameFields_any l2 _ rfl d2 d1 (fun f hf => by have := d3 f hf; omega) a b _ cb fs gs W h1 h2
  clear hT c1 c3 c4 d1 d3 d4
  go_enter Tryz.func3, Tryz.ntmps3
  go_wp2_with fail
  refine HLV.out.mono ?_
  rintro e0 w1 ⟨rfl, hb1⟩
  have hs1 := hb1.size
  have HB1 := hide hb1
  clear hb1
  go_wp2_with fail
  refine (HFK.out w1).mono ?_
  rintro e1 w2 ⟨aa, fa, rfl, HA, hb2⟩
  have hs2 := hb2.size
  have HB2 := hide hb2
  clear hb2
  go_wp2_with fail
  refine (HRK.out w2).mono ?_
  rintro e2 w3 ⟨ab, cb, fb, rfl, HB, hcb, hb3⟩
  have hs3 := hb3.size
  have HB3 := hide hb3
  clear hb3
  go_wp2_with fail
  refine (HNK.out w3).mono ?_
  rintro e3 w4 ⟨rfl, hb4⟩
  have hs4 := hb4.size
  have HB4 := hide hb4
  clear hb4
  go_wp2_with fail
  refine (HNR.out w4).mono ?_
  rintro e4 w5 ⟨rfl, hb5⟩
  have hs5 := hb5.size
  have HB5 := hide hb5
  clear hb5
  go_wp2_with fail
  refine (HFK.out w5).mono ?_
  rintro e5 w6 ⟨ag, fg, rfl, HG, hb6⟩
  have hs6 := hb6.size
  have HB6 := hide hb6
  clear hb6
  go_wp2_with fail
  refine (HFO.out w6).mono ?_
  rintro e6 w7 ⟨ac, fc, rfl, HCc, hb7⟩
  have hs7 := hb7.size
  have HB7 := hide hb7
  clear hb7
  go_wp2_with fail
  refine (HRO.out w7).mono ?_
  rintro e7 w8 ⟨ad, cd, fd, rfl, HDd, hcd, hb8⟩
  have hs8 := hb8.size
  have HB8 := hide hb8
  clear hb8
  have HX78 := HB8
  have HX68 := hide (belOn HB7.out hs7 HX78.out)
  have HX58 := hide (belOn HB6.out hs6 HX68.out)
  have HX48 := hide (belOn HB5.out hs5 HX58.out)
  have HX38 := hide (belOn HB4.out hs4 HX48.out)
  have HX28 := hide (belOn HB3.out hs3 HX38.out)
  have HX18 := hide (belOn HB2.out hs2 HX28.out)
  have HX08 := hide (belOn HB1.out hs1 HX18.out)
  go_wp2_with fail
  refine (HS1.out aa ab cb fa fb w8 (HA.out.1.flds HX28.out) (HB.out.flds HX38.out)).mono ?_
  rintro e8 w9 ⟨rfl, hb9⟩
  have hs9 := hb9.size
  have HB9 := hide hb9
  clear hb9
  go_wp2_with fail
  refine (HS1.out ag ab cb fg fb w9 (HG.out.1.flds (belOn HX68.out (by omega) HB9.out)) (HB.out.flds (belOn HX38.out (by omega) HB9.out))).mono ?_
  rintro e9 w10 ⟨rfl, hb10⟩
  have hs10 := hb10.size
  have HB10 := hide (belOn HB9.out hs9 hb10)
  clear hb10
  go_wp2_with fail
  refine (HS2.out ac ad cd fc fd w10 (HCc.out.1.flds (belOn HX78.out (by omega) HB10.out)) (HDd.out.flds HB10.out)).mono ?_
  rintro e10 w11 ⟨rfl, hb11⟩
  have hs11 := hb11.size
  have HB11 := hide (belOn HB10.out (by omega) hb11)
  clear hb11
  obtain ⟨W9, hW9⟩ : ∃ W9, w11.alloc (Obj.cells #[.slice aa l1.length l1.length, .slice ag l1.length l1.length, .slice ac l2.length l2.length] 23) = W9 := ⟨_, rfl⟩
  have HW9 := hide hW9
  have hsW : W9.heap.size = w11.heap.size + 1 := by rw [← hW9]; simp
  have HBW : Hid (Below w8.heap.size w8 W9) := by rw [← hW9]; exact bel1 HB11.out HB11.out.size _
  have HBX : Hid (W9.heap[w11.heap.size]? = some (.cells #[.slice aa l1.length l1.length, .slice ag l1.length l1.length, .slice ac l2.length l2.length] 23 (0, 0))) := by rw [← hW9]; exact World.alloc_heap_new _ _
  have hle : w11.heap.size ≤ W9.heap.size := by omega
  have hfg :=
    fgiven (HA.out.lst (belOn HX28.out (by omega) HBW.out)) (HG.out.lst (belOn HX68.out (by omega) HBW.out)) (HCc.out.lst (belOn HX78.out (by omega) HBW.out)) (by omega) (Nat.le_refl _) (by omega) c2 c2 d2 HC.out.2.1 HC.out.2.1 HD.out.2.1 HC.out.2.2 HC.out.2.2 HD.out.2.2 HBX.out
  have HGV := hide hfg.1
  have HGR := hide hfg.2
  clear hfg
  have HOWN := hide (fieldsOwned_any _ _ _ _ _ HGV.out)
  have HBF : Hid (∀ w12, TurnS ([.slice aa l1.length l1.length, .slice ag l1.length l1.length, .slice ac l2.length l2.length] ++ (KSof fa ++ (KSof fg ++ KSof fc))) W9 w12 → Below w.heap.size w w12 ∧ ∀ w13, Below w12.heap.size w12 w13 → Flds l1 w13 ab fb) := fun w12 ht => by
    refine ⟨(belOn HX08.out (by omega) HBW.out).trans (ht.keepF (by omega) (fun g hg => by have := HGR.out g hg; omega)), fun w13 h13 => ?_⟩
    refine HB.out.fldsE (by have := ht.size; have := h13.size; omega) (fun g g1 g2 => ?_)
    have q1 : W9.heap[g]? = w3.heap[g]? := (belOn HX38.out (by omega) HBW.out).block g g2
    have q2 : w12.heap[g]? = W9.heap[g]? := ht.block g (by omega) (fun hm => by have := HGR.out g hm; omega)
    exact ((h13.block g (by have := ht.size; omega)).trans q2).trans q1
  clear hW9 hsW HBX HGV HGR
  go_wp2_with fail
  rw [HW9.out]
  refine HOWN.out.mono ?_
  rintro e11 w12 ⟨rfl, HT12⟩
  obtain ⟨hbw12, hfl⟩ := HBF.out w12 HT12.out
  have HBW12 := hide hbw12
  have HFL := hide hfl
  have hs12 := HT12.out.size
  clear hbw12 hfl
  go_wp2_with fail
  refine (HFK.out w12).mono ?_
  rintro e12 w13 ⟨al, fl, rfl, HLl, hb13⟩
  have hs13 := hb13.size
  have HB13 := hide hb13
  clear hb13
  go_wp2_with fail
  refine (HS1.out al ab cb fl fb w13 (HLl.out.1.flds (Below.refl _ _)) (HFL.out _ HB13.out)).mono ?_
  rintro e13 w14 ⟨rfl, hb14⟩
  have HB14 := hide (belOn (belOn HBW12.out (by have := HBW12.out.size; omega) HB13.out) (by have := HBW12.out.size; omega) hb14)
  clear hb14
  go_wp2
  go_ret
  exact ⟨by simp, HB14.out⟩
end Go.Proofs.YtgldcchleoklcaaGreatDoor
