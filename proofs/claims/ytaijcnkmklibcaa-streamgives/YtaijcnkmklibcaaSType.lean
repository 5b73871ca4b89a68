
/- Stage 6: the offset, the type. -/
import Derived.Test.YtaijcnkmklibcaaSFault
namespace Go.Proofs.Ytaijcnkmklibcaa
open Go.RowKit Go.Deep
set_option linter.unusedVariables false
set_option linter.unusedSimpArgs false

set_option maxHeartbeats 2000000 in
set_option maxRecDepth 100000 in
theorem inOffset_any (S : Nat) (lim tk at_ sz kd er : Int) (hd : Bool) (mf : Value) (a : Option Addr) (n c : Nat) (l : List Nat) (w : World) (hS : StB w S lim tk at_ (.slice a n c) sz kd hd er mf) (hr : Rd w a n l) (hc : n ≤ c) (hn : n ≤ 281474976710656) (hbS : ∀ b o, a = some ⟨b, o, none⟩ → b ≠ S) :
    Calls Try.prog 64 #[.pointer (some ⟨S, 0, none⟩)] w fun e w' => e = .returned (.tuple #[it0, .int .i64 (flt l 1048576)]) ∧ StB w' S lim tk at_ (.slice a n c) sz kd hd er (mfn S 3) ∧ Kp (fun k => k = S) w w' := by
  have HS := hide hS
  have HR := hide hr
  have HFA := hide (fun W (h : StB W S lim tk at_ (.slice a n c) sz kd hd er (mfn S 3)) (h2 : Rd W a n l) => fault_any S lim tk at_ sz kd er hd (mfn S 3) a n c l 1048576 W h h2 hc hn)
  generalize flt l 1048576 = F at *
  have hSl := hS.lt
  have hne : S ≠ w.heap.size := by omega
  have hne2 : w.heap.size ≠ S := by omega
  have hSa := (hS.alloc (.cells #[.int .i64 0, .int .i64 0, .int .i64 0, .int .i64 0, .slice none 0 0, .slice none 0 0] 51)).cells
  obtain ⟨s0, s1, s2, s3, s4, s5, s6, s7, s8⟩ := hSa
  have zf := (hS.alloc (.cells #[.int .i64 0, .int .i64 0, .int .i64 0, .int .i64 0, .slice none 0 0, .slice none 0 0] 51)).frozen 8
  clear hS hr hc hn
  go_enter Try.func64, Try.ntmps64
  go_wp2_with fail
  clear s0 s1 s2 s3 s4 s5 s6 s7 s8 zf
  have HSA : Hid (StB ((w.setCell ⟨S, 8, none⟩ (mfn S 3)).alloc (.cells #[.int .i64 0, .int .i64 0, .int .i64 0, .int .i64 0, .slice none 0 0, .slice none 0 0] 51)) S lim tk at_ (.slice a n c) sz kd hd er (mfn S 3)) := (HS.out.setMf (mfn S 3)).alloc _
  have HRA : Hid (Rd ((w.setCell ⟨S, 8, none⟩ (mfn S 3)).alloc (.cells #[.int .i64 0, .int .i64 0, .int .i64 0, .int .i64 0, .slice none 0 0, .slice none 0 0] 51)) a n l) := (rd_set HR.out hbS 8 _).below (below_box _ _)
  have HKA : Hid (Kp (fun k => k = S) w ((w.setCell ⟨S, 8, none⟩ (mfn S 3)).alloc (.cells #[.int .i64 0, .int .i64 0, .int .i64 0, .int .i64 0, .slice none 0 0, .slice none 0 0] 51))) := (kp_self (Kp.refl _ w) 8 _).below (below_box _ _)
  have HIA : Hid (IZ ((w.setCell ⟨S, 8, none⟩ (mfn S 3)).alloc (.cells #[.int .i64 0, .int .i64 0, .int .i64 0, .int .i64 0, .slice none 0 0, .slice none 0 0] 51)) w.heap.size) := by
    have h := IZ.new (w.setCell ⟨S, 8, none⟩ (mfn S 3))
    rw [show (w.setCell ⟨S, 8, none⟩ (mfn S 3)).heap.size = w.heap.size by simp] at h
    exact h
  refine (HFA.out _ HSA.out HRA.out).mono ?_
  rintro e w1 ⟨rfl, hb⟩
  have HS1 : Hid (StB w1 S lim tk at_ (.slice a n c) sz kd hd er (mfn S 3)) := HSA.out.below hb (by simp; omega)
  have HI1 : Hid (IZ w1 w.heap.size) := IB.below HIA.out hb (by simp)
  have HK1 : Hid (Kp (fun k => k = S) w w1) := HKA.out.below hb
  obtain ⟨⟨i0, i1, i2, i3, i4, i5⟩, hif⟩ := HI1.out.facts
  have f0 := hif 0
  have f1 := hif 1
  have f2 := hif 2
  have f3 := hif 3
  have f4 := hif 4
  have f5 := hif 5
  have hlt1 : w.heap.size < w1.heap.size := HI1.out.lt
  clear hif hb
  go_wp2
  refine bodyPost_ret (v := .tuple #[it0, .int .i64 F]) (by simp [results, Try.results64, go_sem, i0, i1, i2, i3, i4, i5, hlt1, hne, hne2, it0, itV]) rfl ⟨rfl, ?_, ?_⟩
  · exact ((((((HS1.out).setOther hne2 _).setOther hne2 _).setOther hne2 _).setOther hne2 _).setOther hne2 _).setOther hne2 _
  · exact Kp.fresh (Kp.fresh (Kp.fresh (Kp.fresh (Kp.fresh (Kp.fresh (HK1.out) (Nat.le_refl _) _) (Nat.le_refl _) _) (Nat.le_refl _) _) (Nat.le_refl _) _) (Nat.le_refl _) _) (Nat.le_refl _) _
set_option maxHeartbeats 2000000 in
set_option maxRecDepth 100000 in
theorem inType_bad (S : Nat) (lim tk at_ sz kd er : Int) (hd : Bool) (mf : Value) (a : Option Addr) (n c : Nat) (l : List Nat) (w : World) (hS : StB w S lim tk at_ (.slice a n c) sz kd hd er mf) (hr : Rd w a n l) (hc : n ≤ c) (hn : n ≤ 281474976710656) (F : Int) (hF : flt l 1048576 = F) (hF0 : ¬ F = 0) :
    Calls Try.prog 68 #[.pointer (some ⟨S, 0, none⟩)] w fun e w' => e = .returned (.tuple #[it0, .int .i64 F]) ∧ StB w' S lim tk at_ (.slice a n c) sz kd hd er mf ∧ Kp (fun k => k = S) w w' := by
  have HS := hide hS
  have HR := hide hr
  have HFA := hide (fun W (h : StB W S lim tk at_ (.slice a n c) sz kd hd er mf) (h2 : Rd W a n l) => fault_any S lim tk at_ sz kd er hd mf a n c l 1048576 W h h2 hc hn)
  rw [hF] at HFA
  have hSl := hS.lt
  have hne : S ≠ w.heap.size := by omega
  have hne2 : w.heap.size ≠ S := by omega
  clear hS hr hF
  go_enter Try.func68, Try.ntmps68
  go_wp2_with fail
  refine (HFA.out _ (HS.out.alloc _) (HR.out.below (below_box w _))).mono ?_
  rintro e w1 ⟨rfl, hb⟩
  have HS1 : Hid (StB w1 S lim tk at_ (.slice a n c) sz kd hd er mf) := (HS.out.alloc _).below hb (by simp; omega)
  have HI1 : Hid (IZ w1 w.heap.size) := IB.below (IZ.new w) hb (by simp)
  have HB1 : Hid (Below w.heap.size w w1) := (below_box w _).trans (hb.mono (by simp))
  have HR1 : Hid (Rd w1 a n l) := (HR.out.below (below_box w _)).below hb
  obtain ⟨z0, z1, z2, z3, z4, z5, z6, z7, z8⟩ := HS1.out.cells
  have zf8 := HS1.out.frozen 8
  obtain ⟨⟨i0, i1, i2, i3, i4, i5⟩, hif⟩ := HI1.out.facts
  have f0 := hif 0
  have f1 := hif 1
  have f2 := hif 2
  have f3 := hif 3
  have f4 := hif 4
  have f5 := hif 5
  have hlt1 : w.heap.size < w1.heap.size := HI1.out.lt
  clear hif
  clear hb
  go_wp2
  refine bodyPost_ret (v := .tuple #[it0, .int .i64 F]) (by simp [results, Try.results68, go_sem, i0, i1, i2, i3, i4, i5, hlt1, hne, hne2, it0, itV]) rfl ⟨rfl, ?_, ?_⟩
  · exact ((((((HS1.out).setOther hne2 _).setOther hne2 _).setOther hne2 _).setOther hne2 _).setOther hne2 _).setOther hne2 _
  · exact Kp.fresh (Kp.fresh (Kp.fresh (Kp.fresh (Kp.fresh (Kp.fresh (Kp.ofBelow HB1.out) (Nat.le_refl _) _) (Nat.le_refl _) _) (Nat.le_refl _) _) (Nat.le_refl _) _) (Nat.le_refl _) _) (Nat.le_refl _) _
set_option maxHeartbeats 2000000 in
set_option maxRecDepth 100000 in
theorem inType_order (S : Nat) (lim tk at_ sz kd er : Int) (hd : Bool) (mf : Value) (a : Option Addr) (n c : Nat) (l : List Nat) (w : World) (hS : StB w S lim tk at_ (.slice a n c) sz kd hd er mf) (hr : Rd w a n l) (hc : n ≤ c) (hn : n ≤ 281474976710656) (h6 : 6 ≤ n) (hF : flt l 1048576 = 0) (hk : ¬ ((l.getD 5 0 : Nat) : Int) = kd) :
    Calls Try.prog 68 #[.pointer (some ⟨S, 0, none⟩)] w fun e w' => e = .returned (.tuple #[it0, .int .i64 60]) ∧ StB w' S lim tk at_ (.slice a n c) sz kd hd er mf ∧ Kp (fun k => k = S) w w' := by
  have HS := hide hS
  have HR := hide hr
  have HFA := hide (fun W (h : StB W S lim tk at_ (.slice a n c) sz kd hd er mf) (h2 : Rd W a n l) => fault_any S lim tk at_ sz kd er hd mf a n c l 1048576 W h h2 hc hn)
  rw [hF] at HFA
  have hSl := hS.lt
  have hne : S ≠ w.heap.size := by omega
  have hne2 : w.heap.size ≠ S := by omega
  clear hS hr hF
  go_enter Try.func68, Try.ntmps68
  go_wp2_with fail
  refine (HFA.out _ (HS.out.alloc _) (HR.out.below (below_box w _))).mono ?_
  rintro e w1 ⟨rfl, hb⟩
  have HS1 : Hid (StB w1 S lim tk at_ (.slice a n c) sz kd hd er mf) := (HS.out.alloc _).below hb (by simp; omega)
  have HI1 : Hid (IZ w1 w.heap.size) := IB.below (IZ.new w) hb (by simp)
  have HB1 : Hid (Below w.heap.size w w1) := (below_box w _).trans (hb.mono (by simp))
  have HR1 : Hid (Rd w1 a n l) := (HR.out.below (below_box w _)).below hb
  obtain ⟨z0, z1, z2, z3, z4, z5, z6, z7, z8⟩ := HS1.out.cells
  have zf8 := HS1.out.frozen 8
  obtain ⟨⟨i0, i1, i2, i3, i4, i5⟩, hif⟩ := HI1.out.facts
  have f0 := hif 0
  have f1 := hif 1
  have f2 := hif 2
  have f3 := hif 3
  have f4 := hif 4
  have f5 := hif 5
  have hlt1 : w.heap.size < w1.heap.size := HI1.out.lt
  clear hif
  clear hb
  obtain ⟨b, off, rfl, hb1, hcc⟩ := HR1.out.2.2 (by omega)
  have hc5 := hcc 5 (by omega)
  have hy : l.getD 5 0 < 256 := HR.out.lt _ (by omega)
  generalize l.getD 5 0 = y at *
  have hyw : IntKind.i64.wrap (y : Int) = (y : Int) := by rw [IntKind.wrap_i64]; omega
  have h5n : (5 : Int) < (n : Int) := by omega
  clear hcc
  go_wp2
  go_quiet (fail)
  have HSq : Hid (StB (w1.drewN nq) S lim tk at_ (.slice (some ⟨b, off, none⟩) n c) sz kd hd er mf) := HS1.out.below (below_drewN (Below.refl _ _) nq) HS1.out.lt
  go_wp2
  refine bodyPost_ret (v := .tuple #[it0, .int .i64 60]) (by simp [results, Try.results68, go_sem, i0, i1, i2, i3, i4, i5, hlt1, hne, hne2, it0, itV]) rfl ⟨rfl, ?_, ?_⟩
  · exact ((((((HSq.out).setOther hne2 _).setOther hne2 _).setOther hne2 _).setOther hne2 _).setOther hne2 _).setOther hne2 _
  · exact Kp.fresh (Kp.fresh (Kp.fresh (Kp.fresh (Kp.fresh (Kp.fresh (Kp.ofBelow (below_drewN HB1.out nq)) (Nat.le_refl _) _) (Nat.le_refl _) _) (Nat.le_refl _) _) (Nat.le_refl _) _) (Nat.le_refl _) _) (Nat.le_refl _) _
set_option maxHeartbeats 2000000 in
set_option maxRecDepth 100000 in
theorem inType_ok (S : Nat) (lim tk at_ sz kd er : Int) (hd : Bool) (mf : Value) (a : Option Addr) (n c : Nat) (l : List Nat) (w : World) (hS : StB w S lim tk at_ (.slice a n c) sz kd hd er mf) (hr : Rd w a n l) (hc : n ≤ c) (hn : n ≤ 281474976710656) (h6 : 6 ≤ n) (hF : flt l 1048576 = 0) (hk : ((l.getD 5 0 : Nat) : Int) = kd) :
    Calls Try.prog 68 #[.pointer (some ⟨S, 0, none⟩)] w fun e w' => e = .returned (.tuple #[it0, .int .i64 0]) ∧ StB w' S lim tk at_ (.slice a n c) sz kd hd er (mfn S 4) ∧ Kp (fun k => k = S) w w' := by
  have HS := hide hS
  have HR := hide hr
  have HFA := hide (fun W (h : StB W S lim tk at_ (.slice a n c) sz kd hd er mf) (h2 : Rd W a n l) => fault_any S lim tk at_ sz kd er hd mf a n c l 1048576 W h h2 hc hn)
  rw [hF] at HFA
  have hSl := hS.lt
  have hne : S ≠ w.heap.size := by omega
  have hne2 : w.heap.size ≠ S := by omega
  clear hS hr hF
  go_enter Try.func68, Try.ntmps68
  go_wp2_with fail
  refine (HFA.out _ (HS.out.alloc _) (HR.out.below (below_box w _))).mono ?_
  rintro e w1 ⟨rfl, hb⟩
  have HS1 : Hid (StB w1 S lim tk at_ (.slice a n c) sz kd hd er mf) := (HS.out.alloc _).below hb (by simp; omega)
  have HI1 : Hid (IZ w1 w.heap.size) := IB.below (IZ.new w) hb (by simp)
  have HB1 : Hid (Below w.heap.size w w1) := (below_box w _).trans (hb.mono (by simp))
  have HR1 : Hid (Rd w1 a n l) := (HR.out.below (below_box w _)).below hb
  obtain ⟨z0, z1, z2, z3, z4, z5, z6, z7, z8⟩ := HS1.out.cells
  have zf8 := HS1.out.frozen 8
  obtain ⟨⟨i0, i1, i2, i3, i4, i5⟩, hif⟩ := HI1.out.facts
  have f0 := hif 0
  have f1 := hif 1
  have f2 := hif 2
  have f3 := hif 3
  have f4 := hif 4
  have f5 := hif 5
  have hlt1 : w.heap.size < w1.heap.size := HI1.out.lt
  clear hif
  clear hb
  obtain ⟨b, off, rfl, hb1, hcc⟩ := HR1.out.2.2 (by omega)
  have hc5 := hcc 5 (by omega)
  have hy : l.getD 5 0 < 256 := HR.out.lt _ (by omega)
  generalize l.getD 5 0 = y at *
  have hyw : IntKind.i64.wrap (y : Int) = (y : Int) := by rw [IntKind.wrap_i64]; omega
  have h5n : (5 : Int) < (n : Int) := by omega
  clear hcc
  go_wp2
  go_quiet (fail)
  have HSq : Hid (StB (w1.drewN nq) S lim tk at_ (.slice (some ⟨b, off, none⟩) n c) sz kd hd er mf) := HS1.out.below (below_drewN (Below.refl _ _) nq) HS1.out.lt
  go_wp2
  refine bodyPost_ret (v := .tuple #[it0, .int .i64 0]) (by simp [results, Try.results68, go_sem, i0, i1, i2, i3, i4, i5, hlt1, hne, hne2, it0, itV]) rfl ⟨rfl, ?_, ?_⟩
  · exact ((((((HSq.out.setMf (mfn S 4)).setOther hne2 _).setOther hne2 _).setOther hne2 _).setOther hne2 _).setOther hne2 _).setOther hne2 _
  · exact Kp.fresh (Kp.fresh (Kp.fresh (Kp.fresh (Kp.fresh (Kp.fresh (kp_self (Kp.ofBelow (below_drewN HB1.out nq)) 8 (mfn S 4)) (Nat.le_refl _) _) (Nat.le_refl _) _) (Nat.le_refl _) _) (Nat.le_refl _) _) (Nat.le_refl _) _) (Nat.le_refl _) _
end Go.Proofs.Ytaijcnkmklibcaa
