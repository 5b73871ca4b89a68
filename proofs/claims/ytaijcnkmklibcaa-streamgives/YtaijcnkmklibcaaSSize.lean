
/- Stage 6: in a size. -/
import Derived.Test.YtaijcnkmklibcaaSFault
namespace Go.Proofs.Ytaijcnkmklibcaa
open Go.RowKit Go.Deep
set_option linter.unusedVariables false
set_option linter.unusedSimpArgs false

set_option maxHeartbeats 2000000 in
set_option maxRecDepth 100000 in
theorem inSize_less (S : Nat) (lim tk at_ sz kd er : Int) (hd : Bool) (mf : Value) (a : Option Addr) (n c : Nat) (l : List Nat) (w : World) (hS : StB w S lim tk at_ (.slice a n c) sz kd hd er mf) (hr : Rd w a n l) (hc : n ≤ c) (hn : n ≤ 281474976710656) (h4 : n < 4) :
    Calls Try.prog 56 #[.pointer (some ⟨S, 0, none⟩)] w fun e w' => e = .returned (.tuple #[it0, .int .i64 0]) ∧ StB w' S lim tk at_ (.slice a n c) sz kd hd er mf ∧ Kp (fun k => k = S) w w' := by
  have h4' : (n : Int) < 4 := by omega
  have HS := hide hS
  have HR := hide hr
  clear hS hr
  go_enter Try.func56, Try.ntmps56
  obtain ⟨s0, s1, s2, s3, s4, s5, s6, s7, s8⟩ := HS.out.cells
  have hSl := HS.out.lt
  go_wp2
  refine bodyPost_ret (v := .tuple #[it0, .int .i64 0]) (by simp [results, Try.results56, go_sem, it0, itV]) rfl ⟨rfl, HS.out.alloc _, Kp.ofBelow (below_box w _)⟩
set_option maxHeartbeats 2000000 in
set_option maxRecDepth 100000 in
theorem inSize_magic (S : Nat) (lim tk at_ sz kd er : Int) (hd : Bool) (mf : Value) (a : Option Addr) (n c : Nat) (l : List Nat) (w : World) (hS : StB w S lim tk at_ (.slice a n c) sz kd hd er mf) (hr : Rd w a n l) (hc : n ≤ c) (hn : n ≤ 281474976710656) (h4 : n = 4) (hm : l = magic) :
    Calls Try.prog 56 #[.pointer (some ⟨S, 0, none⟩)] w fun e w' => e = .returned (.tuple #[it0, .int .i64 60]) ∧ StB w' S lim tk at_ (.slice a n c) sz kd hd er mf ∧ Kp (fun k => k = S) w w' := by
  have h4' : ¬ (n : Int) < 4 := by omega
  have HBE := hide (fun W (h : Rd W a n l) => begins_any a n c l W h h4)
  rw [decide_eq_true hm] at HBE
  clear h4 hm
  have HS := hide hS
  have HR := hide hr
  clear hS hr
  go_enter Try.func56, Try.ntmps56
  obtain ⟨s0, s1, s2, s3, s4, s5, s6, s7, s8⟩ := HS.out.cells
  have hSl := HS.out.lt
  go_wp2_with fail
  clear s0 s1 s2 s3 s4 s5 s6 s7 s8
  refine (HBE.out _ (HR.out.below (below_box w _))).mono ?_
  rintro e w1 ⟨rfl, hb⟩
  have HS1 : Hid (StB w1 S lim tk at_ (.slice a n c) sz kd hd er mf) := (HS.out.alloc _).below hb (by simp; omega)
  have HI1 : Hid (IZ w1 w.heap.size) := IB.below (IZ.new w) hb (by simp)
  have HB1 : Hid (Below w.heap.size w w1) := (below_box w _).trans (hb.mono (by simp))
  obtain ⟨z0, z1, z2, z3, z4, z5, z6, z7, z8⟩ := HS1.out.cells
  have zf := HS1.out.frozen
  have zf4 := zf 4
  have zf8 := zf 8
  obtain ⟨⟨i0, i1, i2, i3, i4, i5⟩, hif⟩ := HI1.out.facts
  have f0 := hif 0
  have f1 := hif 1
  have f2 := hif 2
  have f3 := hif 3
  have f4 := hif 4
  have f5 := hif 5
  have hlt1 : w.heap.size < w1.heap.size := HI1.out.lt
  have hne : S ≠ w.heap.size := by omega
  have hne2 : w.heap.size ≠ S := by omega
  clear hif hb zf
  go_wp2
  refine bodyPost_ret (v := .tuple #[it0, .int .i64 60]) (by simp [results, Try.results56, go_sem, i0, i1, i2, i3, i4, i5, hlt1, hne, hne2, it0, itV]) rfl ⟨rfl, ?_, ?_⟩
  · exact ((((((HS1.out).setOther hne2 _).setOther hne2 _).setOther hne2 _).setOther hne2 _).setOther hne2 _).setOther hne2 _
  · exact Kp.fresh (Kp.fresh (Kp.fresh (Kp.fresh (Kp.fresh (Kp.fresh (Kp.ofBelow HB1.out) (Nat.le_refl _) _) (Nat.le_refl _) _) (Nat.le_refl _) _) (Nat.le_refl _) _) (Nat.le_refl _) _) (Nat.le_refl _) _
set_option maxHeartbeats 2000000 in
set_option maxRecDepth 100000 in
theorem inSize_bad (S : Nat) (lim tk at_ sz kd er : Int) (hd : Bool) (mf : Value) (a : Option Addr) (n c : Nat) (l : List Nat) (w : World) (hS : StB w S lim tk at_ (.slice a n c) sz kd hd er mf) (hr : Rd w a n l) (hc : n ≤ c) (hn : n ≤ 281474976710656) (h4 : n = 4) (hm : ¬ l = magic) (F : Int) (hF : flt l lim = F) (hF0 : ¬ F = 0) :
    Calls Try.prog 56 #[.pointer (some ⟨S, 0, none⟩)] w fun e w' => e = .returned (.tuple #[it0, .int .i64 F]) ∧ StB w' S lim tk at_ (.slice a n c) sz kd hd er mf ∧ Kp (fun k => k = S) w w' := by
  have h4' : ¬ (n : Int) < 4 := by omega
  have HBE := hide (fun W (h : Rd W a n l) => begins_any a n c l W h h4)
  rw [decide_eq_false hm] at HBE
  have HFA := hide (fun W (h : StB W S lim tk at_ (.slice a n c) sz kd hd er mf) (h2 : Rd W a n l) => fault_any S lim tk at_ sz kd er hd mf a n c l lim W h h2 hc hn)
  rw [hF] at HFA
  clear h4 hm hF
  have HS := hide hS
  have HR := hide hr
  clear hS hr
  go_enter Try.func56, Try.ntmps56
  obtain ⟨s0, s1, s2, s3, s4, s5, s6, s7, s8⟩ := HS.out.cells
  have hSl := HS.out.lt
  go_wp2_with fail
  clear s0 s1 s2 s3 s4 s5 s6 s7 s8
  refine (HBE.out _ (HR.out.below (below_box w _))).mono ?_
  rintro e w0 ⟨rfl, hb0⟩
  have HS0 : Hid (StB w0 S lim tk at_ (.slice a n c) sz kd hd er mf) := (HS.out.alloc _).below hb0 (by simp; omega)
  have HR0 : Hid (Rd w0 a n l) := (HR.out.below (below_box w _)).below hb0
  obtain ⟨s0, s1, s2, s3, s4, s5, s6, s7, s8⟩ := HS0.out.cells
  have HB0 := hide hb0
  clear hb0
  go_wp2_with fail
  clear s0 s1 s2 s3 s4 s5 s6 s7 s8
  refine (HFA.out _ HS0.out HR0.out).mono ?_
  rintro e w1 ⟨rfl, hb1⟩
  have hb : Below (w.alloc (.cells #[.int .i64 0, .int .i64 0, .int .i64 0, .int .i64 0, .slice none 0 0, .slice none 0 0] 51)).heap.size (w.alloc (.cells #[.int .i64 0, .int .i64 0, .int .i64 0, .int .i64 0, .slice none 0 0, .slice none 0 0] 51)) w1 := HB0.out.trans (hb1.mono HB0.out.size)
  have HR1 := hide (HR0.out.below hb1)
  clear hb1
  have HS1 : Hid (StB w1 S lim tk at_ (.slice a n c) sz kd hd er mf) := (HS.out.alloc _).below hb (by simp; omega)
  have HI1 : Hid (IZ w1 w.heap.size) := IB.below (IZ.new w) hb (by simp)
  have HB1 : Hid (Below w.heap.size w w1) := (below_box w _).trans (hb.mono (by simp))
  obtain ⟨z0, z1, z2, z3, z4, z5, z6, z7, z8⟩ := HS1.out.cells
  have zf := HS1.out.frozen
  have zf4 := zf 4
  have zf8 := zf 8
  obtain ⟨⟨i0, i1, i2, i3, i4, i5⟩, hif⟩ := HI1.out.facts
  have f0 := hif 0
  have f1 := hif 1
  have f2 := hif 2
  have f3 := hif 3
  have f4 := hif 4
  have f5 := hif 5
  have hlt1 : w.heap.size < w1.heap.size := HI1.out.lt
  have hne : S ≠ w.heap.size := by omega
  have hne2 : w.heap.size ≠ S := by omega
  clear hif hb zf
  go_wp2
  refine bodyPost_ret (v := .tuple #[it0, .int .i64 F]) (by simp [results, Try.results56, go_sem, i0, i1, i2, i3, i4, i5, hlt1, hne, hne2, it0, itV]) rfl ⟨rfl, ?_, ?_⟩
  · exact ((((((HS1.out).setOther hne2 _).setOther hne2 _).setOther hne2 _).setOther hne2 _).setOther hne2 _).setOther hne2 _
  · exact Kp.fresh (Kp.fresh (Kp.fresh (Kp.fresh (Kp.fresh (Kp.fresh (Kp.ofBelow HB1.out) (Nat.le_refl _) _) (Nat.le_refl _) _) (Nat.le_refl _) _) (Nat.le_refl _) _) (Nat.le_refl _) _) (Nat.le_refl _) _
set_option maxHeartbeats 2000000 in
set_option maxRecDepth 100000 in
theorem inSize_ok (S : Nat) (lim tk at_ sz kd er : Int) (hd : Bool) (mf : Value) (a : Option Addr) (n c : Nat) (l : List Nat) (w : World) (hS : StB w S lim tk at_ (.slice a n c) sz kd hd er mf) (hr : Rd w a n l) (hc : n ≤ c) (hn : n ≤ 281474976710656) (h4 : n = 4) (hm : ¬ l = magic) (hF : flt l lim = 0) :
    Calls Try.prog 56 #[.pointer (some ⟨S, 0, none⟩)] w fun e w' => e = .returned (.tuple #[it0, .int .i64 0]) ∧ StB w' S lim tk at_ (.slice a n c) ((getN (l.take 4) : Nat) : Int) kd hd er (mfn S 2) ∧ Kp (fun k => k = S) w w' := by
  have h4' : ¬ (n : Int) < 4 := by omega
  have HBE := hide (fun W (h : Rd W a n l) => begins_any a n c l W h h4)
  rw [decide_eq_false hm] at HBE
  have HFA := hide (fun W (h : StB W S lim tk at_ (.slice a n c) sz kd hd er mf) (h2 : Rd W a n l) => fault_any S lim tk at_ sz kd er hd mf a n c l lim W h h2 hc hn)
  rw [hF] at HFA
  have HGE : Hid (∀ W, Rd W a n l → Calls Try.prog 63 #[.slice a n c, .int .i64 0, .int .i64 4] W fun e w' => e = .returned (.tuple #[.int .u64 ((getN (l.take 4) : Nat) : Int), .int .i64 0]) ∧ W = w') := fun W h => by
    have := get_yes a n c 0 4 l W (by omega) (by omega) (by omega) hc hn h
    rw [List.drop_zero] at this
    exact this
  have hG : getN (l.take 4) < 4294967296 := by
    have h1 := getN_lt (l.take 4) (fun c hc' => hr.2.1 c (List.mem_of_mem_take hc'))
    have h2 : (l.take 4).length = 4 := by rw [List.length_take, hr.1]; omega
    rw [h2] at h1
    exact h1
  generalize getN (l.take 4) = G at *
  have hGw : IntKind.i64.wrap (G : Int) = (G : Int) := by rw [IntKind.wrap_i64]; omega
  clear h4 hm hF
  have HS := hide hS
  have HR := hide hr
  clear hS hr
  go_enter Try.func56, Try.ntmps56
  obtain ⟨s0, s1, s2, s3, s4, s5, s6, s7, s8⟩ := HS.out.cells
  have hSl := HS.out.lt
  go_wp2_with fail
  clear s0 s1 s2 s3 s4 s5 s6 s7 s8
  refine (HBE.out _ (HR.out.below (below_box w _))).mono ?_
  rintro e w0 ⟨rfl, hb0⟩
  have HS0 : Hid (StB w0 S lim tk at_ (.slice a n c) sz kd hd er mf) := (HS.out.alloc _).below hb0 (by simp; omega)
  have HR0 : Hid (Rd w0 a n l) := (HR.out.below (below_box w _)).below hb0
  obtain ⟨s0, s1, s2, s3, s4, s5, s6, s7, s8⟩ := HS0.out.cells
  have HB0 := hide hb0
  clear hb0
  go_wp2_with fail
  clear s0 s1 s2 s3 s4 s5 s6 s7 s8
  refine (HFA.out _ HS0.out HR0.out).mono ?_
  rintro e w1 ⟨rfl, hb1⟩
  have hb : Below (w.alloc (.cells #[.int .i64 0, .int .i64 0, .int .i64 0, .int .i64 0, .slice none 0 0, .slice none 0 0] 51)).heap.size (w.alloc (.cells #[.int .i64 0, .int .i64 0, .int .i64 0, .int .i64 0, .slice none 0 0, .slice none 0 0] 51)) w1 := HB0.out.trans (hb1.mono HB0.out.size)
  have HR1 := hide (HR0.out.below hb1)
  clear hb1
  have HS1 : Hid (StB w1 S lim tk at_ (.slice a n c) sz kd hd er mf) := (HS.out.alloc _).below hb (by simp; omega)
  have HI1 : Hid (IZ w1 w.heap.size) := IB.below (IZ.new w) hb (by simp)
  have HB1 : Hid (Below w.heap.size w w1) := (below_box w _).trans (hb.mono (by simp))
  obtain ⟨z0, z1, z2, z3, z4, z5, z6, z7, z8⟩ := HS1.out.cells
  have zf := HS1.out.frozen
  have zf4 := zf 4
  have zf8 := zf 8
  obtain ⟨⟨i0, i1, i2, i3, i4, i5⟩, hif⟩ := HI1.out.facts
  have f0 := hif 0
  have f1 := hif 1
  have f2 := hif 2
  have f3 := hif 3
  have f4 := hif 4
  have f5 := hif 5
  have hlt1 : w.heap.size < w1.heap.size := HI1.out.lt
  have hne : S ≠ w.heap.size := by omega
  have hne2 : w.heap.size ≠ S := by omega
  clear hif hb zf
  go_wp2_with (go_at_call 63; refine (HGE.out _ HR1.out).mono ?_; rintro e2 w2 ⟨rfl, rfl⟩)
  refine bodyPost_ret (v := .tuple #[it0, .int .i64 0]) (by simp [results, Try.results56, go_sem, i0, i1, i2, i3, i4, i5, hlt1, hne, hne2, it0, itV]) rfl ⟨rfl, ?_, ?_⟩
  · exact (((((((HS1.out.setSz (G : Int)).setMf (mfn S 2)).setOther hne2 _).setOther hne2 _).setOther hne2 _).setOther hne2 _).setOther hne2 _).setOther hne2 _
  · exact Kp.fresh (Kp.fresh (Kp.fresh (Kp.fresh (Kp.fresh (Kp.fresh (kp_self (kp_self (Kp.ofBelow HB1.out) 4 (.int .i64 (G : Int))) 8 (mfn S 2)) (Nat.le_refl _) _) (Nat.le_refl _) _) (Nat.le_refl _) _) (Nat.le_refl _) _) (Nat.le_refl _) _) (Nat.le_refl _) _
end Go.Proofs.Ytaijcnkmklibcaa
