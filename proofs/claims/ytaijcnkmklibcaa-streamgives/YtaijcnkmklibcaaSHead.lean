
/- Stage 6: in a header. -/
import Derived.Test.YtaijcnkmklibcaaSBase
namespace Go.Proofs.Ytaijcnkmklibcaa
open Go.RowKit Go.Deep
set_option linter.unusedVariables false
set_option linter.unusedSimpArgs false

set_option maxHeartbeats 2000000 in
set_option maxRecDepth 100000 in
theorem inHeader_any (S : Nat) (lim tk at_ sz kd er : Int) (hd : Bool) (mf : Value) (a : Option Addr) (n c : Nat) (l : List Nat) (p q e0 : Int) (w : World) (hS : StB w S lim tk at_ (.slice a n c) sz kd hd er mf) (hr : Rd w a n l) (hc : n ≤ c) (hnil : a = none → c = 0) (hn : n ≤ 281474976710656) (ht : rdH l 0 = (p, q, e0)) :
    Calls Try.prog 38 #[.pointer (some ⟨S, 0, none⟩)] w fun e w' => e = .returned (.tuple #[if e0 = 10 then it0 else itV 1 p 0 0 (.slice none 0 0) (.slice none 0 0), .int .i64 (if e0 = 10 then 0 else e0)]) ∧ StB w' S lim tk at_ (.slice a n c) sz (if e0 = 10 then kd else if p = 3 then 1 else 0) hd er mf ∧ Kp (fun k => k = S) w w' := by
  have HS := hide hS
  have HR := hide hr
  have HRH := hide (fun W (h : Rd W a n l) => readHeader_any a n c 0 l W h hc hn hnil)
  rw [ht] at HRH
  unfold trip at HRH
  clear hS hr ht hc hn hnil
  go_enter Try.func38, Try.ntmps38
  obtain ⟨s0, s1, s2, s3, s4, s5, s6, s7, s8⟩ := HS.out.cells
  have hSl := HS.out.lt
  go_wp2_with fail
  clear s0 s1 s2 s3 s4 s5 s6 s7 s8
  refine (HRH.out _ (HR.out.below (below_box w _))).mono ?_
  rintro e w1 ⟨rfl, hb⟩
  have HS1 : Hid (StB w1 S lim tk at_ (.slice a n c) sz kd hd er mf) := (HS.out.alloc _).below hb (by simp; omega)
  have HI1 : Hid (IZ w1 w.heap.size) := IB.below (IZ.new w) hb (by simp)
  have HB1 : Hid (Below w.heap.size w w1) := (below_box w _).trans (hb.mono (by simp))
  obtain ⟨z0, z1, z2, z3, z4, z5, z6, z7, z8⟩ := HS1.out.cells
  have zf := HS1.out.frozen 5
  obtain ⟨⟨i0, i1, i2, i3, i4, i5⟩, hif⟩ := HI1.out.facts
  have f0 := hif 0
  have f1 := hif 1
  have f2 := hif 2
  have f3 := hif 3
  have f4 := hif 4
  have f5 := hif 5
  have hlt1 : w.heap.size < w1.heap.size := HI1.out.lt
  have hne : S ≠ w.heap.size := by omega
  have hne2 : w.heap.size ≠ S := by omega
  clear hif hb
  by_cases he : e0 = 10
  · subst he
    go_wp2
    refine bodyPost_ret (v := .tuple #[it0, .int .i64 0]) (by simp [results, Try.results38, go_sem, i0, i1, i2, i3, i4, i5, hlt1, hne, hne2, it0, itV]) rfl ⟨rfl, ?_, ?_⟩
    · exact ((((((HS1.out).setOther hne2 _).setOther hne2 _).setOther hne2 _).setOther hne2 _).setOther hne2 _).setOther hne2 _
    · exact Kp.fresh (Kp.fresh (Kp.fresh (Kp.fresh (Kp.fresh (Kp.fresh (Kp.ofBelow HB1.out) (Nat.le_refl _) _) (Nat.le_refl _) _) (Nat.le_refl _) _) (Nat.le_refl _) _) (Nat.le_refl _) _) (Nat.le_refl _) _
  · go_wp2_with (go_at_call 50; refine (typeBehind_any p _).mono ?_; rintro e2 w2 ⟨rfl, rfl⟩)
    · refine bodyPost_ret (v := .tuple #[itV 1 3 0 0 (.slice none 0 0) (.slice none 0 0), .int .i64 e0]) (by simp [results, Try.results38, go_sem, i0, i1, i2, i3, i4, i5, hlt1, hne, hne2, it0, itV]) rfl ⟨rfl, ?_, ?_⟩
      · exact ((((((HS1.out.setKd 1).setOther hne2 _).setOther hne2 _).setOther hne2 _).setOther hne2 _).setOther hne2 _).setOther hne2 _
      · exact Kp.fresh (Kp.fresh (Kp.fresh (Kp.fresh (Kp.fresh (Kp.fresh (kp_self (Kp.ofBelow HB1.out) 5 (.int .i64 1)) (Nat.le_refl _) _) (Nat.le_refl _) _) (Nat.le_refl _) _) (Nat.le_refl _) _) (Nat.le_refl _) _) (Nat.le_refl _) _
    · refine bodyPost_ret (v := .tuple #[itV 1 p 0 0 (.slice none 0 0) (.slice none 0 0), .int .i64 e0]) (by simp [results, Try.results38, go_sem, i0, i1, i2, i3, i4, i5, hlt1, hne, hne2, it0, itV]) rfl ⟨rfl, ?_, ?_⟩
      · exact ((((((HS1.out.setKd 0).setOther hne2 _).setOther hne2 _).setOther hne2 _).setOther hne2 _).setOther hne2 _).setOther hne2 _
      · exact Kp.fresh (Kp.fresh (Kp.fresh (Kp.fresh (Kp.fresh (Kp.fresh (kp_self (Kp.ofBelow HB1.out) 5 (.int .i64 0)) (Nat.le_refl _) _) (Nat.le_refl _) _) (Nat.le_refl _) _) (Nat.le_refl _) _) (Nat.le_refl _) _) (Nat.le_refl _) _
end Go.Proofs.Ytaijcnkmklibcaa
