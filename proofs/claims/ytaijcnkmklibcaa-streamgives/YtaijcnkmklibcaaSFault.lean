
/- Stage 6: what is wrong with what is held of a frame; the size, the offset, the type. -/
import Derived.Test.YtaijcnkmklibcaaSBase
import Derived.Test.YtaijcnkmklibcaaFOpA
namespace Go.Proofs.Ytaijcnkmklibcaa
open Go.RowKit Go.Deep
set_option linter.unusedVariables false
set_option linter.unusedSimpArgs false

/-- what Open finds wrong, but that it is not whole -/
def flt (l : List Nat) (most : Int) : Int := if opE l 0 most = 10 then 0 else opE l 0 most
set_option maxHeartbeats 2000000 in
set_option maxRecDepth 100000 in
theorem fault_any (S : Nat) (lim tk at_ sz kd er : Int) (hd : Bool) (mf : Value) (a : Option Addr) (n c : Nat) (l : List Nat) (most : Int) (w : World) (hS : StB w S lim tk at_ (.slice a n c) sz kd hd er mf) (hr : Rd w a n l) (hc : n ≤ c) (hn : n ≤ 281474976710656) :
    Calls Try.prog 62 #[.pointer (some ⟨S, 0, none⟩), .int .i64 most] w fun e w' => e = .returned (.int .i64 (flt l most)) ∧ Below w.heap.size w w' := by
  have HS := hide hS
  have HO := hide (open_any a n c 0 most l w hr hc hn)
  unfold frO frV at HO
  have HFL : Hid (flt l most = if opE l 0 most = 10 then 0 else opE l 0 most) := rfl
  generalize opE l 0 most = E at *
  generalize opK l 0 most = K at *
  generalize opC l 0 most = C at *
  generalize opN l 0 most = N at *
  clear hS hr hc hn
  go_enter Try.func62, Try.ntmps62
  obtain ⟨s0, s1, s2, s3, s4, s5, s6, s7, s8⟩ := HS.out.cells
  have hSl := HS.out.lt
  go_wp2_with fail
  clear s0 s1 s2 s3 s4 s5 s6 s7 s8
  refine HO.out.mono ?_
  rintro e w1 ⟨o1, o2, rfl, _, _, _, _, _, hb⟩
  have HB := hide hb
  clear hb
  generalize (o1.map (fun g => (⟨g, 0, none⟩ : Addr))) = A1 at *
  generalize (o2.map (fun g => (⟨g, 0, none⟩ : Addr))) = A2 at *
  by_cases hE : E = 10
  · subst hE
    go_wp2
    go_ret
    exact ⟨by rw [HFL.out]; rfl, HB.out.alloc HB.out.size _⟩
  · go_wp2
    go_ret
    exact ⟨by rw [HFL.out, if_neg hE]; rfl, HB.out.alloc HB.out.size _⟩
end Go.Proofs.Ytaijcnkmklibcaa
