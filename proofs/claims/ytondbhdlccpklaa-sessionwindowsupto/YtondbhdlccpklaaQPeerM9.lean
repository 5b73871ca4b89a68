import Derived.Test.YtondbhdlccpklaaQNewM9
import Derived.WalkLawsBesides
import Derived.Handy
import Derived.Outline
import Derived.Deep.QuietTactic
import Derived.Deep.RegionHeld

/- Stage 13: serial numbers (the texts of stage 1). -/
namespace Go.Proofs.Ytondbhdlccpklaa
open Go.RowKit
set_option linter.unusedVariables false
theorem ret_int {k : IntKind} {a b : Int} (h : a = b) : Ending.returned (.int k a) = .returned (.int k b) := by rw [h]
theorem add_any (a b : Int) (w : World) :
    Calls Try.prog 62 #[.int .i64 a, .int .i64 b] w fun e w' => e = .returned (.int .i64 ((a + b) % 4294967296)) ∧ w = w' := by
  go_enter Try.func62, Try.ntmps62
  go_wp2
  go_ret
  exact ⟨rfl, rfl⟩
/-- the gap, as a number -/
def gapZ (a b : Int) : Int := (b - a + 2147483648) % 4294967296 - 2147483648
theorem gap_any (a b : Int) (w : World) :
    Calls Try.prog 53 #[.int .i64 a, .int .i64 b] w fun e w' => e = .returned (.int .i64 (gapZ a b)) ∧ w = w' := by
  go_enter Try.func53, Try.ntmps53
  go_wp2
  go_ret
  exact ⟨ret_int (by simp only [gapZ, wrap64, wrap32]; omega), rfl⟩


theorem tmod_cases (a : Int) : (0 ≤ a ∧ a.tmod 4294967296 = a % 4294967296) ∨ (a < 0 ∧ a.tmod 4294967296 = -((-a) % 4294967296)) := by
  by_cases h : 0 ≤ a
  · exact .inl ⟨h, Int.tmod_eq_emod_of_nonneg h⟩
  · refine .inr ⟨by omega, ?_⟩
    have := Int.neg_tmod (-a) 4294967296
    rw [Int.neg_neg] at this
    rw [this, Int.tmod_eq_emod_of_nonneg (show 0 ≤ -a by omega)]
theorem cut_any (a : Int) (w : World) :
    Calls Try.prog 79 #[.int .i64 a] w fun e w' => e = .returned (.int .i64 (a % 4294967296)) ∧ w = w' := by
  go_enter Try.func79, Try.ntmps79
  go_wp2
  · have h : a.tmod 4294967296 < 0 := by assumption
    go_ret
    refine ⟨ret_int ?_, rfl⟩
    have := tmod_cases a
    unfold wrap64
    omega
  · have h : 0 ≤ a.tmod 4294967296 := by assumption
    go_ret
    refine ⟨ret_int ?_, rfl⟩
    have := tmod_cases a
    omega
theorem radd_any (a b : Int) (w : World) :
    Calls Try.prog 66 #[.int .i64 a, .int .i64 b] w fun e w' => e = .returned (.int .i64 ((a + b) % 4294967296)) ∧ w = w' := by
  have ha : 0 ≤ a % 4294967296 := by omega
  have ha2 : a % 4294967296 ≤ 4294967295 := by omega
  have hb : 0 ≤ b % 4294967296 := by omega
  have hb2 : b % 4294967296 ≤ 4294967295 := by omega
  have HE : Hid ((a + b) % 4294967296 = (a % 4294967296 + b % 4294967296) % 4294967296) := by show _ = _; omega
  have ca := hide (cut_any a w)
  have cb := hide (cut_any b w)
  generalize a % 4294967296 = x at *
  generalize b % 4294967296 = y at *
  go_enter Try.func66, Try.ntmps66
  go_wp2_with fail
  refine ca.out.mono ?_
  rintro e w1 ⟨rfl, rfl⟩
  go_wp2_with fail
  refine cb.out.mono ?_
  rintro e w1 ⟨rfl, rfl⟩
  go_wp2
  go_ret
  exact ⟨ret_int (by rw [HE.out]), rfl⟩
theorem rgap_any (a b : Int) (w : World) :
    Calls Try.prog 67 #[.int .i64 a, .int .i64 b] w fun e w' => e = .returned (.int .i64 (gapZ a b)) ∧ w = w' := by
  have ha : 0 ≤ a % 4294967296 := by omega
  have ha2 : a % 4294967296 ≤ 4294967295 := by omega
  have hb : 0 ≤ b % 4294967296 := by omega
  have hb2 : b % 4294967296 ≤ 4294967295 := by omega
  have HE : Hid (gapZ a b = (b % 4294967296 - a % 4294967296 + 2147483648) % 4294967296 - 2147483648) := by show _ = _; unfold gapZ; omega
  have ca := hide (cut_any a w)
  have cb := hide (cut_any b w)
  generalize a % 4294967296 = x at *
  generalize b % 4294967296 = y at *
  generalize gapZ a b = G at *
  go_enter Try.func67, Try.ntmps67
  go_wp2_with fail
  refine ca.out.mono ?_
  rintro e w1 ⟨rfl, rfl⟩
  go_wp2_with fail
  refine cb.out.mono ?_
  rintro e w1 ⟨rfl, rfl⟩
  have HC : (2147483648 ≤ y - x) ∨ (y - x < 2147483648 ∧ y - x < -2147483648) ∨ (-2147483648 ≤ y - x ∧ y - x < 2147483648) := by omega
  rcases HC with h | ⟨h, h2⟩ | ⟨h, h2⟩
  all_goals
    go_wp2
    go_ret
    refine ⟨ret_int ?_, rfl⟩
    rw [HE.out]
    omega
end Go.Proofs.Ytondbhdlccpklaa


/- Stage 13: windows. -/
namespace Go.Proofs.Ytondbhdlccpklaa
open Go.RowKit Go.Maps
set_option linter.unusedVariables false
set_option linter.unusedSimpArgs false

/-- every number of a session is a word -/
structure Sn.ok (s : Sn) : Prop where
  no : 0 ≤ s.no ∧ s.no ≤ 4294967295
  ow : 0 ≤ s.ow ∧ s.ow ≤ 4294967295
  ni : 0 ≤ s.ni ∧ s.ni ≤ 4294967295
  iw : 0 ≤ s.iw ∧ s.iw ≤ 4294967295
  ri : 0 ≤ s.ri ∧ s.ri ≤ 2147483647
  ro : 0 ≤ s.ro ∧ s.ro ≤ 4294967295
  nd : 0 ≤ s.nd ∧ s.nd ≤ 4294967295
  hm : 0 ≤ s.hm ∧ s.hm ≤ 4294967295
  rh : 0 ≤ s.rh ∧ s.rh ≤ 4294967295
  fi : 0 ≤ s.fi ∧ s.fi ≤ 4294967295
theorem bel_drew (w : World) : Below w.heap.size w w.drew := ⟨rfl, rfl, rfl, Nat.le_refl _, fun _ _ => rfl⟩
theorem kp_self {g : Nat} {w w' : World} (h : Kp (fun k => k = g) w w') (o : Nat) (v : Value) : Kp (fun k => k = g) w (w'.setCell ⟨g, o, none⟩ v) := Kp.setCell h rfl v
theorem SB.alloc {w : World} {g : Nat} {s : Sn} (h : SB w g s) (o : Obj) : SB (w.alloc o) g s := heap_past h o
theorem SB.cast {w : World} {g : Nat} {s s' : Sn} (h : SB w g s) (e : s = s') : SB w g s' := e ▸ h
def lesser (a b : Int) : Int := if b < a then b else a
def greater (a b : Int) : Int := if a < b then b else a
def Sn.room (s : Sn) : Int := if s.peer then lesser s.ri s.ow else 0
set_option maxRecDepth 100000 in
theorem room_any (g : Nat) (s : Sn) (w : World) (hS : SB w g s) :
    Calls Try.prog 17 #[.pointer (some ⟨g, 0, none⟩)] w fun e w' => e = .returned (.int .i64 s.room) ∧ Below w.heap.size w w' := by
  obtain ⟨s0, s1, s2, s3, s4, s5, s6, s7, s8, s9, s10, s11, s12, s13, s14, s15, s16⟩ := hS.facts
  have hl := hS.lt
  clear hS
  unfold Sn.room
  obtain ⟨peer, no, ow, ni, iw, ri, ro, nd, hm, rh, fi, bh, br, bs, bc⟩ := s
  cases peer
  · go_enter Try.func17, Try.ntmps17
    go_wp2
    go_ret
    exact ⟨rfl, Below.refl _ _⟩
  · go_enter Try.func17, Try.ntmps17
    go_wp2
    go_region
    go_wp2
    all_goals
      go_ret
      exact ⟨ret_int (by show _ = lesser ri ow; unfold lesser; split <;> first | rfl | omega), bel_drew _⟩
def Sn.sent (s : Sn) : Sn := { s with no := (s.no + 1) % 4294967296, ri := s.ri - 1 }
set_option maxRecDepth 100000 in
theorem sent_no (g : Nat) (s : Sn) (w : World) (hS : SB w g s) (hr : s.room = 0) :
    Calls Try.prog 49 #[.pointer (some ⟨g, 0, none⟩)] w fun e w' => e = .returned (.int .i64 130) ∧ Below w.heap.size w w' := by
  have HR := hide (room_any g s w hS)
  rw [hr] at HR
  clear hS hr
  go_enter Try.func49, Try.ntmps49
  go_wp2_with (go_at_call 17; refine HR.out.mono ?_; rintro e1 w1 ⟨rfl, hb1⟩)
  go_ret
  exact ⟨rfl, hb1⟩
set_option maxRecDepth 100000 in
theorem sent_yes (g : Nat) (s : Sn) (w : World) (hS : SB w g s) (ho : s.ok) (hr : s.room ≠ 0) :
    Calls Try.prog 49 #[.pointer (some ⟨g, 0, none⟩)] w fun e w' => e = .returned (.int .i64 0) ∧ SB w' g s.sent ∧ Kp (fun k => k = g) w w' := by
  have HR := hide (room_any g s w hS)
  have HS := hide hS
  have hri := ho.ri
  obtain ⟨r, er⟩ : ∃ r, r = s.room := ⟨_, rfl⟩
  rw [← er] at HR hr
  have hrb : (r == 0) = false := by simp [hr]
  clear hS er hr ho
  go_enter Try.func49, Try.ntmps49
  go_wp2_with fail
  refine HR.out.mono ?_
  rintro e1 w1 ⟨rfl, hb1⟩
  have H1 := hide (HS.out.at (hb1.block g HS.out.lt))
  have HB := hide hb1
  obtain ⟨s0, s1, s2, s3, s4, s5, s6, s7, s8, s9, s10, s11, s12, s13, s14, s15, s16⟩ := H1.out.facts
  have f1 := H1.out.frozen 1
  have f5 := H1.out.frozen 5
  have hl := H1.out.lt
  clear hb1
  go_wp2_with (go_at_call 62; refine (add_any _ _ _).mono ?_; rintro e2 w2 ⟨rfl, rfl⟩)
  go_ret
  exact ⟨rfl, (H1.out.set_no _).set_ri _, kp_self (kp_self (Kp.ofBelow HB.out) _ _) _ _⟩
def Sn.got (s : Sn) : Sn := { s with ni := (s.ni + 1) % 4294967296, iw := s.iw - 1, ro := greater 0 (s.ro - 1) }
def Sn.gotE (s : Sn) : Int := if s.peer then (if s.iw = 0 then 130 else 0) else 4
set_option maxRecDepth 100000 in
theorem got_no (g : Nat) (s : Sn) (w : World) (hS : SB w g s) (hr : s.gotE ≠ 0) :
    Calls Try.prog 51 #[.pointer (some ⟨g, 0, none⟩)] w fun e w' => e = .returned (.int .i64 s.gotE) ∧ w' = w := by
  obtain ⟨s0, s1, s2, s3, s4, s5, s6, s7, s8, s9, s10, s11, s12, s13, s14, s15, s16⟩ := hS.facts
  have hl := hS.lt
  clear hS
  unfold Sn.gotE at *
  obtain ⟨peer, no, ow, ni, iw, ri, ro, nd, hm, rh, fi, bh, br, bs, bc⟩ := s
  cases peer
  · clear hr
    go_enter Try.func51, Try.ntmps51
    go_wp2
    go_ret
    exact ⟨rfl, rfl⟩
  · by_cases hi : iw = 0
    · subst hi
      clear hr
      go_enter Try.func51, Try.ntmps51
      go_wp2
      go_ret
      exact ⟨rfl, rfl⟩
    · simp [hi] at hr
set_option maxRecDepth 100000 in
theorem got_yes (g : Nat) (s : Sn) (w : World) (hS : SB w g s) (ho : s.ok) (hr : s.gotE = 0) :
    Calls Try.prog 51 #[.pointer (some ⟨g, 0, none⟩)] w fun e w' => e = .returned (.int .i64 0) ∧ SB w' g s.got ∧ Kp (fun k => k = g) w w' := by
  have HS := hide hS
  obtain ⟨s0, s1, s2, s3, s4, s5, s6, s7, s8, s9, s10, s11, s12, s13, s14, s15, s16⟩ := hS.facts
  have hl := hS.lt
  have f3 := hS.frozen 3
  have f4 := hS.frozen 4
  have f6 := hS.frozen 6
  have hiw := ho.iw
  have hro := ho.ro
  clear hS ho
  unfold Sn.gotE at *
  obtain ⟨peer, no, ow, ni, iw, ri, ro, nd, hm, rh, fi, bh, br, bs, bc⟩ := s
  cases peer
  · simp at hr
  · by_cases hi : iw = 0
    · subst hi
      simp at hr
    · clear hr
      have hib : (iw == 0) = false := by simp [hi]
      dsimp only at hiw hro
      go_enter Try.func51, Try.ntmps51
      go_wp2_with (go_at_call 62; refine (add_any _ _ _).mono ?_; rintro e2 w2 ⟨rfl, rfl⟩)
      all_goals
        go_ret
        exact ⟨rfl, (((HS.out.set_ni _).set_iw _).set_ro _).cast (by simp only [Sn.got, greater]; congr 1; first | (rw [if_pos (by omega)]; done) | (rw [if_neg (by omega)]; done)), kp_self (kp_self (kp_self (Kp.refl _ _) _ _) _ _) _ _⟩
set_option maxRecDepth 100000 in
theorem widen_no (g : Nat) (n : Int) (w : World) (hn : isW n = false) :
    Calls Try.prog 50 #[.pointer (some ⟨g, 0, none⟩), .int .i64 n] w fun e w' => e = .returned (.int .i64 1) ∧ Below w.heap.size w w' := by
  have HW := hide (areWords_any w.heap.size [n] (w.alloc (.cells #[.int .i64 n] 3)) (by simp) (by simp) (by
    intro j hj
    obtain rfl : j = 0 := by simp at hj; omega
    simp))
  rw [show [n].all isW = false by simp [hn]] at HW
  clear hn
  go_enter Try.func50, Try.ntmps50
  go_wp2_with (go_at_call 55; refine HW.out.mono ?_; rintro e1 w1 ⟨rfl, rfl⟩)
  go_ret
  exact ⟨rfl, bel1 (Below.refl _ _) (Nat.le_refl _) _⟩
set_option maxRecDepth 100000 in
theorem widen_yes (g : Nat) (s : Sn) (n : Int) (w : World) (hS : SB w g s) (hn : isW n = true) :
    Calls Try.prog 50 #[.pointer (some ⟨g, 0, none⟩), .int .i64 n] w fun e w' => e = .returned (.int .i64 0) ∧ SB w' g { s with iw := greater s.iw n } ∧ Kp (fun k => k = g) w w' := by
  have HW := hide (areWords_any w.heap.size [n] (w.alloc (.cells #[.int .i64 n] 3)) (by simp) (by simp) (by
    intro j hj
    obtain rfl : j = 0 := by simp at hj; omega
    simp))
  rw [show [n].all isW = true by simp [hn]] at HW
  clear hn
  have HS := hide hS
  obtain ⟨s0, s1, s2, s3, s4, s5, s6, s7, s8, s9, s10, s11, s12, s13, s14, s15, s16⟩ := hS.facts
  have f4 := hS.frozen 4
  have hl := hS.lt
  clear hS
  go_enter Try.func50, Try.ntmps50
  go_wp2_with (go_at_call 55; refine HW.out.mono ?_; rintro e1 w1 ⟨rfl, rfl⟩)
  all_goals
    go_ret
    exact ⟨rfl, ((HS.out.set_iw _).alloc _).cast (by simp only [greater]; congr 1; first | (rw [if_pos (by omega)]; done) | (rw [if_neg (by omega)]; done)), (kp_self (Kp.refl _ _) _ _).alloc _⟩
end Go.Proofs.Ytondbhdlccpklaa


/- Stage 13: Peer, State, Fields. -/
namespace Go.Proofs.Ytondbhdlccpklaa
open Go.RowKit Go.Maps
set_option linter.unusedVariables false
set_option linter.unusedSimpArgs false

def Sn.peered (s : Sn) (iw no ow hm : Int) : Sn := { s with peer := true, ni := no, ri := lesser iw 2147483647, ro := ow, rh := hm }
set_option maxRecDepth 100000 in
theorem peer_twice (g : Nat) (s : Sn) (A : Array Value) (w : World) (hS : SB w g s) (hp : s.peer = true) :
    Calls Try.prog 21 #[.pointer (some ⟨g, 0, none⟩), .agg A] w fun e w' => e = .returned (.int .i64 4) ∧ Below w.heap.size w w' := by
  obtain ⟨s0, s1, s2, s3, s4, s5, s6, s7, s8, s9, s10, s11, s12, s13, s14, s15, s16⟩ := hS.facts
  have hl := hS.lt
  rw [hp] at s0
  clear hS hp
  go_enter Try.func21, Try.ntmps21
  go_wp2
  go_ret
  exact ⟨rfl, bel1 (Below.refl _ _) (Nat.le_refl _) _⟩
set_option maxRecDepth 100000 in
theorem peer_no (g : Nat) (s : Sn) (A : Array Value) (ki ni iw no ow hm : Int) (w : World) (hS : SB w g s) (hp : s.peer = false) (hA : PfB A ki ni iw no ow hm) (hf : four ki iw no ow hm = false) :
    Calls Try.prog 21 #[.pointer (some ⟨g, 0, none⟩), .agg A] w fun e w' => e = .returned (.int .i64 1) ∧ Below w.heap.size w w' := by
  obtain ⟨s0, s1, s2, s3, s4, s5, s6, s7, s8, s9, s10, s11, s12, s13, s14, s15, s16⟩ := hS.facts
  have hl := hS.lt
  rw [hp] at s0
  have HM := hide (mayBegin_any A ki ni iw no ow hm hA (w.alloc (.cells A 39)))
  rw [hf] at HM
  have hs := hide hA.1
  clear hS hp hA hf
  go_enter Try.func21, Try.ntmps21
  go_wp2_with (first | (refine wpList_load_row rfl 39 (.tmp 3) rfl w.heap.size rfl 39 A (0, 0) _ (heap_alloc_last w _) Try.underlying39 rfl (pf_info hs.out) ?_) | (go_at_call 36; refine HM.out.mono ?_; rintro e1 w1 ⟨rfl, hb1⟩))
  go_ret
  exact ⟨rfl, belOn (bel1 (Below.refl _ _) (Nat.le_refl _) _) (by simp) hb1⟩
set_option maxRecDepth 100000 in
set_option maxHeartbeats 1000000 in
theorem peer_yes (g : Nat) (s : Sn) (A : Array Value) (ki ni iw no ow hm : Int) (w : World) (hS : SB w g s) (hp : s.peer = false) (hA : PfB A ki ni iw no ow hm) (hf : four ki iw no ow hm = true) :
    Calls Try.prog 21 #[.pointer (some ⟨g, 0, none⟩), .agg A] w fun e w' => e = .returned (.int .i64 0) ∧ SB w' g (s.peered iw no ow hm) ∧ Kp (fun k => k = g) w w' := by
  obtain ⟨s0, s1, s2, s3, s4, s5, s6, s7, s8, s9, s10, s11, s12, s13, s14, s15, s16⟩ := hS.facts
  have hl := hS.lt
  rw [hp] at s0
  have HS := hide hS
  have HM := hide (mayBegin_any A ki ni iw no ow hm hA (w.alloc (.cells A 39)))
  rw [hf] at HM
  obtain ⟨hs', h0, h12, h13, h14, h15, h16⟩ := hA
  have hs := hide hs'
  have HA := hide (And.intro h13 (And.intro h14 (And.intro h15 h16)))
  clear hf hs' h0 h12 h13 h14 h15 h16 hS hp
  go_enter Try.func21, Try.ntmps21
  go_wp2_with (refine wpList_load_row rfl 39 (.tmp 3) rfl w.heap.size rfl 39 A (0, 0) _ (heap_alloc_last w _) Try.underlying39 rfl (pf_info hs.out) ?_)
  refine HM.out.mono ?_
  rintro e1 w1 ⟨rfl, hb1⟩
  have hh : w1.heap[w.heap.size]? = some (.cells A 39 (0, 0)) := (hb1.block _ (by simp)).trans (heap_alloc_last w _)
  have c13 := cellOf hh 13 _ HA.out.1
  have c14 := cellOf hh 14 _ HA.out.2.1
  have c15 := cellOf hh 15 _ HA.out.2.2.1
  have c16 := cellOf hh 16 _ HA.out.2.2.2
  have HB : Hid (Below w.heap.size w w1) := belOn (bel1 (Below.refl _ _) (Nat.le_refl _) _) (by simp) hb1
  have H1 := hide (HS.out.at (HB.out.block g hl))
  have hlt : w.heap.size < w1.heap.size := (Array.getElem?_eq_some_iff.1 hh).1
  have hne : g ≠ w.heap.size := by omega
  have hne2 : w.heap.size ≠ g := by omega
  have hl1 := H1.out.lt
  clear s0 s1 s2 s3 s4 s5 s6 s7 s8 s9 s10 s11 s12 s13 s14 s15 s16
  obtain ⟨s0, s1, s2, s3, s4, s5, s6, s7, s8, s9, s10, s11, s12, s13, s14, s15, s16⟩ := H1.out.facts
  have f0 := H1.out.frozen 0
  have f3 := H1.out.frozen 3
  have f5 := H1.out.frozen 5
  have f6 := H1.out.frozen 6
  have f11 := H1.out.frozen 11
  clear hb1 hh HA HM hs
  go_wp2
  all_goals
    go_ret
    exact ⟨rfl, (((((H1.out.set_peer _).set_ni _).set_ri _).set_ro _).set_rh _).cast (by simp only [Sn.peered, lesser]; congr 1; split <;> first | rfl | omega), kp_self (kp_self (kp_self (kp_self (kp_self (Kp.ofBelow HB.out) _ _) _ _) _ _) _ _) _ _⟩
end Go.Proofs.Ytondbhdlccpklaa
