import Derived.Test.YtondbhdlccpklaaQRefNM9
import Derived.Test.YtondbhdlccpklaaQSameM9

/- Stage 13: the document's lists that are read: used, numbered, Local. -/
namespace Go.Proofs.Ytondbhdlccpklaa
open Go.RowKit Go.Maps
set_option linter.unusedVariables false
set_option linter.unusedSimpArgs false

def RdI (w : World) (a : Option Addr) (hs : List Int) : Prop := ∀ j (hj : j < hs.length), ∃ g, a = some ⟨g, 0, none⟩ ∧ g < w.heap.size ∧ w.cell? ⟨g, j, none⟩ = some (.int .i64 hs[j])
def RdR (w : World) (a : Option Addr) (rs : List (Int × Int)) : Prop := ∀ j (hj : j < rs.length), ∃ g, a = some ⟨g, 0, none⟩ ∧ g < w.heap.size ∧ w.cell? ⟨g, j * 2, none⟩ = some (.int .i64 rs[j].1) ∧ w.cell? ⟨g, j * 2 + 1, none⟩ = some (.int .i64 rs[j].2)
theorem any_hit {A : Type} {l : List A} {p : A → Bool} {j : Nat} (hj : j < l.length) (h : p l[j] = true) : l.any p = true := List.any_eq_true.2 ⟨_, List.getElem_mem hj, h⟩
theorem any_miss {A : Type} {l : List A} {p : A → Bool} (h : ∀ j (hj : j < l.length), p l[j] = false) : l.any p = false := by
  rw [← Bool.not_eq_true, List.any_eq_true]
  rintro ⟨x, hx, hp⟩
  obtain ⟨j, hj, rfl⟩ := List.mem_iff_getElem.1 hx
  rw [h j hj] at hp
  cases hp
set_option maxRecDepth 100000 in
set_option maxHeartbeats 1000000 in
theorem used_any (g : Nat) (s : Sn) (a : Option Addr) (c : Nat) (vr vs va : Value) (hs : List Int) (h : Int) (w : World) (hS : RB w g s (.slice a hs.length c) vr vs va) (ha : RdI w a hs) (hl : hs.length ≤ 4294967296) :
    Calls Try.prog 64 #[.pointer (some ⟨g, 0, none⟩), .int .i64 h] w fun e w' => e = .returned (.bool (hs.any (· == h))) ∧ w' = w := by
  obtain ⟨s0, s1, s2, s3, s4, s5, s6, s7, s8, s9, s10, s11, s12, s13, s14, s15, s16⟩ := hS.facts
  have hlt := hS.lt
  have HA := hide ha
  obtain ⟨n, hn⟩ : ∃ n, n = hs.length := ⟨_, rfl⟩
  rw [← hn] at s13 hl
  have HN := hide hn
  clear hS ha hn s0 s1 s2 s3 s4 s5 s6 s7 s8 s9 s10 s11 s12 s14 s15 s16
  go_enter Try.func64, Try.ntmps64
  go_wp2
  go_loopw [5] (fun i wr => ∃ j : Nat, i = .int .i64 j ∧ j ≤ n ∧ w = wr ∧ Hid (∀ x (hx : x < hs.length), x < j → (hs[x] == h) = false)) (fun i _ => n - (intOf i).toNat)
  case atStart => exact ⟨0, rfl, Nat.zero_le _, rfl, fun x _ h => by omega⟩
  case round =>
    obtain ⟨j, rfl, hj, rfl, hm⟩ := hrel
    by_cases hjn : j < n
    · have hjh : j < hs.length := by have := HN.out; omega
      obtain ⟨b, rfl, hb, hc⟩ := HA.out j hjh
      obtain ⟨x0, hx0⟩ : ∃ x0, x0 = hs[j] := ⟨_, rfl⟩
      rw [← hx0] at hc
      have HX := hide hx0
      clear hx0
      by_cases hx : x0 = h
      · have HR : Hid (hs.any (· == h) = true) := any_hit hjh (by rw [← HX.out]; simp [hx])
        have hxb : (x0 == h) = true := by simp [hx]
        go_wp2
        go_ret
        exact ⟨congrArg (fun b => Ending.returned (.bool b)) HR.out.symm, rfl⟩
      · have hxb : (x0 == h) = false := by simp [hx]
        have hjb : (j : Int) ≤ 4294967296 := by omega
        have HM : Hid (∀ x (hx : x < hs.length), x < j + 1 → (hs[x] == h) = false) := fun x hx' hxj => by
          by_cases e : x = j
          · subst e
            rw [← HX.out]
            exact hxb
          · exact hm.out x hx' (by omega)
        go_wp2
        go_roundw
        case rel => exact ⟨j + 1, by go_num, by omega, by trivial, HM.out⟩
        case measure => simp [intOf]; omega
    · obtain rfl : j = n := by omega
      have HR : Hid (hs.any (· == h) = false) := any_miss (fun x hx => hm.out x hx (by have := HN.out; omega))
      go_wp2
      go_ret
      exact ⟨congrArg (fun b => Ending.returned (.bool b)) HR.out.symm, rfl⟩
set_option maxRecDepth 100000 in
set_option maxHeartbeats 1000000 in
theorem numbered_any (a : Option Addr) (c : Nat) (hs : List Pd) (h : Int) (w : World) (ha : RdP w a hs) (hl : hs.length ≤ 4294967296) :
    Calls Try.prog 65 #[.slice a hs.length c, .int .i64 h] w fun e w' => e = .returned (.bool (hs.any (·.1 == h))) ∧ w' = w := by
  have HA := hide ha
  obtain ⟨n, hn⟩ : ∃ n, n = hs.length := ⟨_, rfl⟩
  rw [← hn] at hl ⊢
  have HN := hide hn
  clear ha hn
  go_enter Try.func65, Try.ntmps65
  go_wp2
  go_loopw [5] (fun i wr => ∃ j : Nat, i = .int .i64 j ∧ j ≤ n ∧ w = wr ∧ Hid (∀ x (hx : x < hs.length), x < j → (hs[x].1 == h) = false)) (fun i _ => n - (intOf i).toNat)
  case atStart => exact ⟨0, rfl, Nat.zero_le _, rfl, fun x _ h => by omega⟩
  case round =>
    obtain ⟨j, rfl, hj, rfl, hm⟩ := hrel
    by_cases hjn : j < n
    · have hjh : j < hs.length := by have := HN.out; omega
      obtain ⟨b, rfl, hb, hc, hc1, hc2⟩ := HA.out j hjh
      obtain ⟨x0, hx0⟩ : ∃ x0, x0 = hs[j].1 := ⟨_, rfl⟩
      rw [← hx0] at hc
      have HX := hide hx0
      clear hx0 hc1 hc2
      by_cases hx : x0 = h
      · have HR : Hid (hs.any (·.1 == h) = true) := any_hit hjh (by rw [← HX.out]; simp [hx])
        have hxb : (x0 == h) = true := by simp [hx]
        go_wp2
        go_ret
        exact ⟨congrArg (fun b => Ending.returned (.bool b)) HR.out.symm, rfl⟩
      · have hxb : (x0 == h) = false := by simp [hx]
        have hjb : (j : Int) ≤ 4294967296 := by omega
        have HM : Hid (∀ x (hx : x < hs.length), x < j + 1 → (hs[x].1 == h) = false) := fun x hx' hxj => by
          by_cases e : x = j
          · subst e
            rw [← HX.out]
            exact hxb
          · exact hm.out x hx' (by omega)
        go_wp2
        go_roundw
        case rel => exact ⟨j + 1, by go_num, by omega, by trivial, HM.out⟩
        case measure => simp [intOf]; omega
    · obtain rfl : j = n := by omega
      have HR : Hid (hs.any (·.1 == h) = false) := any_miss (fun x hx => hm.out x hx (by have := HN.out; omega))
      go_wp2
      go_ret
      exact ⟨congrArg (fun b => Ending.returned (.bool b)) HR.out.symm, rfl⟩
theorem two_ret {i i' : Int} {b b' : Bool} (h : i = i') (h' : b = b') : Ending.returned (.tuple #[.int .i64 i, .bool b]) = .returned (.tuple #[.int .i64 i', .bool b']) := by rw [h, h']
theorem lu_first {hs : List (Int × Int)} {h : Int} : ∀ {j : Nat} (hj : j < hs.length), hs[j].1 = h → (∀ x (hx : x < hs.length), x < j → hs[x].1 ≠ h) → lu 0 hs h = hs[j].2 ∧ hasK hs h = true := by
  induction hs with
  | nil => intro j hj; simp at hj
  | cons p t ih =>
    intro j hj he hm
    cases j with
    | zero =>
      simp at he
      simp [lu, hasK, he]
    | succ j =>
      have h0 : p.1 ≠ h := hm 0 (by simp) (by omega)
      have := ih (j := j) (by simpa using hj) (by simpa using he) (fun x hx hxj => hm (x + 1) (by simpa using hx) (by omega))
      have e0 : (p.1 == h) = false := by simp [h0]
      refine ⟨?_, ?_⟩
      · unfold lu
        rw [List.find?_cons, e0]
        exact this.1
      · unfold hasK
        rw [List.any_cons, e0, Bool.false_or]
        exact this.2
theorem lu_miss {hs : List (Int × Int)} {h : Int} (hm : ∀ x (hx : x < hs.length), hs[x].1 ≠ h) : lu 0 hs h = 0 ∧ hasK hs h = false := by
  induction hs with
  | nil => exact ⟨rfl, rfl⟩
  | cons p t ih =>
    have h0 : p.1 ≠ h := hm 0 (by simp)
    have := ih (fun x hx => hm (x + 1) (by simpa using hx))
    have e0 : (p.1 == h) = false := by simp [h0]
    refine ⟨?_, ?_⟩
    · unfold lu
      rw [List.find?_cons, e0]
      exact this.1
    · unfold hasK
      rw [List.any_cons, e0, Bool.false_or]
      exact this.2
set_option maxRecDepth 100000 in
set_option maxHeartbeats 1000000 in
theorem rlocal_any (g : Nat) (s : Sn) (a : Option Addr) (c : Nat) (vh vs va : Value) (hs : List (Int × Int)) (h : Int) (w : World) (hS : RB w g s vh (.slice a hs.length c) vs va) (ha : RdR w a hs) (hl : hs.length ≤ 4294967296) :
    Calls Try.prog 47 #[.pointer (some ⟨g, 0, none⟩), .int .i64 h] w fun e w' => e = .returned (.tuple #[.int .i64 (lu 0 hs h), .bool (hasK hs h)]) ∧ w' = w := by
  obtain ⟨s0, s1, s2, s3, s4, s5, s6, s7, s8, s9, s10, s11, s12, s13, s14, s15, s16⟩ := hS.facts
  have hlt := hS.lt
  have HA := hide ha
  obtain ⟨n, hn⟩ : ∃ n, n = hs.length := ⟨_, rfl⟩
  rw [← hn] at s14 hl
  have HN := hide hn
  clear hS ha hn s0 s1 s2 s3 s4 s5 s6 s7 s8 s9 s10 s11 s12 s13 s15 s16
  go_enter Try.func47, Try.ntmps47
  go_wp2
  go_loopw [6] (fun i wr => ∃ j : Nat, i = .int .i64 j ∧ j ≤ n ∧ w = wr ∧ Hid (∀ x (hx : x < hs.length), x < j → (hs[x].1 == h) = false)) (fun i _ => n - (intOf i).toNat)
  case atStart => exact ⟨0, rfl, Nat.zero_le _, rfl, fun x _ h => by omega⟩
  case round =>
    obtain ⟨j, rfl, hj, rfl, hm⟩ := hrel
    by_cases hjn : j < n
    · have hjh : j < hs.length := by have := HN.out; omega
      obtain ⟨b, rfl, hb, hc, hc1⟩ := HA.out j hjh
      obtain ⟨x0, hx0⟩ : ∃ x0, x0 = hs[j].1 := ⟨_, rfl⟩
      rw [← hx0] at hc
      have HX := hide hx0
      clear hx0
      obtain ⟨y0, hy0⟩ : ∃ y0, y0 = hs[j].2 := ⟨_, rfl⟩
      rw [← hy0] at hc1
      have HY := hide hy0
      clear hy0
      by_cases hx : x0 = h
      · have HR : Hid (lu 0 hs h = y0 ∧ hasK hs h = true) := by rw [HY.out]; exact lu_first hjh (by rw [← HX.out]; exact hx) (fun x hx' hxj => by simpa using hm.out x hx' hxj)
        have hxb : (x0 == h) = true := by simp [hx]
        go_wp2
        go_ret2
        exact ⟨two_ret HR.out.1.symm HR.out.2.symm, rfl⟩
      · have hxb : (x0 == h) = false := by simp [hx]
        have hjb : (j : Int) ≤ 4294967296 := by omega
        have HM : Hid (∀ x (hx : x < hs.length), x < j + 1 → (hs[x].1 == h) = false) := fun x hx' hxj => by
          by_cases e : x = j
          · subst e
            rw [← HX.out]
            exact hxb
          · exact hm.out x hx' (by omega)
        go_wp2
        go_roundw
        case rel => exact ⟨j + 1, by go_num, by omega, by trivial, HM.out⟩
        case measure => simp [intOf]; omega
    · obtain rfl : j = n := by omega
      have HR : Hid (lu 0 hs h = 0 ∧ hasK hs h = false) := lu_miss (fun x hx => by simpa using hm.out x hx (by have := HN.out; omega))
      go_wp2
      go_ret2
      exact ⟨two_ret HR.out.1.symm HR.out.2.symm, rfl⟩
end Go.Proofs.Ytondbhdlccpklaa
