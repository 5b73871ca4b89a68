import Derived.Test.YtdcoafpenkofoaaGreatDoorJOptM9
import Derived.Test.YtdcoafpenkofoaaGreatDoorJScanM9
import Derived.Test.YtdcoafpenkofoaaGreatDoorJAdcM9
import Derived.Test.YtdcoafpenkofoaaGreatDoorJAddM9
import Derived.Test.YtdcoafpenkofoaaGreatDoorJTvM9
import Derived.Test.YtdcoafpenkofoaaGreatDoorJLdM9

/- Stage 20: cut, bytes behind the log's batches. -/
namespace Go.Proofs.YtdcoafpenkofoaaGreatDoor
open Go.RowKit Go.Maps Go.MuLone
set_option linter.unusedVariables false
set_option linter.unusedSimpArgs false
theorem run_fieldF (a0 a2 : Value) (p : Option Addr) (n c : Nat) (w : World) : (Instr.field 73 (.agg #[a0, .slice p n c, a2]) 1).run Tryz.prog w = .ok (.slice p n c) w := by
  first
  | kernel_rfl
  | rfl
/-- cut: the error's number, the disk behind it; the journal's tail -/
def jCu (x : Dx) (F : List Fi) (l : List Nat) : Int × Dx × List Fi := if (wl l).2.2 = 0 then (0, x, F) else jRp x F (l.take (wl l).2.1)
set_option maxHeartbeats 4000000 in
set_option maxRecDepth 100000 in
theorem cut_tail (S : Nat → Prop) (w wi : World) (d j : Nat) (x : Dx) (F : List Fi) (sz : Int) (g : Addr) (hE : Eb w g) (hT : Er w) (h : JS S w wi d j x F sz true) (hn : F.length ≤ 2000000000000) (hl : (dat kG F).1.length ≤ 70368744177664)
    (h1 : (jCl x F).2.2.length + 1 ≤ maxLen) (h2 : (jWr (jCl x F).2.1 (jCl x F).2.2 kN ((dat kG F).1.take (wl (dat kG F).1).2.1)).2.2.length + 1 ≤ maxLen) :
    Calls Tryz.prog 108 #[.pointer (some ⟨j, 0, none⟩)] wi fun e w' => e = .returned (amV (jCu x F (dat kG F).1).1) ∧ ∃ S', (∀ q, S' q → S q ∨ wi.heap.size ≤ q) ∧ JS S' w w' d j (jCu x F (dat kG F).1).2.1 (jCu x F (dat kG F).1).2.2 sz (jTl (jCu x F (dat kG F).1).1 true) ∧ Kp (fun k => S k ∨ k = j) wi w' := by
  obtain ⟨l, hlq⟩ : ∃ l, (dat kG F).1 = l := ⟨_, rfl⟩
  have hlf := logFile_any S w wi d x F h.aw hn
  obtain ⟨z, hzq⟩ : ∃ z, (dat kG F).2 = z := ⟨_, rfl⟩
  rw [hlq] at hl h2 hlf ⊢
  rw [hzq] at hlf
  clear hzq
  have HLF := hide hlf
  have HJ := hide h
  have HE := hide hE
  have HT := hide hT
  have HHL := hide hl
  have H1 := hide h1
  have H2 := hide h2
  have hjl := h.lt
  have HJL := hide hjl
  have HSD : Hid (∀ k, S k → k < wi.heap.size) := fun k hk => (h.aw.at_ k hk).2
  obtain ⟨c0, _, c2, _⟩ := h.cells
  clear h hlf hE hT hl h1 h2 hlq hjl hn
  go_enter Tryz.func108, Tryz.ntmps108
  go_wp2_with fail
  refine HLF.out.mono ?_
  rintro e w2 ⟨nm, v, rfl, hob, hA2, hK2⟩
  have hJ2 := HJ.out.read hA2 hK2
  have hrd : Rb w2 v l := hob.rb
  obtain ⟨a, c, rfl, hcc⟩ := hob.slice
  obtain ⟨_, _, e', hcn, _, hrr⟩ := hrd
  simp only [Value.slice.injEq] at e'
  obtain ⟨rfl, -, rfl⟩ := e'
  have HWH := hide (whole_any g a c l w2 (HE.out.below hA2.bel) (HT.out.below hA2.bel) hrr hcc HHL.out)
  have HJ2 := hide hJ2
  have HK2 := hide hK2
  have HOB := hide hob
  have HCN := hide hcn
  obtain ⟨m, hmq⟩ : ∃ m, (wl l).2.1 = m := ⟨_, rfl⟩
  have hml := (wl_end l.length l (Nat.le_refl _)).1
  rw [hmq] at hml
  have HMQ := hide hmq
  have HML := hide hml
  have HCC := hide hcc
  clear hob hA2 hK2 hJ2 hrr hcn hmq hml hcc
  try clear c0 c2
  have hf3 := run_fieldF
  go_wp2_with fail
  clear hf3
  have hml := HML.out
  have hcc := HCC.out
  refine HWH.out.mono ?_
  rintro e w3 ⟨⟨v3, Z, er, rfl, _, _, _, hcase⟩, hb3⟩
  rw [HMQ.out] at hcase ⊢
  have HJ3 := hide (HJ2.out.below hb3)
  have HK3 := hide (HK2.out.below hb3)
  have HB3 := hide hb3
  obtain ⟨_, _, c2', f3⟩ := HJ3.out.cells
  have f32 := f3 2
  clear hb3 f3
  rcases hcase with ⟨hz, rfl⟩ | ⟨hz, p, rfl, _, _⟩
  · have HQ : Hid (jCu x F l = (0, x, F)) := if_pos hz
    have HA : Hid (amV 0 = .nilIface) := rfl
    have HTL : Hid (jTl 0 true = false) := rfl
    have HJT := hide (HJ3.out.setTail false)
    clear hz
    go_wp2
    go_ret
    rw [HQ.out, HTL.out]
    exact ⟨rfl, S, fun q hq => .inl hq, HJT.out, (HK3.out.mono (fun k h => .inl h)).setCell (.inr rfl) _⟩
  · have HQ : Hid (jCu x F l = jRp x F (l.take m)) := by show _ = _; unfold jCu; rw [if_neg hz, HMQ.out]
    have h2' := H2.out
    rw [HMQ.out] at h2'
    have hlm : (l.take m).length = m := by rw [List.length_take, Nat.min_eq_left hml]
    have HRP := hide (replace_any S w w3 d j x F sz true HJ3.out (.slice a m c) (l.take m) (fun W' hk => by
      have ho := (HOB.out.below HB3.out).at_same (w' := W') (fun g hg => hk.block ((HOB.out.below HB3.out).lt g hg).2 (fun hs => by have := HSD.out g hs; have := (HOB.out.lt g hg).1; omega))
      obtain ⟨a', c', e', _, _, hr⟩ := ho.rb
      simp only [Value.slice.injEq] at e'
      obtain ⟨rfl, _, rfl⟩ := e'
      exact ⟨a, c, by rw [hlm], HCN.out, by omega, by rw [hlm]; exact hr.take hml⟩) H1.out h2')
    obtain ⟨R, hRq⟩ : ∃ R, jRp x F (l.take m) = R := ⟨_, rfl⟩
    rw [hRq] at HRP HQ
    unfold ftV
    have hmc : m ≤ c := by omega
    clear hz h2' hlm hRq
    go_wp2_with fail
    refine HRP.out.mono ?_
    rintro e w4 ⟨rfl, S4, hS4, hJ4, hK4⟩
    have HF : Hid (∃ S', (∀ q, S' q → S q ∨ wi.heap.size ≤ q) ∧ JS S' w w4 d j R.2.1 R.2.2 sz (jTl R.1 true) ∧ Kp (fun k => S k ∨ k = j) wi w4) :=
      ⟨S4, fun q hq => (hS4 q hq).imp id (fun h => Nat.le_trans HK3.out.size h), hJ4, (HK3.out.mono (fun k h => .inl h)).trans hK4⟩
    clear hS4 hJ4 hK4
    go_wp2
    go_ret
    rw [HQ.out]
    exact ⟨rfl, HF.out⟩
end Go.Proofs.YtdcoafpenkofoaaGreatDoor


/- Stage 20: a calm disk with a log that bears a tail: what taking it up and cutting it leave. -/
namespace Go.Proofs.YtdcoafpenkofoaaGreatDoor
open Go.RowKit
set_option linter.unusedVariables false
set_option linter.unusedSimpArgs false
theorem kN_nm : nm kN = true := by first | rfl | decide | kernel_rfl
theorem kN_ne : ¬ kN = kG := by first | decide | (intro h; exact absurd (congrArg ByteArray.size h) (by decide))
theorem kG_ne : ¬ kG = kN := fun h => kN_ne h.symm
section
variable {x : Dx} {l t : List Nat} {s : Nat}
theorem cl_one (hd : x.down = false) : jCl x [(kG, l, s)] = (0, x, [(kG, l, s)]) := by
  have hf : findE x.down ([((kG, l, s) : Fi)].map (·.1)) kN [] = 191 := by unfold findE hasN; rw [hd]; simp [kN_nm, kG_ne]
  have e : dDel x [(kG, l, s)] kN = (191, x, [(kG, l, s)]) := by unfold dDel; rw [hf, if_pos (by decide)]
  unfold jCl
  rw [e]
  rfl
theorem wr_full (hd : x.down = false) (h : x.room - x.used < (t.length : Int)) : jWr x [(kG, l, s)] kN t = (190, x, [(kG, l, s)]) := by
  have hr : refE x.down [kN] = 0 := by unfold refE; rw [hd]; simp [kN_nm]
  have e : dApp x [(kG, l, s)] kN t = (190, x, [(kG, l, s)]) := by unfold dApp; rw [if_neg (by rw [hr]; simp), if_pos h]
  unfold jWr
  rw [e]
  exact if_pos (by simp)
theorem wr_room (hd : x.down = false) (hl : x.left = -1) (h : ¬ x.room - x.used < (t.length : Int)) : jWr x [(kG, l, s)] kN t = (0, { x with used := x.used + (t.length : Int) }, [(kN, t, t.length), (kG, l, s)]) := by
  have hr : refE x.down [kN] = 0 := by unfold refE; rw [hd]; simp [kN_nm]
  have e : dApp x [(kG, l, s)] kN t = (0, { x with used := x.used + (t.length : Int) }, addF kN t [(kG, l, s)]) := by
    unfold dApp
    rw [if_neg (by rw [hr]; simp), if_neg h]
    have e1 : actE x = 0 := if_neg (by omega)
    have e2 : actF x (addF kN t [(kG, l, s)]) = addF kN t [(kG, l, s)] := if_neg (by omega)
    have e3 : actX { x with used := x.used + (t.length : Int) } (addF kN t [(kG, l, s)]) = { x with used := x.used + (t.length : Int) } := if_pos hl
    rw [e1, e2, e3]
  unfold jWr
  rw [e, if_neg (by simp)]
  have ha : addF kN t [(kG, l, s)] = [(kN, t, 0), (kG, l, s)] := by unfold addF; simp [Go.Proofs.YtdcoafpenkofoaaGreatDoor.dat, woF, kG_ne]
  show dSync { x with used := x.used + (t.length : Int) } (addF kN t [(kG, l, s)]) kN = _
  rw [ha]
  unfold dSync
  have hf : findE x.down ([((kN, t, 0) : Fi), (kG, l, s)].map (·.1)) kN [] = 0 := by unfold findE hasN; rw [hd]; simp [kN_nm]
  have e3 : ∀ G, actX { x with used := x.used + (t.length : Int) } G = { x with used := x.used + (t.length : Int) } := fun G => if_pos hl
  rw [if_neg (by rw [hf]; simp), if_neg (by show ¬ x.left = 0; omega), e3]
  simp [Go.Proofs.YtdcoafpenkofoaaGreatDoor.dat, woF, kG_ne]
theorem rp_full (hd : x.down = false) (h : x.room - x.used < (t.length : Int)) : jRp x [(kG, l, s)] t = (190, x, [(kG, l, s)]) := by
  unfold jRp
  rw [cl_one hd]
  dsimp only
  rw [wr_full hd h]
  rfl
theorem rp_room (hd : x.down = false) (hl : x.left = -1) (hu : x.used = (l.length : Int)) (h : ¬ x.room - x.used < (t.length : Int)) : jRp x [(kG, l, s)] t = (0, { x with used := (t.length : Int) }, [(kG, t, t.length)]) := by
  unfold jRp
  rw [cl_one hd]
  dsimp only
  rw [wr_room hd hl h, if_neg (by simp), if_neg (by simp)]
  dsimp only
  unfold dRen
  have hf : findE x.down ([((kN, t, t.length) : Fi), (kG, l, s)].map (·.1)) kN [kG] = 0 := by unfold findE hasN; rw [hd]; simp [kN_nm, kG_nm]
  have hdt : dat kN [((kN, t, t.length) : Fi), (kG, l, s)] = (t, t.length) := by simp [Go.Proofs.YtdcoafpenkofoaaGreatDoor.dat]
  have hlo : lenOf kG [((kN, t, t.length) : Fi), (kG, l, s)] = l.length := by simp [lenOf, kN_ne]
  have hwo : woF kN (woF kG [((kN, t, t.length) : Fi), (kG, l, s)]) = [] := by simp [woF, kN_ne]
  have e3 : ∀ G, actX { x with used := x.used + (t.length : Int) } G = { x with used := x.used + (t.length : Int) } := fun G => if_pos hl
  rw [if_neg (by show ¬ findE x.down _ _ _ ≠ 0; rw [hf]; simp), hdt, if_neg (by simp), if_neg (by show ¬ x.left = 0; omega), if_neg kN_ne, e3, hlo, hwo]
  have e4 : x.used + (t.length : Int) - (l.length : Int) = (t.length : Int) := by omega
  show ((0 : Int), ({ x with used := x.used + (t.length : Int) - (l.length : Int) } : Dx), ([(kG, t, t.length)] : List Fi)) = _
  rw [e4]
theorem sf_one (hd : x.down = false) (hl : x.left = -1) (n : Int) : jSf (n, x, [(kG, l, s)]) l.length s = (0, x, [(kG, l, l.length)]) := by
  unfold jSf
  by_cases h : s = l.length
  · subst h; rw [if_pos rfl]
  · rw [if_neg h]
    unfold dSync
    have hf : findE x.down ([((kG, l, s) : Fi)].map (·.1)) kG [] = 0 := by unfold findE hasN; rw [hd]; simp [kG_nm]
    have e3 : ∀ G, actX x G = x := fun G => if_pos hl
    dsimp only
    rw [if_neg (by rw [hf]; simp), if_neg (by omega), e3]
    simp [Go.Proofs.YtdcoafpenkofoaaGreatDoor.dat, woF]
theorem tu_full (hd : x.down = false) (hl : x.left = -1) (h : x.room - x.used < (t.length : Int)) : jTu x [(kG, l, s)] t l.length s = (0, x, [(kG, l, l.length)]) ∧ jTt x [(kG, l, s)] t = true := by
  unfold jTu jTt
  rw [cl_one hd]
  dsimp only
  rw [rp_full hd h]
  exact ⟨sf_one hd hl 190, rfl⟩
theorem tu_room (hd : x.down = false) (hl : x.left = -1) (hu : x.used = (l.length : Int)) (h : ¬ x.room - x.used < (t.length : Int)) : jTu x [(kG, l, s)] t l.length s = (0, { x with used := (t.length : Int) }, [(kG, t, t.length)]) ∧ jTt x [(kG, l, s)] t = false := by
  unfold jTu jTt
  rw [cl_one hd]
  dsimp only
  rw [rp_room hd hl hu h]
  exact ⟨rfl, rfl⟩
theorem cu_full (hd : x.down = false) (hw : (wl l).2.2 ≠ 0) (h : x.room - x.used < ((l.take (wl l).2.1).length : Int)) : jCu x [(kG, l, s)] l = (190, x, [(kG, l, s)]) := by
  unfold jCu
  rw [if_neg hw, rp_full hd h]
/-- how long the lists of files are: what open_tail and cut_tail ask -/
theorem wr_short (hd : x.down = false) (hl : x.left = -1) : (jWr x [(kG, l, s)] kN t).2.2.length ≤ 2 := by
  by_cases h : x.room - x.used < (t.length : Int)
  · rw [wr_full hd h]; simp
  · rw [wr_room hd hl h]; simp
end
/-- a journal over a disk of its own, bytes behind its batches that the disk has no room to cut -/
def JT (S : Nat → Prop) (w wi : World) (d j : Nat) (l : List Nat) (n : Nat) : Prop := JS S w wi d j { dx0 16777216 with used := (l.length : Int) } [(kG, l, l.length)] (n : Int) true
/-- Open of a calm disk whose log bears a tail -/
theorem open_part (S : Nat → Prop) (w wi : World) (d : Nat) (l : List Nat) (s : Nat) (g : Addr) (hE : Eb w g) (hT : Er w) (h : AW S w wi d { dx0 16777216 with used := (l.length : Int) } [(kG, l, s)]) (hl : l.length ≤ 16777216) (hz : s ≤ l.length) (M : List (List (List Nat))) (n q : Nat) (hwl : wl l = (M, n, q)) (hw : ¬ ((n : Int) < (s : Int) ∧ 2 ≤ q)) (hn : n < l.length) :
    Calls Tryz.prog 19 #[.pointer (some ⟨d, 0, none⟩)] wi fun e w' => ∃ j v Z, e = .returned (.tuple #[.pointer (some ⟨j, 0, none⟩), v, .int .i64 0]) ∧ wi.heap.size ≤ j ∧ Wy AK w' wi.heap.size v Z ∧ ToldL wi.heap.size w' Z ∧ batches Z = M ∧ ∃ S', (∀ q, S' q → S q ∨ wi.heap.size ≤ q) ∧ (if 16777216 < l.length + n then JT S' w w' d j l n else JC S' w w' d j (l.take n)) ∧ Kp S wi w' := by
  have hdl : dat kG [((kG, l, s) : Fi)] = (l, s) := by simp [Go.Proofs.YtdcoafpenkofoaaGreatDoor.dat]
  have hd : ({ dx0 16777216 with used := (l.length : Int) } : Dx).down = false := rfl
  have hlf : ({ dx0 16777216 with used := (l.length : Int) } : Dx).left = -1 := rfl
  have htl : (l.take n).length = n := by rw [List.length_take]; omega
  have key := open_tail S w wi d { dx0 16777216 with used := (l.length : Int) } [(kG, l, s)] g hE hT h hd (by simp) (by rw [hdl]; show l.length ≤ _; omega) (by rw [hdl]; exact hz) (by rw [hdl]; show ¬ (((wl l).2.1 : Int) < (s : Int) ∧ 2 ≤ (wl l).2.2); rw [hwl]; exact hw) (by rw [hdl]; show (wl l).2.1 < l.length; rw [hwl]; exact hn)
    (by rw [cl_one hd]; dsimp only; rw [cl_one hd]; show (2 : Nat) ≤ _; decide)
    (by rw [cl_one hd]; dsimp only; rw [cl_one hd]; dsimp only; exact Nat.le_trans (Nat.add_le_add_right (wr_short hd hlf) 1) (by decide))
  rw [hdl] at key
  dsimp only at key
  rw [hwl] at key
  dsimp only at key
  by_cases hf : 16777216 < l.length + n
  · obtain ⟨h1, h2⟩ := tu_full (x := { dx0 16777216 with used := (l.length : Int) }) (l := l) (t := l.take n) (s := s) hd hlf (by rw [htl]; show (16777216 : Int) - (l.length : Int) < _; omega)
    rw [h1, h2] at key
    refine (key rfl).mono ?_
    rintro e w' ⟨j, v, Z, h3, h4, h5, h6, h7, S', h8, h9, h10⟩
    exact ⟨j, v, Z, h3, h4, h5, h6, h7, S', h8, by rw [if_pos hf]; exact h9, h10⟩
  · obtain ⟨h1, h2⟩ := tu_room (x := { dx0 16777216 with used := (l.length : Int) }) (l := l) (t := l.take n) (s := s) hd hlf rfl (by rw [htl]; show ¬ (16777216 : Int) - (l.length : Int) < _; omega)
    rw [h1, h2] at key
    refine (key rfl).mono ?_
    rintro e w' ⟨j, v, Z, h3, h4, h5, h6, h7, S', h8, h9, h10⟩
    exact ⟨j, v, Z, h3, h4, h5, h6, h7, S', h8, by rw [if_neg hf]; exact ⟨_, _, by rw [htl]; rw [htl] at h9; exact h9, rfl, rfl, rfl, .inr (by rw [htl])⟩, h10⟩
end Go.Proofs.YtdcoafpenkofoaaGreatDoor


/- Stage 20: Add, bytes behind the batches that the disk has no room to cut. -/
namespace Go.Proofs.YtdcoafpenkofoaaGreatDoor
open Go.RowKit Go.Maps Go.MuLone
set_option linter.unusedVariables false
set_option linter.unusedSimpArgs false
theorem cut_full (S : Nat → Prop) (w wi : World) (d j : Nat) (l : List Nat) (n : Nat) (g : Addr) (hE : Eb w g) (hT : Er w) (h : JT S w wi d j l n) (hl : l.length ≤ 16777216) (M : List (List (List Nat))) (q : Nat) (hwl : wl l = (M, n, q)) (hq : q ≠ 0) (hf : 16777216 < l.length + n) :
    Calls Tryz.prog 108 #[.pointer (some ⟨j, 0, none⟩)] wi fun e w' => e = .returned (amV 190) ∧ ∃ S', (∀ q, S' q → S q ∨ wi.heap.size ≤ q) ∧ JT S' w w' d j l n ∧ Kp (fun k => S k ∨ k = j) wi w' := by
  have hdl : dat kG [((kG, l, l.length) : Fi)] = (l, l.length) := by simp [Go.Proofs.YtdcoafpenkofoaaGreatDoor.dat]
  have hd : ({ dx0 16777216 with used := (l.length : Int) } : Dx).down = false := rfl
  have hlf : ({ dx0 16777216 with used := (l.length : Int) } : Dx).left = -1 := rfl
  have hn : n ≤ l.length := by have := (wl_end l.length l (Nat.le_refl _)).1; rw [hwl] at this; exact this
  have htl : (l.take n).length = n := by rw [List.length_take]; omega
  have key := cut_tail S w wi d j { dx0 16777216 with used := (l.length : Int) } [(kG, l, l.length)] (n : Int) g hE hT h (by simp) (by rw [hdl]; show l.length ≤ _; omega)
    (by rw [cl_one hd]; show (2 : Nat) ≤ _; decide)
    (by rw [cl_one hd]; dsimp only; exact Nat.le_trans (Nat.add_le_add_right (wr_short hd hlf) 1) (by decide))
  rw [hdl] at key
  dsimp only at key
  rw [cu_full (s := l.length) hd (by rw [hwl]; exact hq) (by rw [hwl]; dsimp only; rw [htl]; show (16777216 : Int) - (l.length : Int) < _; omega)] at key
  exact key
set_option maxHeartbeats 4000000 in
theorem add_full (S : Nat → Prop) (w wi : World) (d j : Nat) (l : List Nat) (n : Nat) (g : Addr) (hE : Eb w g) (hT : Er w) (h : JT S w wi d j l n) (hl : l.length ≤ 16777216) (M : List (List (List Nat))) (q : Nat) (hwl : wl l = (M, n, q)) (hq : q ≠ 0) (hf : 16777216 < l.length + n) (v : Value) :
    Calls Tryz.prog 70 #[.pointer (some ⟨j, 0, none⟩), v] wi fun e w' => e = .returned (amV 190) ∧ ∃ S', (∀ q, S' q → S q ∨ wi.heap.size ≤ q) ∧ JT S' w w' d j l n ∧ Kp (fun k => S k ∨ k = j) wi w' := by
  have HC := hide (cut_full S w wi d j l n g hE hT h hl M q hwl hq hf)
  have HA : Hid (amV 190 = .iface 82 (.int .i64 190)) := if_neg (by decide)
  clear h hE hT hl hwl hq hf
  rw [HA.out] at HC ⊢
  go_enter Tryz.func70, Tryz.ntmps70
  go_wp2_with (go_at_call 108; refine HC.out.mono ?_; rintro e w' ⟨rfl, S2, hS2, hJ2, hK2⟩; have HJ2 := hide (And.intro hS2 (And.intro hJ2 hK2)); clear hS2 hJ2 hK2)
  go_ret
  exact ⟨rfl, S2, HJ2.out.1, HJ2.out.2.1, HJ2.out.2.2⟩
set_option maxHeartbeats 4000000 in
/-- Add of good records: the disk is full -/
theorem Add_full (S : Nat → Prop) (w wi : World) (d j : Nat) (l : List Nat) (n : Nat) (g : Addr) (hE : Eb w g) (hT : Er w) (h : JT S w wi d j l n) (hl : l.length ≤ 16777216) (M : List (List (List Nat))) (q : Nat) (hwl : wl l = (M, n, q)) (hq : q ≠ 0) (hf : 16777216 < l.length + n) (a : Option Addr) (cap : Nat) (L : List (List Nat)) (hR : ∀ W', Kp S wi W' → RdB W' a L) (hb : L.any badR = false) (h0 : L ≠ []) (hL : L.length ≤ 4294967296) :
    Calls Tryz.prog 25 #[.pointer (some ⟨j, 0, none⟩), .slice a L.length cap] wi fun e w' => e = .returned (.int .i64 190) ∧ ∃ S', (∀ q, S' q → S q ∨ wi.heap.size ≤ q) ∧ JT S' w w' d j l n ∧ Kp (fun k => S k ∨ k = j) wi w' := by
  obtain ⟨W1, hW1⟩ : ∃ W1, wi.alloc (.cells #[.slice a L.length cap] 29) = W1 := ⟨_, rfl⟩
  have hb1 : Below wi.heap.size wi W1 := by rw [← hW1]; exact bel1 (Below.refl _ _) (Nat.le_refl _) _
  have hgb : W1.heap[wi.heap.size]? = some (.cells #[.slice a L.length cap] 29 (0, 0)) := by rw [← hW1]; exact heap_new _ _
  have hJ1 := JS.below h hb1
  have hSl : ¬ S wi.heap.size := fun hs => by have := (JS.aw h).at_ _ hs; omega
  have hlt1 : wi.heap.size < W1.heap.size := (Array.getElem?_eq_some_iff.1 hgb).1
  have HRF := hide (refuses_up S w W1 d j _ _ _ true hJ1 rfl (some ⟨wi.heap.size, 0, none⟩) 1 [L] (fun W' hk => RdL.one (cellOf ((hk.block hlt1 hSl).trans hgb) 0 _ rfl) (hR W' ((Kp.ofBelow hb1).trans hk))) (by simp) (by intro m hm; simp only [List.mem_singleton] at hm; rw [hm]; omega))
  have hrf : refN [L] = 0 := by unfold refN badL; simp [hb]
  rw [hrf] at HRF
  have hlne : ((L.length : Int) == 0) = false := beq_eq_false_iff_ne.2 (by have := List.length_pos_iff.2 h0; omega)
  have HB1 := hide hb1
  have HW1 := hide hW1
  have HT := hide hT
  have HAD := hide (fun S2 w2 (hJ : JT S2 w w2 d j l n) => add_full S2 w w2 d j l n g hE hT hJ hl M q hwl hq hf (.slice a L.length cap))
  clear h hgb hJ1 hb1 hW1 hrf hSl hR hb h0 hlt1 hE hT hwl hq hf
  go_enter Tryz.func25, Tryz.ntmps25
  go_wp2_with fail
  rw [HW1.out]
  refine HRF.out.mono ?_
  rintro e w2 ⟨rfl, S2, hS2, hJ2, hK2⟩
  have hk02 : Kp S wi w2 := (Kp.ofBelow HB1.out).trans hK2
  have HA := hide (HAD.out S2 w2 hJ2)
  have HK02 := hide hk02
  have HS2 : Hid (∀ q, S2 q → S q ∨ wi.heap.size ≤ q) := fun q hq => (hS2 q hq).imp id (fun h => Nat.le_trans HB1.out.size h)
  clear hS2 hJ2 hK2 hk02
  go_wp2_with fail
  refine HA.out.mono ?_
  rintro e w3 ⟨rfl, S3, hS3, hJ3, hK3⟩
  have HAN := hide (answer_ok (j := j) (wi := w3) 190 (by decide) (HT.out.below (JS.aw hJ3).bel))
  have HJ3 := hide hJ3
  have HS3 : Hid (∀ q, S3 q → S q ∨ wi.heap.size ≤ q) := fun q hq => by
    rcases hS3 q hq with h | h
    · exact HS2.out q h
    · exact .inr (Nat.le_trans HK02.out.size h)
  have HK3 : Hid (Kp (fun k => S k ∨ k = j) wi w3) := (HK02.out.mono (fun k h => .inl h)).transN hK3 (fun k hk => by
    rcases hk with h | h
    · exact (HS2.out k h).imp (fun h => .inl h) id
    · exact .inl (.inr h))
  clear hS3 hJ3 hK3
  obtain ⟨v, hv⟩ : ∃ v, amV 190 = v := ⟨_, rfl⟩
  rw [hv] at HAN ⊢
  clear hv
  go_wp2_with fail
  refine HAN.out.mono ?_
  rintro e w4 ⟨rfl, hb4⟩
  have HJ4 := hide (JS.below HJ3.out hb4)
  have HK4 := hide (HK3.out.below hb4)
  clear hb4
  go_wp2
  go_ret
  exact ⟨rfl, S3, HS3.out, HJ4.out, HK4.out⟩
end Go.Proofs.YtdcoafpenkofoaaGreatDoor


/- Stage 20: Open of a calm disk whose log ends within a batch, or at one's end. -/
namespace Go.Proofs.YtdcoafpenkofoaaGreatDoor
open Go.RowKit
set_option linter.unusedVariables false
set_option linter.unusedSimpArgs false
theorem tk_one {x : Dx} {l : List Nat} {s : Nat} (hd : x.down = false) (hl : x.left = -1) : jTk x [(kG, l, s)] l.length s = (0, x, [(kG, l, l.length)]) := by
  unfold jTk
  rw [cl_one hd]
  dsimp only
  rw [if_neg (by simp)]
  exact sf_one hd hl 0
/-- the journal behind Open: the tail stands, or is gone -/
def JB (S : Nat → Prop) (w wi : World) (d j : Nat) (l : List Nat) (n : Nat) : Prop := if n < l.length ∧ 16777216 < l.length + n then JT S w wi d j l n else JC S w wi d j (l.take n)
theorem open_both (S : Nat → Prop) (w wi : World) (d : Nat) (l : List Nat) (s : Nat) (g : Addr) (hE : Eb w g) (hT : Er w) (h : AW S w wi d { dx0 16777216 with used := (l.length : Int) } [(kG, l, s)]) (hl : l.length ≤ 16777216) (hz : s ≤ l.length) (M : List (List (List Nat))) (n q : Nat) (hwl : wl l = (M, n, q)) (hq : q < 2) (hn : n ≤ l.length) (hq0 : n = l.length → q = 0) :
    Calls Tryz.prog 19 #[.pointer (some ⟨d, 0, none⟩)] wi fun e w' => ∃ j v Z, e = .returned (.tuple #[.pointer (some ⟨j, 0, none⟩), v, .int .i64 0]) ∧ wi.heap.size ≤ j ∧ Wy AK w' wi.heap.size v Z ∧ ToldL wi.heap.size w' Z ∧ batches Z = M ∧ ∃ S', (∀ q, S' q → S q ∨ wi.heap.size ≤ q) ∧ JB S' w w' d j l n ∧ Kp S wi w' := by
  by_cases h0 : n < l.length
  · refine (open_part S w wi d l s g hE hT h hl hz M n q hwl (by omega) h0).mono ?_
    rintro e w' ⟨j, v, Z, h3, h4, h5, h6, h7, S', h8, h9, h10⟩
    refine ⟨j, v, Z, h3, h4, h5, h6, h7, S', h8, ?_, h10⟩
    unfold JB
    by_cases hf : 16777216 < l.length + n
    · rw [if_pos ⟨h0, hf⟩]; rwa [if_pos hf] at h9
    · rw [if_neg (fun h => hf h.2)]; rwa [if_neg hf] at h9
  · have hnl : n = l.length := by omega
    subst hnl
    obtain rfl := hq0 rfl
    have hdl : dat kG [((kG, l, s) : Fi)] = (l, s) := by simp [Go.Proofs.YtdcoafpenkofoaaGreatDoor.dat]
    have hd : ({ dx0 16777216 with used := (l.length : Int) } : Dx).down = false := rfl
    have hlf : ({ dx0 16777216 with used := (l.length : Int) } : Dx).left = -1 := rfl
    have ht := tk_one (l := l) (s := s) hd hlf
    have key := open_good S w wi d { dx0 16777216 with used := (l.length : Int) } [(kG, l, s)] g hE hT h hd (by simp) (by rw [hdl]; show l.length ≤ _; omega) (by rw [hdl]; exact hz) (by rw [hdl]; show (wl l).2.2 = 0; rw [hwl]) (by rw [hdl]; show (jTk _ _ l.length s).1 = 0; rw [ht])
    rw [hdl] at key
    dsimp only at key
    rw [hwl, ht] at key
    dsimp only at key
    refine key.mono ?_
    rintro e w' ⟨j, v, Z, h3, h4, h5, h6, h7, S', h8, h9, h10⟩
    refine ⟨j, v, Z, h3, h4, h5, h6, h7, S', h8, ?_, h10⟩
    unfold JB
    rw [if_neg (by omega), List.take_length]
    exact ⟨_, _, h9, rfl, rfl, rfl, .inr rfl⟩
/-- Open anew of a calm journal's disk -/
theorem open_anew (S : Nat → Prop) (w wi : World) (d j0 : Nat) (g : Addr) (hE : Eb w g) (hT : Er w) (M : List (List (List Nat))) (hM : ∀ m ∈ M, GdB m) (h : JC S w wi d j0 (logB M)) :
    Calls Tryz.prog 19 #[.pointer (some ⟨d, 0, none⟩)] wi fun e w' => ∃ j v Z, e = .returned (.tuple #[.pointer (some ⟨j, 0, none⟩), v, .int .i64 0]) ∧ wi.heap.size ≤ j ∧ Wy AK w' wi.heap.size v Z ∧ ToldL wi.heap.size w' Z ∧ batches Z = M ∧ Kp S wi w' := by
  have hlen := h.len
  obtain ⟨x, F, h1, hd, hlf, hro, hF⟩ := h
  have hdl := hF.dat
  have ht : jTk x F (logB M).length (logB M).length = (0, x, F) := by
    rcases hF with ⟨rfl, hl⟩ | rfl
    · rw [hl]
      have hf : findE x.down (([] : List Fi).map (·.1)) kN [] = 191 := by unfold findE hasN; rw [hd]; simp [kN_nm]
      have e : dDel x [] kN = (191, x, []) := by unfold dDel; rw [hf, if_pos (by decide)]
      unfold jTk jCl
      rw [e]
      rfl
    · exact tk_one hd hlf
  have key := open_good S w wi d x F g hE hT h1.aw hd (by have := hF.len; omega) (by rw [hdl]; show (logB M).length ≤ _; omega) (by rw [hdl]; exact Nat.le_refl _) (by rw [hdl]; show (wl (logB M)).2.2 = 0; rw [wl_all M hM]) (by rw [hdl]; show (jTk _ _ (logB M).length (logB M).length).1 = 0; rw [ht])
  rw [hdl] at key
  dsimp only at key
  rw [wl_all M hM] at key
  refine key.mono ?_
  rintro e w' ⟨j, v, Z, h3, h4, h5, h6, h7, S', h8, h9, h10⟩
  exact ⟨j, v, Z, h3, h4, h5, h6, h7, h10⟩
/-- whole batches and a beginning of one -/
theorem wl_front (M : List (List (List Nat))) (K : List (List Nat)) (k : Nat) (hM : ∀ m ∈ M, GdB m) (hK : GdB K) (hk : k < batN K) : ∃ q, wl (logB M ++ (batB K).take k) = (M, logN M, q) ∧ q < 2 ∧ (k = 0 ↔ q = 0) := by
  obtain ⟨h1, h2, h3⟩ := wl_cut M K k hM hK hk
  refine ⟨(wl (logB M ++ (batB K).take k)).2.2, Prod.ext h1 (Prod.ext h2 rfl), h3, ?_⟩
  have hl : ((batB K).take k).length = k := by rw [List.length_take, batB_len]; omega
  rw [wl_log M _ hM]
  by_cases h0 : k = 0
  · rw [wl_nil (by omega)]
    simp [h0]
  · rw [wl_bad (by omega) (by rw [fst_front K k hK hk]; decide), fst_front K k hK hk]
    simp [h0]
theorem bat17 {K : List (List Nat)} (h : GdB K) : 17 ≤ batN K := by
  obtain ⟨h0, h1, _⟩ := h
  unfold batN
  rw [if_neg h0]
  cases K with
  | nil => exact absurd rfl h0
  | cons r K =>
    have := (h1 r (by simp)).1
    simp only [bodN, List.map_cons, List.sum_cons]
    omega
end Go.Proofs.YtdcoafpenkofoaaGreatDoor
