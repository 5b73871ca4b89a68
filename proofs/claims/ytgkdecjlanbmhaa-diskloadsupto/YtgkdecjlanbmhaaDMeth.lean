
/- Stage 19: a disk at rest; Append. -/
import Derived.Test.YtgkdecjlanbmhaaDLay
import Derived.Test.YtgkdecjlanbmhaaLocks
import Derived.Conc.MuLone
namespace Go.Proofs.Ytgkdecjlanbmhaa
open Go.RowKit Go.Maps Go.MuLone
set_option linter.unusedVariables false
set_option linter.unusedSimpArgs false
/-- the blocks of S, and those that were laid since -/
def Sn (S : Nat → Prop) (w : World) (k : Nat) : Prop := S k ∨ w.heap.size ≤ k
section
variable {S T : Nat → Prop} {w w' w1 w2 : World} {d m : Nat} {x : Dx} {E : List En} {F : List Fi}
theorem Sx.sn {k : Nat} (h : Sx (fun k => S k ∧ k < w.heap.size) w w' k) : Sn S w k := h.elim (fun h => .inl h.1) (fun h => .inr h.1)
theorem Sn.on {k : Nat} (hs : w.heap.size ≤ w1.heap.size) (h : Sn (Sn S w) w1 k) : Sn S w k := by
  rcases h with h | h
  · exact h
  · exact .inr (by omega)
theorem Sn.of {k : Nat} (h : S k) : Sn S w k := .inl h
theorem kp_lts (h : Kp (fun k => S k ∧ k < w.heap.size) w w') : Kp S w w' := h.mono fun k h => h.1
theorem kp_on (h1 : Kp S w w1) (h2 : Kp (Sn S w) w1 w2) : Kp S w w2 := h1.transN h2 (fun k h => h)
theorem Dsk.lts (h : Dsk S w d x F) : Dsk (fun k => S k ∧ k < w.heap.size) w d x F := by
  obtain ⟨m, E, h1, h⟩ := h
  exact ⟨m, E, h1, h.lts⟩
theorem DkS.lk (h : DkS S w d m x E) (l : Int) : DkS S (w.setCell ⟨d, 0, none⟩ (.int .i32 l)) d m { x with lk := l } E := h.setx 0 _ _ rfl
theorem Dsk.lk (h : Dsk S w d x F) (l : Int) : Dsk S (w.setCell ⟨d, 0, none⟩ (.int .i32 l)) d { x with lk := l } F := by
  obtain ⟨m, E, h1, h⟩ := h
  exact ⟨m, E, h1, h.lk l⟩
theorem Dsk.c0 (h : Dsk S w d x F) : w.cell? ⟨d, 0, none⟩ = some (.int .i32 x.lk) ∧ w.frozen? ⟨d, 0, none⟩ = false := by
  obtain ⟨m, E, h1, h⟩ := h
  exact ⟨h.cell 0 _ rfl, h.frozen 0⟩
theorem Dsk.sd (h : Dsk S w d x F) : S d := by
  obtain ⟨m, E, h1, h⟩ := h
  exact h.sd
theorem Dsk.lt (h : Dsk S w d x F) : d < w.heap.size := by
  obtain ⟨m, E, h1, h⟩ := h
  exact h.lt
end
/-- a disk at rest -/
structure DD (S : Nat → Prop) (w : World) (d : Nat) (x : Dx) (F : List Fi) : Prop where
  dsk : Dsk S w d x F
  lk : x.lk = 0
  ok : DOk x F
theorem DOk.lk {x : Dx} {F : List Fi} (h : DOk x F) (l : Int) : DOk { x with lk := l } F := ⟨h.used, h.room, h.most, h.safe, h.left0, h.left1, h.keep0, h.keep1⟩
/-- what stands behind a method that has unlocked: an error and a disk -/
def Beh (S : Nat → Prop) (w : World) (d : Nat) (x : Dx) (F : List Fi) (w' : World) : Prop := Dsk (Sn S w) w' d x F ∧ Kp S w w'
theorem Beh.unlk {S : Nat → Prop} {w w' : World} {d : Nat} {x : Dx} {F : List Fi} (h : Beh S w d x F w') (hs : S d) : Beh S w d { x with lk := 0 } F (w'.setCell ⟨d, 0, none⟩ (.int .i32 0)) := ⟨h.1.lk 0, h.2.setCell hs _⟩
/-- an act that is done -/
theorem act_ok (S : Nat → Prop) (w : World) (d m : Nat) (x : Dx) (E : List En) (hD : DkS S w d m x E) (hO : DOk x (E.map En.f)) (hl : x.left ≠ 0) :
    Calls Try.prog 58 #[.pointer (some ⟨d, 0, none⟩)] w fun e w' => e = .returned (.int .i64 0) ∧ DkS S w' d m (actX x (E.map En.f)) E ∧ Kp S w w' := by
  have HD := hide hD
  have c6 : w.cell? ⟨d, 6, none⟩ = some (.int .i64 x.left) := hD.cell 6 _ rfl
  have f6 : w.frozen? ⟨d, 6, none⟩ = false := hD.frozen 6
  have HO := hide hO
  clear hD hO
  by_cases h1 : x.left = -1
  · have ha : actX x (E.map En.f) = x := if_pos h1
    rw [ha]
    rw [h1] at c6
    clear ha h1 hl
    go_enter Try.func58, Try.ntmps58
    go_wp2
    go_ret
    exact ⟨rfl, HD.out, Kp.refl _ _⟩
  · have ha : actX x (E.map En.f) = { x with left := x.left - 1 } := by unfold actX; rw [if_neg h1, if_neg hl]
    have hw1 : IntKind.i64.wrap (x.left - 1) = x.left - 1 := by have := HO.out.left0; have := HO.out.left1; rw [IntKind.wrap_i64]; omega
    have HQ : Hid (DkS S (w.setCell ⟨d, 6, none⟩ (.int .i64 (x.left - 1))) d m { x with left := x.left - 1 } E) := HD.out.setx 6 _ _ rfl
    have HK : Hid (Kp S w (w.setCell ⟨d, 6, none⟩ (.int .i64 (x.left - 1)))) := (Kp.refl S w).setCell HD.out.sd _
    rw [ha]
    clear ha
    go_enter Try.func58, Try.ntmps58
    go_wp2
    go_ret
    exact ⟨rfl, HQ.out, HK.out⟩
/-- an act -/
theorem act_n (S : Nat → Prop) (w : World) (d : Nat) (x : Dx) (F : List Fi) (hD : Dsk S w d x F) (hO : DOk x F) :
    Calls Try.prog 58 #[.pointer (some ⟨d, 0, none⟩)] w fun e w' => e = .returned (.int .i64 (actE x)) ∧ Beh S w d (actX x F) (actF x F) w' := by
  refine (act_any _ w d x F hD.lts (fun k h => h.2) hO).mono ?_
  rintro e w' ⟨rfl, h1, h2⟩
  exact ⟨rfl, h1.mono (fun k h => h.sn), kp_lts h2⟩
def woF (k : ByteArray) (F : List Fi) : List Fi := F.filter fun f => !decide (f.1 = k)
theorem map_wo (k : ByteArray) (E : List En) : (wo k E).map En.f = woF k (E.map En.f) := by
  unfold wo woF
  rw [List.filter_map]
  rfl
/-- bytes laid behind a file's end -/
def addF (k : ByteArray) (t : List Nat) (F : List Fi) : List Fi := (k, (dat k F).1 ++ t, (dat k F).2) :: woF k F
theorem lay_n (S : Nat → Prop) (w : World) (d : Nat) (x : Dx) (F : List Fi) (hD : Dsk S w d x F) (hO : DOk x F) (k : ByteArray) (hk : nm k = true) (u : Value) (t : List Nat) (hr : Rb w u t) (hm : (usd F : Int) + t.length ≤ x.room) (hn : F.length + 1 ≤ maxLen) :
    Calls Try.prog 51 #[.pointer (some ⟨d, 0, none⟩), .string k, u] w fun e w' => ∃ p, e = .returned (pV p) ∧ Beh S w d { x with used := x.used + (t.length : Int) } (addF k t F) w' := by
  obtain ⟨m, E, rfl, hD⟩ := hD
  refine (lay_any _ w d m x E hD.lts (fun k h => h.2) k hk u t hr hO.used (by have := hO.most; omega) (by simpa using hn)).mono ?_
  rintro e w' ⟨p, rfl, v', h1, h2⟩
  refine ⟨p, rfl, ⟨m, _, ?_, h1.mono (fun k h => h.sn)⟩, kp_lts h2⟩
  rw [List.map_cons, map_wo]
  rfl
theorem usd_wo {k : ByteArray} : ∀ {F : List Fi}, (F.map (·.1)).Nodup → usd (woF k F) + lenOf k F = usd F
  | [], _ => rfl
  | f :: F, h => by
    have h1 := List.nodup_cons.1 (by simpa using h : (f.1 :: F.map (·.1)).Nodup)
    rw [usd_cons]
    by_cases e : f.1 = k
    · have h2 : woF k (f :: F) = woF k F := List.filter_cons_of_neg (by simp [e])
      have h3 : woF k F = F := List.filter_eq_self.2 (fun g hg => by simp only [Bool.not_eq_true', decide_eq_false_iff_not]; exact fun e' => h1.1 (by rw [e, ← e']; exact List.mem_map_of_mem hg))
      rw [h2, h3, lenOf_mem h List.mem_cons_self e]
      omega
    · have h2 : woF k (f :: F) = f :: woF k F := List.filter_cons_of_pos (by simp [e])
      have h3 : lenOf k (f :: F) = lenOf k F := by
        unfold lenOf
        rw [List.find?_cons_of_neg (by simp [e])]
      rw [h2, h3, usd_cons, ← usd_wo (k := k) h1.2]
      omega
theorem lenOf_dat (k : ByteArray) (F : List Fi) : lenOf k F = (dat k F).1.length := by
  unfold lenOf dat
  cases List.find? (fun f => decide (f.1 = k)) F <;> rfl
theorem usd_add {k : ByteArray} {t : List Nat} {F : List Fi} (h : (F.map (·.1)).Nodup) : usd (addF k t F) = usd F + t.length := by
  have := usd_wo (k := k) h
  unfold addF
  rw [usd_cons, List.length_append, ← lenOf_dat]
  omega
theorem dat_safe {k : ByteArray} {F : List Fi} (h : ∀ f ∈ F, f.2.2 ≤ f.2.1.length) : (dat k F).2 ≤ (dat k F).1.length := by
  unfold dat
  split
  · rename_i f hf
    exact h f (List.mem_of_find?_eq_some hf)
  · simp
theorem wo_sub {k : ByteArray} {F : List Fi} {f : Fi} (h : f ∈ woF k F) : f ∈ F := (List.mem_filter.1 h).1
theorem DOk.add {x : Dx} {F : List Fi} (hO : DOk x F) (hn : (F.map (·.1)).Nodup) {k : ByteArray} {t : List Nat} (hm : (usd F : Int) + t.length ≤ x.room) : DOk { x with used := x.used + (t.length : Int) } (addF k t F) := by
  refine ⟨?_, ?_, hO.most, fun f hf => ?_, hO.left0, hO.left1, hO.keep0, hO.keep1⟩
  · show x.used + (t.length : Int) = _
    rw [usd_add hn, hO.used]
    omega
  · rw [usd_add hn]
    show _ ≤ x.room
    omega
  · rcases List.mem_cons.1 hf with rfl | hf
    · have := dat_safe (k := k) hO.safe
      show (dat k F).2 ≤ ((dat k F).1 ++ t).length
      rw [List.length_append]
      omega
    · exact hO.safe f (wo_sub hf)
theorem usd_fall (keep : Int) : ∀ (F : List Fi), usd (F.map (fl keep)) ≤ usd F
  | [] => Nat.le_refl _
  | f :: F => by
    have := usd_fall keep F
    have h3 : (fl keep f).2.1.length ≤ f.2.1.length := by simp [fl]; omega
    rw [List.map_cons, usd_cons, usd_cons]
    omega
theorem DOk.fall {x : Dx} {F : List Fi} (hO : DOk x F) (keep : Int) : DOk { x with down := true, left := -1, used := (usd (F.map (fl keep)) : Int) } (F.map (fl keep)) := by
  refine ⟨rfl, ?_, hO.most, fun f hf => ?_, (by show (-1 : Int) ≤ -1; omega), (by show (-1 : Int) < _; omega), hO.keep0, hO.keep1⟩
  · have := usd_fall keep F
    have := hO.room
    show _ ≤ x.room
    omega
  · obtain ⟨g, hg, rfl⟩ := List.mem_map.1 hf
    have := hO.safe g hg
    have := stay_le this keep
    simp only [fl, List.length_take]
    omega
theorem DOk.act {x : Dx} {F : List Fi} (hO : DOk x F) : DOk (actX x F) (actF x F) := by
  unfold actX actF
  by_cases h1 : x.left = -1
  · rw [if_pos h1, if_neg (by omega)]
    exact hO
  · rw [if_neg h1]
    by_cases h2 : x.left = 0
    · rw [if_pos h2, if_pos h2]
      exact hO.fall x.keep
    · rw [if_neg h2, if_neg h2]
      have := hO.left0
      have := hO.left1
      exact ⟨hO.used, hO.room, hO.most, hO.safe, (by show -1 ≤ x.left - 1; omega), (by show x.left - 1 < _; omega), hO.keep0, hO.keep1⟩
theorem actX_lk {x : Dx} {F : List Fi} (l : Int) : actX { x with lk := l } F = { actX x F with lk := l } := by
  unfold actX
  dsimp only
  split
  · rfl
  · split <;> rfl
theorem Beh.on {S : Nat → Prop} {w w1 w2 : World} {d : Nat} {x : Dx} {F : List Fi} (h1 : Kp S w w1) (h : Beh S w1 d x F w2) : Beh S w d x F w2 :=
  ⟨h.1.mono (fun k hk => hk.imp id (fun h => Nat.le_trans h1.size h)), h1.trans h.2⟩
theorem Beh.next {S : Nat → Prop} {w w1 w2 : World} {d : Nat} {x x1 : Dx} {F F1 : List Fi} (h1 : Beh S w d x1 F1 w1) (h : Beh (Sn S w) w1 d x F w2) : Beh S w d x F w2 :=
  ⟨h.1.mono (fun k hk => Sn.on h1.2.size hk), kp_on h1.2 h.2⟩
theorem Beh.of {S : Nat → Prop} {w w1 : World} {d : Nat} {x : Dx} {F : List Fi} (h1 : Kp S w w1) (h : Dsk S w1 d x F) : Beh S w d x F w1 := ⟨h.mono (fun k => .inl), h1⟩
theorem Beh.below {S : Nat → Prop} {w w1 w2 : World} {d : Nat} {x : Dx} {F : List Fi} (h : Beh S w d x F w1) (hb : Below w1.heap.size w1 w2) : Beh S w d x F w2 :=
  ⟨(h.1.lts.keepB (fun k hk => hb.block k hk.2)).mono (fun k h => h.1), h.2.below hb⟩
/-- how a locked method ends -/
theorem Beh.fin {S : Nat → Prop} {w w3 : World} {d : Nat} {x3 : Dx} {F3 : List Fi} (h2 : Beh S w d x3 F3 w3) (hs : S d) (h1 : x3.lk = 1) : w3.cell? ⟨d, 0, none⟩ = some (.int .i32 1) ∧ w3.frozen? ⟨d, 0, none⟩ = false ∧ Beh S w d { x3 with lk := 0 } F3 (w3.setCell ⟨d, 0, none⟩ (.int .i32 0)) := by
  have h3 := h2.1.c0
  rw [h1] at h3
  exact ⟨h3.1, h3.2, h2.unlk hs⟩
/-- how it begins -/
theorem DD.lock {S : Nat → Prop} {w : World} {d : Nat} {x : Dx} {F : List Fi} (h : DD S w d x F) : w.cell? ⟨d, 0, none⟩ = some (.int .i32 0) ∧ w.frozen? ⟨d, 0, none⟩ = false ∧ Dsk S (w.setCell ⟨d, 0, none⟩ (.int .i32 1)) d { x with lk := 1 } F ∧ Kp S w (w.setCell ⟨d, 0, none⟩ (.int .i32 1)) := by
  have h3 := h.dsk.c0
  rw [h.lk] at h3
  exact ⟨h3.1, h3.2, h.dsk.lk 1, (Kp.refl S w).setCell h.dsk.sd _⟩
theorem lk_self {x : Dx} (h : x.lk = 0) : { x with lk := 0 } = x := by cases x; simp at h; simp [h]
theorem actX_fields (x : Dx) (F : List Fi) : (actX x F).lk = x.lk ∧ (actX x F).room = x.room ∧ (actX x F).keep = x.keep := by
  unfold actX
  split
  · exact ⟨rfl, rfl, rfl⟩
  · split <;> exact ⟨rfl, rfl, rfl⟩
end Go.Proofs.Ytgkdecjlanbmhaa
