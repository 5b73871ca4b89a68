import Derived.Test.YtondbhdlccpklaaQRSM9

/- Stage 13: the document's Arrive. -/
namespace Go.Proofs.Ytondbhdlccpklaa
open Go.RowKit Go.Maps
set_option linter.unusedVariables false
set_option linter.unusedSimpArgs false

def hasH (hs : List Int) (h : Int) : Bool := hs.any (· == h)
def hasN (C : List Pd) (id : Int) : Bool := C.any (·.1 == id)
def noteR (hs : List Int) (C : List Pd) (id h : Int) : Int := if hasH hs h = false then 132 else if hasN C id = true then 131 else 0
theorem OwnI.rd {w : World} {base : Nat} {v : Value} {hs : List Int} (h : OwnI w base v hs) : ∃ a cap, v = .slice a hs.length cap ∧ RdI w a hs := by
  rcases own_form h with ⟨rfl, rfl⟩ | ⟨g, cap, rfl, r1, r2, r3⟩
  · exact ⟨none, 0, rfl, fun j hj => absurd hj (by simp)⟩
  · exact ⟨_, cap, rfl, fun j hj => ⟨g, rfl, r2, r3 j hj⟩⟩
theorem RB.c13 {w : World} {g : Nat} {s : Sn} {vh vr vs va : Value} (h : RB w g s vh vr vs va) : w.cell? ⟨g, 13, none⟩ = some vh := cellOf h 13 _ rfl
theorem RB.c14 {w : World} {g : Nat} {s : Sn} {vh vr vs va : Value} (h : RB w g s vh vr vs va) : w.cell? ⟨g, 14, none⟩ = some vr := cellOf h 14 _ rfl
theorem RB.c15 {w : World} {g : Nat} {s : Sn} {vh vr vs va : Value} (h : RB w g s vh vr vs va) : w.cell? ⟨g, 15, none⟩ = some vs := cellOf h 15 _ rfl
theorem RB.c16 {w : World} {g : Nat} {s : Sn} {vh vr vs va : Value} (h : RB w g s vh vr vs va) : w.cell? ⟨g, 16, none⟩ = some va := cellOf h 16 _ rfl
theorem own_slice {w : World} {base : Nat} {e : TypeId} {size : Nat} {v : Value} {n : Nat} {xs : List Value} (h : w.ownsRow base e size v n xs) : ∃ a c, v = .slice a n c := by
  rcases h.2 with ⟨h1, h2⟩ | ⟨g, cap, cur, h1, _⟩
  · exact ⟨none, 0, by rw [h1, h2]⟩
  · exact ⟨_, _, h1⟩
section
variable (g : Nat) (s : Sn) (vh vr vs va : Value) (hs : List Int) (rs : List (Int × Int)) (S C : List Pd) (w : World)
/-- used, at a session -/
theorem RS.used (hS : RS w g s vh vr vs va hs rs S C) (h : Int) (hl : hs.length ≤ 4294967296) :
    Calls Try.prog 64 #[.pointer (some ⟨g, 0, none⟩), .int .i64 h] w fun e w' => e = .returned (.bool (hasH hs h)) ∧ w' = w := by
  obtain ⟨a, c, rfl, hr⟩ := hS.oh.rd
  exact used_any g s a c vr vs va hs h w hS.rb hr hl
theorem numberedV {base : Nat} {v : Value} {C : List Pd} (h : OwnP w base v C) (id : Int) (hl : C.length ≤ 4294967296) :
    Calls Try.prog 65 #[v, .int .i64 id] w fun e w' => e = .returned (.bool (hasN C id)) ∧ w' = w := by
  obtain ⟨a, c, rfl, hr, _⟩ := h.rd
  exact numbered_any a c C id w hr hl
set_option maxRecDepth 100000 in
theorem rarrive_arg (id h : Int) (tag : ByteArray) (settled : Bool) (hi : isW id = false) :
    Calls Try.prog 40 #[.pointer (some ⟨g, 0, none⟩), .int .i64 id, .int .i64 h, .string tag, .bool settled] w fun e w' => e = .returned (.int .i64 1) ∧ w' = w := by
  have HW := hide (word_any id w)
  rw [hi] at HW
  clear hi
  go_enter Try.func40, Try.ntmps40
  go_wp2_with (go_at_call 63; refine HW.out.mono ?_; rintro e1 w1 ⟨rfl, rfl⟩)
  go_ret
  exact ⟨rfl, rfl⟩
set_option maxRecDepth 100000 in
set_option maxHeartbeats 1000000 in
theorem rarrive_no (id h : Int) (tag : ByteArray) (settled : Bool) (hi : isW id = true) (hS : RS w g s vh vr vs va hs rs S C) (hl : hs.length ≤ 4294967296) (hc : C.length ≤ 4294967296) (hE : noteR hs C id h ≠ 0 ∨ settled = true) :
    Calls Try.prog 40 #[.pointer (some ⟨g, 0, none⟩), .int .i64 id, .int .i64 h, .string tag, .bool settled] w fun e w' => e = .returned (.int .i64 (noteR hs C id h)) ∧ w' = w := by
  have HW := hide (word_any id w)
  rw [hi] at HW
  have HU := hide (RS.used g s vh vr vs va hs rs S C w hS h hl)
  have HN := hide (numberedV w hS.oc id hc)
  obtain ⟨s0, s1, s2, s3, s4, s5, s6, s7, s8, s9, s10, s11, s12, s13, s14, s15, s16⟩ := hS.rb.facts
  have hlg := hS.rb.lt
  clear s0 s1 s2 s3 s4 s5 s6 s7 s8 s9 s10 s11 s12 s13 s14 s15 hS hi
  unfold noteR at *
  cases h1 : hasH hs h
  · rw [h1] at HU
    clear hE h1
    go_enter Try.func40, Try.ntmps40
    go_wp2_with fail
    refine HW.out.mono ?_
    rintro e1 w1 ⟨rfl, rfl⟩
    go_wp2_with fail
    refine HU.out.mono ?_
    rintro e1 w1 ⟨rfl, rfl⟩
    go_wp2
    go_ret
    exact ⟨rfl, rfl⟩
  · rw [h1] at HU hE
    cases h2 : hasN C id
    · rw [h2] at HN hE
      obtain rfl : settled = true := by
        rcases hE with h | h
        · exact absurd rfl h
        · exact h
      clear h1 h2 hE
      go_enter Try.func40, Try.ntmps40
      go_wp2_with fail
      refine HW.out.mono ?_
      rintro e1 w1 ⟨rfl, rfl⟩
      go_wp2_with fail
      refine HU.out.mono ?_
      rintro e1 w1 ⟨rfl, rfl⟩
      go_wp2_with fail
      refine HN.out.mono ?_
      rintro e1 w1 ⟨rfl, rfl⟩
      go_wp2
      go_ret
      exact ⟨rfl, rfl⟩
    · rw [h2] at HN
      clear h1 h2 hE
      go_enter Try.func40, Try.ntmps40
      go_wp2_with fail
      refine HW.out.mono ?_
      rintro e1 w1 ⟨rfl, rfl⟩
      go_wp2_with fail
      refine HU.out.mono ?_
      rintro e1 w1 ⟨rfl, rfl⟩
      go_wp2_with fail
      refine HN.out.mono ?_
      rintro e1 w1 ⟨rfl, rfl⟩
      go_wp2
      go_ret
      exact ⟨rfl, rfl⟩
set_option maxRecDepth 100000 in
set_option maxHeartbeats 1000000 in
theorem rarrive_yes (id h : Int) (tag : ByteArray) (hi : isW id = true) (hS : RS w g s vh vr vs va hs rs S C) (hl : hs.length ≤ 4294967296) (hc : C.length < 4294967296) (hE : noteR hs C id h = 0) :
    Calls Try.prog 40 #[.pointer (some ⟨g, 0, none⟩), .int .i64 id, .int .i64 h, .string tag, .bool false] w fun e w' => ∃ v', e = .returned (.int .i64 0) ∧ RS w' g s vh vr vs v' hs rs S (C ++ ([(id, h, tag)] : List Pd)) ∧ Kp (RSb g vh vr vs va) w w' ∧ ∀ k, RSb g vh vr vs v' k → RSb g vh vr vs va k ∨ w.heap.size ≤ k := by
  have HS := hide hS
  have HW := hide (word_any id w)
  rw [hi] at HW
  have HU := hide (RS.used g s vh vr vs va hs rs S C w hS h hl)
  have HN := hide (numberedV w hS.oc id (by omega))
  obtain ⟨s0, s1, s2, s3, s4, s5, s6, s7, s8, s9, s10, s11, s12, s13, s14, s15, s16⟩ := hS.rb.facts
  have hlg := hS.rb.lt
  have h1 : hasH hs h = true := by
    cases hx : hasH hs h
    · simp [noteR, hx] at hE
    · rfl
  have h2 : hasN C id = false := by
    cases hx : hasN C id
    · rfl
    · simp [noteR, hx, h1] at hE
  rw [h1] at HU
  rw [h2] at HN
  have hgn : Hid (∀ x, va.ownBlock = some x → x ≠ g) := hS.gone.2.2.2
  obtain ⟨i0, hi0, hz0, hz1, hz2⟩ := info_parts Try.infoPd
  clear s0 s1 s2 s3 s4 s5 s6 s7 s8 s9 s10 s11 s12 s13 s14 s15 hS hi h1 h2 hE
  go_enter Try.func40, Try.ntmps40
  go_wp2_with fail
  refine HW.out.mono ?_
  rintro e1 w1 ⟨rfl, rfl⟩
  go_wp2_with fail
  refine HU.out.mono ?_
  rintro e1 w1 ⟨rfl, rfl⟩
  go_wp2_with fail
  refine HN.out.mono ?_
  rintro e1 w1 ⟨rfl, rfl⟩
  go_wp2_with (at_builtin; refine wpList_append_own_at _ rfl _ _ 72 rfl (g + 1) 75 i0 (pdV pd0) 3 32 Try.underlying72 hi0 hz0 hz1 hz2 rfl (by decide) _ _ _ rfl (HS.out.oc.alloc _) ⟨_, 0, none⟩ 1 1 (pdL (id, h, tag)) rfl rfl (cell_pd_new _ _ _) (pd_one _) (by unfold maxLen; omega) (by omega) (by simp; omega) ?_; intro v' w2 hown' hgrow hnil hloc; obtain ⟨a', c', rfl⟩ := own_slice hown'; have rb2 := (HS.out.rb.alloc _).at (hgrow.block g (by simp; omega) (fun e => hgn.out g e.symm rfl)); have hc2 := rb2.c16; have hf2 := rb2.frozen 16; have hl2 := rb2.lt; clear rb2)
  go_ret
  have := HS.out.grow_va (id, h, tag) hown' hgrow hloc
  exact ⟨_, rfl, this⟩
end
end Go.Proofs.Ytondbhdlccpklaa
