import Derived.Test.YtondbhdlccpklaaQRGM9

/- Stage 13: the document's Deliver. -/
namespace Go.Proofs.Ytondbhdlccpklaa
open Go.RowKit Go.Maps
set_option linter.unusedVariables false
set_option linter.unusedSimpArgs false

theorem RS.set_nd {w : World} {g : Nat} {s : Sn} {vh vr vs va : Value} {hs : List Int} {rs : List (Int × Int)} {S C : List Pd} (h : RS w g s vh vr vs va hs rs S C) (x : Int) : RS (w.setCell ⟨g, 8, none⟩ (.int .i64 x)) g { s with nd := x } vh vr vs va hs rs S C := by
  have hgn := h.gone
  have set : ∀ k, k ≠ g → (w.setCell ⟨g, 8, none⟩ (.int .i64 x)).heap[k]? = w.heap[k]? := fun k hk => blk_set_other _ _ _ _ hk
  exact ⟨h.rb.set_nd x, own_at h.oh fun k e => set k (hgn.1 k e), own_at h.og fun k e => set k (hgn.2.1 k e), own_at h.os fun k e => set k (hgn.2.2.1 k e), own_at h.oc fun k e => set k (hgn.2.2.2 k e), h.hr, h.h2, h.hc, h.r2, h.rc, h.sc⟩
theorem RB.c8 {w : World} {g : Nat} {s : Sn} {vh vr vs va : Value} (h : RB w g s vh vr vs va) : w.cell? ⟨g, 8, none⟩ = some (.int .i64 s.nd) := cellOf h 8 _ rfl
section
variable (g : Nat) (s : Sn) (vh vr vs va : Value) (hs : List Int) (rs : List (Int × Int)) (S C : List Pd) (w : World)
set_option maxRecDepth 100000 in
set_option maxHeartbeats 1000000 in
theorem rdeliver_no (h : Int) (tag : ByteArray) (settled : Bool) (hS : RS w g s vh vr vs va hs rs S C) (hl : hs.length ≤ 4294967296) (hc : S.length ≤ 4294967296) (hE : noteR hs S s.nd h ≠ 0) :
    Calls Try.prog 39 #[.pointer (some ⟨g, 0, none⟩), .int .i64 h, .string tag, .bool settled] w fun e w' => e = .returned (.tuple #[.int .i64 0, .int .i64 (noteR hs S s.nd h)]) ∧ w' = w := by
  have HU := hide (RS.used g s vh vr vs va hs rs S C w hS h hl)
  have HN := hide (numberedV w hS.os s.nd hc)
  have c15 := hS.rb.c15
  have c8 := hS.rb.c8
  have hlg := hS.rb.lt
  clear hS
  unfold noteR at *
  cases h1 : hasH hs h
  · rw [h1] at HU
    clear hE h1
    go_enter Try.func39, Try.ntmps39
    go_wp2_with fail
    refine HU.out.mono ?_
    rintro e1 w1 ⟨rfl, rfl⟩
    go_wp2
    go_ret2
    exact ⟨rfl, rfl⟩
  · rw [h1] at HU hE
    cases h2 : hasN S s.nd
    · rw [h2] at hE
      exact absurd rfl hE
    · rw [h2] at HN
      clear h1 h2 hE
      go_enter Try.func39, Try.ntmps39
      go_wp2_with fail
      refine HU.out.mono ?_
      rintro e1 w1 ⟨rfl, rfl⟩
      go_wp2_with fail
      refine HN.out.mono ?_
      rintro e1 w1 ⟨rfl, rfl⟩
      go_wp2
      go_ret2
      exact ⟨rfl, rfl⟩
theorem noteR_zero {hs : List Int} {C : List Pd} {id h : Int} (hE : noteR hs C id h = 0) : hasH hs h = true ∧ hasN C id = false := by
  have h1 : hasH hs h = true := by
    cases hx : hasH hs h
    · simp [noteR, hx] at hE
    · rfl
  refine ⟨h1, ?_⟩
  cases hx : hasN C id
  · rfl
  · simp [noteR, hx, h1] at hE
set_option maxRecDepth 100000 in
set_option maxHeartbeats 1000000 in
theorem rdeliver_settled (h : Int) (tag : ByteArray) (hS : RS w g s vh vr vs va hs rs S C) (hl : hs.length ≤ 4294967296) (hc : S.length ≤ 4294967296) (hE : noteR hs S s.nd h = 0) :
    Calls Try.prog 39 #[.pointer (some ⟨g, 0, none⟩), .int .i64 h, .string tag, .bool true] w fun e w' => e = .returned (.tuple #[.int .i64 s.nd, .int .i64 0]) ∧ RS w' g { s with nd := (s.nd + 1) % 4294967296 } vh vr vs va hs rs S C ∧ Kp (RSb g vh vr vs va) w w' := by
  have HS := hide hS
  have HU := hide (RS.used g s vh vr vs va hs rs S C w hS h hl)
  have HN := hide (numberedV w hS.os s.nd hc)
  have c15 := hS.rb.c15
  have c8 := hS.rb.c8
  have f8 := hS.rb.frozen 8
  have hlg := hS.rb.lt
  rw [(noteR_zero hE).1] at HU
  rw [(noteR_zero hE).2] at HN
  clear hS hE
  go_enter Try.func39, Try.ntmps39
  go_wp2_with fail
  refine HU.out.mono ?_
  rintro e1 w1 ⟨rfl, rfl⟩
  go_wp2_with fail
  refine HN.out.mono ?_
  rintro e1 w1 ⟨rfl, rfl⟩
  go_wp2_with (go_at_call 66; refine (radd_any _ _ _).mono ?_; rintro e2 w2 ⟨rfl, rfl⟩)
  go_ret2
  exact ⟨rfl, HS.out.set_nd _, Kp.setCell (Kp.refl _ _) (.inl rfl) _⟩
set_option maxRecDepth 100000 in
set_option maxHeartbeats 1000000 in
theorem rdeliver_yes (h : Int) (tag : ByteArray) (hS : RS w g s vh vr vs va hs rs S C) (hl : hs.length ≤ 4294967296) (hc : S.length < 4294967296) (hE : noteR hs S s.nd h = 0) :
    Calls Try.prog 39 #[.pointer (some ⟨g, 0, none⟩), .int .i64 h, .string tag, .bool false] w fun e w' => ∃ v', e = .returned (.tuple #[.int .i64 s.nd, .int .i64 0]) ∧ RS w' g { s with nd := (s.nd + 1) % 4294967296 } vh vr v' va hs rs (S ++ ([(s.nd, h, tag)] : List Pd)) C ∧ Kp (RSb g vh vr vs va) w w' ∧ ∀ k, RSb g vh vr v' va k → RSb g vh vr vs va k ∨ w.heap.size ≤ k := by
  have HS := hide hS
  have HU := hide (RS.used g s vh vr vs va hs rs S C w hS h hl)
  have HN := hide (numberedV w hS.os s.nd (by omega))
  have c15 := hS.rb.c15
  have c8 := hS.rb.c8
  have hlg := hS.rb.lt
  rw [(noteR_zero hE).1] at HU
  rw [(noteR_zero hE).2] at HN
  have hgn : Hid (∀ x, vs.ownBlock = some x → x ≠ g) := hS.gone.2.2.1
  obtain ⟨i0, hi0, hz0, hz1, hz2⟩ := info_parts Try.infoPd
  clear hS hE
  go_enter Try.func39, Try.ntmps39
  go_wp2_with fail
  refine HU.out.mono ?_
  rintro e1 w1 ⟨rfl, rfl⟩
  go_wp2_with fail
  refine HN.out.mono ?_
  rintro e1 w1 ⟨rfl, rfl⟩
  go_wp2_with (first | (at_builtin; refine wpList_append_own_at _ rfl _ _ 72 rfl (g + 1) 75 i0 (pdV pd0) 3 32 Try.underlying72 hi0 hz0 hz1 hz2 rfl (by decide) _ _ _ rfl (HS.out.os.alloc _) ⟨_, 0, none⟩ 1 1 (pdL (s.nd, h, tag)) rfl rfl (cell_pd_new _ _ _) (pd_one _) (by unfold maxLen; omega) (by omega) (by simp; omega) ?_; intro v' w2 hown' hgrow hnil hloc; obtain ⟨a', c', rfl⟩ := own_slice hown'; have rb2 := (HS.out.rb.alloc _).at (hgrow.block g (by simp; omega) (fun e => hgn.out g e.symm rfl)); have hc2 := rb2.c15; have hf2 := rb2.frozen 15; have hc8 := rb2.c8; have hf8 := rb2.frozen 8; have hl2 := rb2.lt; clear rb2) | (go_at_call 66; refine (radd_any _ _ _).mono ?_; rintro e2 w3 ⟨rfl, rfl⟩))
  go_ret2
  have := HS.out.grown_vs (s.nd, h, tag) hown' hgrow hloc
  exact ⟨_, rfl, this.1.set_nd _, Kp.setCell this.2.1 (.inl rfl) _, this.2.2⟩
end
end Go.Proofs.Ytondbhdlccpklaa


/- Stage 13: the document's Handle, Remote. -/
namespace Go.Proofs.Ytondbhdlccpklaa
open Go.RowKit Go.Maps
set_option linter.unusedVariables false
set_option linter.unusedSimpArgs false

theorem RB.c1 {w : World} {g : Nat} {s : Sn} {vh vr vs va : Value} (h : RB w g s vh vr vs va) : w.cell? ⟨g, 1, none⟩ = some (.bool s.peer) := cellOf h 1 _ rfl
theorem RB.c11 {w : World} {g : Nat} {s : Sn} {vh vr vs va : Value} (h : RB w g s vh vr vs va) : w.cell? ⟨g, 11, none⟩ = some (.int .i64 s.hm) := cellOf h 11 _ rfl
theorem RB.c12 {w : World} {g : Nat} {s : Sn} {vh vr vs va : Value} (h : RB w g s vh vr vs va) : w.cell? ⟨g, 12, none⟩ = some (.int .i64 s.rh) := cellOf h 12 _ rfl
section
variable (g : Nat) (s : Sn) (vh vr vs va : Value) (hs : List Int) (rs : List (Int × Int)) (S C : List Pd) (w : World)
set_option maxRecDepth 100000 in
theorem rhandle_down (hS : RS w g s vh vr vs va hs rs S C) (hp : s.peer = false) :
    Calls Try.prog 44 #[.pointer (some ⟨g, 0, none⟩)] w fun e w' => e = .returned (.tuple #[.int .i64 0, .int .i64 4]) ∧ w' = w := by
  have c1 := hS.rb.c1
  have hlg := hS.rb.lt
  rw [hp] at c1
  clear hS hp
  go_enter Try.func44, Try.ntmps44
  go_wp2
  go_ret2
  exact ⟨rfl, rfl⟩
set_option maxRecDepth 100000 in
theorem rhandle_full (hS : RS w g s vh vr vs va hs rs S C) (hp : s.peer = true) (h64 : 64 ≤ hs.length) (hl : hs.length ≤ 4294967296) :
    Calls Try.prog 44 #[.pointer (some ⟨g, 0, none⟩)] w fun e w' => e = .returned (.tuple #[.int .i64 0, .int .i64 132]) ∧ w' = w := by
  obtain ⟨a, c, rfl, hr⟩ := hS.oh.rd
  have c1 := hS.rb.c1
  have c13 := hS.rb.c13
  have hlg := hS.rb.lt
  rw [hp] at c1
  obtain ⟨n, hn⟩ : ∃ n, n = hs.length := ⟨_, rfl⟩
  rw [← hn] at c13 h64 hl
  have h64' : (64 : Int) ≤ (n : Int) := by omega
  clear hS hp hr hn
  go_enter Try.func44, Try.ntmps44
  go_wp2
  go_ret2
  exact ⟨rfl, rfl⟩
set_option maxRecDepth 100000 in
set_option maxHeartbeats 2000000 in
theorem rhandle_none (hS : RS w g s vh vr vs va hs rs S C) (hp : s.peer = true) (h64 : hs.length < 64) (hall : ∀ j : Nat, j ≤ hs.length → (j : Int) ≤ s.rh → hasH hs j = true) :
    Calls Try.prog 44 #[.pointer (some ⟨g, 0, none⟩)] w fun e w' => e = .returned (.tuple #[.int .i64 0, .int .i64 132]) ∧ w' = w := by
  obtain ⟨a, c, rfl, hr⟩ := hS.oh.rd
  have HS := hide hS
  have c1 := hS.rb.c1
  have c12 := hS.rb.c12
  have c13 := hS.rb.c13
  have hlg := hS.rb.lt
  rw [hp] at c1
  have HA := hide hall
  have HL := hide h64
  obtain ⟨n, hn⟩ : ∃ n, n = hs.length := ⟨_, rfl⟩
  rw [← hn] at c13 h64
  have HN := hide hn
  have h64' : (n : Int) < 64 := by omega
  clear hS hp hr hn hall
  go_enter Try.func44, Try.ntmps44
  go_wp2
  go_loopw [4] (fun i wr => ∃ j : Nat, i = .int .i64 j ∧ j ≤ n + 1 ∧ w = wr) (fun i _ => n + 1 - (intOf i).toNat)
  case atStart => exact ⟨0, rfl, Nat.zero_le _, rfl⟩
  case round =>
    obtain ⟨j, rfl, hj, rfl⟩ := hrel
    have hjb : (j : Int) ≤ 64 := by omega
    by_cases hjn : (j : Int) ≤ (n : Int)
    · by_cases hjr : (j : Int) ≤ s.rh
      · have HU := hide (RS.used g s _ vr vs va hs rs S C w HS.out (j : Int) (by have := HL.out; omega))
        rw [HA.out j (by have := HN.out; omega) hjr] at HU
        go_wp2_with (go_at_call 64; refine HU.out.mono ?_; rintro e1 w1 ⟨rfl, rfl⟩)
        go_roundw
        case rel => exact ⟨j + 1, by go_num, by omega, by trivial⟩
        case measure => simp [intOf]; omega
      · go_wp2
        go_ret2
        exact ⟨rfl, rfl⟩
    · go_wp2
      go_ret2
      exact ⟨rfl, rfl⟩
set_option maxRecDepth 100000 in
set_option maxHeartbeats 2000000 in
theorem rhandle_yes (h : Nat) (hS : RS w g s vh vr vs va hs rs S C) (hp : s.peer = true) (h64 : hs.length < 64) (hh : h ≤ hs.length) (hrh : (h : Int) ≤ s.rh) (hall : ∀ j : Nat, j < h → hasH hs j = true) (hfree : hasH hs h = false) :
    Calls Try.prog 44 #[.pointer (some ⟨g, 0, none⟩)] w fun e w' => ∃ v', e = .returned (.tuple #[.int .i64 h, .int .i64 0]) ∧ RS w' g s v' vr vs va (hs ++ [(h : Int)]) rs S C ∧ Kp (RSb g vh vr vs va) w w' ∧ ∀ k, RSb g v' vr vs va k → RSb g vh vr vs va k ∨ w.heap.size ≤ k := by
  obtain ⟨a, c, rfl, hr⟩ := hS.oh.rd
  have HS := hide hS
  have c1 := hS.rb.c1
  have c12 := hS.rb.c12
  have c13 := hS.rb.c13
  have hlg := hS.rb.lt
  rw [hp] at c1
  have HA := hide hall
  have HF := hide hfree
  have HL := hide h64
  have hgn : Hid (∀ x, (Value.slice a hs.length c).ownBlock = some x → x ≠ g) := hS.gone.1
  obtain ⟨n, hn⟩ : ∃ n, n = hs.length := ⟨_, rfl⟩
  rw [← hn] at c13 h64 hh
  have HN := hide hn
  have h64' : (n : Int) < 64 := by omega
  obtain ⟨i0, hi0, hz0, hz1, hz2⟩ := info_parts Try.infoInt
  clear hS hp hr hn hall hfree
  go_enter Try.func44, Try.ntmps44
  go_wp2
  go_loopw [4] (fun i wr => ∃ j : Nat, i = .int .i64 j ∧ j ≤ h ∧ w = wr) (fun i _ => h - (intOf i).toNat)
  case atStart => exact ⟨0, rfl, Nat.zero_le _, rfl⟩
  case round =>
    obtain ⟨j, rfl, hj, rfl⟩ := hrel
    have hjb : (j : Int) ≤ 64 := by omega
    have hjn : (j : Int) ≤ (n : Int) := by omega
    have hjr : (j : Int) ≤ s.rh := by omega
    have HU := hide (RS.used g s _ vr vs va hs rs S C w HS.out (j : Int) (by have := HL.out; omega))
    by_cases hjh : j < h
    · rw [HA.out j hjh] at HU
      go_wp2_with (go_at_call 64; refine HU.out.mono ?_; rintro e1 w1 ⟨rfl, rfl⟩)
      go_roundw
      case rel => exact ⟨j + 1, by go_num, by omega, by trivial⟩
      case measure => simp [intOf]; omega
    · have ejh : j = h := by omega
      subst ejh
      rw [HF.out] at HU
      go_wp2_with (first | (go_at_call 64; refine HU.out.mono ?_; rintro e1 w1 ⟨rfl, rfl⟩) | (at_builtin; refine wpList_append_own_at _ rfl _ _ 68 rfl (g + 1) 3 i0 (.int .i64 0) 1 8 Try.underlying68 hi0 hz0 hz1 hz2 rfl (by decide) _ _ _ (by rw [HN.out]; rfl) (HS.out.oh.alloc _) ⟨_, 0, none⟩ 1 1 [.int .i64 j] rfl rfl (cell_one_new _ _ _) (ints_oneCell .i64 [(j : Int)]) (by have := HL.out; unfold maxLen; omega) (by have := HL.out; omega) (by simp; omega) ?_; intro v' w2 hown' hgrow hnil hloc; obtain ⟨a', c', rfl⟩ := own_slice hown'; have rb2 := (HS.out.rb.alloc _).at (hgrow.block g (by simp; omega) (fun e => hgn.out g e.symm rfl)); have hc2 := rb2.c13; have hf2 := rb2.frozen 13; have hl2 := rb2.lt; clear rb2))
      go_ret2
      have := HS.out.grown_vh (j : Int) hown' hgrow hloc
      exact ⟨_, rfl, this⟩
end
end Go.Proofs.Ytondbhdlccpklaa


/- Stage 13: the document's Remote. -/
namespace Go.Proofs.Ytondbhdlccpklaa
open Go.RowKit Go.Maps
set_option linter.unusedVariables false
set_option linter.unusedSimpArgs false

theorem flatR_get (rs : List (Int × Int)) : ∀ (j : Nat) (hj : j < rs.length), (rs.flatMap fun p => [Value.int .i64 p.1, .int .i64 p.2])[j * 2]? = some (.int .i64 rs[j].1) ∧ (rs.flatMap fun p => [Value.int .i64 p.1, .int .i64 p.2])[j * 2 + 1]? = some (.int .i64 rs[j].2) := by
  induction rs with
  | nil => intro j hj; simp at hj
  | cons p t ih =>
    intro j hj
    cases j with
    | zero => simp
    | succ j =>
      have := ih j (by simpa using hj)
      rw [List.flatMap_cons]
      have e : (j + 1) * 2 = j * 2 + 1 + 1 := by omega
      rw [e]
      exact this
theorem OwnR.rd {w : World} {base : Nat} {v : Value} {rs : List (Int × Int)} (h : OwnR w base v rs) : ∃ a cap, v = .slice a rs.length cap ∧ RdR w a rs := by
  rcases h.2 with ⟨h1, h2⟩ | ⟨g, cap, cur, rfl, r1, r2, r3, r4, r5, r6⟩
  · exact ⟨none, 0, by rw [h1, h2], fun j hj => by omega⟩
  · refine ⟨_, cap, rfl, fun j hj => ⟨g, rfl, (Array.getElem?_eq_some_iff.1 r2).1, ?_, ?_⟩⟩
    · rw [World.ownsRow.cellAt h (j * 2) (by omega)]
      exact (flatR_get rs j hj).1
    · rw [World.ownsRow.cellAt h (j * 2 + 1) (by omega)]
      exact (flatR_get rs j hj).2
theorem Try.infoPr : (Try.prog.info? 110).map (fun i => (i.zero, i.size, i.bytes)) = some (some (.agg #[.int .i64 0, .int .i64 0]), 2, 16) := by kernel_rfl
theorem cell_pr_new (w : World) (p : Int × Int) (t : TypeId) : ∀ j u, [Value.int .i64 p.1, .int .i64 p.2][j]? = some u → (w.alloc (.cells #[.int .i64 p.1, .int .i64 p.2] t)).cell? ((⟨w.heap.size, 0, none⟩ : Addr).add j) = some u := by
  intro j u hj
  match j, hj with
  | 0, hj => simp at hj; subst hj; simp [Addr.add]
  | 1, hj => simp at hj; subst hj; simp [Addr.add]
  | j + 2, hj => simp at hj
theorem pr_one (p : Int × Int) : ∀ u ∈ [Value.int .i64 p.1, .int .i64 p.2], u.oneCell' = true := by
  intro u hu
  simp at hu
  rcases hu with rfl | rfl <;> rfl
def takenR (rs : List (Int × Int)) (r h : Int) : Bool := rs.any fun p => p.1 == r || p.2 == h
section
variable (g : Nat) (s : Sn) (vh vr vs va : Value) (hs : List Int) (rs : List (Int × Int)) (S C : List Pd) (w : World)
set_option maxRecDepth 100000 in
set_option maxHeartbeats 1000000 in
theorem rremote_bad (r h : Int) (hS : RS w g s vh vr vs va hs rs S C) (hl : hs.length ≤ 4294967296) (hb : r < 0 ∨ r > s.hm ∨ hasH hs h = false) :
    Calls Try.prog 46 #[.pointer (some ⟨g, 0, none⟩), .int .i64 r, .int .i64 h] w fun e w' => e = .returned (.int .i64 132) ∧ w' = w := by
  have HU := hide (RS.used g s vh vr vs va hs rs S C w hS h hl)
  have c11 := hS.rb.c11
  have hlg := hS.rb.lt
  obtain ⟨b, eb⟩ : ∃ b, hasH hs h = b := ⟨_, rfl⟩
  rw [eb] at HU hb
  clear hS eb
  have hcase : r < 0 ∨ (0 ≤ r ∧ s.hm < r) ∨ (0 ≤ r ∧ r ≤ s.hm ∧ b = false) := by
    rcases hb with h | h | h
    · exact .inl h
    · by_cases h0 : r < 0
      · exact .inl h0
      · exact .inr (.inl ⟨by omega, by omega⟩)
    · by_cases h0 : r < 0
      · exact .inl h0
      · by_cases h1 : s.hm < r
        · exact .inr (.inl ⟨by omega, h1⟩)
        · exact .inr (.inr ⟨by omega, by omega, h⟩)
  clear hb
  rcases hcase with h0 | ⟨h0, h1⟩ | ⟨h0, h1, rfl⟩
  all_goals
    go_enter Try.func46, Try.ntmps46
    go_wp2_with (go_at_call 64; refine HU.out.mono ?_; rintro e1 w1 ⟨rfl, rfl⟩)
    go_ret
    exact ⟨rfl, rfl⟩
set_option maxRecDepth 100000 in
set_option maxHeartbeats 2000000 in
theorem rremote_any (r h : Int) (hS : RS w g s vh vr vs va hs rs S C) (hl : hs.length ≤ 4294967296) (hr : rs.length < 4294967296) (h0 : 0 ≤ r) (h1 : r ≤ s.hm) (hu : hasH hs h = true) :
    Calls Try.prog 46 #[.pointer (some ⟨g, 0, none⟩), .int .i64 r, .int .i64 h] w fun e w' => (takenR rs r h = true ∧ e = .returned (.int .i64 132) ∧ w' = w) ∨ (takenR rs r h = false ∧ ∃ v', e = .returned (.int .i64 0) ∧ RS w' g s vh v' vs va hs (rs ++ [(r, h)]) S C ∧ Kp (RSb g vh vr vs va) w w' ∧ ∀ k, RSb g vh v' vs va k → RSb g vh vr vs va k ∨ w.heap.size ≤ k) := by
  have HU := hide (RS.used g s vh vr vs va hs rs S C w hS h hl)
  rw [hu] at HU
  obtain ⟨a, c, rfl, ha⟩ := hS.og.rd
  have HS := hide hS
  have HA := hide ha
  have HL := hide hr
  have c11 := hS.rb.c11
  have c14 := hS.rb.c14
  have hlg := hS.rb.lt
  have hgn : Hid (∀ x, (Value.slice a rs.length c).ownBlock = some x → x ≠ g) := hS.gone.2.1
  obtain ⟨n, hn⟩ : ∃ n, n = rs.length := ⟨_, rfl⟩
  rw [← hn] at c14 hr
  have HN := hide hn
  obtain ⟨i0, hi0, hz0, hz1, hz2⟩ := info_parts Try.infoPr
  clear hS ha hn hu
  go_enter Try.func46, Try.ntmps46
  go_wp2_with (go_at_call 64; refine HU.out.mono ?_; rintro e1 w1 ⟨rfl, hw1⟩; have hw2 := hw1.symm; subst hw2; clear hw1)
  clear HU
  go_loopw [8] (fun i wr => ∃ j : Nat, i = .int .i64 j ∧ j ≤ n ∧ w = wr ∧ Hid (∀ x (hx : x < rs.length), x < j → (rs[x].1 == r || rs[x].2 == h) = false)) (fun i _ => n - (intOf i).toNat)
  case atStart => exact ⟨0, rfl, Nat.zero_le _, rfl, fun x _ h => by omega⟩
  case round =>
    obtain ⟨j, rfl, hj, rfl, hm⟩ := hrel
    by_cases hjn : j < n
    · have hjh : j < rs.length := by have := HN.out; omega
      obtain ⟨b, rfl, hb, hc, hd⟩ := HA.out j hjh
      obtain ⟨x0, hx0⟩ : ∃ x0, x0 = rs[j].1 := ⟨_, rfl⟩
      obtain ⟨y0, hy0⟩ : ∃ y0, y0 = rs[j].2 := ⟨_, rfl⟩
      rw [← hx0] at hc
      rw [← hy0] at hd
      have HX := hide hx0
      have HY := hide hy0
      have hjb : (j : Int) ≤ 4294967296 := by omega
      clear hx0 hy0
      by_cases hx : x0 = r
      · have HR : Hid (takenR rs r h = true) := any_hit hjh (by rw [← HX.out]; simp [hx])
        have hxb : (x0 == r) = true := by simp [hx]
        go_wp2
        go_ret
        exact .inl ⟨HR.out, rfl, rfl⟩
      · have hxb : (x0 == r) = false := by simp [hx]
        by_cases hy : y0 = h
        · have HR : Hid (takenR rs r h = true) := any_hit hjh (by rw [← HY.out]; simp [hy])
          have hyb : (y0 == h) = true := by simp [hy]
          go_wp2
          go_ret
          exact .inl ⟨HR.out, rfl, rfl⟩
        · have hyb : (y0 == h) = false := by simp [hy]
          have HM : Hid (∀ x (hx : x < rs.length), x < j + 1 → (rs[x].1 == r || rs[x].2 == h) = false) := fun x hx' hxj => by
            by_cases e : x = j
            · subst e
              rw [← HX.out, ← HY.out, hxb, hyb]
              rfl
            · exact hm.out x hx' (by omega)
          go_wp2
          go_roundw
          case rel => exact ⟨j + 1, by go_num, by omega, by trivial, HM.out⟩
          case measure => simp [intOf]; omega
    · obtain rfl : j = n := by omega
      have HR : Hid (takenR rs r h = false) := any_miss (fun x hx => hm.out x hx (by have := HN.out; omega))
      go_wp2_with (at_builtin; refine wpList_append_own_at _ rfl _ _ 93 rfl (g + 1) 110 i0 (.agg #[.int .i64 0, .int .i64 0]) 2 16 Try.underlying93 hi0 hz0 hz1 hz2 rfl (by decide) _ _ _ (by rw [HN.out]; rfl) (HS.out.og.alloc _) ⟨_, 0, none⟩ 1 1 [.int .i64 r, .int .i64 h] rfl rfl (cell_pr_new _ (r, h) _) (pr_one (r, h)) (by have := HL.out; unfold maxLen; omega) (by have := HL.out; omega) (by simp; omega) ?_; intro v' w2 hown' hgrow hnil hloc; obtain ⟨a', c', rfl⟩ := own_slice hown'; have rb2 := (HS.out.rb.alloc _).at (hgrow.block g (by simp; omega) (fun e => hgn.out g e.symm rfl)); have hc2 := rb2.c14; have hf2 := rb2.frozen 14; have hl2 := rb2.lt; clear rb2)
      go_ret
      have := HS.out.grown_vr (r, h) hown' hgrow hloc
      exact .inr ⟨HR.out, _, rfl, this⟩
end
end Go.Proofs.Ytondbhdlccpklaa
