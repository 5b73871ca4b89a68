
/- SessionHandles: a handle is taken. -/
import Derived.Test.YtondbhdlccpklaaQHdW
namespace Go.Proofs.Ytondbhdlccpklaa
open Go.RowKit Go.Maps
set_option linter.unusedVariables false
set_option linter.unusedSimpArgs false

/-- while a handle is taken: the law's own note is of H0, the session's of H -/
structure Tk (w0 : World) (n u q : Nat) (m : Int) (H0 H R : List (Int × Int)) (C : List (Int × Pd)) (W : World) : Prop where
  ses : Ses W (n + 4) (sH n m) H R [] C
  ub : UB W u H0
  qc : W.cell? ⟨q, 16, none⟩ = some (.int .i64 m)
  ql : q < n
  ul : n + 4 < u
  be : Below w0.heap.size w0 W
  nw : w0.heap.size ≤ n
section
variable {w0 W W' : World} {n u q : Nat} {m : Int} {i h : Nat} {H0 H R H' R' : List (Int × Int)} {C C' : List (Int × Pd)}
theorem Hs.tk (h : Hs w0 n u q m i H R C W) : Tk w0 n u q m H H R C W := ⟨h.ses, h.ub, h.qc, h.ql, h.ul, h.be, h.nw⟩
theorem Tk.hs (h : Tk w0 n u q m H H R C W) (hd : HD H R C i) : Hs w0 n u q m i H R C W := ⟨h.ses, h.ub, h.qc, h.ql, h.ul, h.be, h.nw, hd⟩
theorem Tk.turn (h : Tk w0 n u q m H0 H R C W) {X : Nat → Prop} (hk : Kp X W W') (hx : ∀ k, X k → n ≤ k ∧ k ≤ n + 3) (hs : Ses W' (n + 4) (sH n m) H' R' [] C') : Tk w0 n u q m H0 H' R' C' W' := by
  refine ⟨hs, ?_, (hk.cell (by have := h.ses.sb.lt; have := h.ql; omega) (fun e => by have := hx _ e; have := h.ql; omega)).trans h.qc, h.ql, h.ul, kpNew h.be h.be.size hk (fun k hk => by have := hx k hk; have := h.nw; omega), h.nw⟩
  exact h.ub.at (hk.block h.ub.lt (fun e => by have := hx _ e; have := h.ul; omega))
theorem UB.same (h : UB W u H) (he : ∀ j : Nat, hasK H' (j : Int) = hasK H (j : Int)) : UB W u H' := by
  obtain ⟨A, h1, h2, h3⟩ := h
  exact ⟨A, h1, h2, fun j hj => by rw [h3 j hj, he]⟩
theorem Tk.same (h : Tk w0 n u q m H0 H R C W) (he : ∀ j : Nat, hasK H' (j : Int) = hasK H0 (j : Int)) : Tk w0 n u q m H' H R C W := ⟨h.ses, h.ub.same he, h.qc, h.ql, h.ul, h.be, h.nw⟩
theorem hasK_cons {A : Type} (k : Int) (x : A) (l : List (Int × A)) (j : Int) : hasK ((k, x) :: l) j = (k == j || hasK l j) := by
  unfold hasK
  rw [List.any_cons]
theorem Hs.full (g : Hs w0 n u q m i H R C W) (hm : 0 ≤ m) (hall : ∀ j : Nat, j < 64 → (j : Int) ≤ m → hasK H j = true) :
    Calls Try.prog 27 #[.pointer (some ⟨n + 4, 0, none⟩)] W fun e w' => e = .returned (.tuple #[.int .i64 0, .int .i64 132]) ∧ w' = W :=
  handle_full (n + 4) (sH n m) H W g.ses.sb g.ses.th rfl hm hall
theorem Hs.handle (g : Hs w0 n u q m i H R C W) (hi : i ≤ 1048576) (h64 : h < 64) (hrh : (h : Int) ≤ m) (hall : ∀ j : Nat, j < h → hasK H j = true) (hfree : hasK H h = false) :
    Calls Try.prog 27 #[.pointer (some ⟨n + 4, 0, none⟩)] W fun e w' => e = .returned (.tuple #[.int .i64 h, .int .i64 0]) ∧ Tk w0 n u q m H (((h : Int), -1) :: H) R C w' := by
  refine (handle_yes (n + 4) (sH n m) H h W g.ses.sb g.ses.th rfl (by have := g.hd.lh; show _ < maxLen; unfold maxLen; omega) h64 hrh hall hfree).mono ?_
  rintro e w' ⟨rfl, ht, hk⟩
  exact ⟨rfl, g.tk.turn hk (fun k e => by rw [e]; exact ⟨Nat.le_refl n, by show n ≤ n + 3; omega⟩) (g.ses.handled ht hk)⟩
theorem Tk.mark (g : Tk w0 n u q m H (((h : Int), -1) :: H) R C W) (h64 : h < 64) : Tk w0 n u q m (((h : Int), -1) :: H) (((h : Int), -1) :: H) R C (W.setCell ⟨u, h, none⟩ (.bool true)) := by
  have hkp : Kp (fun x => x = u) W (W.setCell ⟨u, h, none⟩ (.bool true)) := kp_self (Kp.refl _ _) _ _
  have ul := g.ul
  have ql := g.ql
  have nw := g.nw
  refine ⟨g.ses.at (fun x hx => ?_), g.ub.set (by omega) true (by rw [hasK_cons]; simp) (fun x hx => ?_), ?_, ql, ul, kpNew g.be g.be.size hkp (fun x hx => by omega), nw⟩
  · refine blk_set_other _ _ _ _ ?_
    rcases hx with e | e | e | e | e
    · rw [e]; show n + 4 ≠ u; omega
    · rw [e]; show n ≠ u; omega
    · rw [e]; show n + 1 ≠ u; omega
    · rw [e]; show n + 2 ≠ u; omega
    · rw [e]; show n + 3 ≠ u; omega
  · rw [hasK_cons]
    have : ((h : Int) == (x : Int)) = false := by simp; omega
    rw [this, Bool.false_or]
  · exact (hkp.cell (by have := g.ses.sb.lt; omega) (by omega)).trans g.qc
theorem Tk.remote (g : Tk w0 n u q m (((h : Int), -1) :: H) (((h : Int), -1) :: H) R C W) (hd : HD H R C i) (hi : i < 1048576) (h64 : h < 64) (hfree : hasK H h = false) :
    Calls Try.prog 34 #[.pointer (some ⟨n + 4, 0, none⟩), .int .i64 ((h : Int) + 10), .int .i64 (h : Int)] W fun e w' => e = .returned (.int .i64 0) ∧ Tk w0 n u q m (((h : Int), (h : Int) + 10) :: H) (((h : Int), (h : Int) + 10) :: H) (((h : Int) + 10, (h : Int)) :: R) C w' := by
  refine (remote_yes (n + 4) (sH n m) (((h : Int), -1) :: H) R ((h : Int) + 10) h W g.ses.sb g.ses.th g.ses.tr g.ses.hr (by omega) (show (h : Int) + 10 ≤ 100 by omega) (show (100 : Int) ≤ 4294967295 by omega) (hd.noR hfree) (by rw [hasK_cons]; simp) (by simp [lu]) (wf_of (by omega) (by omega)) (by have := hd.lh; show _ < maxLen; unfold maxLen; simp; omega) (by have := hd.lr; show _ < maxLen; unfold maxLen; omega)).mono ?_
  rintro e w' ⟨rfl, h1, h2, hk⟩
  have hf : ((((h : Int), (-1 : Int)) :: H).filter fun p => p.1 != (h : Int)) = H := by
    rw [List.filter_cons_of_neg (by simp)]
    exact filter_none (any_not.1 hfree)
  rw [hf] at h1
  refine ⟨rfl, (g.turn hk (fun k e => ?_) (g.ses.remoted h1 h2 hk)).same (fun j => by rw [hasK_cons, hasK_cons])⟩
  rcases e with e | e
  · rw [e]; exact ⟨Nat.le_refl n, by show n ≤ n + 3; omega⟩
  · rw [e]; exact ⟨by show n ≤ n + 1; omega, by show n + 1 ≤ n + 3; omega⟩
theorem Tk.local (g : Tk w0 n u q m H0 H (((h : Int) + 10, (h : Int)) :: R) C W) (h64 : h < 64) :
    Calls Try.prog 33 #[.pointer (some ⟨n + 4, 0, none⟩), .int .i64 ((h : Int) + 10)] W fun e w' => e = .returned (.tuple #[.int .i64 (h : Int), .bool true]) ∧ w' = W := by
  have := local_any (n + 4) (sH n m) (((h : Int) + 10, (h : Int)) :: R) ((h : Int) + 10) W g.ses.sb g.ses.tr (wf_of (by omega) (by omega))
  rw [hasK_cons] at this
  simpa [lu] using this
theorem Tk.arrive (t : ByteArray) (g : Tk w0 n u q m (((h : Int), (h : Int) + 10) :: H) (((h : Int), (h : Int) + 10) :: H) (((h : Int) + 10, (h : Int)) :: R) C W) (hd : HD H R C i) (hi : i < 1048576) (h64 : h < 64) (hfree : hasK H h = false) :
    Calls Try.prog 28 #[.pointer (some ⟨n + 4, 0, none⟩), .int .i64 (i : Int), .int .i64 (h : Int), .string t, .bool false] W fun e w' => e = .returned (.int .i64 0) ∧ Hs w0 n u q m (i + 1) (((h : Int), (h : Int) + 10) :: H) (((h : Int) + 10, (h : Int)) :: R) (((i : Int), ((i : Int), (h : Int), t)) :: C) w' := by
  have hno : hasK C (i : Int) = false := by
    rw [← Bool.not_eq_true, hasK_mem]
    rintro ⟨x, hx⟩
    have := (hd.ch _ hx).2.2.2
    simp at this
  have hy : hasK (((h : Int), (h : Int) + 10) :: H) (h : Int) = true := by rw [hasK_cons]; simp
  refine (arrive_yes (n + 4) (sH n m) (((h : Int), (h : Int) + 10) :: H) C i h t W (by simp [isW]; omega) g.ses.sb g.ses.th g.ses.tc (wf_of (by omega) (by omega)) (by unfold noteE; rw [hy, hno]; rfl) (by have := hd.lc; show _ < maxLen; unfold maxLen; omega)).mono ?_
  rintro e w' ⟨rfl, ht, hk⟩
  exact ⟨rfl, (g.turn hk (fun k e => by rw [e]; exact ⟨by show n ≤ n + 3; omega, Nat.le_refl _⟩) (g.ses.arrived ht hk)).hs (hd.take hfree h64 t)⟩
end
end Go.Proofs.Ytondbhdlccpklaa
