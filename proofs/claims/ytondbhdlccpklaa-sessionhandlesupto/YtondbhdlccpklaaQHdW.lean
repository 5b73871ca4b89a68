
/- SessionHandles: the walk. -/
import Derived.Test.YtondbhdlccpklaaQHdM
import Derived.Test.YtondbhdlccpklaaQBgn
import Derived.Deep.OwnRows
namespace Go.Proofs.Ytondbhdlccpklaa
open Go.RowKit Go.Maps
set_option linter.unusedVariables false
set_option linter.unusedSimpArgs false

def pq (m : Int) : Array Value := pfA 17 0 0 2 5 10 m 0 0 0 0 false
theorem pq_pf (m : Int) : PfB (pq m) 17 0 2 5 10 m := pfA_pf ..
theorem pq_size (m : Int) : (Try.prog.info? 39).map (·.size) = some (pq m).size := pfI ..
theorem pq_four {m : Int} (h : 0 ≤ m ∧ m ≤ 4294967295) : four 17 2 5 10 m = true := by
  simp [four, isW]
  omega
theorem pf0_pq : pf0 = pq 1 := rfl
set_option maxRecDepth 100000 in
/-- one field written -/
theorem pq_set {W : World} {b : Nat} {m x : Int} (h : W.heap[b]? = some (.cells (pq m) 39 (0, 0))) : (W.setCell ⟨b, 16, none⟩ (.int .i64 x)).heap[b]? = some (.cells (pq x) 39 (0, 0)) := by
  simp only [World.setCell, Array.getElem?_modify, if_pos, h]
  kernel_rfl
theorem pq_cell {W : World} {b : Nat} {m : Int} (h : W.heap[b]? = some (.cells (pq m) 39 (0, 0))) : W.cell? ⟨b, 16, none⟩ = some (.int .i64 m) := cellOf h 16 _ (by kernel_rfl)
theorem pq_frozen {W : World} {b : Nat} {m : Int} (h : W.heap[b]? = some (.cells (pq m) 39 (0, 0))) : W.frozen? ⟨b, 16, none⟩ = false := by simp [World.frozen?, h]
def sH (n : Nat) (m : Int) : Sn := (newSn 2 5 10 100 n).peered 2 5 10 m
/-- which handles are in use, as the law keeps it -/
def UB (W : World) (u : Nat) (H : List (Int × Int)) : Prop := ∃ A : Array Value, W.heap[u]? = some (.cells A 4 (0, 0)) ∧ A.size = 65 ∧ ∀ j : Nat, j < 65 → A[j]? = some (.bool (hasK H (j : Int)))
theorem UB.at {W W' : World} {u : Nat} {H : List (Int × Int)} (h : UB W u H) (hb : W'.heap[u]? = W.heap[u]?) : UB W' u H := by
  obtain ⟨A, h1, h2⟩ := h
  exact ⟨A, hb.trans h1, h2⟩
theorem UB.lt {W : World} {u : Nat} {H : List (Int × Int)} (h : UB W u H) : u < W.heap.size := by
  obtain ⟨A, h1, _⟩ := h
  exact (Array.getElem?_eq_some_iff.1 h1).1
theorem UB.cell {W : World} {u : Nat} {H : List (Int × Int)} (h : UB W u H) (j : Nat) (hj : j < 65) : W.cell? ⟨u, j, none⟩ = some (.bool (hasK H (j : Int))) := by
  obtain ⟨A, h1, _, h3⟩ := h
  exact cellOf h1 j _ (h3 j hj)
theorem UB.frozen {W : World} {u : Nat} {H : List (Int × Int)} (h : UB W u H) (j : Nat) : W.frozen? ⟨u, j, none⟩ = false := by
  obtain ⟨A, h1, _⟩ := h
  simp [World.frozen?, h1]
theorem UB.set {W : World} {u : Nat} {H H' : List (Int × Int)} (h : UB W u H) {k : Nat} (hk : k < 65) (x : Bool) (hx : x = hasK H' (k : Int)) (ho : ∀ j : Nat, j ≠ k → hasK H' (j : Int) = hasK H (j : Int)) : UB (W.setCell ⟨u, k, none⟩ (.bool x)) u H' := by
  obtain ⟨A, h1, h2, h3⟩ := h
  refine ⟨A.setIfInBounds k (.bool x), ?_, by simp [h2], fun j hj => ?_⟩
  · simp [World.setCell, Array.getElem?_modify, h1]
  · rw [Array.getElem?_setIfInBounds]
    by_cases e : k = j
    · subst e
      simp [h2, hk, hx]
    · rw [if_neg e, h3 j hj, ho j (fun e' => e e'.symm)]
theorem Try.infoBo : (Try.prog.info? 4).map (fun i => (i.zero, i.size, i.bytes)) = some (some (.bool false), 1, 1) := by kernel_rfl
theorem make65 (w : World) : (Instr.makeSlice 79 (.int .i64 65) (.int .i64 65)).run Try.prog w = .ok (.slice (some ⟨w.heap.size, 0, none⟩) 65 65) (w.alloc (.cells (Array.replicate 65 (.bool false)) 4)) := by
  have := run_make_row' (P := Try.prog) 79 4 (.bool false) 1 Try.underlying79 Try.infoBo rfl .i64 .i64 65 (by omega) (by omega) w
  have e : madeCells #[Value.bool false] 65 = Array.replicate 65 (.bool false) := by kernel_rfl
  rw [e] at this
  exact this
theorem UB.made (w : World) : UB (w.alloc (.cells (Array.replicate 65 (.bool false)) 4)) w.heap.size [] := by
  refine ⟨_, heap_alloc_last w _, by simp, fun j hj => ?_⟩
  rw [Array.getElem?_replicate, if_pos hj]
  rfl
/-- all that the law holds -/
structure Hs (w0 : World) (n u q : Nat) (m : Int) (i : Nat) (H R : List (Int × Int)) (C : List (Int × Pd)) (W : World) : Prop where
  ses : Ses W (n + 4) (sH n m) H R [] C
  ub : UB W u H
  qc : W.cell? ⟨q, 16, none⟩ = some (.int .i64 m)
  ql : q < n
  ul : n + 4 < u
  be : Below w0.heap.size w0 W
  nw : w0.heap.size ≤ n
  hd : HD H R C i
theorem Hs.wd {w0 : World} {n u q : Nat} {m : Int} {i : Nat} {H R : List (Int × Int)} {C : List (Int × Pd)} {W : World} (h : Hs w0 n u q m i H R C W) (hi : i ≤ 1048576) : Words C := fun p hp => by
  have := h.hd.ch p hp
  omega
/-- the session alone is turned -/
theorem Hs.turn {w0 : World} {n u q : Nat} {m : Int} {i j : Nat} {H R H' R' : List (Int × Int)} {C C' : List (Int × Pd)} {W W' : World} (h : Hs w0 n u q m i H R C W) {X : Nat → Prop} (hk : Kp X W W') (hx : ∀ k, X k → n ≤ k ∧ k ≤ n + 3) (hs : Ses W' (n + 4) (sH n m) H' R' [] C') (hu : ∀ x : Nat, hasK H' (x : Int) = hasK H (x : Int)) (hd : HD H' R' C' j) : Hs w0 n u q m j H' R' C' W' := by
  refine ⟨hs, ?_, (hk.cell (by have := h.ses.sb.lt; have := h.ql; omega) (fun e => by have := hx _ e; have := h.ql; omega)).trans h.qc, h.ql, h.ul, kpNew h.be h.be.size hk (fun k hk => by have := hx k hk; have := h.nw; omega), h.nw, hd⟩
  obtain ⟨A, h1, h2, h3⟩ := h.ub
  exact ⟨A, (hk.block (Array.getElem?_eq_some_iff.1 h1).1 (fun e => by have := hx _ e; have := h.ul; omega)).trans h1, h2, fun j hj => by rw [h3 j hj, hu]⟩
theorem Hs.below {w0 : World} {n u q : Nat} {m : Int} {i : Nat} {H R : List (Int × Int)} {C : List (Int × Pd)} {W W' : World} (h : Hs w0 n u q m i H R C W) (hb : Below W.heap.size W W') : Hs w0 n u q m i H R C W' :=
  ⟨h.ses.below hb, h.ub.at (hb.block _ h.ub.lt), (hb.cell (p := ⟨q, 16, none⟩) (show q < W.heap.size by have := h.ql; have := h.ses.sb.lt; omega)).trans h.qc, h.ql, h.ul, belOn h.be h.be.size hb, h.nw, h.hd⟩
/-- behind a Free: the session is turned, what the law keeps is not yet -/
structure Fr (w0 : World) (n u q : Nat) (m : Int) (i : Nat) (H H' R' : List (Int × Int)) (C' : List (Int × Pd)) (k : Nat) (W : World) : Prop where
  ses : Ses W (n + 4) (sH n m) H' R' [] C'
  ub : UB W u H
  qc : W.cell? ⟨q, 16, none⟩ = some (.int .i64 m)
  be : Below w0.heap.size w0 W
  hd : HD H' R' C' (i + 1)
  gone : hasK H' (k : Int) = false
  rest : ∀ x : Nat, x ≠ k → hasK H' (x : Int) = hasK H (x : Int)
  len : (H'.length : Int) = if hasK H (k : Int) then (H.length : Int) - 1 else (H.length : Int)
theorem Hs.free {w0 : World} {n u q : Nat} {m : Int} {i : Nat} {H R : List (Int × Int)} {C : List (Int × Pd)} {W : World} (h : Hs w0 n u q m i H R C W) (k : Nat) (hk : k < 64) :
    Calls Try.prog 32 #[.pointer (some ⟨n + 4, 0, none⟩), .int .i64 (k : Int)] W fun e w' => ∃ H' R' C', e = .returned (.int .i64 (if hasK H (k : Int) then 0 else 132)) ∧ Fr w0 n u q m i H H' R' C' k w' := by
  have hwk : wf64 (k : Int) := wf_of (by omega) (by omega)
  cases hx : hasK H (k : Int)
  · refine (free_no (n + 4) (sH n m) H k W h.ses.sb h.ses.th hwk hx).mono ?_
    rintro e w' ⟨rfl, hb⟩
    have h' := h.below hb
    exact ⟨H, R, C, rfl, h'.ses, h'.ub, h'.qc, h'.be, h.hd.step, hx, fun _ _ => rfl, by rw [hx]; rfl⟩
  · have hv := h.hd.val hx
    refine (free_yes (n + 4) (sH n m) H R [] C k W h.ses hwk hx (by rw [hv.1]; exact wf_of (by omega) (by omega))).mono ?_
    rintro e w' ⟨rfl, hs, hkp⟩
    have hin : ∀ x, (x = (sH n m).bh ∨ x = (sH n m).br ∨ x = (sH n m).bs ∨ x = (sH n m).bc) → n ≤ x ∧ x ≤ n + 3 := by
      rintro x (e | e | e | e)
      · exact ⟨by rw [e]; exact Nat.le_refl n, by rw [e]; show n ≤ n + 3; omega⟩
      · exact ⟨by rw [e]; show n ≤ n + 1; omega, by rw [e]; show n + 1 ≤ n + 3; omega⟩
      · exact ⟨by rw [e]; show n ≤ n + 2; omega, by rw [e]; show n + 2 ≤ n + 3; omega⟩
      · exact ⟨by rw [e]; show n ≤ n + 3; omega, by rw [e]; exact Nat.le_refl _⟩
    refine ⟨_, _, _, rfl, hs, ?_, ?_, ?_, h.hd.free hx, ?_, ?_, ?_⟩
    · exact h.ub.at (hkp.block h.ub.lt (fun e => by have := hin _ e; have := h.ul; omega))
    · exact (hkp.cell (by have := h.ql; have := h.ses.sb.lt; omega) (fun e => by have := hin _ e; have := h.ql; omega)).trans h.qc
    · exact kpNew h.be h.be.size hkp (fun x hx => by have := hin x hx; have := h.nw; omega)
    · rw [hasK_filterI]; simp
    · intro x hxk
      rw [hasK_filterI]
      have : ((x : Int) != (k : Int)) = true := by simp; omega
      rw [this, Bool.and_true]
    · have := filter_lenI h.hd.hn hx
      rw [hx, if_pos rfl]
      omega
/-- the law's own note of it -/
theorem Fr.note {w0 : World} {n u q : Nat} {m : Int} {i : Nat} {H H' R' : List (Int × Int)} {C' : List (Int × Pd)} {k : Nat} {W : World} (h : Fr w0 n u q m i H H' R' C' k W) (hk : k < 64) (ql : q < n) (ul : n + 4 < u) (nw : w0.heap.size ≤ n) : Hs w0 n u q m (i + 1) H' R' C' (W.setCell ⟨u, k, none⟩ (.bool false)) := by
  have hkp : Kp (fun x => x = u) W (W.setCell ⟨u, k, none⟩ (.bool false)) := kp_self (Kp.refl _ _) _ _
  refine ⟨h.ses.at (fun x hx => ?_), h.ub.set (by omega) false h.gone.symm (fun x hx => h.rest x hx), ?_, ql, ul, kpNew h.be h.be.size hkp (fun x hx => by omega), nw, h.hd⟩
  · refine blk_set_other _ _ _ _ ?_
    rcases hx with e | e | e | e | e
    · rw [e]; show n + 4 ≠ u; omega
    · rw [e]; show n ≠ u; omega
    · rw [e]; show n + 1 ≠ u; omega
    · rw [e]; show n + 2 ≠ u; omega
    · rw [e]; show n + 3 ≠ u; omega
  · exact (hkp.cell (by have := h.ses.sb.lt; omega) (by omega)).trans h.qc
end Go.Proofs.Ytondbhdlccpklaa
