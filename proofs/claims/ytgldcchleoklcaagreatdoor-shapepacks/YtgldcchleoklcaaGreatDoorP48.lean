/- HChW -/
import Derived.Test.YtgldcchleoklcaaGreatDoorP47
import Derived.Test.YtgldcchleoklcaaGreatDoorP09
import Derived.Test.YtgldcchleoklcaaGreatDoorP41
namespace Go.Proofs.YtgldcchleoklcaaGreatDoor
open Go.RowKit
set_option linter.unusedVariables false
set_option linter.unusedSimpArgs false
theorem chkV_same {s : FS} {x y : V} (h : x.t = y.t) : chkV rep s x = chkV rep s y := by
  have hk : x.k = y.k := by rw [← k_t x, h, k_t]
  have hc : chkE x = chkE y := check_same h 1
  unfold chkV
  rw [hk, hc, h]
theorem zip_ts {fs : List FS} {l m : List V} (h : V.ts l = V.ts m) : List.zipWith (chkV rep) fs l = List.zipWith (chkV rep) fs m := by
  have hlen : l.length = m.length := by have := congrArg List.length h; rwa [V.ts_length, V.ts_length] at this
  apply List.ext_getElem
  · simp [hlen]
  · intro i h1 h2
    have h3 : i < l.length := by simp at h1; omega
    have h4 : i < m.length := by omega
    rw [List.getElem_zipWith, List.getElem_zipWith]
    refine chkV_same ?_
    have e : (V.ts l)[i]? = (V.ts m)[i]? := by rw [h]
    rw [V.ts_map, V.ts_map, List.getElem?_map, List.getElem?_map, List.getElem?_eq_getElem h3, List.getElem?_eq_getElem h4] at e
    exact Option.some.inj e
theorem packR_ts {k : Int} {l m : List V} (h : V.ts l = V.ts m) : packR k l = packR k m := by
  have hlen : l.length = m.length := by have := congrArg List.length h; rwa [V.ts_length, V.ts_length] at this
  unfold packR packT
  cases ftab k with
  | none => rfl
  | some fs => simp only [hlen, zip_ts h]
theorem unpR_ts {v u : V} (h : v.t = u.t) : unpR v = unpR u := by
  have hc : chkE v = chkE u := check_same h 1
  unfold unpR
  rw [hc, h]
def LentL (l : List V) (lo hi : Nat) (w : World) : Prop := ∃ l' : List V, V.ts l' = V.ts l ∧ l'.length = l.length ∧ Lent w (.of 0 0 ⟨#[]⟩ (some ⟨lo, 0, none⟩) (l.length + 3) 0 l') lo hi
theorem LentRow.lent {l : List V} {N : Nat} {w' : World} (h : LentRow l N w') (hl : l.length ≤ 2199023255552) : LentL l N w'.heap.size w' := by
  obtain ⟨l', hts, hxb, hxr, g, hg0, hg1, hgl⟩ := h
  have hlen : l'.length = l.length := by simpa [V.ts_length] using congrArg List.length hts
  exact ⟨l', hts, hlen, (Lent.iff _ _ _ _ _ _ _ _ _ _).2 ⟨N, Nat.le_refl _, rfl, by rw [hlen], ⟨by decide, by decide, by decide, by decide, by omega, by omega⟩, by rw [hlen]; exact hxb, by rw [hlen]; exact hxr, g, hg0, by rw [hlen]; exact hg1, fun i h => hgl i h⟩⟩
theorem LentL.keep {l : List V} {lo hi : Nat} {w w' : World} (h : LentL l lo hi w) (hb : ∀ b, lo ≤ b → b < hi → w'.heap[b]? = w.heap[b]?) : LentL l lo hi w' := by
  obtain ⟨l', h1, h2, h3⟩ := h
  exact ⟨l', h1, h2, h3.keep (fun b o q1 q2 q3 => (hb b q1 q2).trans q3)⟩
theorem LentL.as {l : List V} {lo hi : Nat} {w : World} {a : Option Addr} {c n₀ : Nat} (h : LentL l lo hi w) (hhi : hi ≤ w.heap.size) (hv : Lies n₀ w (V.of 0 0 ⟨#[]⟩ a c 0 l)) (hn : n₀ ≤ lo) :
    Calls Tryz.prog 18 #[.slice (some ⟨lo, 0, none⟩) l.length (l.length + 3), .slice a l.length c] w fun e w' => e = .returned (.bool true) ∧ Turns lo hi w w' := by
  obtain ⟨l', hts, hlen, hx⟩ := h
  have hr := hx.rise
  obtain ⟨b7, k1, k2, k3, k4, k5, k6, g7, k7, k8, k9⟩ := (Lent.iff _ _ _ _ _ _ _ _ _ _).1 hx
  have q := asLentAll_any l' l (fun x _ => asLent_any x) b7 g7 a c lo hi (fun b => b < n₀) w k1 k5 k6 k7 k8 k9 hhi hts (by rw [hlen]; exact hv.ok.c) hv.row hv.sub (fun b hb => ⟨by omega, by omega⟩)
  cases k2
  rw [hlen] at q
  exact q
def LentP (kk : Int) (l : List V) (n : Nat) (w2 : World) (bx lo hi : Nat) (wx : World) : Prop := wx.heap[bx]? = some (.cells #[.int .i64 kk, .slice (some ⟨lo, 0, none⟩) n (n + 3)] 33 (0, 0)) ∧ LentL l lo hi wx ∧ hi ≤ wx.heap.size ∧ w2.heap.size ≤ lo ∧ (bx < lo ∨ hi ≤ bx) ∧ w2.heap.size ≤ bx ∧ bx < wx.heap.size ∧ Below w2.heap.size w2 wx
theorem lentp_fin {kk : Int} {l : List V} {n : Nat} {w2 W : World} {bx lo hi : Nat} {a b : Value} (hx : W.heap[bx]? = some (.cells #[a, b] 33 (0, 0))) (hl : LentL l lo hi W) (hhi : hi ≤ W.heap.size) (hlo : w2.heap.size ≤ lo) (hb : bx < lo ∨ hi ≤ bx) (h1 : w2.heap.size ≤ bx) (h2 : bx < W.heap.size) (hw : Below w2.heap.size w2 W) :
    LentP kk l n w2 bx lo hi ((W.setCell ⟨bx, 0, none⟩ (.int .i64 kk)).setCell ⟨bx, 1, none⟩ (.slice (some ⟨lo, 0, none⟩) n (n + 3))) := by
  refine ⟨by simp [World.setCell, Array.getElem?_modify, hx], hl.keep (fun c q1 q2 => (setC_ne _ (by omega) _).trans (setC_ne _ (by omega) _)), by simp [World.setCell]; exact hhi, hlo, hb, h1, by simp [World.setCell]; exact h2, (hw.setCell (p := ⟨bx, 0, none⟩) h1 _).setCell (p := ⟨bx, 1, none⟩) h1 _⟩
end Go.Proofs.YtgldcchleoklcaaGreatDoor
