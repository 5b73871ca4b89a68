/- HGFace, HShM, HRStrip -/
import Derived.Test.YtgldcchleoklcaaGreatDoorP39
import Derived.Test.YtgldcchleoklcaaGreatDoorP18
import Derived.Test.YtgldcchleoklcaaGreatDoorP26
namespace Go.Proofs.YtgldcchleoklcaaGreatDoor
open Go.RowKit
set_option linter.unusedVariables false
set_option linter.unusedSimpArgs false
def rep : T → T × Int := repT 40
def packR (kind : Int) (l : List V) : T × Int := packT rep kind l
def unpR (v : V) : (Int × List T) × Int × Int := if chkE v ≠ 0 then ((0, []), 0, chkE v) else unpT rep v.t
theorem rep_ok {v : V} (h : T.dp v ≤ 40) : RepOk rep v := rep_all 40 v h
theorem packed_any (kind : Int) (a : Option Addr) (l : List V) (c n₀ : Nat) (w : World) (hn : n₀ ≤ w.heap.size) (hl : Lies n₀ w (V.of 0 0 ⟨#[]⟩ a c 0 l)) (hT : Lib.Utf8Tabs 0 1 w) :
    Calls Tryz.prog 35 #[.agg #[.int .i64 kind, .slice a l.length c]] w (ValPost n₀ (packR kind l) w) :=
  packed_all rep kind a l c n₀ w hn hl (fun x _ h => rep_ok (by have := chk_deep h; omega)) (fun W hW => tabs_below hT hW)
theorem eqT_refl (x : T) : eqT x x = true := by
  have h := neg_ord x x
  have h0 : T.ord x x = 0 := by omega
  unfold eqT
  simp [h0]
theorem outs_at (l ds : List V) (i : Nat) (h : ds.length = l.length) (hi : i < l.length) (ho : i < (outs l ds).length) : (outs l ds)[i] = if eqT l[i].t (ds[i]'(by omega)).t = true then nul else l[i] := by
  have h1 := outs_get l ds i h hi
  rw [List.getElem?_eq_getElem ho] at h1
  exact Option.some.inj h1
def stripN (l : List T) : Nat → Nat
  | 0 => 0
  | n + 1 => if ((l[n]?).getD nul).k = 0 then stripN l n else n + 1
theorem strip_said (ts ds : List T) (hl : ds.length = ts.length) (hz : ∀ i (h1 : i < ts.length) (h2 : i < ds.length), ts[i].k = 0 → eqT ts[i].t ds[i].t = true) : ∀ n, n ≤ ts.length → stripN (outs ts ds) n = saidN ts ds n := by
  intro n
  induction n with
  | zero => intro _; rfl
  | succ n ih =>
    intro hn
    have h1 : n < ts.length := by omega
    have h2 : n < ds.length := by omega
    have ho := outs_get ts ds n hl h1
    unfold stripN
    rw [ho, Option.getD_some]
    by_cases he : eqT ts[n].t ds[n].t = true
    · rw [if_pos he, if_pos (show V.k (leaf 0 0 ⟨#[]⟩) = 0 from rfl), ih (by omega)]
      rw [saidN]
      simp [h1, h2, he]
    · rw [if_neg he, if_neg (fun h => he (hz n h1 h2 h))]
      rw [saidN]
      simp [h1, h2, he]
end Go.Proofs.YtgldcchleoklcaaGreatDoor
