
/- Stage 6: frames that came in. -/
import Derived.Test.YtaijcnkmklibcaaSRunW
import Derived.Test.YtaijcnkmklibcaaSSame
import Derived.Test.YtaijcnkmklibcaaSGiveM
namespace Go.Proofs.Ytaijcnkmklibcaa
open Go.RowKit Go.Deep
set_option linter.unusedVariables false
set_option linter.unusedSimpArgs false

abbrev Fr : Type := (Int × Int) × (Option Addr × Nat × Nat × List Nat) × (Option Addr × Nat × Nat × List Nat)
def fcells (f : Fr) : List Value := [.int .i64 f.1.1, .int .i64 f.1.2, .slice f.2.1.1 f.2.1.2.1 f.2.1.2.2.1, .slice f.2.2.1 f.2.2.2.1 f.2.2.2.2.1]
def FOk (w : World) (f : Fr) : Prop := Rd w f.2.1.1 f.2.1.2.1 f.2.1.2.2.2 ∧ Rd w f.2.2.1 f.2.2.2.1 f.2.2.2.2.2 ∧ f.2.1.2.1 ≤ 140737488351232 ∧ f.2.2.2.1 ≤ 140737488351232
theorem FOk.below {w w' : World} {f : Fr} (h : FOk w f) (hb : Below w.heap.size w w') : FOk w' f := ⟨h.1.below hb, h.2.1.below hb, h.2.2⟩
def RF (w : World) (a : Option Addr) (n : Nat) (fs : Nat → Fr) : Prop := (0 < n → ∃ b off, a = some ⟨b, off, none⟩ ∧ b < w.heap.size ∧ ∀ j, j < n → w.cell? ⟨b, off + j * 4, none⟩ = some (.int .i64 (fs j).1.1) ∧ w.cell? ⟨b, off + j * 4 + 1, none⟩ = some (.int .i64 (fs j).1.2) ∧ w.cell? ⟨b, off + j * 4 + 2, none⟩ = some (.slice (fs j).2.1.1 (fs j).2.1.2.1 (fs j).2.1.2.2.1) ∧ w.cell? ⟨b, off + j * 4 + 3, none⟩ = some (.slice (fs j).2.2.1 (fs j).2.2.2.1 (fs j).2.2.2.2.1)) ∧ ∀ j, j < n → FOk w (fs j)
theorem ownsRow_below4 {w w' : World} {B n s : Nat} {t : TypeId} {v : Value} {xs : List Value} (h : w.ownsRow B t s v n xs) (hb : Below w.heap.size w w') : w'.ownsRow B t s v n xs := by
  refine ⟨h.1, ?_⟩
  rcases h.2 with hn | ⟨g, cap, cur, hv, hbg, hg, rest⟩
  · exact .inl hn
  · exact .inr ⟨g, cap, cur, hv, hbg, (hb.block g (Array.getElem?_eq_some_iff.1 hg).1).trans hg, rest⟩
theorem grown_keep {w w' : World} {B n s : Nat} {t : TypeId} {v : Value} {xs : List Value} (h : w.ownsRow B t s v n xs) (hg : w.grownBy w' v.ownBlock) (g : Nat) (cs : Array Value) (t' : TypeId) (fz : Nat × Nat) (ht : t' ≠ t) (hb : w.heap[g]? = some (.cells cs t' fz)) : w'.heap[g]? = some (.cells cs t' fz) := by
  rw [hg.block g (Array.getElem?_eq_some_iff.1 hb).1 (fun e => by
    rcases h.2 with ⟨rfl, _⟩ | ⟨g2, cap, cur2, rfl, _, hgg, _⟩
    · cases e
    · simp only [Value.ownBlock, Option.some.injEq] at e
      subst e
      rw [hb] at hgg
      simp only [Option.some.injEq, Obj.cells.injEq] at hgg
      exact ht hgg.2.1)]
  exact hb
theorem own_keep {w w' : World} {B n s : Nat} {t : TypeId} {v : Value} {xs : List Value} (h : w.ownsRow B t s v n xs) (hk : ∀ g cs, B ≤ g → w.heap[g]? = some (.cells cs t (0, 0)) → w'.heap[g]? = some (.cells cs t (0, 0))) : w'.ownsRow B t s v n xs := by
  refine ⟨h.1, ?_⟩
  rcases h.2 with hn | ⟨g, cap, cur, hv, hbg, hg, rest⟩
  · exact .inl hn
  · exact .inr ⟨g, cap, cur, hv, hbg, hk g _ hbg hg, rest⟩
theorem RF.below {w w' : World} {a : Option Addr} {n : Nat} {fs : Nat → Fr} (h : RF w a n fs) (hb : Below w.heap.size w w') : RF w' a n fs := by
  refine ⟨fun hn => ?_, fun j hj => (h.2 j hj).below hb⟩
  obtain ⟨b, off, e, hlt, hc⟩ := h.1 hn
  refine ⟨b, off, e, Nat.lt_of_lt_of_le hlt hb.size, fun j hj => ?_⟩
  obtain ⟨q0, q1, q2, q3⟩ := hc j hj
  exact ⟨(hb.cell (p := ⟨b, _, none⟩) hlt).trans q0, (hb.cell (p := ⟨b, _, none⟩) hlt).trans q1, (hb.cell (p := ⟨b, _, none⟩) hlt).trans q2, (hb.cell (p := ⟨b, _, none⟩) hlt).trans q3⟩
theorem Ri.below {w w' : World} {a : Option Addr} {n : Nat} {zs : List Int} (h : Ri w a n zs) (hb : Below w.heap.size w w') : Ri w' a n zs := fun hn => by
  obtain ⟨b, off, ha, hlt, hc⟩ := h hn
  exact ⟨b, off, ha, Nat.lt_of_lt_of_le hlt hb.size, fun j hj => (hb.cell (p := ⟨b, off + j, none⟩) hlt).trans (hc j hj)⟩
/-- bytes and items as they come, and what they mean -/
def GC (w : World) (ty : Nat) (i : Nat) (BL : List Nat) (gs : List Gv) (vb vw : Value) (W : World) : Prop :=
  (W.ownsRow w.heap.size 5 1 vb BL.length (BL.map byteV) ∧ W.ownsRow w.heap.size 51 6 vw gs.length (gs.flatMap Gv.cs)) ∧ (∀ g ∈ gs, g.ok w) ∧ Below w.heap.size w W ∧ (∀ c ∈ BL, c < 256) ∧ (BL.length ≤ 8 + i * 1048576 ∧ gs.length ≤ 1 + i) ∧ ∃ sz, (sNew 1048576).go BL = sAt (BL.length : Int) sz (ty : Int) ∧ (sNew 1048576).its BL = gs.map (·.2)
set_option maxRecDepth 100000 in
theorem GC.skip {w W W1 : World} {ty i : Nat} {BL : List Nat} {gs : List Gv} {vb vw : Value} (h : GC w ty i BL gs vb vw W) (hb : Below W.heap.size W W1) : GC w ty (i + 1) BL gs vb vw W1 := by
  obtain ⟨⟨p1, p2⟩, p3, p4, p5, ⟨p6, p7⟩, sz, p8, p9⟩ := h
  have h1 : BL.length ≤ 8 + (i + 1) * 1048576 := Nat.le_trans p6 (Nat.add_le_add_left (Nat.mul_le_mul_right _ (Nat.le_succ i)) 8)
  have h2 : gs.length ≤ 1 + (i + 1) := Nat.le_succ_of_le p7
  exact ⟨⟨ownsRow_below4 p1 hb, ownsRow_below4 p2 hb⟩, p3, p4.trans (hb.mono p4.size), p5, ⟨h1, h2⟩, sz, p8, p9⟩
set_option maxRecDepth 100000 in
/-- a frame behind the others -/
theorem GC.push {w W W1 W2 W3 : World} {ty ch i : Nat} {BL : List Nat} {gs : List Gv} {vb vw vb' vw' : Value} {o : Obj} {f1 : Option Addr × Nat} {f2 : Option Addr × Nat} {X Y : List Nat}
    (h : GC w ty i BL gs vb vw W) (hb : Below W.heap.size W W1) (ht : ty ≤ 1) (hc : ch ≤ 65535) (h1 : ty = 1 → ch = 0) (h4 : X.length % 4 = 0) (hX : X.length ≤ 1012) (hz : 8 + X.length + Y.length ≤ 1048576) (hx : Rd w f1.1 X.length X) (hy : Rd w f2.1 Y.length Y)
    (r1 : W2.ownsRow w.heap.size 5 1 vb' (BL.length + (8 + X.length + Y.length)) ((BL ++ sealB ty ch X Y).map byteV)) (r2 : W1.grownBy W2 vb.ownBlock)
    (s1 : W3.ownsRow w.heap.size 51 6 vw' (gs.length + 1) (gs.flatMap Gv.cs ++ Gv.cs ((f1, f2), (2, 0, (ty : Int), (ch : Int)), X, Y))) (s2 : (W2.alloc o).grownBy W3 vw.ownBlock) :
    GC w ty (i + 1) (BL ++ sealB ty ch X Y) (gs ++ [((f1, f2), (2, 0, (ty : Int), (ch : Int)), X, Y)]) vb' vw' W3 := by
  obtain ⟨⟨p1, p2⟩, p3, p4, p5, ⟨p6, p7⟩, sz, p8, p9⟩ := h
  have hF := sealB_length ty ch X Y
  obtain ⟨m1, m2⟩ := seal_its (X := X) (Y := Y) ht hc h1 h4 hz (BL.length : Int) sz
  have hN := p4.size
  have q1 := ownsRow_below4 p1 hb
  have q2 := ownsRow_below4 p2 hb
  have b1 : Below w.heap.size w W1 := p4.trans (hb.mono hN)
  have b2 : Below w.heap.size w W2 := b1.grown r2 b1.size (fun g hg => (q1.lt g hg).1)
  have q3 : W2.ownsRow w.heap.size 51 6 vw gs.length (gs.flatMap Gv.cs) := own_keep q2 (fun g cs _ hg => grown_keep q1 r2 g cs _ _ (by decide) hg)
  have q4 := q3.alloc o
  have b3 : Below w.heap.size w W3 := (b2.alloc b2.size o).grown s2 (by have := b2.size; simp; omega) (fun g hg => (q4.lt g hg).1)
  have q5 : W3.ownsRow w.heap.size 5 1 vb' (BL.length + (8 + X.length + Y.length)) ((BL ++ sealB ty ch X Y).map byteV) := own_keep (r1.alloc o) (fun g cs _ hg => grown_keep q4 s2 g cs _ _ (by decide) hg)
  refine ⟨⟨by rw [List.length_append, hF]; exact q5, by rw [List.length_append, List.flatMap_append]; simpa using s1⟩, fun g hg => ?_, b3, fun c hc' => ?_, ⟨by rw [List.length_append, hF]; omega, by simp; omega⟩, 8 + X.length + Y.length, ?_, ?_⟩
  · rcases List.mem_append.1 hg with h | h
    · exact p3 g h
    · simp at h
      subst h
      exact ⟨hx, hy⟩
  · rcases List.mem_append.1 hc' with h | h
    · exact p5 c h
    · exact sealB_lt (by omega) hX hx.2.1 hy.2.1 c h
  · rw [go_append, p8, m2, List.length_append, hF]
    have : (BL.length : Int) + ((8 + X.length + Y.length : Nat) : Int) = ((BL.length + (8 + X.length + Y.length) : Nat) : Int) := by omega
    rw [this]
  · rw [its_append, p8, m1, p9, List.map_append]
    rfl
end Go.Proofs.Ytaijcnkmklibcaa
