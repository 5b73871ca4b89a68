
/- Stage 19: bytes that are read, bytes of an own row. -/
import Derived.Test.YtgkdecjlanbmhaaRBase
import Derived.Laws.AppendOwnNone
import Derived.ArgAppend
import Derived.OwnWalk
import Derived.Deep.Onto
namespace Go.Proofs.Ytgkdecjlanbmhaa
open Go.RowKit
set_option linter.unusedVariables false
set_option linter.unusedSimpArgs false
theorem grownBy_weak {w w' : World} (h : w.grownBy w' none) (row : Option Nat) : w.grownBy w' row :=
  ⟨h.os, h.tape, h.output, h.size, fun k hk _ => h.block k hk (by simp)⟩
def bV (c : Nat) : Value := .int .u8 (c : Int)
theorem map_news (l : List Nat) : ∀ u ∈ l.map bV, u.oneCell' = true := fun u hu => by obtain ⟨c, _, rfl⟩ := List.mem_map.1 hu; rfl
theorem Try.info5 : (Try.prog.info? 5).map (fun i => (i.zero, i.size, i.bytes)) = some (some (.int .u8 0), 1, 1) := by kernel_rfl
def Rd (w : World) (a : Option Addr) (n : Nat) (l : List Nat) : Prop :=
  l.length = n ∧ (∀ c ∈ l, c < 256) ∧ (0 < n → ∃ b off, a = some ⟨b, off, none⟩ ∧ b < w.heap.size ∧ ∀ j, j < n → w.cell? ⟨b, off + j, none⟩ = some (.int .u8 ((l.getD j 0 : Nat) : Int)))
theorem Rd.below {w w' : World} {a : Option Addr} {n : Nat} {l : List Nat} (h : Rd w a n l) (hb : Below w.heap.size w w') : Rd w' a n l := by
  refine ⟨h.1, h.2.1, fun h0 => ?_⟩
  obtain ⟨b, off, ha, hlt, hc⟩ := h.2.2 h0
  exact ⟨b, off, ha, by have := hb.size; omega, fun j hj => (hb.cell (p := ⟨b, off + j, none⟩) hlt).trans (hc j hj)⟩
/-- bytes that are read -/
def Rb (w : World) (v : Value) (l : List Nat) : Prop := ∃ a cap, v = .slice a l.length cap ∧ (a = none → cap = 0) ∧ l.length ≤ cap ∧ Rd w a l.length l
/-- bytes of the call's own -/
def Ob (B : Nat) (w : World) (v : Value) (l : List Nat) : Prop := w.ownsRow B 5 1 v l.length (l.map bV) ∧ ∀ c ∈ l, c < 256
/-- a slice's block is not below B -/
def At (B : Nat) (v : Value) : Prop := ∀ g, v.ownBlock = some g → B ≤ g
section
variable {B : Nat} {w w' : World} {v : Value} {l : List Nat}
theorem At.mono (h : At B v) {B' : Nat} (hb : B' ≤ B) : At B' v := fun g hg => Nat.le_trans hb (h g hg)
theorem At.nil (B n c : Nat) : At B (.slice none n c) := fun g hg => by cases hg
theorem Rb.below (h : Rb w v l) (hb : Below w.heap.size w w') : Rb w' v l := by
  obtain ⟨a, cap, e, h1, h2, h3⟩ := h
  exact ⟨a, cap, e, h1, h2, h3.below hb⟩
theorem Ob.rb (h : Ob B w v l) : Rb w v l := by
  obtain ⟨h, hb⟩ := h
  rcases h.2 with ⟨rfl, h0⟩ | ⟨g, cap, cur, rfl, hbg, hg, hnc, hrest⟩
  · exact ⟨none, 0, by rw [h0], fun _ => rfl, by omega, rfl, hb, fun h => absurd h (by omega)⟩
  · refine ⟨_, cap, rfl, (fun e => by cases e), hnc, rfl, hb, fun _ => ⟨g, 0, rfl, (h.lt g rfl).2, fun j hj => ?_⟩⟩
    rw [Nat.zero_add, h.cellAt j (by omega), List.getElem?_map, List.getElem?_eq_getElem (by omega)]
    simp [bV, List.getD_eq_getElem?_getD, List.getElem?_eq_getElem (show j < l.length by omega)]
theorem Ob.mono (h : Ob B w v l) {B' : Nat} (hb : B' ≤ B) : Ob B' w v l := ⟨h.1.mono hb, h.2⟩
theorem Ob.lt (h : Ob B w v l) (g : Nat) (hg : v.ownBlock = some g) : B ≤ g ∧ g < w.heap.size := h.1.lt g hg
theorem Ob.below (h : Ob B w v l) (hb : Below w.heap.size w w') : Ob B w' v l :=
  ⟨h.1.kept (row := none) ⟨hb.os, hb.tape, hb.output, hb.size, fun k hk _ => hb.block k hk⟩ (by cases h0 : v.ownBlock <;> simp), h.2⟩
theorem Ob.at (h : Ob B w v l) : At B v := fun g hg => (h.lt g hg).1
theorem Ob.nil (B : Nat) (w : World) : Ob B w (.slice none 0 0) [] := ⟨World.ownsRow_nil _ _ _ _, by simp⟩
end
theorem Rd.nil (w : World) (a : Option Addr) : Rd w a 0 [] := ⟨rfl, by simp, fun h => absurd h (by omega)⟩
theorem Rb.nil (w : World) : Rb w (.slice none 0 0) [] := ⟨none, 0, rfl, fun _ => rfl, Nat.le_refl _, Rd.nil w none⟩
/-- where a row lies behind an append: where it lay, or in new memory -/
def Whe (w : World) (v v' : Value) : Prop := ∀ g, v'.ownBlock = some g → v.ownBlock = some g ∨ w.heap.size ≤ g
/-- an append of bytes -/
theorem wpList_app (w : World) {ops : Array Oper} {rest : List Oper} {o : Oper} {a : Act} {Q : Exit → Act → World → Prop} (hgd : o.guard = none) (s x : Operand)
    (ho : o.op = .call { callee := .builtin .append, args := #[s, x], argTypes := #[34, 34] })
    (base : Nat) (v : Value) (l : List Nat) (hs : a.eval s = v) (hown : Ob base w v l)
    (u : Value) (t : List Nat) (hx : a.eval x = u) (hr : Rb w u t) (hz : l.length + t.length ≤ 140737488355328) (hbase : base ≤ w.heap.size)
    (h : ∀ v' w', Ob base w' v' (l ++ t) → w.grownBy w' v.ownBlock → Whe w v v' → wpList Try.prog ops Q rest (a.put o.dst v') w') :
    wpList Try.prog ops Q (o :: rest) a w := by
  obtain ⟨src, c, rfl, hnil, hcap, hrd⟩ := hr
  obtain ⟨i0, hi, hz0, hz1, hz2⟩ := info_parts Try.info5
  have hlt : ∀ c ∈ l ++ t, c < 256 := fun c hc => (List.mem_append.1 hc).elim (hown.2 c) (hrd.2.1 c)
  have nil : t = [] → wpList Try.prog ops Q (o :: rest) a w := by
    rintro rfl
    cases src with
    | none =>
      have hc := hnil rfl
      subst hc
      refine wpList_append_own_none hgd s x 34 ho base 5 i0 1 Try.underlying34 hi v l.length _ hs hown.1 hx ?_
      exact h v w (by simpa using hown) ⟨rfl, rfl, rfl, Nat.le_refl _, fun _ _ _ => rfl⟩ (fun g hg => .inl hg)
    | some ad =>
      rcases hown.1.2 with ⟨rfl, h0⟩ | ⟨g, cap, cur, rfl, hb, hg, hnc, hrest⟩
      · have hl0 : l = [] := List.length_eq_zero_iff.1 h0
        subst hl0
        refine wpList_append_own w hgd s x 34 ho base 5 i0 (.int .u8 0) 1 1 Try.underlying34 hi hz0 hz1 hz2 rfl (by omega) _ 0 [] hs hown.1 ad 0 c [] hx (by simp) (fun j u hj => by simp at hj) (by simp) (by unfold maxLen; omega) (by omega) hbase (fun v' w' r1 r2 r3 => ?_)
        have e : v' = .slice none 0 0 := r3.2 ⟨rfl, rfl⟩
        subst e
        exact h _ w' ⟨r1, by simp⟩ r2 (fun g hg => .inl hg)
      · exact wpList_append_fits w hgd s x 34 ho base 5 i0 1 Try.underlying34 hi hz1 g l.length cap (l.map bV) hs hown.1 ad 0 c [] hx (by simp) (fun j u hj => by simp at hj) (by simp) (by omega) fun w' r1 r2 => h _ w' ⟨by simpa using r1, by simpa using hlt⟩ r2 (fun g hg => .inl hg)
  cases src with
  | none =>
    have hc := hnil rfl
    exact nil (List.length_eq_zero_iff.1 (by omega))
  | some ad =>
    by_cases ht : t = []
    · exact nil ht
    have hpos : 0 < t.length := List.length_pos_iff.2 ht
    have hcells : ∀ j u, (t.map bV)[j]? = some u → w.cell? (ad.add j) = some u := fun j u hj => by
      have hjt : j < t.length := by have := (List.getElem?_eq_some_iff.1 hj).1; simpa using this
      obtain ⟨b, off, he, hb, hc⟩ := hrd.2.2 (by omega)
      simp only [Option.some.injEq] at he
      subst he
      have h1 := hc j hjt
      rw [List.getElem?_map, List.getElem?_eq_getElem hjt] at hj
      simp only [Option.map_some, Option.some.injEq] at hj
      rw [← hj]
      have e : (⟨b, off, none⟩ : Addr).add j = ⟨b, off + j, none⟩ := by by_cases h : j = 0 <;> simp [Addr.add, h]
      rw [e, h1, List.getD_eq_getElem?_getD, List.getElem?_eq_getElem hjt]
      rfl
    have fin : ∀ v' w', w'.ownsRow w.heap.size 5 1 v' (l.length + t.length) (l.map bV ++ t.map bV) → w.grownBy w' none → wpList Try.prog ops Q rest (a.put o.dst v') w' := fun v' w' r1 r2 => by
      refine h v' w' ⟨by rw [List.map_append, List.length_append]; exact r1.mono hbase, hlt⟩ (grownBy_weak r2 _) (fun g hg => .inr (r1.lt g hg).1)
    rcases hown.1.2 with ⟨rfl, h0⟩ | ⟨g, cap, cur, rfl, hb, hg, hnc, hrest⟩
    · have hl0 : l = [] := List.length_eq_zero_iff.1 h0
      subst hl0
      exact wpList_append_grows w hgd s x 34 ho 5 i0 (.int .u8 0) 1 1 Try.underlying34 hi hz0 hz1 hz2 rfl (by decide) none 0 0 [] hs (fun _ => ⟨rfl, rfl⟩) rfl (fun b hb => by cases hb) ad t.length c (t.map bV) hx (by simp) hcells (map_news t) (by omega) (by unfold maxLen; simp at hz; omega) (by simp at hz; omega) fin
    · by_cases hroom : l.length + t.length ≤ cap
      · exact wpList_append_fits w hgd s x 34 ho base 5 i0 1 Try.underlying34 hi hz1 g l.length cap (l.map bV) hs hown.1 ad t.length c (t.map bV) hx (by simp) hcells (map_news t) hroom fun w' r1 r2 => h _ w' ⟨by rw [List.map_append, List.length_append]; exact r1, hlt⟩ r2 (fun g hg => .inl hg)
      · exact wpList_append_grows w hgd s x 34 ho 5 i0 (.int .u8 0) 1 1 Try.underlying34 hi hz0 hz1 hz2 rfl (by decide) (some ⟨g, 0, none⟩) l.length cap (l.map bV) hs (fun hh => by cases hh) hown.1.1 (fun b hb j u hj => by
          simp only [Option.some.injEq] at hb
          subst hb
          exact hown.1.cells rfl j u hj) ad t.length c (t.map bV) hx (by simp) hcells (map_news t) (by omega) (by unfold maxLen; omega) (by omega) fin
end Go.Proofs.Ytgkdecjlanbmhaa
