/- Appends, with what stays; ByteBook's Take. -/
import Derived.Test.YtjgdebifomkkcaaDoorPutR
namespace Go.Proofs.YtjgdebifomkkcaaDoor
open Go.RowKit
set_option linter.unusedVariables false

/-- elements of one cell: the row is the old one, grown within its room; or a new one, and nothing old has turned -/
theorem wpList_append_two {P : Program} (w : World) {ops : Array Oper} {rest : List Oper} {o : Oper} {a : Act} {Q : Exit → Act → World → Prop} (hgd : o.guard = none) (s x : Operand) (t : TypeId)
    (ho : o.op = .call { callee := .builtin .append, args := #[s, x], argTypes := #[t, t] })
    (base : Nat) (e : TypeId) (i : TypeInfo) (z : Value) (bytes : Nat) (ht : P.underlying t = some (.slice e)) (hi : P.info? e = some i) (hz : i.zero = some z)
    (hsize : i.size = 1) (hby : i.bytes = bytes) (hzs : z.cells.size = 1)
    (v : Value) (n : Nat) (xs : List Value) (hs : a.eval s = v) (hown : w.ownsRow base e 1 v n xs)
    (ad : Addr) (c : Nat) (new : Value) (hx : a.eval x = .slice (some ad) 1 c) (hnew : w.cell? ad = some new) (h1 : new.oneCell' = true)
    (h63 : n + 1 ≤ maxLen) (hbytes : (n + 1) * bytes ≤ 140737488355328) (hbase : base ≤ w.heap.size)
    (h : ∀ v' w', w'.ownsRow base e 1 v' (n + 1) (xs ++ [new]) → ((∃ g, v'.ownBlock = some g ∧ v.ownBlock = some g ∧ w.grownBy w' (some g)) ∨ (∃ g, v'.ownBlock = some g ∧ w.heap.size ≤ g ∧ w.grownBy w' none)) → wpList P ops Q rest (a.put o.dst v') w') :
    wpList P ops Q (o :: rest) a w := by
  have hnews : ∀ j u, ([new] : List Value)[j]? = some u → w.cell? (ad.add j) = some u := fun j u hj => by
    cases j with
    | zero => simp at hj; subst hj; simpa [Addr.add] using hnew
    | succ j => simp at hj
  have h1c : ∀ u ∈ [new], u.oneCell' = true := fun u hu => by simp at hu; subst hu; exact h1
  have fin : ∀ v' w', w'.ownsRow w.heap.size e 1 v' (n + 1) (xs ++ [new]) → w.grownBy w' none → wpList P ops Q rest (a.put o.dst v') w' := fun v' w' r1 r2 => by
    refine h v' w' (ownsRow_base r1 hbase) (.inr ?_)
    rcases r1.2 with ⟨_, h0⟩ | ⟨g, cap, cur, rfl, hbg, _⟩
    · omega
    · exact ⟨g, rfl, hbg, r2⟩
  rcases hown.2 with ⟨rfl, rfl⟩ | ⟨g, cap, cur, rfl, hb, hg, hnc, hm, hcs, htk⟩
  · have hxs : xs = [] := List.eq_nil_of_length_eq_zero (by simpa using hown.1)
    subst hxs
    exact wpList_append_grows w hgd s x t ho e i z 1 bytes ht hi hz hsize hby hzs (by decide) none 0 0 [] hs (fun _ => ⟨rfl, rfl⟩) rfl (fun b hb => by cases hb) ad 1 c [new] hx rfl hnews h1c (by omega) h63 hbytes fin
  · by_cases hroom : n + 1 ≤ cap
    · exact wpList_append_fits w hgd s x t ho base e i 1 ht hi hsize g n cap xs hs hown ad 1 c [new] hx rfl hnews h1c hroom fun w' r1 r2 => h _ w' r1 (.inl ⟨g, rfl, rfl, r2⟩)
    · exact wpList_append_grows w hgd s x t ho e i z 1 bytes ht hi hz hsize hby hzs (by decide) (some ⟨g, 0, none⟩) n cap xs hs (fun hh => by cases hh) hown.1 (fun b hb j u hj => by
        simp only [Option.some.injEq] at hb
        subst hb
        exact hown.cells rfl j u hj) ad 1 c [new] hx rfl hnews h1c (by omega) h63 hbytes fin

theorem Tryd.infoL : (Tryd.prog.info? 24).map (fun i => (i.zero, i.size, i.bytes)) = some (some (.slice none 0 0), 1, 24) := by kernel_rfl
theorem cell_of_blk {w : World} {pb : Nat} {v : Value} {t : TypeId} (h : w.heap[pb]? = some (.cells #[v] t (0, 0))) : w.cell? ⟨pb, 0, none⟩ = some v ∧ w.frozen? ⟨pb, 0, none⟩ = false := by
  constructor
  · simp [World.cell?, h]
  · simp [World.frozen?, h]

/-- the book holds v -/
def Book (w : World) (pb : Nat) (t : TypeId) (v : Value) : Prop := w.heap[pb]? = some (.cells #[v] t (0, 0))
theorem Book.set {w : World} {pb : Nat} {t : TypeId} {v : Value} (h : Book w pb t v) (u : Value) : Book (w.setCell ⟨pb, 0, none⟩ u) pb t u := by
  unfold Book at *
  simp [World.setCell, Array.getElem?_modify, h]
theorem Book.alloc {w : World} {pb : Nat} {t : TypeId} {v : Value} (h : Book w pb t v) (o : Obj) : Book (w.alloc o) pb t v := by
  unfold Book at *
  rw [heap_alloc_old w o (Array.getElem?_eq_some_iff.1 h).1]
  exact h
theorem Book.grown {w w' : World} {pb : Nat} {t : TypeId} {v : Value} {row : Option Nat} (h : Book w pb t v) (hg : w.grownBy w' row) (hne : row ≠ some pb) : Book w' pb t v := by
  unfold Book at *
  rw [hg.block pb (Array.getElem?_eq_some_iff.1 h).1 (fun e => hne e.symm)]
  exact h
theorem own_ne_book {w : World} {base : Nat} {e t : TypeId} {v u : Value} {n pb : Nat} {xs : List Value} (h : w.ownsRow base e 1 v n xs) (hb : Book w pb t u) (hne : e ≠ t) : v.ownBlock ≠ some pb := by
  intro hv
  unfold Book at hb
  rcases h.2 with ⟨rfl, _⟩ | ⟨g, cap, cur, rfl, _, hg, _⟩
  · cases hv
  · simp only [Value.ownBlock, Option.some.injEq] at hv
    subst hv
    rw [hb] at hg
    simp only [Option.some.injEq, Obj.cells.injEq] at hg
    exact hne hg.2.1.symm

theorem own_shape {w : World} {base : Nat} {e : TypeId} {v : Value} {n : Nat} {xs : List Value} (h : w.ownsRow base e 1 v n xs) (h0 : 0 < n) : ∃ g cap, v = .slice (some ⟨g, 0, none⟩) n cap ∧ base ≤ g ∧ g < w.heap.size := by
  rcases h.2 with ⟨_, hz⟩ | ⟨g, cap, cur, rfl, hbg, hg, hrest⟩
  · omega
  · exact ⟨g, cap, rfl, hbg, (Array.getElem?_eq_some_iff.1 hg).1⟩
theorem own_set {w : World} {base : Nat} {e : TypeId} {v : Value} {n : Nat} {xs : List Value} (h : w.ownsRow base e 1 v n xs) {pb : Nat} (hne : v.ownBlock ≠ some pb) (o : Nat) (u : Value) : (w.setCell ⟨pb, o, none⟩ u).ownsRow base e 1 v n xs := by
  refine ⟨h.1, ?_⟩
  rcases h.2 with hn | ⟨g, cap, cur, rfl, hbg, hg, hrest⟩
  · exact .inl hn
  · refine .inr ⟨g, cap, cur, rfl, hbg, ?_, hrest⟩
    have hgp : pb ≠ g := fun e => hne (by rw [e]; rfl)
    rw [← hg]
    simp [World.setCell, Array.getElem?_modify, hgp]
theorem below_setAt {B : Nat} {w w' : World} (h : Below B w w') {pb : Nat} (hpb : B ≤ pb) (o : Nat) (u : Value) : Below B w (w'.setCell ⟨pb, o, none⟩ u) := by
  refine ⟨h.os, h.tape, h.output, by simpa using h.size, fun k hk => ?_⟩
  rw [← h.block k hk]
  simp [World.setCell, Array.getElem?_modify, show pb ≠ k by omega]

set_option maxRecDepth 100000 in
set_option maxHeartbeats 1000000 in
theorem take_any (pb B n : Nat) (v : Value) (xs : List Value) (x : Option Addr) (m c : Nat) (w : World) (hbk : Book w pb 30 v) (hown : w.ownsRow B 24 1 v n xs) (hpb : B ≤ pb) (hn : n ≤ 100) (hB : B ≤ w.heap.size) :
    Calls Tryd.prog 12 #[.pointer (some ⟨pb, 0, none⟩), .slice x m c] w fun e w' => e = .returned (.tuple #[]) ∧ ∃ v', Book w' pb 30 v' ∧ w'.ownsRow B 24 1 v' (n + 1) (xs ++ [.slice x m c]) ∧ Below B w w' := by
  obtain ⟨i0, hi, hz0, hz1, hz2⟩ := info_parts Tryd.infoL
  have HI := hide hi
  have HZ0 := hide hz0
  have HZ1 := hide hz1
  have HZ2 := hide hz2
  clear hi hz0 hz1 hz2
  obtain ⟨hc, hf⟩ := cell_of_blk hbk
  have HBK := hide hbk
  have HO := hide hown
  have hplt : pb < w.heap.size := (Array.getElem?_eq_some_iff.1 hbk).1
  clear hbk hown
  go_enter Tryd.func12, Tryd.ntmps12
  have HNE := hide (own_ne_book (HO.out.alloc (.cells #[.slice x m c] 24)) (HBK.out.alloc (.cells #[.slice x m c] 24)) (by decide))
  have HBA : Hid (Below B w (w.alloc (.cells #[.slice x m c] 24))) := (Below.refl B w).alloc (by omega) _
  have HLT : Hid (∀ g, v.ownBlock = some g → B ≤ g) := fun g hg => (HO.out.lt g hg).1
  go_wp2_with (at_builtin; refine wpList_append_new _ rfl (.tmp 8) (.tmp 10) 28 rfl B 24 i0 (.slice none 0 0) 24 Tryd.underlying28 HI.out HZ0.out HZ1.out HZ2.out rfl _ n _ rfl (HO.out.alloc _) ⟨w.heap.size, 0, none⟩ 1 (.slice x m c) rfl (cell_new1 _ _ _) rfl (by unfold maxLen; omega) (by omega) (by simp; omega) ?_; intro v' w3 r1 r2 r3; obtain ⟨gn, cn, rfl, hbg, hglt⟩ := own_shape r1 (Nat.succ_pos n); have HR1 := hide r1; have HB4 := hide (HBA.out.grown r2 (by simp; omega) HLT.out); have HB3 := hide ((HBK.out.alloc _).grown r2 HNE.out); have hc3 := (cell_of_blk HB3.out).1; have hf3 := (cell_of_blk HB3.out).2; clear r1 r2 r3)
  go_end0
  have hne2 := own_ne_book HR1.out HB3.out (by decide)
  exact ⟨rfl, _, HB3.out.set _, own_set HR1.out hne2 0 _, below_setAt HB4.out hpb 0 _⟩
end Go.Proofs.YtjgdebifomkkcaaDoor
