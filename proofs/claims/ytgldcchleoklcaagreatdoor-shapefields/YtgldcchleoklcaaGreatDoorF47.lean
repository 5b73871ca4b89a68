/- HFlK -/
import Derived.Test.YtgldcchleoklcaaGreatDoorF46
import Derived.Test.YtgldcchleoklcaaGreatDoorF23
import Derived.Test.YtgldcchleoklcaaGreatDoorF42
import Derived.Test.YtgldcchleoklcaaGreatDoorF40
namespace Go.Proofs.YtgldcchleoklcaaGreatDoor
open Go.RowKit
set_option linter.unusedVariables false
set_option linter.unusedSimpArgs false
def ftl (k : Int) : List FS := (ftab k).getD []
def ksApart (l : List FS) : Bool := decide (l.Pairwise fun f g => f.ks = g.ks → f.ks = [])
theorem ftl_all : ftabL.all (fun p => (p.2.getD []).all okFS && decide ((p.2.getD []).length ≤ 20) && (p.2.getD []).all (fun f => decide (f.ks.length ≤ 20)) && ksApart (p.2.getD [])) = true := by kernel_rfl
theorem ftl_ok (k : Int) : (∀ f ∈ ftl k, okFS f = true) ∧ (ftl k).length ≤ 20 ∧ (∀ f ∈ ftl k, f.ks.length ≤ 20) ∧ (ftl k).Pairwise fun f g => f.ks = g.ks → f.ks = [] := by
  unfold ftl ftab
  cases h : ftabL.find? fun p => p.1 == k with
  | none => exact ⟨fun f hf => (by cases hf), Nat.zero_le _, fun f hf => (by cases hf), List.Pairwise.nil⟩
  | some p =>
    have hm := List.mem_of_find?_eq_some h
    have ha := List.all_eq_true.1 ftl_all p hm
    simp only [Bool.and_eq_true, decide_eq_true_eq, List.all_eq_true] at ha
    obtain ⟨⟨⟨h1, h2⟩, h3⟩, h4⟩ := ha
    exact ⟨h1, h2, h3, of_decide_eq_true h4⟩
theorem fields_S (kind : Int) (w : World) : Calls Tryz.prog 8 #[.int .i64 kind] w fun e w' => ∃ (a : Option Addr) (fs : List Fd), e = .returned (.tuple #[.slice a (ftl kind).length (ftl kind).length, .bool (ftab kind).isSome]) ∧ Hid (FieldsInS (ftl kind) w a fs w') ∧ Below w.heap.size w w' := by
  refine (fields_anyS kind w).mono ?_
  intro e w' h
  obtain ⟨hb, h⟩ := h
  unfold ftl
  cases hf : ftab kind with
  | none =>
    rw [hf] at h
    exact ⟨none, [], h, ⟨⟨rfl, fun h => (by cases h), fun i h => (by cases h)⟩, fun _ => rfl, fun g hg => (by cases hg), fun i h => (by cases h)⟩, hb⟩
  | some l =>
    rw [hf] at h
    obtain ⟨a, fs, e1, e2⟩ := h
    exact ⟨a, fs, e1, e2, hb⟩
theorem rfields_S (kind : Int) (w : World) : Calls Tryz.prog 9 #[.int .i64 kind] w fun e w' => ∃ (a : Option Addr) (c : Nat) (fs : List Fd), e = .returned (.tuple #[.slice a (ftl kind).length c, .bool (ftab kind).isSome]) ∧ Hid (FieldsIn (ftl kind) w a fs w') ∧ (ftl kind).length ≤ c ∧ Below w.heap.size w w' := by
  refine (rfields_any kind w).mono ?_
  intro e w' h
  unfold ftl
  cases hf : ftab kind with
  | none =>
    rw [hf] at h
    exact ⟨none, 0, [], h.1, ⟨rfl, fun h => (by cases h), fun i h => (by cases h)⟩, Nat.le_refl _, h.2⟩
  | some l =>
    rw [hf] at h
    obtain ⟨a, c, fs, e1, e2, e3, e4⟩ := h
    exact ⟨a, c, fs, e1, e2, e3, e4⟩
structure Lst (l : List FS) (lo hi : Nat) (w : World) (a : Option Addr) (fs : List Fd) : Prop where
  len : fs.length = l.length
  nil : l.length = 0 → a = none
  row : 0 < l.length → ∃ g, a = some ⟨g, 0, none⟩ ∧ lo ≤ g ∧ g < hi ∧ Blk w g 66 (l.length * 9) ∧ FRow w g fs
  ks : ∀ i (h : i < fs.length) (h' : i < l.length), fs[i].kl = l[i].ks.length ∧ fs[i].kc = l[i].ks.length ∧ (l[i].ks.length = 0 → fs[i].ka = none) ∧ (0 < l[i].ks.length → ∃ b, fs[i].ka = some ⟨b, 0, none⟩ ∧ lo ≤ b ∧ b < hi ∧ Ints w b l[i].ks)
theorem FieldsInS.lst {l : List FS} {W w' w : World} {a : Option Addr} {fs : List Fd} (h : FieldsInS l W a fs w') (hb : Below w'.heap.size w' w) : Lst l W.heap.size w'.heap.size w a fs := by
  obtain ⟨⟨h1, h2, h3⟩, h4, h5, h6⟩ := h
  refine ⟨h1, h4, fun h0 => ?_, fun i hi hi' => ?_⟩
  · obtain ⟨g, e, q1, q2, q3⟩ := h2 (by rw [h1]; exact h0)
    exact ⟨g, e, q1, q2, (h5 g e).below hb q2, q3.below hb q2⟩
  · obtain ⟨q1, q2, q3, q4, q5, q6, q7⟩ := h3 i hi hi'
    refine ⟨q5, q6, h6 i hi hi', fun h0 => ?_⟩
    obtain ⟨b, e, r1, r2, r3⟩ := q7 h0
    exact ⟨b, e, r1, r2, (hb.block b r2).trans r3⟩
def KSof (fs : List Fd) : List Value := fs.map fun f => .slice f.ka f.kl f.kc
theorem ints_inj {w : World} {b : Nat} {l m : List Int} (h1 : Ints w b l) (h2 : Ints w b m) : l = m := by
  have e := h1.symm.trans h2
  simp only [Option.some.injEq, Obj.cells.injEq, and_true, List.toArray_inj] at e
  exact (List.map_inj_right (f := fun k => Value.int .i64 k) (fun x y hxy => (Value.int.inj hxy).2)).1 (congrArg Array.toList e)
theorem Lst.ownK {l : List FS} {lo hi : Nat} {w : World} {a : Option Addr} {fs : List Fd} (h : Lst l lo hi w a fs) (hk : ∀ f ∈ l, f.ks.length ≤ 20) (hp : l.Pairwise fun f g => f.ks = g.ks → f.ks = []) :
    OwnsE Ek w (KSof fs) ∧ ∀ g ∈ blocksOf (KSof fs), lo ≤ g ∧ g < hi := by
  have hat : ∀ i (hi' : i < fs.length) (g : Nat), (Value.slice fs[i].ka fs[i].kl fs[i].kc).ownBlock = some g → ∃ h' : i < l.length, 0 < l[i].ks.length ∧ lo ≤ g ∧ g < hi ∧ Ints w g l[i].ks := by
    intro i hi' g hg
    have h' : i < l.length := by rw [← h.len]; exact hi'
    obtain ⟨q1, q2, q3, q4⟩ := h.ks i hi' h'
    by_cases h0 : l[i].ks.length = 0
    · rw [q3 h0] at hg
      cases hg
    · obtain ⟨b, e, r1, r2, r3⟩ := q4 (by omega)
      rw [e] at hg
      cases hg
      exact ⟨h', by omega, r1, r2, r3⟩
  refine ⟨⟨fun s hs => ?_, ?_⟩, fun g hg => ?_⟩
  · obtain ⟨i, hi', rfl⟩ := List.getElem_of_mem hs
    have hif : i < fs.length := by simpa [KSof] using hi'
    have h' : i < l.length := by rw [← h.len]; exact hif
    obtain ⟨q1, q2, q3, q4⟩ := h.ks i hif h'
    have e : (KSof fs)[i] = .slice fs[i].ka fs[i].kl fs[i].kc := by simp [KSof]
    rw [e, q1, q2]
    by_cases h0 : l[i].ks.length = 0
    · rw [q3 h0, h0]
      exact .inl rfl
    · obtain ⟨b, e2, r1, r2, r3⟩ := q4 (by omega)
      rw [e2]
      exact .inr ⟨b, _, rfl, by have := hk _ (List.getElem_mem h'); omega, _, r3, by simp [Ek]⟩
  · unfold blocksOf List.Nodup
    rw [List.pairwise_filterMap, KSof, List.pairwise_map, List.pairwise_iff_getElem]
    intro i j hi' hj hij g hg g' hg' e
    subst e
    obtain ⟨a1, a2, _, _, a3⟩ := hat i hi' g hg
    obtain ⟨b1, b2, _, _, b3⟩ := hat j hj g hg'
    have e := List.pairwise_iff_getElem.1 hp i j a1 b1 hij (ints_inj a3 b3)
    rw [e] at a2
    exact absurd a2 (by simp)
  · obtain ⟨s, hs, e⟩ := List.mem_filterMap.1 hg
    obtain ⟨f, hf, rfl⟩ := List.mem_map.1 hs
    obtain ⟨i, hi', rfl⟩ := List.getElem_of_mem hf
    obtain ⟨_, _, r1, r2, _⟩ := hat i hi' g e
    exact ⟨r1, r2⟩
theorem Lst.form {l : List FS} {lo hi : Nat} {w : World} {a : Option Addr} {fs : List Fd} (h : Lst l lo hi w a fs) (h20 : l.length ≤ 20) :
    (Value.slice a l.length l.length = .slice none 0 0 ∧ l.length = 0) ∨ ∃ g, a = some ⟨g, 0, none⟩ ∧ lo ≤ g ∧ g < hi ∧ Blk w g 66 (l.length * 9) := by
  by_cases h0 : l.length = 0
  · exact .inl ⟨by rw [h.nil h0, h0], h0⟩
  · obtain ⟨g, e, q1, q2, q3, _⟩ := h.row (by omega)
    exact .inr ⟨g, e, q1, q2, q3⟩
theorem Lst.cell {l : List FS} {lo hi : Nat} {w : World} {a : Option Addr} {fs : List Fd} (h : Lst l lo hi w a fs) (q : Nat) (hq : q < l.length) : ∃ g, a = some ⟨g, 0, none⟩ ∧ g < w.heap.size ∧ ∃ h : q < (KSof fs).length, w.cell? ⟨g, q * 9 + 2, none⟩ = some (KSof fs)[q] := by
  obtain ⟨g, e, q1, q2, q3, q4⟩ := h.row (by omega)
  have hqf : q < fs.length := by rw [h.len]; exact hq
  refine ⟨g, e, q3.lt, by simpa [KSof] using hqf, (q4 q hqf 2 (by decide)).trans ?_⟩
  simp [Fd.cs, KSof]
theorem blocks_append (S T : List Value) : blocksOf (S ++ T) = blocksOf S ++ blocksOf T := by simp [blocksOf]
theorem OwnsE.append {E : El} {w : World} {S T : List Value} (h1 : OwnsE E w S) (h2 : OwnsE E w T) (h : ∀ g ∈ blocksOf S, g ∉ blocksOf T) : OwnsE E w (S ++ T) := by
  refine ⟨fun s hs => (List.mem_append.1 hs).elim (h1.1 s) (h2.1 s), ?_⟩
  rw [blocks_append]
  exact List.nodup_append.2 ⟨h1.2, h2.2, fun x hx y hy e => h x hx (e ▸ hy)⟩
theorem Lst.ownF {l : List FS} {lo hi : Nat} {w : World} {a : Option Addr} {fs : List Fd} (h : Lst l lo hi w a fs) (h20 : l.length ≤ 20) : OwnsE Ef w [.slice a l.length l.length] ∧ ∀ g ∈ blocksOf [Value.slice a l.length l.length], lo ≤ g ∧ g < hi := by
  rcases h.form h20 with ⟨e, _⟩ | ⟨g, rfl, q1, q2, q3⟩
  · rw [e]
    exact ⟨⟨fun s hs => .inl (by simpa using hs), List.Pairwise.nil⟩, fun g hg => (by cases hg)⟩
  · refine ⟨⟨fun s hs => .inr ⟨g, _, by simpa using hs, by omega, q3⟩, ?_⟩, fun k hk => ?_⟩
    · show [g].Nodup
      simp
    · have : k ∈ [g] := hk
      obtain rfl : k = g := by simpa using this
      exact ⟨q1, q2⟩
theorem fgiven {l1 l2 l3 : List FS} {b0 h1 h2 h3 k1 k2 k3 : Nat} {w : World} {a1 a2 a3 : Option Addr} {f1 f2 f3 : List Fd} (L1 : Lst l1 h1 k1 w a1 f1) (L2 : Lst l2 h2 k2 w a2 f2) (L3 : Lst l3 h3 k3 w a3 f3) (h12 : k1 ≤ h2) (h23 : k2 ≤ h3) (hk2 : h2 ≤ k2) (n1 : l1.length ≤ 20) (n2 : l2.length ≤ 20) (n3 : l3.length ≤ 20)
    (p1 : ∀ f ∈ l1, f.ks.length ≤ 20) (p2 : ∀ f ∈ l2, f.ks.length ≤ 20) (p3 : ∀ f ∈ l3, f.ks.length ≤ 20) (d1 : l1.Pairwise fun f g => f.ks = g.ks → f.ks = []) (d2 : l2.Pairwise fun f g => f.ks = g.ks → f.ks = []) (d3 : l3.Pairwise fun f g => f.ks = g.ks → f.ks = [])
    (hbox : w.heap[b0]? = some (.cells #[.slice a1 l1.length l1.length, .slice a2 l2.length l2.length, .slice a3 l3.length l3.length] 23 (0, 0))) :
    FGiven b0 [.slice a1 l1.length l1.length, .slice a2 l2.length l2.length, .slice a3 l3.length l3.length] [l1.length, l2.length, l3.length] (KSof f1 ++ (KSof f2 ++ KSof f3)) w ∧ (∀ g ∈ blocksOf ([.slice a1 l1.length l1.length, .slice a2 l2.length l2.length, .slice a3 l3.length l3.length] ++ (KSof f1 ++ (KSof f2 ++ KSof f3)) : List Value), (h1 ≤ g ∧ g < k1) ∨ (h2 ≤ g ∧ g < k2) ∨ (h3 ≤ g ∧ g < k3)) := by
  obtain ⟨F1, F1'⟩ := L1.ownF n1
  obtain ⟨F2, F2'⟩ := L2.ownF n2
  obtain ⟨F3, F3'⟩ := L3.ownF n3
  obtain ⟨K1, K1'⟩ := L1.ownK p1 d1
  obtain ⟨K2, K2'⟩ := L2.ownK p2 d2
  obtain ⟨K3, K3'⟩ := L3.ownK p3 d3
  have e1 : (KSof f1).length = l1.length := by simp [KSof, L1.len]
  have e2 : (KSof f2).length = l2.length := by simp [KSof, L2.len]
  have e3 : (KSof f3).length = l3.length := by simp [KSof, L3.len]
  have FF : OwnsE Ef w ([.slice a1 l1.length l1.length] ++ ([.slice a2 l2.length l2.length] ++ [.slice a3 l3.length l3.length])) := F1.append (F2.append F3 (fun g g1 g2 => by have := F2' g g1; have := F3' g g2; omega)) (fun g g1 g2 => by
    rw [blocks_append, List.mem_append] at g2
    have := F1' g g1
    rcases g2 with g2 | g2
    · have := F2' g g2; omega
    · have := F3' g g2; omega)
  have KK : OwnsE Ek w (KSof f1 ++ (KSof f2 ++ KSof f3)) := K1.append (K2.append K3 (fun g g1 g2 => by have := K2' g g1; have := K3' g g2; omega)) (fun g g1 g2 => by
    rw [blocks_append, List.mem_append] at g2
    have := K1' g g1
    rcases g2 with g2 | g2
    · have := K2' g g2; omega
    · have := K3' g g2; omega)
  refine ⟨⟨⟨rfl, rfl⟩, hbox, FF, KK, ⟨by simp [e1, e2, e3], by simp [e1, e2, e3]; omega⟩, ?_, ?_⟩, ?_⟩
  · intro i hi hi'
    match i, hi with
    | 0, _ =>
      refine ⟨a1, rfl, n1, fun q hq => ?_⟩
      obtain ⟨g, r1, r2, r3, r4⟩ := L1.cell q hq
      refine ⟨g, r1, r2, ?_⟩
      have e : (List.take 0 [l1.length, l2.length, l3.length]).sum + q = q := by simp
      simp only [e]
      exact ⟨by simp; omega, by rw [r4, List.getElem_append_left r3]⟩
    | 1, _ =>
      refine ⟨a2, rfl, n2, fun q hq => ?_⟩
      obtain ⟨g, r1, r2, r3, r4⟩ := L2.cell q hq
      refine ⟨g, r1, r2, ?_⟩
      have e : (List.take 1 [l1.length, l2.length, l3.length]).sum + q = (KSof f1).length + q := by simp [e1]
      simp only [e]
      exact ⟨by simp; omega, by rw [r4, List.getElem_append_right (by omega)]; simp only [Nat.add_sub_cancel_left]; rw [List.getElem_append_left r3]⟩
    | 2, _ =>
      refine ⟨a3, rfl, n3, fun q hq => ?_⟩
      obtain ⟨g, r1, r2, r3, r4⟩ := L3.cell q hq
      refine ⟨g, r1, r2, ?_⟩
      have e : (List.take 2 [l1.length, l2.length, l3.length]).sum + q = (KSof f1).length + ((KSof f2).length + q) := by simp [e1, e2]; omega
      simp only [e]
      exact ⟨by simp; omega, by rw [r4, List.getElem_append_right (by omega)]; simp only [Nat.add_sub_cancel_left]; rw [List.getElem_append_right (by omega)]; simp only [Nat.add_sub_cancel_left]⟩
    | n + 3, h => exact absurd h (by simp)
  · intro g g1 g2
    obtain ⟨s, hs, e⟩ := List.mem_filterMap.1 g1
    obtain ⟨t, ht, e'⟩ := List.mem_filterMap.1 g2
    rcases FF.1 s hs with rfl | ⟨b, n, rfl, _, cs, q1, _⟩
    · cases e
    · cases e
      rcases KK.1 t ht with rfl | ⟨b', n', rfl, _, cs', q1', _⟩
      · cases e'
      · cases e'
        have hh := q1.symm.trans q1'
        have this : 66 = 3 := congrArg (fun o => match o with | some (Obj.cells _ t _) => t | _ => 0) hh
        exact absurd this (by decide)
  · intro g hg
    have hg' : g ∈ blocksOf ([Value.slice a1 l1.length l1.length] ++ ([Value.slice a2 l2.length l2.length] ++ [Value.slice a3 l3.length l3.length]) ++ (KSof f1 ++ (KSof f2 ++ KSof f3))) := hg
    simp only [blocks_append, List.mem_append] at hg'
    rcases hg' with (h | h | h) | (h | h | h)
    · exact .inl (F1' g h)
    · exact .inr (.inl (F2' g h))
    · exact .inr (.inr (F3' g h))
    · exact .inl (K1' g h)
    · exact .inr (.inl (K2' g h))
    · exact .inr (.inr (K3' g h))
end Go.Proofs.YtgldcchleoklcaaGreatDoor
