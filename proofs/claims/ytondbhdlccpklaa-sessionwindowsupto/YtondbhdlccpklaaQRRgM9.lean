import Derived.Test.YtondbhdlccpklaaQRFreeM9

/- Stage 13: the document's Range. -/
namespace Go.Proofs.Ytondbhdlccpklaa
open Go.RowKit Go.Maps
set_option linter.unusedVariables false
set_option linter.unusedSimpArgs false

theorem sub_len : ∀ {A B : List Int}, A.Nodup → A ⊆ B → A.length ≤ B.length
  | [], B, _, _ => Nat.zero_le _
  | a :: t, B, hn, hs => by
    rw [List.nodup_cons] at hn
    have ha : a ∈ B := hs (List.mem_cons_self ..)
    have := sub_len (A := t) (B := B.erase a) hn.2 (fun x hx => by
      have hne : x ≠ a := fun e => hn.1 (by rw [← e]; exact hx)
      exact (List.mem_erase_of_ne hne).2 (hs (List.mem_cons_of_mem _ hx)))
    rw [List.length_erase_of_mem ha] at this
    have h0 : 0 < B.length := List.length_pos_of_mem ha
    rw [List.length_cons]
    omega
theorem sub_all {A B : List Int} (hn : A.Nodup) (hs : A ⊆ B) (hl : B.length ≤ A.length) {y : Int} (hy : y ∈ B) : y ∈ A := by
  by_cases h : y ∈ A
  · exact h
  · have := sub_len (A := y :: A) (B := B) (List.nodup_cons.2 ⟨h, hn⟩) (fun x hx => by
      rcases List.mem_cons.1 hx with rfl | e
      · exact hy
      · exact hs e)
    rw [List.length_cons] at this
    omega
/-- what was chosen so far -/
structure Sel (l out : List Pd) (first d behind : Int) : Prop where
  inc : (out.map fun p => gapZ first p.1).Pairwise (· < ·)
  mem : ∀ p ∈ out, p ∈ l ∧ 0 ≤ gapZ first p.1 ∧ gapZ first p.1 ≤ d
  low : ∀ p ∈ out, gapZ first p.1 ≤ behind
  all : ∀ p ∈ l, 0 ≤ gapZ first p.1 → gapZ first p.1 ≤ behind → ∃ q ∈ out, gapZ first q.1 = gapZ first p.1
  bd : -1 ≤ behind ∧ behind ≤ d
/-- all that lie from first on, d far at most, by their gaps -/
structure SelA (l out : List Pd) (first d : Int) : Prop where
  inc : (out.map fun p => gapZ first p.1).Pairwise (· < ·)
  mem : ∀ p ∈ out, p ∈ l ∧ 0 ≤ gapZ first p.1 ∧ gapZ first p.1 ≤ d
  all : ∀ p ∈ l, 0 ≤ gapZ first p.1 → gapZ first p.1 ≤ d → ∃ q ∈ out, gapZ first q.1 = gapZ first p.1
section
variable {l out : List Pd} {first d behind : Int}
theorem Sel.start (hd : 0 ≤ d) : Sel l [] first d (-1) := ⟨by simp, fun p hp => (by cases hp), fun p hp => (by cases hp), fun p hp h0 h1 => by omega, by omega⟩
theorem Sel.len (h : Sel l out first d behind) : out.length ≤ l.length := by
  have h1 : (out.map fun p => gapZ first p.1).Nodup := h.inc.imp (fun h => by omega)
  have h2 : (out.map fun p => gapZ first p.1) ⊆ l.map fun p => gapZ first p.1 := by
    intro x hx
    obtain ⟨p, hp, rfl⟩ := List.mem_map.1 hx
    exact List.mem_map.2 ⟨p, (h.mem p hp).1, rfl⟩
  have := sub_len h1 h2
  simpa using this
theorem Sel.full (h : Sel l out first d behind) (hl : l.length ≤ out.length) : SelA l out first d := by
  refine ⟨h.inc, h.mem, fun p hp _ _ => ?_⟩
  have h1 : (out.map fun p => gapZ first p.1).Nodup := h.inc.imp (fun h => by omega)
  have h2 : (out.map fun p => gapZ first p.1) ⊆ l.map fun p => gapZ first p.1 := by
    intro x hx
    obtain ⟨p, hp, rfl⟩ := List.mem_map.1 hx
    exact List.mem_map.2 ⟨p, (h.mem p hp).1, rfl⟩
  have : gapZ first p.1 ∈ out.map fun p => gapZ first p.1 := sub_all h1 h2 (by simpa using hl) (List.mem_map.2 ⟨p, hp, rfl⟩)
  obtain ⟨q, hq, e⟩ := List.mem_map.1 this
  exact ⟨q, hq, e⟩
theorem Sel.over (h : Sel l out first d behind) (hn : ∀ p ∈ l, ¬ (behind < gapZ first p.1 ∧ gapZ first p.1 ≤ d)) : SelA l out first d :=
  ⟨h.inc, h.mem, fun p hp h0 h1 => h.all p hp h0 (by have := hn p hp; omega)⟩
theorem Sel.next (h : Sel l out first d behind) {p : Pd} (hp : p ∈ l) (h1 : behind < gapZ first p.1) (h2 : gapZ first p.1 ≤ d) (hm : ∀ q ∈ l, behind < gapZ first q.1 → gapZ first p.1 ≤ gapZ first q.1) : Sel l (out ++ [p]) first d (gapZ first p.1) := by
  have hb := h.bd
  refine ⟨?_, fun q hq => ?_, fun q hq => ?_, fun q hq h0 hle => ?_, by omega⟩
  · rw [List.map_append, List.pairwise_append]
    refine ⟨h.inc, by simp, fun x hx y hy => ?_⟩
    obtain ⟨q, hq, rfl⟩ := List.mem_map.1 hx
    simp at hy
    have := h.low q hq
    omega
  · rcases List.mem_append.1 hq with e | e
    · exact h.mem q e
    · simp at e
      subst e
      exact ⟨hp, by omega, h2⟩
  · rcases List.mem_append.1 hq with e | e
    · have := h.low q e
      omega
    · simp at e
      subst e
      omega
  · by_cases hx : gapZ first q.1 ≤ behind
    · obtain ⟨r, hr, e⟩ := h.all q hq h0 hx
      exact ⟨r, List.mem_append_left _ hr, e⟩
    · have := hm q hq (by omega)
      exact ⟨p, by simp, by omega⟩
end
def lenV : Value → Nat
  | .slice _ n _ => n
  | _ => 0
/-- the best so far, of the first j -/
def Bst (l : List Pd) (first d behind : Int) (j : Nat) (bs le : Int) : Prop :=
  (bs = -1 ∧ le = d + 1 ∧ ∀ x (hx : x < l.length), x < j → ¬ (behind < gapZ first l[x].1 ∧ gapZ first l[x].1 ≤ d)) ∨
  ∃ (b : Nat) (hb : b < l.length), bs = (b : Int) ∧ le = gapZ first l[b].1 ∧ behind < gapZ first l[b].1 ∧ gapZ first l[b].1 ≤ d ∧ ∀ x (hx : x < l.length), x < j → behind < gapZ first l[x].1 → gapZ first l[b].1 ≤ gapZ first l[x].1
section
variable {l : List Pd} {first d behind : Int} {j : Nat} {bs le : Int}
theorem Bst.bnd (h : Bst l first d behind j bs le) : le ≤ d + 1 := by
  rcases h with ⟨_, h, _⟩ | ⟨b, hb, _, h, _, h2, _⟩ <;> omega
theorem Bst.skip (h : Bst l first d behind j bs le) (hj : j < l.length) (hn : ¬ (behind < gapZ first l[j].1 ∧ gapZ first l[j].1 < le)) : Bst l first d behind (j + 1) bs le := by
  rcases h with ⟨h1, h2, h3⟩ | ⟨b, hb, h1, h2, h4, h5, h6⟩
  · refine .inl ⟨h1, h2, fun x hx hxj => ?_⟩
    by_cases e : x = j
    · subst e; omega
    · exact h3 x hx (by omega)
  · refine .inr ⟨b, hb, h1, h2, h4, h5, fun x hx hxj hlt => ?_⟩
    by_cases e : x = j
    · subst e; omega
    · exact h6 x hx (by omega) hlt
theorem Bst.take (h : Bst l first d behind j bs le) (hj : j < l.length) (h1 : behind < gapZ first l[j].1) (h2 : gapZ first l[j].1 < le) : Bst l first d behind (j + 1) j (gapZ first l[j].1) := by
  have hle := h.bnd
  refine .inr ⟨j, hj, rfl, rfl, h1, by omega, fun x hx hxj hlt => ?_⟩
  by_cases e : x = j
  · subst e; omega
  · rcases h with ⟨_, e2, h3⟩ | ⟨b, hb, _, e2, h4, h5, h6⟩
    · have := h3 x hx (by omega)
      omega
    · have := h6 x hx (by omega) hlt
      omega
end
end Go.Proofs.Ytondbhdlccpklaa


/- Stage 13: the document's Range, the walk. -/
namespace Go.Proofs.Ytondbhdlccpklaa
open Go.RowKit Go.Maps
set_option linter.unusedVariables false
set_option linter.unusedSimpArgs false

section
variable (g : Nat) (s : Sn) (vh vr vs va : Value) (hs : List Int) (rs : List (Int × Int)) (S C : List Pd) (w : World)
set_option maxRecDepth 100000 in
set_option maxHeartbeats 1000000 in
theorem rrange_no (sd : Bool) (first last : Int) (hn : isW first = false ∨ isW last = false ∨ gapZ first last < 0) :
    Calls Try.prog 41 #[.pointer (some ⟨g, 0, none⟩), .bool sd, .int .i64 first, .int .i64 last] w fun e w' => e = .returned (.slice none 0 0) ∧ w' = w := by
  obtain ⟨a, ea⟩ : ∃ a, isW first = a := ⟨_, rfl⟩
  obtain ⟨b, eb⟩ : ∃ b, isW last = b := ⟨_, rfl⟩
  have W1 : Hid (∀ W, Calls Try.prog 63 #[.int .i64 first] W fun e w' => e = .returned (.bool a) ∧ w' = W) := fun W => ea ▸ word_any first W
  have W2 : Hid (∀ W, Calls Try.prog 63 #[.int .i64 last] W fun e w' => e = .returned (.bool b) ∧ w' = W) := fun W => eb ▸ word_any last W
  rw [ea, eb] at hn
  have hcase : a = false ∨ (a = true ∧ b = false) ∨ (a = true ∧ b = true ∧ gapZ first last < 0) := by
    cases a <;> cases b <;> simp at hn ⊢
    exact hn
  clear hn ea eb
  rcases hcase with rfl | ⟨rfl, rfl⟩ | ⟨rfl, rfl, hd⟩
  all_goals
    go_enter Try.func41, Try.ntmps41
    go_wp2_with fail
    refine (W1.out _).mono ?_
    rintro e1 w1 ⟨rfl, rfl⟩
    go_wp2_with fail
    refine (W2.out _).mono ?_
    rintro e2 w2 ⟨rfl, rfl⟩
    go_wp2_with fail
    refine (rgap_any _ _ _).mono ?_
    rintro e3 w3 ⟨rfl, rfl⟩
    go_wp2
    go_ret
    exact ⟨rfl, rfl⟩
set_option maxRecDepth 100000 in
set_option maxHeartbeats 4000000 in
theorem rrange_yes (sd : Bool) (first last : Int) (hS : RS w g s vh vr vs va hs rs S C) (hl : (if sd then S else C).length ≤ 4294967296) (h1 : isW first = true) (h2 : isW last = true) (h3 : 0 ≤ gapZ first last) :
    Calls Try.prog 41 #[.pointer (some ⟨g, 0, none⟩), .bool sd, .int .i64 first, .int .i64 last] w fun e w' => ∃ v out, e = .returned v ∧ OwnP w' w.heap.size v out ∧ SelA (if sd then S else C) out first (gapZ first last) ∧ Below w.heap.size w w' := by
  have W1 := hide (word_any first w)
  have W2 := hide (word_any last w)
  rw [h1] at W1
  rw [h2] at W2
  have HG := hide (rgap_any first last w)
  have HW := hide (rway_any g s vh vr vs va hs rs S C w sd hS)
  have ho := hS.wayP sd
  have hdb := gap_bound first last
  obtain ⟨d, ed⟩ : ∃ d, gapZ first last = d := ⟨_, rfl⟩
  rw [ed] at HG h3 hdb ⊢
  obtain ⟨l, el⟩ : ∃ l, (if sd then S else C) = l := ⟨_, rfl⟩
  rw [el] at hl ho ⊢
  obtain ⟨a, c, e, hr, _⟩ := ho.rd
  rw [e] at HW
  have HR := hide hr
  obtain ⟨n, hn⟩ : ∃ n, n = l.length := ⟨_, rfl⟩
  rw [← hn] at hl HW
  have HN := hide hn
  obtain ⟨i0, hi0, hz0, hz1, hz2⟩ := info_parts Try.infoPd
  clear hS h1 h2 ho e hr hn ed el
  go_enter Try.func41, Try.ntmps41
  go_wp2_with fail
  refine W1.out.mono ?_
  rintro e1 w1 ⟨rfl, hw1⟩
  have hw2 := hw1.symm
  subst hw2
  clear hw1
  go_wp2_with fail
  refine W2.out.mono ?_
  rintro e1 w1 ⟨rfl, hw1⟩
  have hw2 := hw1.symm
  subst hw2
  clear hw1
  go_wp2_with fail
  refine HG.out.mono ?_
  rintro e1 w1 ⟨rfl, hw1⟩
  subst hw1
  go_wp2_with fail
  refine HW.out.mono ?_
  rintro e1 w1 ⟨rfl, hw1⟩
  have hw2 := hw1.symm
  subst hw2
  clear hw1 W1 W2 HG HW
  go_wp2
  go_loopw [9, 14] (fun v bh W => ∃ out behind, bh = .int .i64 behind ∧ OwnP W w.heap.size v out ∧ Below w.heap.size w W ∧ Hid (Sel l out first d behind)) (fun v _ _ => n - lenV v)
  case atStart => exact ⟨[], -1, rfl, ⟨rfl, .inl ⟨rfl, rfl⟩⟩, Below.refl _ _, Sel.start h3⟩
  case round =>
    obtain ⟨out, behind, rfl, ho, hb, hs⟩ := hrel
    have HO := hide ho
    have HB := hide hb
    have hsz := hb.size
    have hbd := hs.out.bd
    have hln := hs.out.len
    obtain ⟨oa, oc, ev⟩ := own_slice ho
    have HEv := hide ev
    subst ev
    obtain ⟨m, hm⟩ : ∃ m, m = out.length := ⟨_, rfl⟩
    have HM := hide hm
    rw [← hm] at hln ⊢
    rw [← HN.out] at hln
    clear hm ho hb HEv
    rename World => wo
    by_cases hmn : m < n
    · have hmn' : (m : Int) < (n : Int) := by omega
      go_wp2
      go_loopw [15, 16, 17] (fun bs le i W => ∃ (j : Nat) (x y : Int), i = .int .i64 j ∧ bs = .int .i64 x ∧ le = .int .i64 y ∧ j ≤ n ∧ wo = W ∧ Hid (Bst l first d behind j x y)) (fun _ _ i _ => n - (intOf i).toNat)
      case atStart => exact ⟨0, -1, d + 1, rfl, rfl, by go_num, Nat.zero_le _, rfl, .inl ⟨rfl, rfl, fun x _ h => by omega⟩⟩
      case round =>
        obtain ⟨j, x, y, rfl, rfl, rfl, hj, rfl, hB⟩ := hrel
        by_cases hjn : j < n
        · have hjl : j < l.length := by have := HN.out; omega
          obtain ⟨b, eb, hg1, p1, p2, p3⟩ := HR.out j hjl
          subst eb
          rw [← HB.out.cell (p := ⟨b, j * 3, none⟩) hg1] at p1
          have hgw : b < wo.heap.size := by omega
          have hjb : (j : Int) ≤ 4294967296 := by omega
          have hbb := gap_bound first l[j].1
          have HGj : Hid (∀ W, Calls Try.prog 67 #[.int .i64 first, .int .i64 l[j].1] W fun e w' => e = .returned (.int .i64 (gapZ first l[j].1)) ∧ W = w') := fun W => rgap_any _ _ W
          have HSk : Hid (¬ (behind < gapZ first l[j].1 ∧ gapZ first l[j].1 < y) → Bst l first d behind (j + 1) x y) := fun h => hB.out.skip hjl h
          have HTk : Hid (behind < gapZ first l[j].1 → gapZ first l[j].1 < y → Bst l first d behind (j + 1) j (gapZ first l[j].1)) := fun h h' => hB.out.take hjl h h'
          obtain ⟨g0, eg⟩ : ∃ g0, gapZ first l[j].1 = g0 := ⟨_, rfl⟩
          rw [eg] at hbb HGj HSk HTk
          obtain ⟨id0, ei⟩ : ∃ id0, l[j].1 = id0 := ⟨_, rfl⟩
          rw [ei] at p1 HGj
          clear eg ei p2 p3
          by_cases hc1 : behind < g0
          · by_cases hc2 : g0 < y
            · have HBn := hide (HTk.out hc1 hc2)
              go_wp2_with (go_at_call 67; refine (HGj.out _).mono ?_; rintro e5 w5 ⟨rfl, hw5⟩; subst hw5)
              go_roundw
              case rel => exact ⟨j + 1, j, g0, by go_num, rfl, rfl, by omega, by trivial, HBn⟩
              case measure => simp [intOf]; omega
            · have HBn := hide (HSk.out (fun h => hc2 h.2))
              go_wp2_with (go_at_call 67; refine (HGj.out _).mono ?_; rintro e5 w5 ⟨rfl, hw5⟩; subst hw5)
              go_roundw
              case rel => exact ⟨j + 1, x, y, by go_num, rfl, rfl, by omega, by trivial, HBn⟩
              case measure => simp [intOf]; omega
          · have HBn := hide (HSk.out (fun h => hc1 h.1))
            go_wp2_with (go_at_call 67; refine (HGj.out _).mono ?_; rintro e5 w5 ⟨rfl, hw5⟩; subst hw5)
            go_roundw
            case rel => exact ⟨j + 1, x, y, by go_num, rfl, rfl, by omega, by trivial, HBn⟩
            case measure => simp [intOf]; omega
        · obtain rfl : j = n := by omega
          rcases hB.out with ⟨rfl, rfl, hno⟩ | ⟨b, hbl, rfl, rfl, hb1, hb2, hb3⟩
          · have HA := hide (hs.out.over (fun p hp => by
              obtain ⟨q, hq, rfl⟩ := List.mem_iff_getElem.1 hp
              exact hno q hq (by have := HN.out; omega)))
            clear hno hB
            go_wp2
            go_ret
            exact ⟨_, out, rfl, by rw [HM.out]; exact HO.out, HA.out, HB.out⟩
          · have HSn := hide (hs.out.next (List.getElem_mem hbl) hb1 hb2 (fun p hp h => by
              obtain ⟨q, hq, rfl⟩ := List.mem_iff_getElem.1 hp
              exact hb3 q hq (by have := HN.out; omega) h))
            obtain ⟨bk, eb, hg1, p1, p2, p3⟩ := HR.out b hbl
            subst eb
            rw [← HB.out.cell (p := ⟨bk, b * 3, none⟩) hg1] at p1
            rw [← HB.out.cell (p := ⟨bk, b * 3 + 1, none⟩) hg1] at p2
            rw [← HB.out.cell (p := ⟨bk, b * 3 + 2, none⟩) hg1] at p3
            have hgw : bk < wo.heap.size := by omega
            have hbj : (b : Int) < (j : Int) := by have := HN.out; omega
            have hb0 : (0 : Int) ≤ (b : Int) := by omega
            have hbn : b < j := by omega
            obtain ⟨p, hp⟩ : ∃ p, p = l[b] := ⟨_, rfl⟩
            rw [← hp] at HSn p1 p2 p3 hb1 hb2 ⊢
            have hlen : Hid (out.length ≤ 4294967296) := by show _ ≤ _; have := HM.out; omega
            have HO' : Hid (OwnP wo w.heap.size (.slice oa m oc) out) := by show OwnP _ _ _ _; rw [HM.out]; exact HO.out
            clear hp hb3 hB hbl
            go_wp2_with (at_builtin; refine wpList_append_own_at _ rfl _ _ 72 rfl w.heap.size 75 i0 (pdV pd0) 3 32 Try.underlying72 hi0 hz0 hz1 hz2 rfl (by decide) _ _ _ rfl (HO'.out.alloc _) ⟨wo.heap.size, 0, none⟩ 1 1 (pdL p) rfl rfl (cell_pd_new _ _ _) (pd_one p) (by have := hlen.out; unfold maxLen; omega) (by have := hlen.out; omega) (by simp; omega) ?_; intro v' w6 hown' hgrow hnil hloc; obtain ⟨a', c', rfl⟩ := own_slice hown')
            go_roundw
            case rel =>
              refine ⟨out ++ [p], _, rfl, ?_, ?_, HSn⟩
              · unfold OwnP
                rw [flatP_snoc]
                simpa using hown'
              · exact (bel1 HB.out (by omega) _).grown hgrow (by simp; omega) (fun x hx => (HO'.out.lt x hx).1)
            case measure => simp [lenV]; have := HM.out; omega
    · obtain rfl : m = n := by omega
      have HA := hide (hs.out.full (by have := HN.out; have := HM.out; omega))
      go_wp2
      go_ret
      exact ⟨_, out, rfl, by rw [HM.out]; exact HO.out, HA.out, HB.out⟩
end
end Go.Proofs.Ytondbhdlccpklaa
