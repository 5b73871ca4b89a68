
/- Stage 19: refuses, Or, find. -/
import Derived.Test.YtgkdecjlanbmhaaDAct
namespace Go.Proofs.Ytgkdecjlanbmhaa
open Go.RowKit Go.Maps
set_option linter.unusedVariables false
set_option linter.unusedSimpArgs false
/-- texts in a row that is read -/
def Sr (w : World) (v : Value) (L : List ByteArray) : Prop := ∃ a cap, v = .slice a L.length cap ∧ (0 < L.length → ∃ b off, a = some ⟨b, off, none⟩ ∧ b < w.heap.size ∧ ∀ j (h : j < L.length), w.cell? ⟨b, off + j, none⟩ = some (.string L[j]))
theorem Sr.below {w w' : World} {v : Value} {L : List ByteArray} (h : Sr w v L) (hb : Below w.heap.size w w') : Sr w' v L := by
  obtain ⟨a, cap, e, h1⟩ := h
  refine ⟨a, cap, e, fun h0 => ?_⟩
  obtain ⟨b, off, ha, hlt, hc⟩ := h1 h0
  exact ⟨b, off, ha, by have := hb.size; omega, fun j hj => (hb.cell (p := ⟨b, off + j, none⟩) hlt).trans (hc j hj)⟩
theorem Sr.nil (w : World) (a : Option Addr) (c : Nat) : Sr w (.slice a 0 c) [] := ⟨a, c, rfl, fun h => absurd h (by simp)⟩
theorem Sr.one {w : World} {b off c : Nat} {s : ByteArray} (hlt : b < w.heap.size) (h : w.cell? ⟨b, off, none⟩ = some (.string s)) : Sr w (.slice (some ⟨b, off, none⟩) 1 c) [s] :=
  ⟨_, c, rfl, fun _ => ⟨b, off, rfl, hlt, fun j hj => by have : j = 0 := (by simp at hj; exact hj); subst this; exact h⟩⟩
def refE (dn : Bool) (L : List ByteArray) : Int := if dn then 3 else if L.all nm then 0 else 1
theorem all_no {L : List ByteArray} {k : Nat} (h : k < L.length) (hn : nm L[k] = false) : L.all nm = false := by
  rw [← Bool.not_eq_true, List.all_eq_true]
  intro ha
  have := ha _ (List.getElem_mem h)
  rw [hn] at this
  cases this
theorem all_yes {L : List ByteArray} (h : ∀ j (h : j < L.length), nm L[j] = true) : L.all nm = true := by
  rw [List.all_eq_true]
  intro s hs
  obtain ⟨j, hj, rfl⟩ := List.getElem_of_mem hs
  exact h j hj
set_option maxHeartbeats 2000000 in
theorem refuses_any (S : Nat → Prop) (w : World) (d m : Nat) (x : Dx) (E : List En) (hD : DkS S w d m x E) (v : Value) (L : List ByteArray) (hL : Sr w v L) (hl : L.length ≤ 281474976710656) :
    Calls Try.prog 57 #[.pointer (some ⟨d, 0, none⟩), v] w fun e w' => e = .returned (.int .i64 (refE x.down L)) ∧ w' = w := by
  have c5 : w.cell? ⟨d, 5, none⟩ = some (.bool x.down) := hD.cell 5 _ rfl
  clear hD
  obtain ⟨a, cap, rfl, hL⟩ := hL
  cases hdn : x.down with
  | true =>
    rw [hdn] at c5
    clear hL
    go_enter Try.func57, Try.ntmps57
    go_wp2
    go_ret
    exact ⟨rfl, rfl⟩
  | false =>
    rw [hdn] at c5
    clear hdn
    have HL := hide hL
    clear hL
    go_enter Try.func57, Try.ntmps57
    go_wp2
    go_loop [14] (fun vi => ∃ k : Nat, k ≤ L.length ∧ vi = .int .i64 k ∧ Hid (∀ j (h : j < L.length), j < k → nm L[j] = true)) (fun vi => L.length - (intOf vi).toNat)
    case atStart => exact ⟨0, Nat.zero_le _, rfl, fun j hj h0 => absurd h0 (by omega)⟩
    case round =>
      obtain ⟨k, hk, rfl, HK⟩ := hrel
      by_cases hkn : k < L.length
      · obtain ⟨b, off, rfl, hb, hc⟩ := HL.out (by omega)
        have ck := hc k hkn
        clear hc
        cases hn : nm L[k] with
        | true =>
          obtain ⟨s, hs⟩ : ∃ s, s = L[k] := ⟨_, rfl⟩
          rw [← hs] at ck hn
          have HN : Hid (nm L[k] = true) := by rw [← hs]; exact hn
          have HC : Hid (Calls Try.prog 50 #[.string s] w fun e w' => e = .returned (.bool true) ∧ w' = w) := by rw [← hn]; exact isName_any s w
          clear hn hs
          go_wp2_with (go_at_call 50; refine HC.out.mono ?_; rintro e w1 ⟨rfl, rfl⟩)
          go_round
          case rel => exact ⟨k + 1, by omega, by go_num, fun j h hj => by
            by_cases e : j = k
            · subst e; exact HN.out
            · exact HK.out j h (by omega)⟩
          case measure => simp [intOf]; omega
        | false =>
          have HN : Hid (refE false L = 1) := by show refE false L = 1; unfold refE; rw [all_no hkn hn]; rfl
          obtain ⟨s, hs⟩ : ∃ s, s = L[k] := ⟨_, rfl⟩
          rw [← hs] at ck hn
          have HC : Hid (Calls Try.prog 50 #[.string s] w fun e w' => e = .returned (.bool false) ∧ w' = w) := by rw [← hn]; exact isName_any s w
          clear hn hs
          go_wp2_with (go_at_call 50; refine HC.out.mono ?_; rintro e w1 ⟨rfl, rfl⟩)
          go_ret
          exact ⟨by rw [HN.out]; rfl, rfl⟩
      · have HN : Hid (refE false L = 0) := by
          show refE false L = 0
          unfold refE
          rw [all_yes (fun j h => HK.out j h (by omega))]
          rfl
        go_wp2
        go_ret
        exact ⟨by rw [HN.out]; rfl, rfl⟩
def or2 (a b : Int) : Int := if a ≠ 0 then a else b
set_option maxHeartbeats 2000000 in
theorem or_any (w : World) (g : Nat) (a b : Int) (h0 : w.cell? ⟨g, 0, none⟩ = some (.int .i64 a)) (h1 : w.cell? ⟨g, 1, none⟩ = some (.int .i64 b)) :
    Calls Try.prog 74 #[.slice (some ⟨g, 0, none⟩) 2 2] w fun e w' => e = .returned (.int .i64 (or2 a b)) ∧ w' = w := by
  by_cases ha : a = 0
  · subst ha
    have HO : Hid (or2 0 b = b) := rfl
    by_cases hb : b = 0
    · subst hb
      go_enter Try.func74, Try.ntmps74
      go_wp2
      go_loop [8] (fun vi => ∃ k : Nat, k ≤ 2 ∧ vi = .int .i64 k) (fun vi => 2 - (intOf vi).toNat)
      case atStart => exact ⟨0, by omega, rfl⟩
      case round =>
        obtain ⟨k, hk, rfl⟩ := hrel
        rcases (show k = 0 ∨ k = 1 ∨ k = 2 by omega) with rfl | rfl | rfl
        · go_wp2
          go_round
          case rel => exact ⟨1, by omega, by go_num⟩
          case measure => simp [intOf]
        · go_wp2
          go_round
          case rel => exact ⟨2, by omega, by go_num⟩
          case measure => simp [intOf]
        · go_wp2
          go_ret
          exact ⟨by rw [HO.out]; rfl, rfl⟩
    · go_enter Try.func74, Try.ntmps74
      go_wp2
      go_loop [8] (fun vi => ∃ k : Nat, k ≤ 1 ∧ vi = .int .i64 k) (fun vi => 2 - (intOf vi).toNat)
      case atStart => exact ⟨0, by omega, rfl⟩
      case round =>
        obtain ⟨k, hk, rfl⟩ := hrel
        rcases (show k = 0 ∨ k = 1 by omega) with rfl | rfl
        · go_wp2
          go_round
          case rel => exact ⟨1, by omega, by go_num⟩
          case measure => simp [intOf]
        · go_wp2
          go_ret
          exact ⟨by rw [HO.out]; rfl, rfl⟩
  · have HO : Hid (or2 a b = a) := if_pos ha
    go_enter Try.func74, Try.ntmps74
    go_wp2
    go_loop [8] (fun vi => vi = .int .i64 0) (fun vi => 2 - (intOf vi).toNat)
    case atStart => rfl
    case round =>
      subst hrel
      go_wp2
      go_ret
      exact ⟨by rw [HO.out]; rfl, rfl⟩
/-- the error ahead of what is done to a file that must be there -/
def hasN (N : List ByteArray) (k : ByteArray) : Bool := N.any fun z => decide (z = k)
theorem hasN_iff {N : List ByteArray} {k : ByteArray} : hasN N k = true ↔ k ∈ N := by simp [hasN]
theorem hasN_no {N : List ByteArray} {k : ByteArray} (h : k ∉ N) : hasN N k = false := by rw [← Bool.not_eq_true, hasN_iff]; exact h
def findE (dn : Bool) (N : List ByteArray) (k : ByteArray) (L : List ByteArray) : Int := if dn then 3 else if nm k && L.all nm then (if hasN N k then 0 else 191) else 1
theorem or_ref (dn : Bool) (k : ByteArray) (L : List ByteArray) : or2 (refE dn [k]) (refE dn L) = if dn then 3 else if nm k && L.all nm then 0 else 1 := by
  unfold or2 refE
  cases dn <;> cases h1 : nm k <;> cases h2 : L.all nm <;> simp [h1]
theorem luV_cases (T : List (ByteArray × Nat)) (k : ByteArray) (hn : (T.map (·.1)).Nodup) : (k ∉ T.map (·.1) ∧ luV T k = .pointer none) ∨ ∃ p, (k, p) ∈ T ∧ luV T k = pV p := by
  by_cases h : k ∈ T.map (·.1)
  · obtain ⟨x, hx, rfl⟩ := List.mem_map.1 h
    exact .inr ⟨x.2, hx, luV_mem hn hx⟩
  · exact .inl ⟨h, luV_none h⟩
theorem or_zero {dn : Bool} {N : List ByteArray} {k : ByteArray} {L : List ByteArray} : or2 (refE dn [k]) (refE dn L) = if findE dn N k L = 191 then 0 else findE dn N k L := by
  rw [or_ref]
  unfold findE
  cases dn <;> cases h1 : nm k <;> cases h2 : L.all nm <;> cases h3 : hasN N k <;> simp [h1]
theorem find_dn {dn : Bool} {N : List ByteArray} {k : ByteArray} {L : List ByteArray} (h : findE dn N k L = 0 ∨ findE dn N k L = 191) : dn = false ∧ nm k = true ∧ L.all nm = true ∧ (hasN N k = true ↔ findE dn N k L = 0) := by
  revert h
  unfold findE
  cases dn <;> cases h1 : nm k <;> cases h2 : L.all nm <;> cases h3 : hasN N k <;> simp [h1]
def fP (E : List En) (k : ByteArray) (e : Int) : Value := if e = 0 then luV (E.map fun e => (e.f.1, e.p)) k else .pointer none
set_option maxHeartbeats 4000000 in
theorem find_any (S : Nat → Prop) (w : World) (d m : Nat) (x : Dx) (E : List En) (hD : DkS S w d m x E) (hS : ∀ k, S k → k < w.heap.size) (k : ByteArray) (v : Value) (L : List ByteArray) (hL : Sr w v L) (hl : L.length ≤ 281474976710656) :
    Calls Try.prog 59 #[.pointer (some ⟨d, 0, none⟩), .string k, v] w fun e w' => e = .returned (.tuple #[fP E k (findE x.down (E.map (·.f.1)) k L), .int .i64 (findE x.down (E.map (·.f.1)) k L)]) ∧ Below w.heap.size w w' := by
  obtain ⟨W1, hW1⟩ : ∃ W1, W1 = w.alloc (.cells #[.string k] 9) := ⟨_, rfl⟩
  have hz1 : W1.heap.size = w.heap.size + 1 := by rw [hW1]; simp
  have hb1 : Below w.heap.size w W1 := by rw [hW1]; exact bel1 (Below.refl _ _) (Nat.le_refl _) _
  have hB1 : W1.heap[w.heap.size]? = some (.cells #[.string k] 9 (0, 0)) := by rw [hW1]; exact heap_new _ _
  have hD1 : DkS S W1 d m x E := hD.keep (fun q hq => hb1.block q (hS q hq))
  have HR1 := hide (refuses_any S W1 d m x E hD1 (.slice (some ⟨w.heap.size, 0, none⟩) 1 1) [k] (Sr.one (by omega) (cellOf hB1 0 _ rfl)) (by simp))
  have HR2 := hide (refuses_any S W1 d m x E hD1 v L (hL.below hb1) hl)
  obtain ⟨W2, hW2⟩ : ∃ W2, W2 = W1.alloc (.cells #[.int .i64 (refE x.down [k]), .int .i64 (refE x.down L)] 40) := ⟨_, rfl⟩
  have hb2 : Below w.heap.size w W2 := by rw [hW2]; exact bel1 hb1 (by omega) _
  have hB2 : W2.heap[W1.heap.size]? = some (.cells #[.int .i64 (refE x.down [k]), .int .i64 (refE x.down L)] 40 (0, 0)) := by rw [hW2]; exact heap_new _ _
  rw [hz1] at hB2
  have HOR := hide (or_any W2 (w.heap.size + 1) _ _ (cellOf hB2 0 _ rfl) (cellOf hB2 1 _ rfl))
  have hD2 : DkS S W2 d m x E := hD.keep (fun q hq => hb2.block q (hS q hq))
  have HB2 := hide hb2
  have HD2 := hide hD2
  have c2 : W2.cell? ⟨d, 2, none⟩ = some (.map (some m)) := hD2.cell 2 _ rfl
  have HW1 := hide hW1
  have HW2 := hide hW2
  have HZ1 := hide hz1
  clear hD hD1 hD2 hL hl hB1 hB2 hb1 hb2 hW1 hW2 hz1
  rw [or_zero (N := E.map (·.f.1))] at HOR
  generalize refE x.down [k] = r1 at *
  generalize refE x.down L = r2 at *
  rcases (show findE x.down (E.map (·.f.1)) k L = 0 ∨ findE x.down (E.map (·.f.1)) k L = 191 ∨ (findE x.down (E.map (·.f.1)) k L ≠ 0 ∧ findE x.down (E.map (·.f.1)) k L ≠ 191) by omega) with h | h | ⟨h1, h2⟩
  · obtain ⟨h1, h2, h3, h4⟩ := find_dn (.inl h)
    have hin := hasN_iff.1 (h4.2 h)
    rw [h] at HOR ⊢
    rw [if_neg (by decide)] at HOR
    have HLK := hide (look_run HD2.out.tab (nm_size h2))
    have hfp : fP E k 0 = luV (E.map fun e => (e.f.1, e.p)) k := rfl
    rw [hfp]
    rcases luV_cases (E.map fun e => (e.f.1, e.p)) k HD2.out.tab.nodup with ⟨q1, q2⟩ | ⟨p, q1, q2⟩
    · exact absurd (by rw [List.map_map]; exact hin) q1
    rw [q2] at HLK ⊢
    clear q1 q2 h1 h2 h3 h4 hin h hfp
    unfold pV at *
    have hlk := HLK.out
    go_enter Try.func59, Try.ntmps59
    go_wp2_with fail
    rw [← HW1.out]
    refine HR1.out.mono ?_
    rintro e w1 ⟨rfl, hw1⟩
    rw [hw1]
    clear hw1
    go_wp2_with fail
    refine HR2.out.mono ?_
    rintro e w1 ⟨rfl, hw1⟩
    rw [hw1]
    clear hw1
    go_wp2_with fail
    rw [← HW2.out, HZ1.out]
    refine HOR.out.mono ?_
    rintro e w2 ⟨rfl, hw2⟩
    rw [hw2]
    clear hw2
    go_wp2
    go_ret2
    exact ⟨rfl, HB2.out⟩
  · obtain ⟨h1, h2, h3, h4⟩ := find_dn (.inr h)
    have hin : k ∉ E.map (·.f.1) := fun hc => by have := h4.1 (hasN_iff.2 hc); omega
    rw [h] at HOR ⊢
    rw [if_pos rfl] at HOR
    have hlk := look_run HD2.out.tab (nm_size h2)
    have hfp : fP E k 191 = .pointer none := rfl
    rw [hfp]
    rw [luV_none (by rw [List.map_map]; exact hin)] at hlk
    clear h1 h2 h3 h4 hin h hfp
    go_enter Try.func59, Try.ntmps59
    go_wp2_with fail
    rw [← HW1.out]
    refine HR1.out.mono ?_
    rintro e w1 ⟨rfl, hw1⟩
    rw [hw1]
    clear hw1
    go_wp2_with fail
    refine HR2.out.mono ?_
    rintro e w1 ⟨rfl, hw1⟩
    rw [hw1]
    clear hw1
    go_wp2_with fail
    rw [← HW2.out, HZ1.out]
    refine HOR.out.mono ?_
    rintro e w2 ⟨rfl, hw2⟩
    rw [hw2]
    clear hw2
    go_wp2
    go_ret2
    exact ⟨rfl, HB2.out⟩
  · have hfp : fP E k (findE x.down (E.map (·.f.1)) k L) = .pointer none := if_neg h1
    rw [hfp]
    rw [if_neg h2] at HOR
    generalize findE x.down (E.map (·.f.1)) k L = r at *
    clear hfp h2
    go_enter Try.func59, Try.ntmps59
    go_wp2_with fail
    rw [← HW1.out]
    refine HR1.out.mono ?_
    rintro e w1 ⟨rfl, hw1⟩
    rw [hw1]
    clear hw1
    go_wp2_with fail
    refine HR2.out.mono ?_
    rintro e w1 ⟨rfl, hw1⟩
    rw [hw1]
    clear hw1
    go_wp2_with fail
    rw [← HW2.out, HZ1.out]
    refine HOR.out.mono ?_
    rintro e w2 ⟨rfl, hw2⟩
    rw [hw2]
    clear hw2
    go_wp2
    go_ret2
    exact ⟨rfl, HB2.out⟩
end Go.Proofs.Ytgkdecjlanbmhaa
