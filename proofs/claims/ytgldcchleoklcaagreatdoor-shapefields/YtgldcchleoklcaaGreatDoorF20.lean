/- HGFields, HSTab, HSTa -/
import Derived.Test.YtgldcchleoklcaaGreatDoorF18
import Derived.Test.YtgldcchleoklcaaGreatDoorF19
namespace Go.Proofs.YtgldcchleoklcaaGreatDoor
open Go.RowKit
set_option linter.unusedVariables false
set_option linter.unusedSimpArgs false
def FieldsAll (o : Option (List FS)) (W : World) (e : Ending) (w' : World) : Prop := Below W.heap.size W w' ∧ match o with
  | none => e = .returned (.tuple #[.slice none 0 0, .bool false])
  | some l => ∃ (a : Option Addr) (fs : List Fd), e = .returned (.tuple #[.slice a l.length l.length, .bool true]) ∧ Hid (FieldsIn l W a fs w')
set_option maxRecDepth 100000 in
theorem run_neq_nil2 (w : World) : (binOp BinOp.neq 59 .nilFunc .nilFunc).run Tryz.prog w = .ok (.bool false) w := by
  first
  | rfl
  | kernel_rfl
  | simp [binOp, run_underlying Tryz.underlying59, go_sem]
theorem FieldsIn.from {l : List FS} {W W2 : World} {a : Option Addr} {fs : List Fd} {w' : World} (h : FieldsIn l W2 a fs w') (hs : W.heap.size ≤ W2.heap.size) : FieldsIn l W a fs w' := by
  refine ⟨h.1, fun h0 => ?_, fun i hi hi' => ?_⟩
  · obtain ⟨b, e, h1, h2, h3⟩ := h.2.1 h0
    exact ⟨b, e, by omega, h2, h3⟩
  · obtain ⟨e1, e2, e3, e4, e5, e6, e7⟩ := h.2.2 i hi hi'
    refine ⟨e1, e2, e3, e4, e5, e6, fun h0 => ?_⟩
    obtain ⟨b, e, h1, h2, h3⟩ := e7 h0
    exact ⟨b, e, by omega, h2, h3⟩
set_option maxRecDepth 100000 in
set_option maxHeartbeats 2000000 in
theorem fields_any (kind : Int) (w : World) : Calls Tryz.prog 8 #[.int .i64 kind] w (FieldsAll (ftab kind) w) := by
  have HK := hide (kinds_any w)
  go_enter Tryz.func8, Tryz.ntmps8
  go_wp2_with fail
  refine HK.out.mono ?_
  rintro e w1 ⟨rfl, rfl⟩
  obtain ⟨W1, hW1⟩ : ∃ W1, w.alloc (.cells kcells 61) = W1 := ⟨_, rfl⟩
  have hs1 : W1.heap.size = w.heap.size + 1 := by rw [← hW1]; simp
  have hb1 : Below w.heap.size w W1 := by rw [← hW1]; exact bel1 (Below.refl _ _) (Nat.le_refl _) _
  have hk1 : KT W1 w.heap.size := by rw [← hW1]; exact World.alloc_heap_new _ _
  rw [hW1]
  clear hW1
  go_wp2
  go_loopw [8] (fun u wr => ∃ i : Nat, u = .int .i64 i ∧ i ≤ 36 ∧ Below W1.heap.size W1 wr ∧ Hid (∀ j (hj : j < krows.length), j < i → krows[j].1 = kind → krows[j].2.2 = .nilFunc)) (fun u _ => 37 - (intOf u).toNat)
  case atStart => exact ⟨0, rfl, by omega, Below.refl _ _, fun j _ h => absurd h (by omega)⟩
  case round =>
    obtain ⟨i, rfl, hi, hb, HN⟩ := hrel
    have hsz := hb.size
    have hlt : w.heap.size < wr.heap.size := by omega
    have hbw : Below w.heap.size w wr := belOn hb1 (by omega) hb
    by_cases h36 : i < 36
    · have hik : i < krows.length := by rw [krows_len]; exact h36
      have hc := (hk1.below hb (by omega)).cells i hik
      obtain ⟨k0, k1, k2⟩ := hc
      have hrow := row_ok i h36 hik
      generalize hr : krows[i] = r at k0 k1 k2 hrow
      obtain ⟨n0, n1, n2⟩ := r
      dsimp only at k0 k1 k2 hrow
      have HNX : Hid ((n0 = kind → n2 = .nilFunc) → ∀ j (hj : j < krows.length), j < i + 1 → krows[j].1 = kind → krows[j].2.2 = .nilFunc) := by
        intro hq j hj hlt he
        by_cases e : j = i
        · subst e
          rw [hr] at he ⊢
          exact hq he
        · exact HN.out j hj (by omega) he
      clear hr HN
      by_cases hk : n0 = kind
      · subst hk
        have hkb : ((n0 : Int) == n0) = true := by simp
        rcases hrow with ⟨rfl, hft⟩ | ⟨g, l, rfl, hft, hen, hg⟩
        · clear hft
          go_wp2_with fail
          try rw [run_neq_nil2]
          go_wp2
          go_roundw
          case rel => exact ⟨i + 1, by go_num, by omega, bel1 hb (by omega) _, HNX.out (fun _ => by first | rfl | trivial)⟩
          case measure => simp [intOf]; omega
        · have HFT := hide hft
          have HG := hide hg
          have HEN := hide hen
          clear hft hg hen HNX
          go_wp2_with fail
          rw [run_neq_nil]
          go_wp2_with fail
          rw [HEN.out]
          refine (HG.out _).mono ?_
          rintro e2 w2 ⟨a, fs, rfl, HF, hb2⟩
          have hbx : Below w.heap.size w w2 := belOn (bel1 hbw (by omega) _) (by simp; omega) hb2
          clear hb2
          go_wp2
          exact bodyPost_ret (v := .tuple #[.slice a l.length l.length, .bool true]) (by simp [results, Tryz.results8, go_sem]) rfl ⟨hbx, by rw [HFT.out]; exact ⟨a, fs, rfl, HF.out.from (by simp; omega)⟩⟩
      · have hkb : (n0 == kind) = false := by simpa using hk
        have HNY := hide (HNX.out (fun h => absurd h hk))
        clear HNX
        rcases hrow with ⟨rfl, _⟩ | ⟨g, l, rfl, _, _, _⟩
        all_goals
          go_wp2
          go_roundw
          case rel => exact ⟨i + 1, by go_num, by omega, bel1 hb (by omega) _, HNY⟩
          case measure => simp [intOf]; omega
    · have hie : i = 36 := by omega
      subst hie
      have hft : ftab kind = none := ftab_none (fun j hj he => HN.out j hj (by rw [krows_len] at hj; exact hj) he)
      have HFT := hide hft
      clear hft HN
      go_wp2
      exact bodyPost_ret (v := .tuple #[.slice none 0 0, .bool false]) (by simp [results, Tryz.results8, go_sem]) rfl ⟨hbw, by rw [HFT.out]⟩
def nameOf (k : Int) : ByteArray := ((krows.find? fun r => r.1 == k).map fun r => r.2.1).getD ⟨#[]⟩
theorem nameOf_at {k : Int} {i : Nat} (h : i < krows.length) (hk : krows[i].1 = k) (hn : ∀ j (hj : j < krows.length), j < i → krows[j].1 ≠ k) : nameOf k = krows[i].2.1 := by
  unfold nameOf
  have : krows.find? (fun r => r.1 == k) = some krows[i] := by
    rw [List.find?_eq_some_iff_getElem]
    exact ⟨by simpa using hk, i, h, rfl, fun j hj => by simpa using hn j (by omega) hj⟩
  rw [this]
  rfl
theorem nameOf_no {k : Int} (hn : ∀ j (hj : j < krows.length), krows[j].1 ≠ k) : nameOf k = ⟨#[]⟩ := by
  unfold nameOf
  have : krows.find? (fun r => r.1 == k) = none := by
    rw [List.find?_eq_none]
    intro r hr
    obtain ⟨j, hj, rfl⟩ := List.mem_iff_getElem.1 hr
    simpa using hn j hj
  rw [this]
  rfl
set_option maxRecDepth 100000 in
set_option maxHeartbeats 2000000 in
theorem name_any (kind : Int) (w : World) : Calls Tryz.prog 10 #[.int .i64 kind] w fun e w' => e = .returned (.string (nameOf kind)) ∧ Below w.heap.size w w' := by
  have HK := hide (kinds_any w)
  go_enter Tryz.func10, Tryz.ntmps10
  go_wp2_with fail
  refine HK.out.mono ?_
  rintro e w1 ⟨rfl, rfl⟩
  obtain ⟨W1, hW1⟩ : ∃ W1, w.alloc (.cells kcells 61) = W1 := ⟨_, rfl⟩
  have hs1 : W1.heap.size = w.heap.size + 1 := by rw [← hW1]; simp
  have hb1 : Below w.heap.size w W1 := by rw [← hW1]; exact bel1 (Below.refl _ _) (Nat.le_refl _) _
  have hk1 : KT W1 w.heap.size := by rw [← hW1]; exact World.alloc_heap_new _ _
  rw [hW1]
  clear hW1
  go_wp2
  go_loopw [7] (fun u wr => ∃ i : Nat, u = .int .i64 i ∧ i ≤ 36 ∧ Below W1.heap.size W1 wr ∧ Hid (∀ j (hj : j < krows.length), j < i → krows[j].1 ≠ kind)) (fun u _ => 37 - (intOf u).toNat)
  case atStart => exact ⟨0, rfl, by omega, Below.refl _ _, fun j _ h => absurd h (by omega)⟩
  case round =>
    obtain ⟨i, rfl, hi, hb, HN⟩ := hrel
    have hsz := hb.size
    have hlt : w.heap.size < wr.heap.size := by omega
    have hbw : Below w.heap.size w wr := belOn hb1 (by omega) hb
    by_cases h36 : i < 36
    · have hik : i < krows.length := by rw [krows_len]; exact h36
      obtain ⟨k0, k1, k2⟩ := (hk1.below hb (by omega)).cells i hik
      have HNX : Hid (krows[i].1 ≠ kind → ∀ j (hj : j < krows.length), j < i + 1 → krows[j].1 ≠ kind) := by
        intro hq j hj hlt
        by_cases e : j = i
        · subst e
          exact hq
        · exact HN.out j hj (by omega)
      have HNA : Hid (krows[i].1 = kind → nameOf kind = krows[i].2.1) := fun h => nameOf_at hik h HN.out
      have hkr := (krows_ok i hik).2
      generalize krows[i] = r at k0 k1 k2 HNX HNA hkr
      obtain ⟨n0, n1, n2⟩ := r
      dsimp only at k0 k1 k2 HNX HNA hkr
      clear HN
      rcases hkr with ⟨g, rfl⟩ | rfl
      all_goals
       by_cases hk : n0 = kind
       · subst hk
         have hkb : ((n0 : Int) == n0) = true := by simp
         have HNB := hide (HNA.out rfl)
         clear HNA
         go_wp2
         exact bodyPost_ret (v := .string n1) (by simp [results, Tryz.results10, go_sem]) rfl ⟨by rw [HNB.out], bel1 hbw (by omega) _⟩
       · have hkb : (n0 == kind) = false := by simpa using hk
         go_wp2
         go_roundw
         case rel => exact ⟨i + 1, by go_num, by omega, bel1 hb (by omega) _, HNX.out hk⟩
         case measure => simp [intOf]; omega
    · have hie : i = 36 := by omega
      subst hie
      have HNB := hide (nameOf_no (k := kind) (fun j hj => HN.out j hj (by rw [krows_len] at hj; exact hj)))
      clear HN
      go_wp2
      exact bodyPost_ret (v := .string ⟨#[]⟩) (by simp [results, Tryz.results10, go_sem]) rfl ⟨by rw [HNB.out], hbw⟩
def okFS (f : FS) : Bool := decide (0 ≤ f.dk) && decide (f.dk ≤ 24) && decide (0 ≤ f.dn) && decide (f.dn ≤ 4294967295) && decide (f.ds.size ≤ 100) && decide (0 ≤ f.ty) && decide (f.ty ≤ 102) && decide (f.ks.length ≤ 10) && decide (f.name.size ≤ 100)
theorem okFS_lies {f : FS} (h : okFS f = true) (n : Nat) (W : World) : Lies n W f.d := by
  unfold okFS at h
  simp only [Bool.and_eq_true, decide_eq_true_eq] at h
  exact leaf_lies _ _ _ _ _ ⟨by omega, by omega⟩ ⟨by omega, by omega⟩ (by omega)
def FieldsInS (l : List FS) (W : World) (a : Option Addr) (fs : List Fd) (w' : World) : Prop := FieldsIn l W a fs w' ∧ (l.length = 0 → a = none) ∧ (∀ g, a = some ⟨g, 0, none⟩ → Blk w' g 66 (l.length * 9)) ∧ ∀ i (h : i < fs.length) (h' : i < l.length), l[i].ks.length = 0 → fs[i].ka = none
def FieldsRowS (l : List FS) (W : World) (e : Ending) (w' : World) : Prop := ∃ (a : Option Addr) (fs : List Fd), e = .returned (.slice a l.length l.length) ∧ Hid (FieldsInS l W a fs w') ∧ Below W.heap.size W w'
set_option maxRecDepth 100000 in
set_option maxHeartbeats 8000000 in
theorem dispositionFields_rowS (w : World) : Calls Tryz.prog 53 #[] w (FieldsRowS fs_dispositionFields w) := by
  have HC_states := hide (fun W => states_any W)
  go_enter Tryz.func53, Tryz.ntmps53
  go_wp2_with fail
  refine (HC_states.out _).mono ?_
  rintro e1 w1 ⟨rfl, rfl⟩
  go_wp2
  go_ret
  refine ⟨some ⟨w.heap.size + 1, 0, none⟩, [⟨⟨#[114, 111, 108, 101]⟩, 1, none, 0, 0, true, leaf 0 0 ⟨#[]⟩⟩, ⟨⟨#[102, 105, 114, 115, 116]⟩, 4, none, 0, 0, true, leaf 0 0 ⟨#[]⟩⟩, ⟨⟨#[108, 97, 115, 116]⟩, 4, none, 0, 0, false, leaf 0 0 ⟨#[]⟩⟩, ⟨⟨#[115, 101, 116, 116, 108, 101, 100]⟩, 1, none, 0, 0, false, leaf 1 0 ⟨#[]⟩⟩, ⟨⟨#[115, 116, 97, 116, 101]⟩, 102, some ⟨w.heap.size, 0, none⟩, 7, 7, false, leaf 0 0 ⟨#[]⟩⟩, ⟨⟨#[98, 97, 116, 99, 104, 97, 98, 108, 101]⟩, 1, none, 0, 0, false, leaf 1 0 ⟨#[]⟩⟩], rfl, ⟨⟨rfl, fun _ => ⟨_, rfl, by omega, by simp, ?_⟩, ?_⟩, fun h => absurd h (by decide), fun g h => ?_, ?_⟩, ?_⟩
  · exact FRow.flat (heap_at1 _ _ _) rfl
  · intro i h h'
    have h3 : i < 6 := h
    obtain rfl | rfl | rfl | rfl | rfl | rfl : i = 0 ∨ i = 1 ∨ i = 2 ∨ i = 3 ∨ i = 4 ∨ i = 5 := by omega
    · exact ⟨rfl, rfl, rfl, rfl, rfl, rfl, fun h => absurd h (Nat.lt_irrefl 0)⟩
    · exact ⟨rfl, rfl, rfl, rfl, rfl, rfl, fun h => absurd h (Nat.lt_irrefl 0)⟩
    · exact ⟨rfl, rfl, rfl, rfl, rfl, rfl, fun h => absurd h (Nat.lt_irrefl 0)⟩
    · exact ⟨rfl, rfl, rfl, rfl, rfl, rfl, fun h => absurd h (Nat.lt_irrefl 0)⟩
    · exact ⟨rfl, rfl, rfl, rfl, rfl, rfl, fun _ => ⟨_, rfl, by omega, (by first | (simp; done) | (simp; omega)), heap_past (World.alloc_heap_new _ _) _⟩⟩
    · exact ⟨rfl, rfl, rfl, rfl, rfl, rfl, fun h => absurd h (Nat.lt_irrefl 0)⟩
  · cases h
    exact ⟨_, heap_at1 _ _ _, rfl⟩
  · intro i h h' hz
    have h3 : i < 6 := h
    obtain rfl | rfl | rfl | rfl | rfl | rfl : i = 0 ∨ i = 1 ∨ i = 2 ∨ i = 3 ∨ i = 4 ∨ i = 5 := by omega
    · rfl
    · rfl
    · rfl
    · rfl
    · exact absurd (show (7 : Nat) = 0 from hz) (by decide)
    · rfl
  · exact bel2 (Below.refl _ _) (Nat.le_refl _) _ _
set_option maxRecDepth 100000 in
set_option maxHeartbeats 8000000 in
theorem detachFields_rowS (w : World) : Calls Tryz.prog 54 #[] w (FieldsRowS fs_detachFields w) := by
  go_enter Tryz.func54, Tryz.ntmps54
  go_wp2
  go_ret
  refine ⟨some ⟨w.heap.size + 1, 0, none⟩, [⟨⟨#[104, 97, 110, 100, 108, 101]⟩, 4, none, 0, 0, true, leaf 0 0 ⟨#[]⟩⟩, ⟨⟨#[99, 108, 111, 115, 101, 100]⟩, 1, none, 0, 0, false, leaf 1 0 ⟨#[]⟩⟩, ⟨⟨#[102, 97, 117, 108, 116]⟩, 102, some ⟨w.heap.size, 0, none⟩, 1, 1, false, leaf 0 0 ⟨#[]⟩⟩], rfl, ⟨⟨rfl, fun _ => ⟨_, rfl, by omega, by simp, ?_⟩, ?_⟩, fun h => absurd h (by decide), fun g h => ?_, ?_⟩, ?_⟩
  · exact FRow.flat (heap_at1 _ _ _) rfl
  · intro i h h'
    have h3 : i < 3 := h
    obtain rfl | rfl | rfl : i = 0 ∨ i = 1 ∨ i = 2 := by omega
    · exact ⟨rfl, rfl, rfl, rfl, rfl, rfl, fun h => absurd h (Nat.lt_irrefl 0)⟩
    · exact ⟨rfl, rfl, rfl, rfl, rfl, rfl, fun h => absurd h (Nat.lt_irrefl 0)⟩
    · exact ⟨rfl, rfl, rfl, rfl, rfl, rfl, fun _ => ⟨_, rfl, by omega, (by first | (simp; done) | (simp; omega)), heap_past (World.alloc_heap_new _ _) _⟩⟩
  · cases h
    exact ⟨_, heap_at1 _ _ _, rfl⟩
  · intro i h h' hz
    have h3 : i < 3 := h
    obtain rfl | rfl | rfl : i = 0 ∨ i = 1 ∨ i = 2 := by omega
    · rfl
    · rfl
    · exact absurd (show (1 : Nat) = 0 from hz) (by decide)
  · exact bel2 (Below.refl _ _) (Nat.le_refl _) _ _
set_option maxRecDepth 100000 in
set_option maxHeartbeats 8000000 in
theorem coordinatorFields_rowS (w : World) : Calls Tryz.prog 62 #[] w (FieldsRowS fs_coordinatorFields w) := by
  go_enter Tryz.func62, Tryz.ntmps62
  go_wp2
  go_ret
  refine ⟨some ⟨w.heap.size, 0, none⟩, [⟨⟨#[99, 97, 112, 115]⟩, 101, none, 0, 0, false, leaf 0 0 ⟨#[]⟩⟩], rfl, ⟨⟨rfl, fun _ => ⟨_, rfl, by omega, by simp, ?_⟩, ?_⟩, fun h => absurd h (by decide), fun g h => ?_, ?_⟩, ?_⟩
  · exact FRow.flat (World.alloc_heap_new _ _) rfl
  · intro i h h'
    have h3 : i < 1 := h
    obtain rfl : i = 0 := by omega
    · exact ⟨rfl, rfl, rfl, rfl, rfl, rfl, fun h => absurd h (Nat.lt_irrefl 0)⟩
  · cases h
    exact ⟨_, World.alloc_heap_new _ _, rfl⟩
  · intro i h h' hz
    have h3 : i < 1 := h
    obtain rfl : i = 0 := by omega
    · rfl
  · exact bel1 (Below.refl _ _) (Nat.le_refl _) _
set_option maxRecDepth 100000 in
set_option maxHeartbeats 8000000 in
theorem mechanismsFields_rowS (w : World) : Calls Tryz.prog 66 #[] w (FieldsRowS fs_mechanismsFields w) := by
  go_enter Tryz.func66, Tryz.ntmps66
  go_wp2
  go_ret
  refine ⟨some ⟨w.heap.size, 0, none⟩, [⟨⟨#[109, 101, 99, 104, 115]⟩, 101, none, 0, 0, true, leaf 0 0 ⟨#[]⟩⟩], rfl, ⟨⟨rfl, fun _ => ⟨_, rfl, by omega, by simp, ?_⟩, ?_⟩, fun h => absurd h (by decide), fun g h => ?_, ?_⟩, ?_⟩
  · exact FRow.flat (World.alloc_heap_new _ _) rfl
  · intro i h h'
    have h3 : i < 1 := h
    obtain rfl : i = 0 := by omega
    · exact ⟨rfl, rfl, rfl, rfl, rfl, rfl, fun h => absurd h (Nat.lt_irrefl 0)⟩
  · cases h
    exact ⟨_, World.alloc_heap_new _ _, rfl⟩
  · intro i h h' hz
    have h3 : i < 1 := h
    obtain rfl : i = 0 := by omega
    · rfl
  · exact bel1 (Below.refl _ _) (Nat.le_refl _) _
set_option maxRecDepth 100000 in
set_option maxHeartbeats 8000000 in
theorem initFields_rowS (w : World) : Calls Tryz.prog 67 #[] w (FieldsRowS fs_initFields w) := by
  go_enter Tryz.func67, Tryz.ntmps67
  go_wp2
  go_ret
  refine ⟨some ⟨w.heap.size, 0, none⟩, [⟨⟨#[109, 101, 99, 104]⟩, 20, none, 0, 0, true, leaf 0 0 ⟨#[]⟩⟩, ⟨⟨#[114, 101, 115, 112, 111, 110, 115, 101]⟩, 18, none, 0, 0, false, leaf 0 0 ⟨#[]⟩⟩, ⟨⟨#[104, 111, 115, 116]⟩, 19, none, 0, 0, false, leaf 0 0 ⟨#[]⟩⟩], rfl, ⟨⟨rfl, fun _ => ⟨_, rfl, by omega, by simp, ?_⟩, ?_⟩, fun h => absurd h (by decide), fun g h => ?_, ?_⟩, ?_⟩
  · exact FRow.flat (World.alloc_heap_new _ _) rfl
  · intro i h h'
    have h3 : i < 3 := h
    obtain rfl | rfl | rfl : i = 0 ∨ i = 1 ∨ i = 2 := by omega
    · exact ⟨rfl, rfl, rfl, rfl, rfl, rfl, fun h => absurd h (Nat.lt_irrefl 0)⟩
    · exact ⟨rfl, rfl, rfl, rfl, rfl, rfl, fun h => absurd h (Nat.lt_irrefl 0)⟩
    · exact ⟨rfl, rfl, rfl, rfl, rfl, rfl, fun h => absurd h (Nat.lt_irrefl 0)⟩
  · cases h
    exact ⟨_, World.alloc_heap_new _ _, rfl⟩
  · intro i h h' hz
    have h3 : i < 3 := h
    obtain rfl | rfl | rfl : i = 0 ∨ i = 1 ∨ i = 2 := by omega
    · rfl
    · rfl
    · rfl
  · exact bel1 (Below.refl _ _) (Nat.le_refl _) _
set_option maxRecDepth 100000 in
set_option maxHeartbeats 8000000 in
theorem propertiesFields_rowS (w : World) : Calls Tryz.prog 72 #[] w (FieldsRowS fs_propertiesFields w) := by
  go_enter Tryz.func72, Tryz.ntmps72
  go_wp2
  go_ret
  refine ⟨some ⟨w.heap.size, 0, none⟩, [⟨⟨#[109, 101, 115, 115, 97, 103, 101, 45, 105, 100]⟩, 100, none, 0, 0, false, leaf 0 0 ⟨#[]⟩⟩, ⟨⟨#[117, 115, 101, 114, 45, 105, 100]⟩, 18, none, 0, 0, false, leaf 0 0 ⟨#[]⟩⟩, ⟨⟨#[116, 111]⟩, 19, none, 0, 0, false, leaf 0 0 ⟨#[]⟩⟩, ⟨⟨#[115, 117, 98, 106, 101, 99, 116]⟩, 19, none, 0, 0, false, leaf 0 0 ⟨#[]⟩⟩, ⟨⟨#[114, 101, 112, 108, 121, 45, 116, 111]⟩, 19, none, 0, 0, false, leaf 0 0 ⟨#[]⟩⟩, ⟨⟨#[99, 111, 114, 114, 101, 108, 97, 116, 105, 111, 110]⟩, 100, none, 0, 0, false, leaf 0 0 ⟨#[]⟩⟩, ⟨⟨#[99, 111, 110, 116, 101, 110, 116, 45, 116, 121, 112, 101]⟩, 20, none, 0, 0, false, leaf 0 0 ⟨#[]⟩⟩, ⟨⟨#[101, 110, 99, 111, 100, 105, 110, 103]⟩, 20, none, 0, 0, false, leaf 0 0 ⟨#[]⟩⟩, ⟨⟨#[101, 120, 112, 105, 114, 121]⟩, 16, none, 0, 0, false, leaf 0 0 ⟨#[]⟩⟩, ⟨⟨#[99, 114, 101, 97, 116, 101, 100]⟩, 16, none, 0, 0, false, leaf 0 0 ⟨#[]⟩⟩, ⟨⟨#[103, 114, 111, 117, 112]⟩, 19, none, 0, 0, false, leaf 0 0 ⟨#[]⟩⟩, ⟨⟨#[115, 101, 113, 117, 101, 110, 99, 101]⟩, 4, none, 0, 0, false, leaf 0 0 ⟨#[]⟩⟩, ⟨⟨#[114, 101, 112, 108, 121, 45, 103, 114, 111, 117, 112]⟩, 19, none, 0, 0, false, leaf 0 0 ⟨#[]⟩⟩], rfl, ⟨⟨rfl, fun _ => ⟨_, rfl, by omega, by simp, ?_⟩, ?_⟩, fun h => absurd h (by decide), fun g h => ?_, ?_⟩, ?_⟩
  · exact FRow.flat (World.alloc_heap_new _ _) rfl
  · intro i h h'
    have h3 : i < 13 := h
    obtain rfl | rfl | rfl | rfl | rfl | rfl | rfl | rfl | rfl | rfl | rfl | rfl | rfl : i = 0 ∨ i = 1 ∨ i = 2 ∨ i = 3 ∨ i = 4 ∨ i = 5 ∨ i = 6 ∨ i = 7 ∨ i = 8 ∨ i = 9 ∨ i = 10 ∨ i = 11 ∨ i = 12 := by omega
    · exact ⟨rfl, rfl, rfl, rfl, rfl, rfl, fun h => absurd h (Nat.lt_irrefl 0)⟩
    · exact ⟨rfl, rfl, rfl, rfl, rfl, rfl, fun h => absurd h (Nat.lt_irrefl 0)⟩
    · exact ⟨rfl, rfl, rfl, rfl, rfl, rfl, fun h => absurd h (Nat.lt_irrefl 0)⟩
    · exact ⟨rfl, rfl, rfl, rfl, rfl, rfl, fun h => absurd h (Nat.lt_irrefl 0)⟩
    · exact ⟨rfl, rfl, rfl, rfl, rfl, rfl, fun h => absurd h (Nat.lt_irrefl 0)⟩
    · exact ⟨rfl, rfl, rfl, rfl, rfl, rfl, fun h => absurd h (Nat.lt_irrefl 0)⟩
    · exact ⟨rfl, rfl, rfl, rfl, rfl, rfl, fun h => absurd h (Nat.lt_irrefl 0)⟩
    · exact ⟨rfl, rfl, rfl, rfl, rfl, rfl, fun h => absurd h (Nat.lt_irrefl 0)⟩
    · exact ⟨rfl, rfl, rfl, rfl, rfl, rfl, fun h => absurd h (Nat.lt_irrefl 0)⟩
    · exact ⟨rfl, rfl, rfl, rfl, rfl, rfl, fun h => absurd h (Nat.lt_irrefl 0)⟩
    · exact ⟨rfl, rfl, rfl, rfl, rfl, rfl, fun h => absurd h (Nat.lt_irrefl 0)⟩
    · exact ⟨rfl, rfl, rfl, rfl, rfl, rfl, fun h => absurd h (Nat.lt_irrefl 0)⟩
    · exact ⟨rfl, rfl, rfl, rfl, rfl, rfl, fun h => absurd h (Nat.lt_irrefl 0)⟩
  · cases h
    exact ⟨_, World.alloc_heap_new _ _, rfl⟩
  · intro i h h' hz
    have h3 : i < 13 := h
    obtain rfl | rfl | rfl | rfl | rfl | rfl | rfl | rfl | rfl | rfl | rfl | rfl | rfl : i = 0 ∨ i = 1 ∨ i = 2 ∨ i = 3 ∨ i = 4 ∨ i = 5 ∨ i = 6 ∨ i = 7 ∨ i = 8 ∨ i = 9 ∨ i = 10 ∨ i = 11 ∨ i = 12 := by omega
    · rfl
    · rfl
    · rfl
    · rfl
    · rfl
    · rfl
    · rfl
    · rfl
    · rfl
    · rfl
    · rfl
    · rfl
    · rfl
  · exact bel1 (Below.refl _ _) (Nat.le_refl _) _
end Go.Proofs.YtgldcchleoklcaaGreatDoor
