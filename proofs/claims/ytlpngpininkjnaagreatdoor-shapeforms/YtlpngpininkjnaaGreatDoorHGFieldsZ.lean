import Derived.Test.YtlpngpininkjnaaGreatDoorHGTZ
import Derived.Test.YtlpngpininkjnaaGreatDoorHKindZ

/- shape.Fields and shape.Name, of any number. -/
namespace Go.Proofs.YtlpngpininkjnaaGreatDoor
open Go.RowKit
set_option linter.unusedVariables false
set_option linter.unusedSimpArgs false
/-- what Fields answers -/
def FieldsAll (o : Option (List FS)) (W : World) (e : Ending) (w' : World) : Prop := Below W.heap.size W w' ∧ match o with
  | none => e = .returned (.tuple #[.slice none 0 0, .bool false])
  | some l => ∃ (a : Option Addr) (fs : List Fd), e = .returned (.tuple #[.slice a l.length l.length, .bool true]) ∧ Hid (FieldsIn l W a fs w')
set_option maxRecDepth 100000 in
theorem run_neq_nil2 (w : World) : (binOp BinOp.neq 52 .nilFunc .nilFunc).run Tryz.prog w = .ok (.bool false) w := by
  first
  | rfl
  | kernel_rfl
  | simp [binOp, run_underlying Tryz.underlying52, go_sem]
theorem FieldsIn.from {l : List FS} {W W2 : World} {a : Option Addr} {fs : List Fd} {w' : World} (h : FieldsIn l W2 a fs w') (hs : W.heap.size ≤ W2.heap.size) : FieldsIn l W a fs w' := by
  refine ⟨h.1, fun h0 => ?_, fun i hi hi' => ?_⟩
  · obtain ⟨b, e, h1, h2, h3⟩ := h.2.1 h0
    exact ⟨b, e, by omega, h2, h3⟩
  · obtain ⟨e1, e2, e3, e4, e5, e6, e7⟩ := h.2.2 i hi hi'
    refine ⟨e1, e2, e3, e4, e5, e6, fun h0 => ?_⟩
    obtain ⟨b, e, h1, h2, h3⟩ := e7 h0
    exact ⟨b, e, by omega, h2, h3⟩
set_option maxRecDepth 100000 in
set_option maxHeartbeats 2000000 in
theorem fields_any (kind : Int) (w : World) : Calls Tryz.prog 11 #[.int .i64 kind] w (FieldsAll (ftab kind) w) := by
  have HK := hide (kinds_any w)
  go_enter Tryz.func11, Tryz.ntmps11
  go_wp2_with fail
  refine HK.out.mono ?_
  rintro e w1 ⟨rfl, rfl⟩
  obtain ⟨W1, hW1⟩ : ∃ W1, w.alloc (.cells kcells 54) = W1 := ⟨_, rfl⟩
  have hs1 : W1.heap.size = w.heap.size + 1 := by rw [← hW1]; simp
  have hb1 : Below w.heap.size w W1 := by rw [← hW1]; exact bel1 (Below.refl _ _) (Nat.le_refl _) _
  have hk1 : KT W1 w.heap.size := by rw [← hW1]; exact World.alloc_heap_new _ _
  rw [hW1]
  clear hW1
  go_wp2
  go_loopw [8] (fun u wr => ∃ i : Nat, u = .int .i64 i ∧ i ≤ 36 ∧ Below W1.heap.size W1 wr ∧ Hid (∀ j (hj : j < krows.length), j < i → krows[j].1 = kind → krows[j].2.2 = .nilFunc)) (fun u _ => 37 - (intOf u).toNat)
  case atStart => exact ⟨0, rfl, by omega, Below.refl _ _, fun j _ h => absurd h (by omega)⟩
  case round =>
    obtain ⟨i, rfl, hi, hb, HN⟩ := hrel
    have hsz := hb.size
    have hlt : w.heap.size < wr.heap.size := by omega
    have hbw : Below w.heap.size w wr := belOn hb1 (by omega) hb
    by_cases h36 : i < 36
    · have hik : i < krows.length := by rw [krows_len]; exact h36
      have hc := (hk1.below hb (by omega)).cells i hik
      obtain ⟨k0, k1, k2⟩ := hc
      have hrow := row_ok i h36 hik
      generalize hr : krows[i] = r at k0 k1 k2 hrow
      obtain ⟨n0, n1, n2⟩ := r
      dsimp only at k0 k1 k2 hrow
      have HNX : Hid ((n0 = kind → n2 = .nilFunc) → ∀ j (hj : j < krows.length), j < i + 1 → krows[j].1 = kind → krows[j].2.2 = .nilFunc) := by
        intro hq j hj hlt he
        by_cases e : j = i
        · subst e
          rw [hr] at he ⊢
          exact hq he
        · exact HN.out j hj (by omega) he
      clear hr HN
      by_cases hk : n0 = kind
      · subst hk
        have hkb : ((n0 : Int) == n0) = true := by simp
        rcases hrow with ⟨rfl, hft⟩ | ⟨g, l, rfl, hft, hen, hg⟩
        · clear hft
          go_wp2_with fail
          try rw [run_neq_nil2]
          go_wp2
          go_roundw
          case rel => exact ⟨i + 1, by go_num, by omega, bel1 hb (by omega) _, HNX.out (fun _ => by first | rfl | trivial)⟩
          case measure => simp [intOf]; omega
        · have HFT := hide hft
          have HG := hide hg
          have HEN := hide hen
          clear hft hg hen HNX
          go_wp2_with fail
          rw [run_neq_nil]
          go_wp2_with fail
          rw [HEN.out]
          refine (HG.out _).mono ?_
          rintro e2 w2 ⟨a, fs, rfl, HF, hb2⟩
          have hbx : Below w.heap.size w w2 := belOn (bel1 hbw (by omega) _) (by simp; omega) hb2
          clear hb2
          go_wp2
          exact bodyPost_ret (v := .tuple #[.slice a l.length l.length, .bool true]) (by simp [results, Tryz.results11, go_sem]) rfl ⟨hbx, by rw [HFT.out]; exact ⟨a, fs, rfl, HF.out.from (by simp; omega)⟩⟩
      · have hkb : (n0 == kind) = false := by simpa using hk
        have HNY := hide (HNX.out (fun h => absurd h hk))
        clear HNX
        rcases hrow with ⟨rfl, _⟩ | ⟨g, l, rfl, _, _, _⟩
        all_goals
          go_wp2
          go_roundw
          case rel => exact ⟨i + 1, by go_num, by omega, bel1 hb (by omega) _, HNY⟩
          case measure => simp [intOf]; omega
    · have hie : i = 36 := by omega
      subst hie
      have hft : ftab kind = none := ftab_none (fun j hj he => HN.out j hj (by rw [krows_len] at hj; exact hj) he)
      have HFT := hide hft
      clear hft HN
      go_wp2
      exact bodyPost_ret (v := .tuple #[.slice none 0 0, .bool false]) (by simp [results, Tryz.results11, go_sem]) rfl ⟨hbw, by rw [HFT.out]⟩
/-- a kind's name -/
def nameOf (k : Int) : ByteArray := ((krows.find? fun r => r.1 == k).map fun r => r.2.1).getD ⟨#[]⟩
theorem nameOf_at {k : Int} {i : Nat} (h : i < krows.length) (hk : krows[i].1 = k) (hn : ∀ j (hj : j < krows.length), j < i → krows[j].1 ≠ k) : nameOf k = krows[i].2.1 := by
  unfold nameOf
  have : krows.find? (fun r => r.1 == k) = some krows[i] := by
    rw [List.find?_eq_some_iff_getElem]
    exact ⟨by simpa using hk, i, h, rfl, fun j hj => by simpa using hn j (by omega) hj⟩
  rw [this]
  rfl
theorem nameOf_no {k : Int} (hn : ∀ j (hj : j < krows.length), krows[j].1 ≠ k) : nameOf k = ⟨#[]⟩ := by
  unfold nameOf
  have : krows.find? (fun r => r.1 == k) = none := by
    rw [List.find?_eq_none]
    intro r hr
    obtain ⟨j, hj, rfl⟩ := List.mem_iff_getElem.1 hr
    simpa using hn j hj
  rw [this]
  rfl
set_option maxRecDepth 100000 in
set_option maxHeartbeats 2000000 in
theorem name_any (kind : Int) (w : World) : Calls Tryz.prog 12 #[.int .i64 kind] w fun e w' => e = .returned (.string (nameOf kind)) ∧ Below w.heap.size w w' := by
  have HK := hide (kinds_any w)
  go_enter Tryz.func12, Tryz.ntmps12
  go_wp2_with fail
  refine HK.out.mono ?_
  rintro e w1 ⟨rfl, rfl⟩
  obtain ⟨W1, hW1⟩ : ∃ W1, w.alloc (.cells kcells 54) = W1 := ⟨_, rfl⟩
  have hs1 : W1.heap.size = w.heap.size + 1 := by rw [← hW1]; simp
  have hb1 : Below w.heap.size w W1 := by rw [← hW1]; exact bel1 (Below.refl _ _) (Nat.le_refl _) _
  have hk1 : KT W1 w.heap.size := by rw [← hW1]; exact World.alloc_heap_new _ _
  rw [hW1]
  clear hW1
  go_wp2
  go_loopw [7] (fun u wr => ∃ i : Nat, u = .int .i64 i ∧ i ≤ 36 ∧ Below W1.heap.size W1 wr ∧ Hid (∀ j (hj : j < krows.length), j < i → krows[j].1 ≠ kind)) (fun u _ => 37 - (intOf u).toNat)
  case atStart => exact ⟨0, rfl, by omega, Below.refl _ _, fun j _ h => absurd h (by omega)⟩
  case round =>
    obtain ⟨i, rfl, hi, hb, HN⟩ := hrel
    have hsz := hb.size
    have hlt : w.heap.size < wr.heap.size := by omega
    have hbw : Below w.heap.size w wr := belOn hb1 (by omega) hb
    by_cases h36 : i < 36
    · have hik : i < krows.length := by rw [krows_len]; exact h36
      obtain ⟨k0, k1, k2⟩ := (hk1.below hb (by omega)).cells i hik
      have HNX : Hid (krows[i].1 ≠ kind → ∀ j (hj : j < krows.length), j < i + 1 → krows[j].1 ≠ kind) := by
        intro hq j hj hlt
        by_cases e : j = i
        · subst e
          exact hq
        · exact HN.out j hj (by omega)
      have HNA : Hid (krows[i].1 = kind → nameOf kind = krows[i].2.1) := fun h => nameOf_at hik h HN.out
      have hkr := (krows_ok i hik).2
      generalize krows[i] = r at k0 k1 k2 HNX HNA hkr
      obtain ⟨n0, n1, n2⟩ := r
      dsimp only at k0 k1 k2 HNX HNA hkr
      clear HN
      rcases hkr with ⟨g, rfl⟩ | rfl
      all_goals
       by_cases hk : n0 = kind
       · subst hk
         have hkb : ((n0 : Int) == n0) = true := by simp
         have HNB := hide (HNA.out rfl)
         clear HNA
         go_wp2
         exact bodyPost_ret (v := .string n1) (by simp [results, Tryz.results12, go_sem]) rfl ⟨by rw [HNB.out], bel1 hbw (by omega) _⟩
       · have hkb : (n0 == kind) = false := by simpa using hk
         go_wp2
         go_roundw
         case rel => exact ⟨i + 1, by go_num, by omega, bel1 hb (by omega) _, HNX.out hk⟩
         case measure => simp [intOf]; omega
    · have hie : i = 36 := by omega
      subst hie
      have HNB := hide (nameOf_no (k := kind) (fun j hj => HN.out j hj (by rw [krows_len] at hj; exact hj)))
      clear HN
      go_wp2
      exact bodyPost_ret (v := .string ⟨#[]⟩) (by simp [results, Tryz.results12, go_sem]) rfl ⟨by rw [HNB.out], hbw⟩
theorem fields_some {kind : Int} {fs0 : List FS} {N : Nat} (hft : ftab kind = some fs0) (hN : fs0.length = N) (W : World) : Calls Tryz.prog 11 #[.int .i64 kind] W fun e w' => ∃ (a : Option Addr) (fs : List Fd), e = .returned (.tuple #[.slice a N N, .bool true]) ∧ Hid (FieldsIn fs0 W a fs w') ∧ Below W.heap.size W w' := by
  refine (fields_any kind W).mono ?_
  rintro e w' ⟨hb, h⟩
  rw [hft] at h
  obtain ⟨a, fs, rfl, h⟩ := h
  rw [hN]
  exact ⟨a, fs, rfl, h, hb⟩
theorem fields_none {kind : Int} (hft : ftab kind = none) (W : World) : Calls Tryz.prog 11 #[.int .i64 kind] W fun e w' => e = .returned (.tuple #[.slice none 0 0, .bool false]) ∧ Below W.heap.size W w' := by
  refine (fields_any kind W).mono ?_
  rintro e w' ⟨hb, h⟩
  rw [hft] at h
  exact ⟨h, hb⟩
theorem FRA.below {B : Nat} {W w : World} {a : Option Addr} {fs : List Fd} {lo hi : Nat} (h : FRA W a fs lo hi) (hb : Below B W w) (hlt : hi ≤ B) : FRA w a fs lo hi := by
  intro h0
  obtain ⟨b, e, h1, h2, h3⟩ := h h0
  exact ⟨b, e, h1, h2, h3.below hb (by omega)⟩
theorem FRA.same {W w : World} {a : Option Addr} {fs : List Fd} {lo hi : Nat} (h : FRA W a fs lo hi) (hs : ∀ b, b < hi → Same W w b) : FRA w a fs lo hi := by
  intro h0
  obtain ⟨b, e, h1, h2, h3⟩ := h h0
  exact ⟨b, e, h1, h2, fun i hi j hj => (hs b h2 _).trans (h3 i hi j hj)⟩
/-- the table's rows are small -/
def okFS (f : FS) : Bool := decide (0 ≤ f.dk) && decide (f.dk ≤ 24) && decide (0 ≤ f.dn) && decide (f.dn ≤ 4294967295) && decide (f.ds.size ≤ 100) && decide (0 ≤ f.ty) && decide (f.ty ≤ 102) && decide (f.ks.length ≤ 10) && decide (f.name.size ≤ 100)
set_option maxRecDepth 100000 in
theorem ftab_small : ftabL.all (fun p => decide ((p.2.getD []).length ≤ 20) && (p.2.getD []).all okFS) = true := by kernel_rfl
theorem ftab_ok {k : Int} {fs : List FS} (h : ftab k = some fs) : fs.length ≤ 20 ∧ ∀ f ∈ fs, okFS f = true := by
  unfold ftab at h
  cases hf : ftabL.find? (fun p => p.1 == k) with
  | none => rw [hf] at h; cases h
  | some p =>
    rw [hf] at h
    have h1 := List.all_eq_true.1 ftab_small p (List.mem_of_find?_eq_some hf)
    have h2 : p.2 = some fs := h
    rw [h2, Bool.and_eq_true] at h1
    exact ⟨of_decide_eq_true h1.1, fun f hf => List.all_eq_true.1 h1.2 f hf⟩
theorem okFS_lies {f : FS} (h : okFS f = true) (n : Nat) (W : World) : Lies n W f.d := by
  unfold okFS at h
  simp only [Bool.and_eq_true, decide_eq_true_eq] at h
  exact leaf_lies _ _ _ _ _ ⟨by omega, by omega⟩ ⟨by omega, by omega⟩ (by omega)
theorem ftab_pos {k : Int} {fs : List FS} (h : ftab k = some fs) : 1 ≤ k ∧ k ≤ 200 := by
  unfold ftab at h
  cases hf : ftabL.find? (fun p => p.1 == k) with
  | none => rw [hf] at h; cases h
  | some p =>
    have hk : p.1 = k := by simpa using List.find?_some hf
    have h1 : ftabL.all (fun p => decide (1 ≤ p.1) && decide (p.1 ≤ 200)) = true := by kernel_rfl
    have h2 := List.all_eq_true.1 h1 p (List.mem_of_find?_eq_some hf)
    rw [Bool.and_eq_true] at h2
    rw [← hk]
    exact ⟨of_decide_eq_true h2.1, of_decide_eq_true h2.2⟩
end Go.Proofs.YtlpngpininkjnaaGreatDoor
