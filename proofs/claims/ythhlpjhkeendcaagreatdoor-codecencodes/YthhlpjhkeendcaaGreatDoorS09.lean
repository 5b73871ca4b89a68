/- CPick, CBody -/
import Derived.Test.YthhlpjhkeendcaaGreatDoorS01
import Derived.Test.YthhlpjhkeendcaaGreatDoorS03
import Derived.Test.YthhlpjhkeendcaaGreatDoorProg
import Derived.WalkLawsBesides
import Derived.Handy
import Derived.Outline
import Derived.Deep.RegionHeldLaw
namespace Go.Proofs.YthhlpjhkeendcaaGreatDoor
open Go.RowKit
set_option linter.unusedVariables false
set_option linter.unusedSimpArgs false
theorem layout_any (c : Nat) (hc : c < 256) (w : World) :
    Calls Tryz.prog 54 #[.int .u8 (c : Int)] w fun e w' => e = .returned (.int .u8 ((c / 16 : Nat) : Int)) ∧ w = w' := by
  go_enter Tryz.func54, Tryz.ntmps54
  go_wp2
  go_ret
  exact ⟨by simp, rfl⟩
theorem numberWidth_any (c : Nat) (h0 : 80 ≤ c) (hc : c < 144) (w : World) :
    Calls Tryz.prog 58 #[.int .u8 (c : Int)] w fun e w' => e = .returned (.int .i64 ((nwid c : Nat) : Int)) ∧ w = w' := by
  have h4 : (c / 16 = 5 ∧ nwid c = 1) ∨ (c / 16 = 6 ∧ nwid c = 2) ∨ (c / 16 = 7 ∧ nwid c = 4) ∨ (c / 16 = 8 ∧ nwid c = 8) := by
    unfold nwid
    have : c / 16 = 5 ∨ c / 16 = 6 ∨ c / 16 = 7 ∨ c / 16 = 8 := by omega
    rcases this with h | h | h | h <;> simp [h]
  have hl := layout_any c (by omega) w
  rcases h4 with ⟨hq, hn⟩ | ⟨hq, hn⟩ | ⟨hq, hn⟩ | ⟨hq, hn⟩
  all_goals
    rw [hn]
    rw [hq] at hl
    have HL := hide hl
    clear hl hq hn
    go_enter Tryz.func58, Tryz.ntmps58
    go_wp2_with fail
    refine Calls.mono HL.out ?_
    rintro e w1 ⟨rfl, rfl⟩
    go_wp2
    go_ret
    exact ⟨rfl, rfl⟩
set_option maxHeartbeats 1000000 in
theorem head_any (c : Nat) (hc : c < 256) (h1 : c / 16 = 0 ∨ 4 ≤ c / 16) (w : World) :
    Calls Tryz.prog 39 #[.int .u8 (c : Int)] w fun e w' => e = .returned (.int .i64 ((headC c : Nat) : Int)) ∧ w = w' := by
  have hl := layout_any c hc w
  by_cases hw : 5 ≤ c / 16 ∧ c / 16 < 9
  · have hn := numberWidth_any c (by omega) (by omega) w
    have e : headC c = nwid c := by
      unfold headC
      simp only [show ¬ c / 16 = 0 by omega, show ¬ c / 16 = 4 by omega, show ¬ c / 16 = 9 by omega, show ¬ c / 16 = 10 by omega, show ¬ c / 16 = 11 by omega, show ¬ c / 16 = 12 by omega, show ¬ c / 16 = 14 by omega, show ¬ c / 16 = 13 by omega, show ¬ c / 16 = 15 by omega, if_false]
    rw [e]
    obtain ⟨q, hq⟩ : ∃ q, c / 16 = q := ⟨_, rfl⟩
    rw [hq] at hl hw
    have HL := hide hl
    have HN := hide hn
    obtain ⟨z, hz⟩ : ∃ z, nwid c = z := ⟨_, rfl⟩
    rw [hz] at HN ⊢
    clear hl hq hn e hz h1
    have hq4 : q = 5 ∨ q = 6 ∨ q = 7 ∨ q = 8 := by omega
    clear hw
    rcases hq4 with rfl | rfl | rfl | rfl
    all_goals
      go_enter Tryz.func39, Tryz.ntmps39
      go_wp2_with fail
      refine Calls.mono HL.out ?_
      rintro e w1 ⟨rfl, rfl⟩
      go_wp2_with fail
      refine Calls.mono HN.out ?_
      rintro e w1 ⟨rfl, rfl⟩
      go_wp2
      go_ret
      exact ⟨rfl, rfl⟩
  · have h8 : (c / 16 = 0 ∧ headC c = 0) ∨ (c / 16 = 4 ∧ headC c = 0) ∨ (c / 16 = 9 ∧ headC c = 16) ∨ (c / 16 = 10 ∧ headC c = 1) ∨ (c / 16 = 11 ∧ headC c = 4) ∨ (c / 16 = 12 ∧ headC c = 2) ∨ (c / 16 = 14 ∧ headC c = 2) ∨ (c / 16 = 13 ∧ headC c = 8) ∨ (c / 16 = 15 ∧ headC c = 8) := by
      unfold headC
      have : c / 16 = 0 ∨ c / 16 = 4 ∨ c / 16 = 9 ∨ c / 16 = 10 ∨ c / 16 = 11 ∨ c / 16 = 12 ∨ c / 16 = 14 ∨ c / 16 = 13 ∨ c / 16 = 15 := by omega
      rcases this with h | h | h | h | h | h | h | h | h <;> simp only [h] <;> simp
    clear h1 hw
    rcases h8 with ⟨hq, hn⟩ | ⟨hq, hn⟩ | ⟨hq, hn⟩ | ⟨hq, hn⟩ | ⟨hq, hn⟩ | ⟨hq, hn⟩ | ⟨hq, hn⟩ | ⟨hq, hn⟩ | ⟨hq, hn⟩
    all_goals
      rw [hn]
      rw [hq] at hl
      have HL := hide hl
      clear hl hq hn
      go_enter Tryz.func39, Tryz.ntmps39
      go_wp2_with fail
      refine Calls.mono HL.out ?_
      rintro e w1 ⟨rfl, rfl⟩
      go_wp2
      go_ret
      exact ⟨rfl, rfl⟩
theorem i8_small (n : Int) (h0 : 0 ≤ n) (h1 : n < 18446744073709551616) : (wrap64 n == wrap64 (IntKind.i8.wrap n)) = decide (n ≤ 127 ∨ 18446744073709551488 ≤ n) := by
  rw [Bool.eq_iff_iff]
  simp only [beq_iff_eq, decide_eq_true_eq, wrap64, IntKind.wrap, IntKind.bits, IntKind.signed]
  simp
  omega
set_option maxHeartbeats 1000000 in
theorem isSmall_any (v : V) (body : Nat) (hk : 0 ≤ v.k ∧ v.k ≤ 24) (hn : 0 ≤ v.n ∧ v.n < 18446744073709551616) (hb : body ≤ 1000000000000) (w : World) :
    Calls Tryz.prog 53 #[v.val, .int .i64 (body : Int)] w fun e w' => e = .returned (.bool (smallC v.k v.n body)) ∧ Below w.heap.size w w' := by
  have hi8 := i8_small v.n hn.1 hn.2
  rw [V.val_eq]
  have hb1 := bel1 (Below.refl w.heap.size w) (Nat.le_refl _) (Obj.cells #[.int .i64 v.k, .int .u64 v.n, .string v.s, .slice v.a v.l.length v.c, .int .i64 v.e] 25)
  have HI := hide hi8
  clear hi8
  go_enter Tryz.func53, Tryz.ntmps53
  go_wp2
  all_goals
    go_ret
    have hi8 := HI.out
    refine ⟨?_, hb1⟩
    simp_all [smallC]
    try omega
    done
def SzTab (w : World) : Prop := ∀ k, k < 25 → w.cell? ⟨0, k * 2, none⟩ = some (.int .u8 ((codeS.getD k 0 : Nat) : Int)) ∧ w.cell? ⟨0, k * 2 + 1, none⟩ = some (.int .u8 ((codeL.getD k 0 : Nat) : Int))
theorem SzTab.below {w w' : World} (h : SzTab w) (hb : Below w.heap.size w w') : SzTab w' := by
  have l0 := block_lt_of_cell (h 0 (by omega)).1
  exact fun k hk => ⟨(hb.cell (p := ⟨0, k * 2, none⟩) l0).trans (h k hk).1, (hb.cell (p := ⟨0, k * 2 + 1, none⟩) l0).trans (h k hk).2⟩
theorem SzTab.lt {w : World} (h : SzTab w) : 0 < w.heap.size := block_lt_of_cell (h 0 (by omega)).1
theorem pick_any (k : Nat) (b : Bool) (hk : k < 25) (w : World) (hT : SzTab w) :
    Calls Tryz.prog 52 #[.int .i64 (k : Int), .bool b] w fun e w' => e = .returned (.int .u8 ((pickC k b : Nat) : Int)) ∧ w = w' := by
  obtain ⟨h1, h2⟩ := hT k hk
  unfold pickC
  cases b
  · simp only [Bool.false_eq_true, if_false]
    generalize codeL.getD k 0 = x at h2
    clear h1 hT
    go_enter Tryz.func52, Tryz.ntmps52
    go_wp2
    go_ret
    exact ⟨rfl, rfl⟩
  · simp only [if_true]
    generalize codeS.getD k 0 = x at h1
    clear h2 hT
    go_enter Tryz.func52, Tryz.ntmps52
    go_wp2
    go_ret
    exact ⟨rfl, rfl⟩
section
variable (B : Nat → ByteArray → Int) (W : List T → Bool)
def BodyOk (x : V) : Prop := ∀ (f n₀ : Nat) (w : World), n₀ ≤ w.heap.size → Lies n₀ w x → SzTab w → Gd B W x.t f → T.body x.t ≤ 1000000000 →
  Calls Tryz.prog 51 #[x.val] w fun e w' => e = .returned (.int .i64 ((T.body x.t : Nat) : Int)) ∧ Below w.heap.size w w'
theorem code_of (k n : Int) (s : ByteArray) (a : Option Addr) (c : Nat) (e : Int) (l : List V) : T.code (V.of k n s a c e l).t = codeG k n l.length (T.body (V.of k n s a c e l).t) := by
  unfold T.code
  rw [V.t_of, show (T.of k n s e (V.ts l)).k = k from rfl, show (T.of k n s e (V.ts l)).n = n from rfl, show (T.of k n s e (V.ts l)).l = V.ts l from V.l_of _ _ _ _ _ _ _, V.ts_length]
theorem gd_own {k n : Int} {s : ByteArray} {a : Option Addr} {c : Nat} {e : Int} {l : List V} {f : Nat} (h : Gd B W (V.of k n s a c e l).t f) : 0 < f ∧ OwnG B W k n s e (V.ts l) ∧ ∀ x ∈ l, Gd B W x.t (f - 1) := by
  rw [V.t_of] at h
  obtain ⟨h1, h2, h3⟩ := (Gd_of _ _ _ _ _ _ _ _ _ _).1 h
  exact ⟨h1, h2, fun x hx => h3 x.t (by rw [V.ts_map]; exact List.mem_map.2 ⟨x, hx, rfl⟩)⟩
theorem ts_nil {l : List V} (h : V.ts l = []) : l = [] := by
  rw [V.ts_map] at h
  exact List.map_eq_nil_iff.1 h
set_option maxRecDepth 100000 in
set_option maxHeartbeats 2000000 in
theorem form_else (k n : Int) (s : ByteArray) (a : Option Addr) (c : Nat) (e : Int) (l : List V) (hx : BodyOk B W (V.of k n s a c e l)) (f n₀ : Nat) (w : World) (hn : n₀ ≤ w.heap.size) (hl : Lies n₀ w (V.of k n s a c e l)) (hT : SzTab w) (hg : Gd B W (V.of k n s a c e l).t f) (hb : T.body (V.of k n s a c e l).t ≤ 1000000000)
    (h1 : k ≠ 1) (h4 : k = 4 → n ≠ 0) (h5 : k = 5 → n ≠ 0) (h21 : k = 21 → l.length ≠ 0) :
    Calls Tryz.prog 35 #[(V.of k n s a c e l).val] w fun e' w' => e' = .returned (.tuple #[.int .u8 ((pickC k.toNat (smallC k n (T.body (V.of k n s a c e l).t)) : Nat) : Int), .int .i64 ((T.body (V.of k n s a c e l).t : Nat) : Int)]) ∧ Below w.heap.size w w' := by
  obtain ⟨hf, own, sub⟩ := gd_own B W hg
  obtain ⟨bd, hbd⟩ : ∃ bd, T.body (V.of k n s a c e l).t = bd := ⟨_, rfl⟩
  have HB : Hid (∀ W1, Below w.heap.size w W1 → Calls Tryz.prog 51 #[.agg #[.int .i64 k, .int .u64 n, .string s, .slice a l.length c, .int .i64 e]] W1 fun e w' => e = .returned (.int .i64 (bd : Int)) ∧ Below W1.heap.size W1 w') := fun W1 hW => by
    have := hx f n₀ W1 (by have := hW.size; omega) (hl.keep hW hn) (hT.below hW) hg hb
    rw [V.val_of, hbd] at this
    exact this
  have HS : Hid (∀ W1, Calls Tryz.prog 53 #[.agg #[.int .i64 k, .int .u64 n, .string s, .slice a l.length c, .int .i64 e], .int .i64 (bd : Int)] W1 fun e w' => e = .returned (.bool (smallC k n bd)) ∧ Below W1.heap.size W1 w') := fun W1 => by
    have := isSmall_any (V.of k n s a c e l) bd ⟨own.k0, own.k1⟩ ⟨own.n0, own.n1⟩ (by omega) W1
    rw [V.val_of] at this
    exact this
  have k0 := own.k0
  have k1 := own.k1
  have HP : Hid (∀ W1 b, Below w.heap.size w W1 → Calls Tryz.prog 52 #[.int .i64 k, .bool b] W1 fun e w' => e = .returned (.int .u8 ((pickC k.toNat b : Nat) : Int)) ∧ W1 = w') := fun W1 b hW => by
    have := pick_any k.toNat b (by omega) W1 (hT.below hW)
    rw [Int.toNat_of_nonneg k0] at this
    exact this
  have ok := hl.ok
  have o2 := ok.l
  have o3 := ok.c
  rw [hbd, V.val_of]
  have g1 : (k == 1) = false := by rw [beq_eq_false_iff_ne]; exact h1
  clear hx hl hT hg hb hbd own sub ok h1 k0 k1
  obtain ⟨sm, hsm⟩ : ∃ sm, smallC k n bd = sm := ⟨_, rfl⟩
  rw [hsm] at HS ⊢
  obtain ⟨pc, hpc⟩ : ∃ pc, pickC k.toNat sm = pc := ⟨_, rfl⟩
  have HP2 : Hid (∀ W1, Below w.heap.size w W1 → Calls Tryz.prog 52 #[.int .i64 k, .bool sm] W1 fun e w' => e = .returned (.int .u8 (pc : Int)) ∧ W1 = w') := fun W1 hW => by
    have := HP.out W1 sm hW
    rw [hpc] at this
    exact this
  rw [hpc]
  clear HP hpc hsm
  have hbx := bel1 (Below.refl w.heap.size w) (Nat.le_refl _) (Obj.cells #[.int .i64 k, .int .u64 n, .string s, .slice a l.length c, .int .i64 e] 25)
  obtain ⟨W0, hW0⟩ : ∃ W0, w.alloc (Obj.cells #[.int .i64 k, .int .u64 n, .string s, .slice a l.length c, .int .i64 e] 25) = W0 := ⟨_, rfl⟩
  have hs0 : W0.heap.size = w.heap.size + 1 := by rw [← hW0]; simp
  have HC : Hid (∀ W1, Below W0.heap.size W0 W1 → W1.cell? ⟨w.heap.size, 0, none⟩ = some (  .int .i64 k) ∧ W1.cell? ⟨w.heap.size, 1, none⟩ = some (.int .u64 n) ∧ W1.cell? ⟨w.heap.size, 2, none⟩ = some (.string s) ∧ W1.cell? ⟨w.heap.size, 3, none⟩ = some (.slice a l.length c) ∧ W1.cell? ⟨w.heap.size, 4, none⟩ = some (.int .i64 e)) := fun W1 hW => by
    have hh : W1.heap[w.heap.size]? = some (.cells #[.int .i64 k, .int .u64 n, .string s, .slice a l.length c, .int .i64 e] 25) := (hW.block _ (by omega)).trans (by rw [← hW0]; exact World.alloc_heap_new _ _)
    simp [World.cell?, hh]
  rw [hW0] at hbx
  have HW0 := hide hW0
  clear hW0
  have hcs : (k = 4 ∧ (n == 0) = false) ∨ (k = 5 ∧ (n == 0) = false) ∨ (k = 21 ∧ ((l.length : Int) == 0) = false) ∨ ((k == 4) = false ∧ (k == 5) = false ∧ (k == 21) = false) := by
    by_cases q4 : k = 4
    · exact .inl ⟨q4, by rw [beq_eq_false_iff_ne]; exact h4 (by omega)⟩
    by_cases q5 : k = 5
    · exact .inr (.inl ⟨q5, by rw [beq_eq_false_iff_ne]; exact h5 (by omega)⟩)
    by_cases q21 : k = 21
    · exact .inr (.inr (.inl ⟨q21, by rw [beq_eq_false_iff_ne]; have := h21 (by omega); omega⟩))
    · refine .inr (.inr (.inr ⟨?_, ?_, ?_⟩)) <;> rw [beq_eq_false_iff_ne] <;> omega
  clear h4 h5 h21
  go_enter Tryz.func35, Tryz.ntmps35
  rcases hcs with ⟨rfl, g2⟩ | ⟨rfl, g2⟩ | ⟨rfl, g2⟩ | ⟨g2, g3, g4⟩
  · go_wp2_with fail
    rw [HW0.out]
    refine Calls.mono (HB.out W0 hbx) ?_
    rintro e1 w1 ⟨rfl, hb1⟩
    obtain ⟨c0, c1, c2, c3, c4⟩ := HC.out w1 hb1
    have hz1 : w.heap.size < w1.heap.size := by have := hb1.size; omega
    have hbw := belOn hbx (by omega) hb1
    have hsz : W0.heap.size ≤ w1.drew.heap.size := hb1.size
    have hsw : w.heap.size ≤ W0.heap.size := by omega
    have hbd := hb1.drew
    go_wp2_with fail
    go_region_held (fun W1 => W1.cell? ⟨w.heap.size, 0, none⟩ = some (.int .i64 4) ∧ W1.cell? ⟨w.heap.size, 1, none⟩ = some (.int .u64 n) ∧ W1.cell? ⟨w.heap.size, 2, none⟩ = some (.string s) ∧ W1.cell? ⟨w.heap.size, 3, none⟩ = some (.slice a l.length c) ∧ W1.cell? ⟨w.heap.size, 4, none⟩ = some (.int .i64 e)) (go_keep) ((first | (go_at_call 53; refine Calls.mono (HS.out _) ?_; rintro e2 w2 ⟨rfl, hb2⟩; have hb3 := belOn hbd hsz hb2; obtain ⟨d0, d1, d2, d3, d4⟩ := HC.out w2 hb3) | (go_at_call 52; refine Calls.mono (HP2.out _ (belOn hbx hsw hb3)) ?_; rintro e3 w3 ⟨rfl, rfl⟩)))
    go_wp2
    go_ret2
    exact ⟨rfl, belOn hbx hsw hb3⟩
  · go_wp2_with fail
    rw [HW0.out]
    refine Calls.mono (HB.out W0 hbx) ?_
    rintro e1 w1 ⟨rfl, hb1⟩
    obtain ⟨c0, c1, c2, c3, c4⟩ := HC.out w1 hb1
    have hz1 : w.heap.size < w1.heap.size := by have := hb1.size; omega
    have hbw := belOn hbx (by omega) hb1
    have hsz : W0.heap.size ≤ w1.drew.heap.size := hb1.size
    have hsw : w.heap.size ≤ W0.heap.size := by omega
    have hbd := hb1.drew
    go_wp2_with fail
    go_region_held (fun W1 => W1.cell? ⟨w.heap.size, 0, none⟩ = some (.int .i64 5) ∧ W1.cell? ⟨w.heap.size, 1, none⟩ = some (.int .u64 n) ∧ W1.cell? ⟨w.heap.size, 2, none⟩ = some (.string s) ∧ W1.cell? ⟨w.heap.size, 3, none⟩ = some (.slice a l.length c) ∧ W1.cell? ⟨w.heap.size, 4, none⟩ = some (.int .i64 e)) (go_keep) ((first | (go_at_call 53; refine Calls.mono (HS.out _) ?_; rintro e2 w2 ⟨rfl, hb2⟩; have hb3 := belOn hbd hsz hb2; obtain ⟨d0, d1, d2, d3, d4⟩ := HC.out w2 hb3) | (go_at_call 52; refine Calls.mono (HP2.out _ (belOn hbx hsw hb3)) ?_; rintro e3 w3 ⟨rfl, rfl⟩)))
    go_wp2
    go_ret2
    exact ⟨rfl, belOn hbx hsw hb3⟩
  · go_wp2_with fail
    rw [HW0.out]
    refine Calls.mono (HB.out W0 hbx) ?_
    rintro e1 w1 ⟨rfl, hb1⟩
    obtain ⟨c0, c1, c2, c3, c4⟩ := HC.out w1 hb1
    have hz1 : w.heap.size < w1.heap.size := by have := hb1.size; omega
    have hbw := belOn hbx (by omega) hb1
    have hsz : W0.heap.size ≤ w1.drew.heap.size := hb1.size
    have hsw : w.heap.size ≤ W0.heap.size := by omega
    have hbd := hb1.drew
    go_wp2_with fail
    go_region_held (fun W1 => W1.cell? ⟨w.heap.size, 0, none⟩ = some (.int .i64 21) ∧ W1.cell? ⟨w.heap.size, 1, none⟩ = some (.int .u64 n) ∧ W1.cell? ⟨w.heap.size, 2, none⟩ = some (.string s) ∧ W1.cell? ⟨w.heap.size, 3, none⟩ = some (.slice a l.length c) ∧ W1.cell? ⟨w.heap.size, 4, none⟩ = some (.int .i64 e)) (go_keep) ((first | (go_at_call 53; refine Calls.mono (HS.out _) ?_; rintro e2 w2 ⟨rfl, hb2⟩; have hb3 := belOn hbd hsz hb2; obtain ⟨d0, d1, d2, d3, d4⟩ := HC.out w2 hb3) | (go_at_call 52; refine Calls.mono (HP2.out _ (belOn hbx hsw hb3)) ?_; rintro e3 w3 ⟨rfl, rfl⟩)))
    go_wp2
    go_ret2
    exact ⟨rfl, belOn hbx hsw hb3⟩
  · go_wp2_with fail
    rw [HW0.out]
    refine Calls.mono (HB.out W0 hbx) ?_
    rintro e1 w1 ⟨rfl, hb1⟩
    obtain ⟨c0, c1, c2, c3, c4⟩ := HC.out w1 hb1
    have hz1 : w.heap.size < w1.heap.size := by have := hb1.size; omega
    have hbw := belOn hbx (by omega) hb1
    have hsz : W0.heap.size ≤ w1.drew.heap.size := hb1.size
    have hsw : w.heap.size ≤ W0.heap.size := by omega
    have hbd := hb1.drew
    go_wp2_with fail
    go_region_held (fun W1 => W1.cell? ⟨w.heap.size, 0, none⟩ = some (.int .i64 k) ∧ W1.cell? ⟨w.heap.size, 1, none⟩ = some (.int .u64 n) ∧ W1.cell? ⟨w.heap.size, 2, none⟩ = some (.string s) ∧ W1.cell? ⟨w.heap.size, 3, none⟩ = some (.slice a l.length c) ∧ W1.cell? ⟨w.heap.size, 4, none⟩ = some (.int .i64 e)) (go_keep) ((first | (go_at_call 53; refine Calls.mono (HS.out _) ?_; rintro e2 w2 ⟨rfl, hb2⟩; have hb3 := belOn hbd hsz hb2; obtain ⟨d0, d1, d2, d3, d4⟩ := HC.out w2 hb3) | (go_at_call 52; refine Calls.mono (HP2.out _ (belOn hbx hsw hb3)) ?_; rintro e3 w3 ⟨rfl, rfl⟩)))
    go_wp2
    go_ret2
    exact ⟨rfl, belOn hbx hsw hb3⟩
end
section
variable (B : Nat → ByteArray → Int) (W : List T → Bool)
theorem pick_lay : ∀ k, k < 25 → ∀ b, pickC k b / 16 = 0 ∨ 4 ≤ pickC k b / 16 := by decide
theorem pick_head : ∀ k, k < 25 → ∀ b, headC (pickC k b) ≤ 16 := by decide
theorem fits_lay {t : T} {c : Nat} (h : FitsC t c) (h0 : 0 ≤ t.k) (h1 : t.k ≤ 24) : (c / 16 = 0 ∨ 4 ≤ c / 16) ∧ headC c ≤ 16 := by
  rcases fits_cases h with ⟨hk, _, rfl⟩ | ⟨hk, _, rfl⟩ | ⟨hk, _, rfl⟩ | ⟨hk, _, rfl⟩ | ⟨hk, _, rfl⟩ | rfl | ⟨rfl, _⟩
  · decide
  · decide
  · decide
  · decide
  · decide
  · exact ⟨pick_lay _ (by omega) _, pick_head _ (by omega) _⟩
  · exact ⟨pick_lay _ (by omega) _, pick_head _ (by omega) _⟩
set_option maxRecDepth 100000 in
set_option maxHeartbeats 2000000 in
theorem form_of (x : V) (hx : BodyOk B W x) (f n₀ : Nat) (w : World) (hn : n₀ ≤ w.heap.size) (hl : Lies n₀ w x) (hT : SzTab w) (hg : Gd B W x.t f) (hb : T.body x.t ≤ 1000000000) :
    Calls Tryz.prog 35 #[x.val] w fun e' w' => e' = .returned (.tuple #[.int .u8 ((T.code x.t : Nat) : Int), .int .i64 ((T.body x.t : Nat) : Int)]) ∧ Below w.heap.size w w' := by
  obtain ⟨k, n, s, a, c, e, l, rfl⟩ := V.ex x
  have hbx := bel1 (Below.refl w.heap.size w) (Nat.le_refl _) (Obj.cells #[.int .i64 k, .int .u64 n, .string s, .slice a l.length c, .int .i64 e] 25)
  rw [code_of]
  by_cases hsp : k = 1 ∨ (k = 4 ∧ n = 0) ∨ (k = 5 ∧ n = 0) ∨ (k = 21 ∧ l.length = 0)
  · obtain ⟨hf, own, sub⟩ := gd_own B W hg
    have hl0 : l = [] := by
      by_cases h21 : k = 21
      · exact List.eq_nil_of_length_eq_zero (by omega)
      · exact ts_nil (own.isNum (by omega)).2.1
    subst hl0
    have hb0 : T.body (V.of k n s a c e []).t = 0 := by rw [V.t_of]; exact body_none _ _ _ _ _ _ (by omega)
    rw [hb0]
    have ok := hl.ok
    rw [V.val_of]
    rcases hsp with rfl | ⟨rfl, rfl⟩ | ⟨rfl, rfl⟩ | ⟨rfl, _⟩
    · by_cases h1 : n = 1
      · subst h1
        clear hx hl hT hg hb own sub hb0 ok
        go_enter Tryz.func35, Tryz.ntmps35
        go_wp2
        go_ret2
        exact ⟨by simp [codeG], hbx⟩
      · have h1' : (n == 1) = false := by rw [beq_eq_false_iff_ne]; exact h1
        clear hx hl hT hg hb own sub hb0 ok
        have hcg : codeG 1 n ([] : List V).length 0 = 66 := by simp [codeG, h1]
        rw [hcg]
        clear h1 hcg
        go_enter Tryz.func35, Tryz.ntmps35
        go_wp2
        go_ret2
        exact ⟨rfl, hbx⟩
    · clear hx hl hT hg hb own sub hb0 ok
      go_enter Tryz.func35, Tryz.ntmps35
      go_wp2
      go_ret2
      exact ⟨by simp [codeG], hbx⟩
    · clear hx hl hT hg hb own sub hb0 ok
      go_enter Tryz.func35, Tryz.ntmps35
      go_wp2
      go_ret2
      exact ⟨by simp [codeG], hbx⟩
    · clear hx hl hT hg hb own sub hb0 ok
      rw [List.length_nil]
      go_enter Tryz.func35, Tryz.ntmps35
      go_wp2
      go_ret2
      exact ⟨by simp [codeG], hbx⟩
  · have h := form_else B W k n s a c e l hx f n₀ w hn hl hT hg hb (by omega) (fun h1 h2 => hsp (by omega)) (fun h1 h2 => hsp (by omega)) (fun h1 h2 => hsp (by omega))
    have he : codeG k n l.length (T.body (V.of k n s a c e l).t) = pickC k.toNat (smallC k n (T.body (V.of k n s a c e l).t)) := by
      unfold codeG
      rw [if_neg (by omega), if_neg (by omega), if_neg (by omega), if_neg (by omega)]
    rw [he]
    exact h
theorem length_of (x : V) (hx : BodyOk B W x) (f n₀ : Nat) (w : World) (hn : n₀ ≤ w.heap.size) (hl : Lies n₀ w x) (hT : SzTab w) (hg : Gd B W x.t f) (hb : T.body x.t ≤ 1000000000) :
    Calls Tryz.prog 24 #[x.val] w fun e' w' => e' = .returned (.int .i64 ((T.len x.t : Nat) : Int)) ∧ Below w.heap.size w w' := by
  have hk : 0 ≤ x.t.k ∧ x.t.k ≤ 24 := by
    obtain ⟨k, n, s, a, c, e, l, rfl⟩ := V.ex x
    obtain ⟨hf, own, sub⟩ := gd_own B W hg
    rw [V.t_of]
    exact ⟨own.k0, own.k1⟩
  have h1 := kind_code (.inl rfl : FitsC x.t x.t.code) hk.1 hk.2
  have h2 := fits_lay (.inl rfl : FitsC x.t x.t.code) hk.1 hk.2
  have HF : Hid (∀ W1, Below w.heap.size w W1 → Calls Tryz.prog 35 #[.agg #[.int .i64 x.k, .int .u64 x.n, .string x.s, .slice x.a x.l.length x.c, .int .i64 x.e]] W1 fun e' w' => e' = .returned (.tuple #[.int .u8 ((T.code x.t : Nat) : Int), .int .i64 ((T.body x.t : Nat) : Int)]) ∧ Below W1.heap.size W1 w') := fun W1 hW => by
    have := form_of B W x hx f n₀ W1 (by have := hW.size; omega) (hl.keep hW hn) (hT.below hW) hg hb
    rw [V.val_eq] at this
    exact this
  have HH : Hid (∀ W1, Calls Tryz.prog 39 #[.int .u8 ((T.code x.t : Nat) : Int)] W1 fun e w' => e = .returned (.int .i64 ((headC (T.code x.t) : Nat) : Int)) ∧ W1 = w') := fun W1 => head_any _ h1.2 h2.1 W1
  have h3 := h2.2
  have HL : Hid (T.len x.t = 1 + headC (T.code x.t) + T.body x.t) := rfl
  rw [V.val_eq]
  generalize T.len x.t = len at HL ⊢
  generalize headC (T.code x.t) = hd at HH HL h3
  generalize T.code x.t = cd at HF HH
  generalize T.body x.t = bd at HF HL hb
  clear hx hl hT hg h1 h2 hk
  have hbx := bel1 (Below.refl w.heap.size w) (Nat.le_refl _) (Obj.cells #[.int .i64 x.k, .int .u64 x.n, .string x.s, .slice x.a x.l.length x.c, .int .i64 x.e] 25)
  go_enter Tryz.func24, Tryz.ntmps24
  go_wp2_with fail
  refine Calls.mono (HF.out _ hbx) ?_
  rintro e1 w1 ⟨rfl, hb1⟩
  go_wp2_with fail
  refine Calls.mono (HH.out _) ?_
  rintro e2 w2 ⟨rfl, rfl⟩
  go_wp2
  go_ret
  refine ⟨?_, belOn hbx (by simp) hb1⟩
  rw [HL.out]
  go_num
end
theorem wrap_nat (m : Nat) (h : m ≤ 4611686018427387904) : IntKind.i64.wrap (m : Int) = m := by
  simp only [IntKind.wrap, IntKind.bits, IntKind.signed]
  simp
  omega
def lens (L : List T) : Nat := (L.map T.len).sum
def bods (L : List T) : Nat := (L.map T.body).sum
def smalls (L : List T) : Bool := L.all fun y => smallC y.k y.n (T.body y)
theorem ts_take_snoc (l : List V) (j : Nat) (h : j < l.length) : V.ts (l.take (j + 1)) = V.ts (l.take j) ++ [l[j].t] := by
  rw [List.take_succ_eq_append_getElem h, V.ts_map, V.ts_map, List.map_append]
  rfl
theorem ts_take_pre (l : List V) (j : Nat) : ∃ r, V.ts l = V.ts (l.take j) ++ r := ⟨V.ts (l.drop j), by rw [V.ts_map, V.ts_map, V.ts_map, ← List.map_append, List.take_append_drop]⟩
theorem lens_snoc (l : List V) (j : Nat) (h : j < l.length) : lens (V.ts (l.take (j + 1))) = lens (V.ts (l.take j)) + T.len l[j].t := by
  rw [ts_take_snoc l j h]; unfold lens; simp
theorem bods_snoc (l : List V) (j : Nat) (h : j < l.length) : bods (V.ts (l.take (j + 1))) = bods (V.ts (l.take j)) + T.body l[j].t := by
  rw [ts_take_snoc l j h]; unfold bods; simp
theorem smalls_snoc (l : List V) (j : Nat) (h : j < l.length) : smalls (V.ts (l.take (j + 1))) = (smalls (V.ts (l.take j)) && smallC l[j].t.k l[j].t.n (T.body l[j].t)) := by
  rw [ts_take_snoc l j h]; unfold smalls; simp
theorem lens_le (l : List V) (j : Nat) : lens (V.ts (l.take j)) ≤ lens (V.ts l) := by
  obtain ⟨r, hr⟩ := ts_take_pre l j
  rw [hr]; unfold lens; simp
theorem bods_le (l : List V) (j : Nat) : bods (V.ts (l.take j)) ≤ bods (V.ts l) := by
  obtain ⟨r, hr⟩ := ts_take_pre l j
  rw [hr]; unfold bods; simp
theorem mem_ts {l : List V} {x : V} (h : x ∈ l) : x.t ∈ V.ts l := by rw [V.ts_map]; exact List.mem_map.2 ⟨x, h, rfl⟩
theorem tk_eq (x : V) : x.t.k = x.k ∧ x.t.n = x.n := by
  obtain ⟨k, n, s, a, c, e, l, rfl⟩ := V.ex x
  rw [V.t_of]
  exact ⟨rfl, rfl⟩
theorem body_arr_t (n : Int) (s : ByteArray) (a : Option Addr) (c : Nat) (e : Int) (l : List V) : T.body (V.of 23 n s a c e l).t = 1 + (bods (V.ts l) + l.length * headC (T.acode (V.of 23 n s a c e l).t)) := by
  rw [V.t_of]
  unfold T.of
  rw [body_arr, V.ts_length]
  rfl
theorem acode_t (k n : Int) (s : ByteArray) (a : Option Addr) (c : Nat) (e : Int) (l : List V) : T.acode (V.of k n s a c e l).t = pickC e.toNat (smalls (V.ts l)) := by
  rw [V.t_of]
  unfold T.of T.acode acodeG smalls
  rw [V.e_of, V.l_of, List.all_map]
  rfl
theorem body_enc_t (k n : Int) (s : ByteArray) (a : Option Addr) (c : Nat) (e : Int) (l : List V) (h : k ≠ 18 ∧ k ≠ 19 ∧ k ≠ 20 ∧ k ≠ 23) : T.body (V.of k n s a c e l).t = lens (V.ts l) := by
  rw [V.t_of]
  unfold T.of
  rw [body_of]
  unfold bodyG
  rw [if_neg (by simp; omega), if_neg (by simp; omega), List.map_map]
  rfl
section
variable (B : Nat → ByteArray → Int) (W : List T → Bool)
set_option maxRecDepth 100000 in
set_option maxHeartbeats 2000000 in
theorem arrayForm_of (n : Int) (s : ByteArray) (a : Option Addr) (c : Nat) (e : Int) (l : List V) (ih : ∀ x ∈ l, BodyOk B W x) (f n₀ : Nat) (w : World) (hn : n₀ ≤ w.heap.size) (hl : Lies n₀ w (V.of 23 n s a c e l)) (hT : SzTab w) (hg : Gd B W (V.of 23 n s a c e l).t f) (hb : T.body (V.of 23 n s a c e l).t ≤ 1000000000) :
    Calls Tryz.prog 82 #[(V.of 23 n s a c e l).val] w fun e' w' => e' = .returned (.tuple #[.int .u8 ((T.acode (V.of 23 n s a c e l).t : Nat) : Int), .int .i64 ((bods (V.ts l) + l.length * headC (T.acode (V.of 23 n s a c e l).t) : Nat) : Int)]) ∧ Below w.heap.size w w' := by
  obtain ⟨hf, own, sub⟩ := gd_own B W hg
  rw [body_arr_t] at hb
  rw [acode_t] at hb ⊢
  obtain ⟨hn0, hse, he0, he1, hee⟩ := own.isArr rfl
  clear hn0 hse
  have HE : Hid (∀ y ∈ l, y.k = e) := fun y hy => by have := hee y.t (mem_ts hy); rw [(tk_eq y).1] at this; exact this
  have ok := hl.ok
  have o2 := ok.l
  have o3 := ok.c
  have HL := hide hl
  have HT := hide hT
  have IH := hide ih
  have SUB := hide sub
  have hhd : headC (pickC e.toNat (smalls (V.ts l))) ≤ 16 := pick_head _ (by omega) _
  have HPL := pick_lay e.toNat (by omega) (smalls (V.ts l))
  have HPT := pick_lt e.toNat (by omega) (smalls (V.ts l))
  have hbb : bods (V.ts l) ≤ 1000000000 := by omega
  have hmul : l.length * headC (pickC e.toNat (smalls (V.ts l))) ≤ 1000000000 := by omega
  have HP : Hid (∀ W1, Below w.heap.size w W1 → Calls Tryz.prog 52 #[.int .i64 e, .bool (smalls (V.ts l))] W1 fun e' w' => e' = .returned (.int .u8 ((pickC e.toNat (smalls (V.ts l)) : Nat) : Int)) ∧ W1 = w') := fun W1 hW => by
    have := pick_any e.toNat (smalls (V.ts l)) (by omega) W1 (HT.out.below hW)
    rw [Int.toNat_of_nonneg (by omega)] at this
    exact this
  have HH : Hid (∀ W1, Calls Tryz.prog 39 #[.int .u8 ((pickC e.toNat (smalls (V.ts l)) : Nat) : Int)] W1 fun r w' => r = .returned (.int .i64 ((headC (pickC e.toNat (smalls (V.ts l))) : Nat) : Int)) ∧ W1 = w') := fun W1 => head_any _ HPT HPL W1
  have hz : ∀ j : Nat, Hid (bods (V.ts (l.take j)) ≤ bods (V.ts l)) := fun j => bods_le l j
  clear hl hT hg ih sub own hee HPL HPT hb ok
  generalize headC (pickC e.toNat (smalls (V.ts l))) = hd at HH hhd hmul ⊢
  generalize pickC e.toNat (smalls (V.ts l)) = pc at HP HH ⊢
  have HMUL : Hid (l.length * hd ≤ 1000000000) := hmul
  clear hmul
  rw [V.val_of]
  have hb0 := bel1 (Below.refl w.heap.size w) (Nat.le_refl _) (Obj.cells #[.int .i64 23, .int .u64 n, .string s, .slice a l.length c, .int .i64 e] 25)
  obtain ⟨W0, hW0⟩ : ∃ W0, w.alloc (Obj.cells #[.int .i64 23, .int .u64 n, .string s, .slice a l.length c, .int .i64 e] 25) = W0 := ⟨_, rfl⟩
  have hs0 : W0.heap.size = w.heap.size + 1 := by rw [← hW0]; simp
  have HC : Hid (∀ W1, Below W0.heap.size W0 W1 → W1.cell? ⟨w.heap.size, 3, none⟩ = some (.slice a l.length c) ∧ W1.cell? ⟨w.heap.size, 4, none⟩ = some (.int .i64 e)) := fun W1 hW => by
    have hh : W1.heap[w.heap.size]? = some (.cells #[.int .i64 23, .int .u64 n, .string s, .slice a l.length c, .int .i64 e] 25) := (hW.block _ (by omega)).trans (by rw [← hW0]; exact World.alloc_heap_new _ _)
    simp [World.cell?, hh]
  rw [hW0] at hb0
  have HW0 := hide hW0
  clear hW0
  go_enter Tryz.func82, Tryz.ntmps82
  go_wp2_with fail
  rw [HW0.out]
  go_loopw [3, 4, 11] (fun d sm i wr => ∃ j : Nat, i = .int .i64 j ∧ j ≤ l.length ∧ d = .int .i64 ((bods (V.ts (l.take j)) : Nat) : Int) ∧ sm = .bool (smalls (V.ts (l.take j))) ∧ Below W0.heap.size W0 wr) (fun _ _ i _ => l.length - (intOf i).toNat)
  case atStart => exact ⟨0, rfl, Nat.zero_le _, by simp [bods, V.ts], by simp [smalls, V.ts], Below.refl _ _⟩
  case round =>
    obtain ⟨j, rfl, hj, rfl, rfl, hbr⟩ := hrel
    have hbw := belOn hb0 (by omega) hbr
    have hsz := hbr.size
    by_cases hjl : j < l.length
    · obtain ⟨b, o, rfl, hlt, hr⟩ := (HL.out.keep hbw hn).row (by omega)
      obtain ⟨x0, x1, x2, x3, x4⟩ := hr j hjl
      have hmem := List.getElem_mem hjl
      have hbj : T.body l[j].t ≤ 1000000000 := by
        have := bods_snoc l j hjl
        have := bods_le l (j + 1)
        omega
      have hba := bel1 hbr hsz (Obj.cells #[.int .i64 l[j].k, .int .u64 l[j].n, .string l[j].s, .slice l[j].a l[j].l.length l[j].c, .int .i64 l[j].e] 25)
      have hx := IH.out l[j] hmem (f - 1) n₀ _ (by simp; omega) ((HL.out.sub _ hmem).keep (belOn hb0 (by omega) hba) hn) (HT.out.below (belOn hb0 (by omega) hba)) (SUB.out _ hmem) hbj
      rw [V.val_eq] at hx
      have HX := hide hx
      have hsown : 0 ≤ l[j].k ∧ l[j].k ≤ 24 := by rw [HE.out _ hmem]; omega
      have hnown : 0 ≤ l[j].n ∧ l[j].n < 18446744073709551616 := by
        have h := SUB.out _ hmem
        obtain ⟨k', n', s', a', c', e', l', hv⟩ := V.ex l[j]
        rw [hv] at h ⊢
        obtain ⟨_, o, _⟩ := gd_own B W h
        exact ⟨o.n0, o.n1⟩
      have HS : Hid (∀ W1, Calls Tryz.prog 53 #[.agg #[.int .i64 l[j].k, .int .u64 l[j].n, .string l[j].s, .slice l[j].a l[j].l.length l[j].c, .int .i64 l[j].e], .int .i64 ((T.body l[j].t : Nat) : Int)] W1 fun r w' => r = .returned (.bool (smallC l[j].k l[j].n (T.body l[j].t))) ∧ Below W1.heap.size W1 w') := fun W1 => by
        have := isSmall_any l[j] (T.body l[j].t) hsown hnown (by omega) W1
        rw [V.val_eq] at this
        exact this
      have HBS := hide (bods_snoc l j hjl)
      have HSS := hide (smalls_snoc l j hjl)
      rw [(tk_eq l[j]).1, (tk_eq l[j]).2] at HSS
      have hbl := (hz j).out
      have hbl1 := (hz (j + 1)).out
      have hbsum : bods (V.ts (l.take j)) + T.body l[j].t ≤ 1000000000 := by have := HBS.out; omega
      clear hx hr hsown hnown
      obtain ⟨W1, hW1⟩ : ∃ W1, wr.alloc (Obj.cells #[.int .i64 l[j].k, .int .u64 l[j].n, .string l[j].s, .slice l[j].a l[j].l.length l[j].c, .int .i64 l[j].e] 25) = W1 := ⟨_, rfl⟩
      have HCX : Hid (∀ W2, Below W1.heap.size W1 W2 → W2.cell? ⟨wr.heap.size, 0, none⟩ = some (.int .i64 l[j].k) ∧ W2.cell? ⟨wr.heap.size, 1, none⟩ = some (.int .u64 l[j].n) ∧ W2.cell? ⟨wr.heap.size, 2, none⟩ = some (.string l[j].s) ∧ W2.cell? ⟨wr.heap.size, 3, none⟩ = some (.slice l[j].a l[j].l.length l[j].c) ∧ W2.cell? ⟨wr.heap.size, 4, none⟩ = some (.int .i64 l[j].e)) := fun W2 hW => by
        have hh : W2.heap[wr.heap.size]? = some (.cells #[.int .i64 l[j].k, .int .u64 l[j].n, .string l[j].s, .slice l[j].a l[j].l.length l[j].c, .int .i64 l[j].e] 25) := (hW.block _ (by rw [← hW1]; simp)).trans (by rw [← hW1]; exact World.alloc_heap_new _ _)
        simp [World.cell?, hh]
      have hs1 : W1.heap.size = wr.heap.size + 1 := by rw [← hW1]; simp
      rw [hW1] at hba HX
      have HW1 := hide hW1
      have HS1 := hide hs1
      clear hW1 hs1
      go_wp2_with fail
      rw [HW1.out]
      refine Calls.mono HX.out ?_
      rintro e1 w1 ⟨rfl, hb1⟩
      obtain ⟨c0, c1, c2, c3, c4⟩ := HCX.out w1 hb1
      have hbr1 := belOn hba (by have := HS1.out; omega) hb1
      have hlt1 : wr.heap.size < w1.heap.size := by have := hb1.size; have := HS1.out; omega
      generalize hsmv : smalls (V.ts (l.take j)) = smv at HSS ⊢
      have HSMV := hide hsmv
      clear hsmv
      generalize smalls (V.ts (l.take j)) = q1 at *
      cases smv
      · go_wp2
        go_roundw
        case rel =>
          refine ⟨j + 1, by go_num, hjl, ?_, ?_, hbr1⟩
          · rw [HBS.out]; go_num
          · rw [HSS.out]; rfl
        case measure => simp [intOf]; omega
      · go_wp2_with fail
        refine Calls.mono (HS.out _) ?_
        rintro e2 w2 ⟨rfl, hb2⟩
        have hbr2 := belOn hbr1 (by have := hbr1.size; omega) hb2
        go_wp2
        go_roundw
        case rel =>
          refine ⟨j + 1, by go_num, hjl, ?_, ?_, hbr2⟩
          · rw [HBS.out]; go_num
          · rw [HSS.out]; rfl
        case measure => simp [intOf]; omega
    · obtain rfl : j = l.length := by omega
      obtain ⟨c3, c4⟩ := HC.out wr hbr
      have HTL : Hid (l.take l.length = l) := List.take_length
      rw [HTL.out]
      go_wp2_with fail
      refine Calls.mono (HP.out _ hbw) ?_
      rintro e1 w1 ⟨rfl, rfl⟩
      go_wp2_with fail
      go_region_held (fun W1 => W1.cell? ⟨w.heap.size, 3, none⟩ = some (.slice a l.length c)) (go_keep) ((first | (go_at_call 39; refine Calls.mono (HH.out _) ?_; rintro e2 w2 ⟨rfl, rfl⟩)))
      have hml := HMUL.out
      go_wp2
      go_ret2
      refine ⟨?_, hbw.drew⟩
      have e1 : IntKind.i64.wrap (((bods (V.ts l) : Nat) : Int) + IntKind.i64.wrap ((l.length : Int) * (hd : Int))) = ((bods (V.ts l) + l.length * hd : Nat) : Int) := by
        have q1 : (l.length : Int) * (hd : Int) = ((l.length * hd : Nat) : Int) := by simp
        rw [q1]
        generalize l.length * hd = m at hml
        rw [wrap_nat m (by omega), ← Int.natCast_add, wrap_nat _ (by omega)]
      show Ending.returned (.tuple #[.int .u8 (pc : Int), .int .i64 (IntKind.i64.wrap (((bods (V.ts l) : Nat) : Int) + IntKind.i64.wrap ((l.length : Int) * (hd : Int))))]) = _
      rw [e1]
set_option maxRecDepth 100000 in
set_option maxHeartbeats 2000000 in
theorem body_list (k n : Int) (s : ByteArray) (a : Option Addr) (c : Nat) (e : Int) (l : List V) (hk : k ≠ 18 ∧ k ≠ 19 ∧ k ≠ 20 ∧ k ≠ 23) (ih : ∀ x ∈ l, BodyOk B W x) : BodyOk B W (V.of k n s a c e l) := by
  intro f n₀ w hn hl hT hg hb
  obtain ⟨hf, own, sub⟩ := gd_own B W hg
  rw [body_enc_t _ _ _ _ _ _ _ hk] at hb ⊢
  have ok := hl.ok
  have o2 := ok.l
  have o3 := ok.c
  have HL := hide hl
  have HT := hide hT
  have IH := hide ih
  have SUB := hide sub
  have hz : ∀ j : Nat, Hid (lens (V.ts (l.take j)) ≤ lens (V.ts l)) := fun j => lens_le l j
  have g1 : (k == 18) = false := by rw [beq_eq_false_iff_ne]; exact hk.1
  have g2 : (k == 19) = false := by rw [beq_eq_false_iff_ne]; exact hk.2.1
  have g3 : (k == 20) = false := by rw [beq_eq_false_iff_ne]; exact hk.2.2.1
  have g4 : (k == 23) = false := by rw [beq_eq_false_iff_ne]; exact hk.2.2.2
  clear hl hT hg ih sub own ok hk
  rw [V.val_of]
  have hb0 := bel1 (Below.refl w.heap.size w) (Nat.le_refl _) (Obj.cells #[.int .i64 k, .int .u64 n, .string s, .slice a l.length c, .int .i64 e] 25)
  obtain ⟨W0, hW0⟩ : ∃ W0, w.alloc (Obj.cells #[.int .i64 k, .int .u64 n, .string s, .slice a l.length c, .int .i64 e] 25) = W0 := ⟨_, rfl⟩
  have hs0 : W0.heap.size = w.heap.size + 1 := by rw [← hW0]; simp
  rw [hW0] at hb0
  have HW0 := hide hW0
  clear hW0
  go_enter Tryz.func51, Tryz.ntmps51
  go_wp2_with fail
  rw [HW0.out]
  go_loopw [5, 29] (fun d i wr => ∃ j : Nat, i = .int .i64 j ∧ j ≤ l.length ∧ d = .int .i64 ((lens (V.ts (l.take j)) : Nat) : Int) ∧ Below W0.heap.size W0 wr) (fun _ i _ => l.length - (intOf i).toNat)
  case atStart => exact ⟨0, rfl, Nat.zero_le _, by simp [lens, V.ts], Below.refl _ _⟩
  case round =>
    obtain ⟨j, rfl, hj, rfl, hbr⟩ := hrel
    have hbw := belOn hb0 (by omega) hbr
    have hsz := hbr.size
    by_cases hjl : j < l.length
    · obtain ⟨b, o, rfl, hlt, hr⟩ := (HL.out.keep hbw hn).row (by omega)
      obtain ⟨x0, x1, x2, x3, x4⟩ := hr j hjl
      have hmem := List.getElem_mem hjl
      have HBS := hide (lens_snoc l j hjl)
      have hbl := (hz j).out
      have hbl1 := (hz (j + 1)).out
      have hbj : T.body l[j].t ≤ 1000000000 := by
        have := HBS.out
        have : T.body l[j].t ≤ T.len l[j].t := by unfold T.len; omega
        omega
      have hbsum : lens (V.ts (l.take j)) + T.len l[j].t ≤ 1000000000 := by have := HBS.out; omega
      have hba := bel1 hbr hsz (Obj.cells #[.int .i64 l[j].k, .int .u64 l[j].n, .string l[j].s, .slice l[j].a l[j].l.length l[j].c, .int .i64 l[j].e] 25)
      have hx := length_of B W l[j] (IH.out l[j] hmem) (f - 1) n₀ _ (by simp; omega) ((HL.out.sub _ hmem).keep (belOn hb0 (by omega) hba) hn) (HT.out.below (belOn hb0 (by omega) hba)) (SUB.out _ hmem) hbj
      rw [V.val_eq] at hx
      have HX := hide hx
      clear hx hr
      go_wp2_with fail
      refine Calls.mono HX.out ?_
      rintro e1 w1 ⟨rfl, hb1⟩
      have hbr1 := belOn hba (by simp; omega) hb1
      go_wp2
      go_roundw
      case rel =>
        refine ⟨j + 1, by go_num, hjl, ?_, hbr1⟩
        rw [HBS.out]; go_num
      case measure => simp [intOf]; omega
    · obtain rfl : j = l.length := by omega
      have HTL : Hid (l.take l.length = l) := List.take_length
      rw [HTL.out]
      go_wp2
      go_ret
      exact ⟨rfl, hbw⟩
set_option maxRecDepth 100000 in
set_option maxHeartbeats 2000000 in
theorem body_any : ∀ x, BodyOk B W x := by
  refine V.ind ?_
  intro k n s a c e l ih
  by_cases ht : k = 18 ∨ k = 19 ∨ k = 20
  · intro f n₀ w hn hl hT hg hb
    have hbt : T.body (V.of k n s a c e l).t = s.size := by rw [V.t_of]; exact body_txt _ _ _ _ _ _ _ ht
    rw [hbt]
    have ok := hl.ok
    have o1 := ok.s
    have hb0 := bel1 (Below.refl w.heap.size w) (Nat.le_refl _) (Obj.cells #[.int .i64 k, .int .u64 n, .string s, .slice a l.length c, .int .i64 e] 25)
    clear hl hT hg ih hb hbt ok
    rw [V.val_of]
    rcases ht with rfl | rfl | rfl
    all_goals
      go_enter Tryz.func51, Tryz.ntmps51
      go_wp2
      go_ret
      exact ⟨rfl, hb0⟩
  by_cases ha : k = 23
  · subst ha
    intro f n₀ w hn hl hT hg hb
    have HA : Hid (∀ W1, Below w.heap.size w W1 → Calls Tryz.prog 82 #[.agg #[.int .i64 23, .int .u64 n, .string s, .slice a l.length c, .int .i64 e]] W1 fun e' w' => e' = .returned (.tuple #[.int .u8 ((T.acode (V.of 23 n s a c e l).t : Nat) : Int), .int .i64 ((bods (V.ts l) + l.length * headC (T.acode (V.of 23 n s a c e l).t) : Nat) : Int)]) ∧ Below W1.heap.size W1 w') := fun W1 hW => by
      have := arrayForm_of B W n s a c e l ih f n₀ W1 (by have := hW.size; omega) (hl.keep hW hn) (hT.below hW) hg hb
      rw [V.val_of] at this
      exact this
    rw [body_arr_t] at hb ⊢
    have ok := hl.ok
    have hb0 := bel1 (Below.refl w.heap.size w) (Nat.le_refl _) (Obj.cells #[.int .i64 23, .int .u64 n, .string s, .slice a l.length c, .int .i64 e] 25)
    clear hl hT hg ih ok
    generalize bods (V.ts l) + l.length * headC (T.acode (V.of 23 n s a c e l).t) = q at HA hb ⊢
    generalize T.acode (V.of 23 n s a c e l).t = ac at HA
    rw [V.val_of]
    go_enter Tryz.func51, Tryz.ntmps51
    go_wp2_with fail
    refine Calls.mono (HA.out _ hb0) ?_
    rintro e1 w1 ⟨rfl, hb1⟩
    go_wp2
    go_ret
    exact ⟨by go_num, belOn hb0 (by simp) hb1⟩
  · exact body_list B W k n s a c e l ⟨by omega, by omega, by omega, ha⟩ ih
end
end Go.Proofs.YthhlpjhkeendcaaGreatDoor
