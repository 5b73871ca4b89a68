import Derived.Test.YtgpimajdcfoigabDoorD02
import Derived.Test.YtgpimajdcfoigabDoorProg
import Derived.Test.YtgpimajdcfoigabDoorD05
import Derived.WalkLawsBesides
import Derived.Handy
import Derived.Outline
import Derived.Deep.RegionHeldLaw

/- codec's small functions. codec.pick, and its table. codec.form, out of bodyLength. codec.form, length, out of bodyLength. -/
namespace Go.Proofs.YtgpimajdcfoigabDoor
open Go.RowKit
set_option linter.unusedVariables false
set_option linter.unusedSimpArgs false

theorem layout_any (c : Nat) (hc : c < 256) (w : World) :
    Calls Tryd.prog 33 #[.int .u8 (c : Int)] w fun e w' => e = .returned (.int .u8 ((c / 16 : Nat) : Int)) ∧ w = w' := by
  go_enter Tryd.func33, Tryd.ntmps33
  go_wp2
  go_ret
  exact ⟨by simp, rfl⟩
theorem numberWidth_any (c : Nat) (h0 : 80 ≤ c) (hc : c < 144) (w : World) :
    Calls Tryd.prog 37 #[.int .u8 (c : Int)] w fun e w' => e = .returned (.int .i64 ((nwid c : Nat) : Int)) ∧ w = w' := by
  have h4 : (c / 16 = 5 ∧ nwid c = 1) ∨ (c / 16 = 6 ∧ nwid c = 2) ∨ (c / 16 = 7 ∧ nwid c = 4) ∨ (c / 16 = 8 ∧ nwid c = 8) := by
    unfold nwid
    have : c / 16 = 5 ∨ c / 16 = 6 ∨ c / 16 = 7 ∨ c / 16 = 8 := by omega
    rcases this with h | h | h | h <;> simp [h]
  have hl := layout_any c (by omega) w
  rcases h4 with ⟨hq, hn⟩ | ⟨hq, hn⟩ | ⟨hq, hn⟩ | ⟨hq, hn⟩
  all_goals
    rw [hn]
    rw [hq] at hl
    have HL := hide hl
    clear hl hq hn
    go_enter Tryd.func37, Tryd.ntmps37
    go_wp2_with fail
    refine Calls.mono HL.out ?_
    rintro e w1 ⟨rfl, rfl⟩
    go_wp2
    go_ret
    exact ⟨rfl, rfl⟩
set_option maxHeartbeats 1000000 in
theorem head_any (c : Nat) (hc : c < 256) (h1 : c / 16 = 0 ∨ 4 ≤ c / 16) (w : World) :
    Calls Tryd.prog 29 #[.int .u8 (c : Int)] w fun e w' => e = .returned (.int .i64 ((headC c : Nat) : Int)) ∧ w = w' := by
  have hl := layout_any c hc w
  by_cases hw : 5 ≤ c / 16 ∧ c / 16 < 9
  · have hn := numberWidth_any c (by omega) (by omega) w
    have e : headC c = nwid c := by
      unfold headC
      simp only [show ¬ c / 16 = 0 by omega, show ¬ c / 16 = 4 by omega, show ¬ c / 16 = 9 by omega, show ¬ c / 16 = 10 by omega, show ¬ c / 16 = 11 by omega, show ¬ c / 16 = 12 by omega, show ¬ c / 16 = 14 by omega, show ¬ c / 16 = 13 by omega, show ¬ c / 16 = 15 by omega, if_false]
    rw [e]
    obtain ⟨q, hq⟩ : ∃ q, c / 16 = q := ⟨_, rfl⟩
    rw [hq] at hl hw
    have HL := hide hl
    have HN := hide hn
    obtain ⟨z, hz⟩ : ∃ z, nwid c = z := ⟨_, rfl⟩
    rw [hz] at HN ⊢
    clear hl hq hn e hz h1
    have hq4 : q = 5 ∨ q = 6 ∨ q = 7 ∨ q = 8 := by omega
    clear hw
    rcases hq4 with rfl | rfl | rfl | rfl
    all_goals
      go_enter Tryd.func29, Tryd.ntmps29
      go_wp2_with fail
      refine Calls.mono HL.out ?_
      rintro e w1 ⟨rfl, rfl⟩
      go_wp2_with fail
      refine Calls.mono HN.out ?_
      rintro e w1 ⟨rfl, rfl⟩
      go_wp2
      go_ret
      exact ⟨rfl, rfl⟩
  · have h8 : (c / 16 = 0 ∧ headC c = 0) ∨ (c / 16 = 4 ∧ headC c = 0) ∨ (c / 16 = 9 ∧ headC c = 16) ∨ (c / 16 = 10 ∧ headC c = 1) ∨ (c / 16 = 11 ∧ headC c = 4) ∨ (c / 16 = 12 ∧ headC c = 2) ∨ (c / 16 = 14 ∧ headC c = 2) ∨ (c / 16 = 13 ∧ headC c = 8) ∨ (c / 16 = 15 ∧ headC c = 8) := by
      unfold headC
      have : c / 16 = 0 ∨ c / 16 = 4 ∨ c / 16 = 9 ∨ c / 16 = 10 ∨ c / 16 = 11 ∨ c / 16 = 12 ∨ c / 16 = 14 ∨ c / 16 = 13 ∨ c / 16 = 15 := by omega
      rcases this with h | h | h | h | h | h | h | h | h <;> simp only [h] <;> simp
    clear h1 hw
    rcases h8 with ⟨hq, hn⟩ | ⟨hq, hn⟩ | ⟨hq, hn⟩ | ⟨hq, hn⟩ | ⟨hq, hn⟩ | ⟨hq, hn⟩ | ⟨hq, hn⟩ | ⟨hq, hn⟩ | ⟨hq, hn⟩
    all_goals
      rw [hn]
      rw [hq] at hl
      have HL := hide hl
      clear hl hq hn
      go_enter Tryd.func29, Tryd.ntmps29
      go_wp2_with fail
      refine Calls.mono HL.out ?_
      rintro e w1 ⟨rfl, rfl⟩
      go_wp2
      go_ret
      exact ⟨rfl, rfl⟩
theorem i8_small (n : Int) (h0 : 0 ≤ n) (h1 : n < 18446744073709551616) : (wrap64 n == wrap64 (IntKind.i8.wrap n)) = decide (n ≤ 127 ∨ 18446744073709551488 ≤ n) := by
  rw [Bool.eq_iff_iff]
  simp only [beq_iff_eq, decide_eq_true_eq, wrap64, IntKind.wrap, IntKind.bits, IntKind.signed]
  simp
  omega
set_option maxHeartbeats 1000000 in
theorem isSmall_any (v : V) (body : Nat) (hk : 0 ≤ v.k ∧ v.k ≤ 24) (hn : 0 ≤ v.n ∧ v.n < 18446744073709551616) (hb : body ≤ 1000000000000) (w : World) :
    Calls Tryd.prog 32 #[v.val, .int .i64 (body : Int)] w fun e w' => e = .returned (.bool (smallC v.k v.n body)) ∧ Below w.heap.size w w' := by
  have hi8 := i8_small v.n hn.1 hn.2
  rw [V.val_eq]
  have hb1 := bel1 (Below.refl w.heap.size w) (Nat.le_refl _) (Obj.cells #[.int .i64 v.k, .int .u64 v.n, .string v.s, .slice v.a v.l.length v.c, .int .i64 v.e] 25)
  have HI := hide hi8
  clear hi8
  go_enter Tryd.func32, Tryd.ntmps32
  go_wp2
  all_goals
    go_ret
    have hi8 := HI.out
    refine ⟨?_, hb1⟩
    simp_all [smallC]
    try omega
    done
end Go.Proofs.YtgpimajdcfoigabDoor
namespace Go.Proofs.YtgpimajdcfoigabDoor
open Go.RowKit
set_option linter.unusedVariables false
set_option linter.unusedSimpArgs false

/-- the table of constructors lies where it lies -/
def SzTab (w : World) : Prop := ∀ k, k < 25 → w.cell? ⟨0, k * 2, none⟩ = some (.int .u8 ((codeS.getD k 0 : Nat) : Int)) ∧ w.cell? ⟨0, k * 2 + 1, none⟩ = some (.int .u8 ((codeL.getD k 0 : Nat) : Int))
theorem SzTab.below {w w' : World} (h : SzTab w) (hb : Below w.heap.size w w') : SzTab w' := by
  have l0 := block_lt_of_cell (h 0 (by omega)).1
  exact fun k hk => ⟨(hb.cell (p := ⟨0, k * 2, none⟩) l0).trans (h k hk).1, (hb.cell (p := ⟨0, k * 2 + 1, none⟩) l0).trans (h k hk).2⟩
theorem SzTab.lt {w : World} (h : SzTab w) : 0 < w.heap.size := block_lt_of_cell (h 0 (by omega)).1
theorem pick_any (k : Nat) (b : Bool) (hk : k < 25) (w : World) (hT : SzTab w) :
    Calls Tryd.prog 31 #[.int .i64 (k : Int), .bool b] w fun e w' => e = .returned (.int .u8 ((pickC k b : Nat) : Int)) ∧ w = w' := by
  obtain ⟨h1, h2⟩ := hT k hk
  unfold pickC
  cases b
  · simp only [Bool.false_eq_true, if_false]
    generalize codeL.getD k 0 = x at h2
    clear h1 hT
    go_enter Tryd.func31, Tryd.ntmps31
    go_wp2
    go_ret
    exact ⟨rfl, rfl⟩
  · simp only [if_true]
    generalize codeS.getD k 0 = x at h1
    clear h2 hT
    go_enter Tryd.func31, Tryd.ntmps31
    go_wp2
    go_ret
    exact ⟨rfl, rfl⟩
end Go.Proofs.YtgpimajdcfoigabDoor
namespace Go.Proofs.YtgpimajdcfoigabDoor
open Go.RowKit
set_option linter.unusedVariables false
set_option linter.unusedSimpArgs false
section
variable (B : Nat → ByteArray → Int) (W : List T → Bool)

/-- what bodyLength is asked, of a value x -/
def BodyOk (x : V) : Prop := ∀ (f n₀ : Nat) (w : World), n₀ ≤ w.heap.size → Lies n₀ w x → SzTab w → Gd B W x.t f → T.body x.t ≤ 1000000000 →
  Calls Tryd.prog 30 #[x.val] w fun e w' => e = .returned (.int .i64 ((T.body x.t : Nat) : Int)) ∧ Below w.heap.size w w'
theorem code_of (k n : Int) (s : ByteArray) (a : Option Addr) (c : Nat) (e : Int) (l : List V) : T.code (V.of k n s a c e l).t = codeG k n l.length (T.body (V.of k n s a c e l).t) := by
  unfold T.code
  rw [V.t_of, show (T.of k n s e (V.ts l)).k = k from rfl, show (T.of k n s e (V.ts l)).n = n from rfl, show (T.of k n s e (V.ts l)).l = V.ts l from V.l_of _ _ _ _ _ _ _, V.ts_length]
theorem gd_own {k n : Int} {s : ByteArray} {a : Option Addr} {c : Nat} {e : Int} {l : List V} {f : Nat} (h : Gd B W (V.of k n s a c e l).t f) : 0 < f ∧ OwnG B W k n s e (V.ts l) ∧ ∀ x ∈ l, Gd B W x.t (f - 1) := by
  rw [V.t_of] at h
  obtain ⟨h1, h2, h3⟩ := (Gd_of _ _ _ _ _ _ _ _ _ _).1 h
  exact ⟨h1, h2, fun x hx => h3 x.t (by rw [V.ts_map]; exact List.mem_map.2 ⟨x, hx, rfl⟩)⟩
theorem ts_nil {l : List V} (h : V.ts l = []) : l = [] := by
  rw [V.ts_map] at h
  exact List.map_eq_nil_iff.1 h
set_option maxRecDepth 100000 in
set_option maxHeartbeats 2000000 in
theorem form_else (k n : Int) (s : ByteArray) (a : Option Addr) (c : Nat) (e : Int) (l : List V) (hx : BodyOk B W (V.of k n s a c e l)) (f n₀ : Nat) (w : World) (hn : n₀ ≤ w.heap.size) (hl : Lies n₀ w (V.of k n s a c e l)) (hT : SzTab w) (hg : Gd B W (V.of k n s a c e l).t f) (hb : T.body (V.of k n s a c e l).t ≤ 1000000000)
    (h1 : k ≠ 1) (h4 : k = 4 → n ≠ 0) (h5 : k = 5 → n ≠ 0) (h21 : k = 21 → l.length ≠ 0) :
    Calls Tryd.prog 22 #[(V.of k n s a c e l).val] w fun e' w' => e' = .returned (.tuple #[.int .u8 ((pickC k.toNat (smallC k n (T.body (V.of k n s a c e l).t)) : Nat) : Int), .int .i64 ((T.body (V.of k n s a c e l).t : Nat) : Int)]) ∧ Below w.heap.size w w' := by
  obtain ⟨hf, own, sub⟩ := gd_own B W hg
  obtain ⟨bd, hbd⟩ : ∃ bd, T.body (V.of k n s a c e l).t = bd := ⟨_, rfl⟩
  have HB : Hid (∀ W1, Below w.heap.size w W1 → Calls Tryd.prog 30 #[.agg #[.int .i64 k, .int .u64 n, .string s, .slice a l.length c, .int .i64 e]] W1 fun e w' => e = .returned (.int .i64 (bd : Int)) ∧ Below W1.heap.size W1 w') := fun W1 hW => by
    have := hx f n₀ W1 (by have := hW.size; omega) (hl.keep hW hn) (hT.below hW) hg hb
    rw [V.val_of, hbd] at this
    exact this
  have HS : Hid (∀ W1, Calls Tryd.prog 32 #[.agg #[.int .i64 k, .int .u64 n, .string s, .slice a l.length c, .int .i64 e], .int .i64 (bd : Int)] W1 fun e w' => e = .returned (.bool (smallC k n bd)) ∧ Below W1.heap.size W1 w') := fun W1 => by
    have := isSmall_any (V.of k n s a c e l) bd ⟨own.k0, own.k1⟩ ⟨own.n0, own.n1⟩ (by omega) W1
    rw [V.val_of] at this
    exact this
  have k0 := own.k0
  have k1 := own.k1
  have HP : Hid (∀ W1 b, Below w.heap.size w W1 → Calls Tryd.prog 31 #[.int .i64 k, .bool b] W1 fun e w' => e = .returned (.int .u8 ((pickC k.toNat b : Nat) : Int)) ∧ W1 = w') := fun W1 b hW => by
    have := pick_any k.toNat b (by omega) W1 (hT.below hW)
    rw [Int.toNat_of_nonneg k0] at this
    exact this
  have ok := hl.ok
  have o2 := ok.l
  have o3 := ok.c
  rw [hbd, V.val_of]
  have g1 : (k == 1) = false := by rw [beq_eq_false_iff_ne]; exact h1
  clear hx hl hT hg hb hbd own sub ok h1 k0 k1
  obtain ⟨sm, hsm⟩ : ∃ sm, smallC k n bd = sm := ⟨_, rfl⟩
  rw [hsm] at HS ⊢
  obtain ⟨pc, hpc⟩ : ∃ pc, pickC k.toNat sm = pc := ⟨_, rfl⟩
  have HP2 : Hid (∀ W1, Below w.heap.size w W1 → Calls Tryd.prog 31 #[.int .i64 k, .bool sm] W1 fun e w' => e = .returned (.int .u8 (pc : Int)) ∧ W1 = w') := fun W1 hW => by
    have := HP.out W1 sm hW
    rw [hpc] at this
    exact this
  rw [hpc]
  clear HP hpc hsm
  have hbx := bel1 (Below.refl w.heap.size w) (Nat.le_refl _) (Obj.cells #[.int .i64 k, .int .u64 n, .string s, .slice a l.length c, .int .i64 e] 25)
  obtain ⟨W0, hW0⟩ : ∃ W0, w.alloc (Obj.cells #[.int .i64 k, .int .u64 n, .string s, .slice a l.length c, .int .i64 e] 25) = W0 := ⟨_, rfl⟩
  have hs0 : W0.heap.size = w.heap.size + 1 := by rw [← hW0]; simp
  have HC : Hid (∀ W1, Below W0.heap.size W0 W1 → W1.cell? ⟨w.heap.size, 0, none⟩ = some (  .int .i64 k) ∧ W1.cell? ⟨w.heap.size, 1, none⟩ = some (.int .u64 n) ∧ W1.cell? ⟨w.heap.size, 2, none⟩ = some (.string s) ∧ W1.cell? ⟨w.heap.size, 3, none⟩ = some (.slice a l.length c) ∧ W1.cell? ⟨w.heap.size, 4, none⟩ = some (.int .i64 e)) := fun W1 hW => by
    have hh : W1.heap[w.heap.size]? = some (.cells #[.int .i64 k, .int .u64 n, .string s, .slice a l.length c, .int .i64 e] 25) := (hW.block _ (by omega)).trans (by rw [← hW0]; exact World.alloc_heap_new _ _)
    simp [World.cell?, hh]
  rw [hW0] at hbx
  have HW0 := hide hW0
  clear hW0
  have hcs : (k = 4 ∧ (n == 0) = false) ∨ (k = 5 ∧ (n == 0) = false) ∨ (k = 21 ∧ ((l.length : Int) == 0) = false) ∨ ((k == 4) = false ∧ (k == 5) = false ∧ (k == 21) = false) := by
    by_cases q4 : k = 4
    · exact .inl ⟨q4, by rw [beq_eq_false_iff_ne]; exact h4 (by omega)⟩
    by_cases q5 : k = 5
    · exact .inr (.inl ⟨q5, by rw [beq_eq_false_iff_ne]; exact h5 (by omega)⟩)
    by_cases q21 : k = 21
    · exact .inr (.inr (.inl ⟨q21, by rw [beq_eq_false_iff_ne]; have := h21 (by omega); omega⟩))
    · refine .inr (.inr (.inr ⟨?_, ?_, ?_⟩)) <;> rw [beq_eq_false_iff_ne] <;> omega
  clear h4 h5 h21
  go_enter Tryd.func22, Tryd.ntmps22
  rcases hcs with ⟨rfl, g2⟩ | ⟨rfl, g2⟩ | ⟨rfl, g2⟩ | ⟨g2, g3, g4⟩
  · go_wp2_with fail
    rw [HW0.out]
    refine Calls.mono (HB.out W0 hbx) ?_
    rintro e1 w1 ⟨rfl, hb1⟩
    obtain ⟨c0, c1, c2, c3, c4⟩ := HC.out w1 hb1
    have hz1 : w.heap.size < w1.heap.size := by have := hb1.size; omega
    have hbw := belOn hbx (by omega) hb1
    have hsz : W0.heap.size ≤ w1.drew.heap.size := hb1.size
    have hsw : w.heap.size ≤ W0.heap.size := by omega
    have hbd := hb1.drew
    go_wp2_with fail
    go_region_held (fun W1 => W1.cell? ⟨w.heap.size, 0, none⟩ = some (.int .i64 4) ∧ W1.cell? ⟨w.heap.size, 1, none⟩ = some (.int .u64 n) ∧ W1.cell? ⟨w.heap.size, 2, none⟩ = some (.string s) ∧ W1.cell? ⟨w.heap.size, 3, none⟩ = some (.slice a l.length c) ∧ W1.cell? ⟨w.heap.size, 4, none⟩ = some (.int .i64 e)) (go_keep) ((first | (go_at_call 32; refine Calls.mono (HS.out _) ?_; rintro e2 w2 ⟨rfl, hb2⟩; have hb3 := belOn hbd hsz hb2; obtain ⟨d0, d1, d2, d3, d4⟩ := HC.out w2 hb3) | (go_at_call 31; refine Calls.mono (HP2.out _ (belOn hbx hsw hb3)) ?_; rintro e3 w3 ⟨rfl, rfl⟩)))
    go_wp2
    go_ret2
    exact ⟨rfl, belOn hbx hsw hb3⟩
  · go_wp2_with fail
    rw [HW0.out]
    refine Calls.mono (HB.out W0 hbx) ?_
    rintro e1 w1 ⟨rfl, hb1⟩
    obtain ⟨c0, c1, c2, c3, c4⟩ := HC.out w1 hb1
    have hz1 : w.heap.size < w1.heap.size := by have := hb1.size; omega
    have hbw := belOn hbx (by omega) hb1
    have hsz : W0.heap.size ≤ w1.drew.heap.size := hb1.size
    have hsw : w.heap.size ≤ W0.heap.size := by omega
    have hbd := hb1.drew
    go_wp2_with fail
    go_region_held (fun W1 => W1.cell? ⟨w.heap.size, 0, none⟩ = some (.int .i64 5) ∧ W1.cell? ⟨w.heap.size, 1, none⟩ = some (.int .u64 n) ∧ W1.cell? ⟨w.heap.size, 2, none⟩ = some (.string s) ∧ W1.cell? ⟨w.heap.size, 3, none⟩ = some (.slice a l.length c) ∧ W1.cell? ⟨w.heap.size, 4, none⟩ = some (.int .i64 e)) (go_keep) ((first | (go_at_call 32; refine Calls.mono (HS.out _) ?_; rintro e2 w2 ⟨rfl, hb2⟩; have hb3 := belOn hbd hsz hb2; obtain ⟨d0, d1, d2, d3, d4⟩ := HC.out w2 hb3) | (go_at_call 31; refine Calls.mono (HP2.out _ (belOn hbx hsw hb3)) ?_; rintro e3 w3 ⟨rfl, rfl⟩)))
    go_wp2
    go_ret2
    exact ⟨rfl, belOn hbx hsw hb3⟩
  · go_wp2_with fail
    rw [HW0.out]
    refine Calls.mono (HB.out W0 hbx) ?_
    rintro e1 w1 ⟨rfl, hb1⟩
    obtain ⟨c0, c1, c2, c3, c4⟩ := HC.out w1 hb1
    have hz1 : w.heap.size < w1.heap.size := by have := hb1.size; omega
    have hbw := belOn hbx (by omega) hb1
    have hsz : W0.heap.size ≤ w1.drew.heap.size := hb1.size
    have hsw : w.heap.size ≤ W0.heap.size := by omega
    have hbd := hb1.drew
    go_wp2_with fail
    go_region_held (fun W1 => W1.cell? ⟨w.heap.size, 0, none⟩ = some (.int .i64 21) ∧ W1.cell? ⟨w.heap.size, 1, none⟩ = some (.int .u64 n) ∧ W1.cell? ⟨w.heap.size, 2, none⟩ = some (.string s) ∧ W1.cell? ⟨w.heap.size, 3, none⟩ = some (.slice a l.length c) ∧ W1.cell? ⟨w.heap.size, 4, none⟩ = some (.int .i64 e)) (go_keep) ((first | (go_at_call 32; refine Calls.mono (HS.out _) ?_; rintro e2 w2 ⟨rfl, hb2⟩; have hb3 := belOn hbd hsz hb2; obtain ⟨d0, d1, d2, d3, d4⟩ := HC.out w2 hb3) | (go_at_call 31; refine Calls.mono (HP2.out _ (belOn hbx hsw hb3)) ?_; rintro e3 w3 ⟨rfl, rfl⟩)))
    go_wp2
    go_ret2
    exact ⟨rfl, belOn hbx hsw hb3⟩
  · go_wp2_with fail
    rw [HW0.out]
    refine Calls.mono (HB.out W0 hbx) ?_
    rintro e1 w1 ⟨rfl, hb1⟩
    obtain ⟨c0, c1, c2, c3, c4⟩ := HC.out w1 hb1
    have hz1 : w.heap.size < w1.heap.size := by have := hb1.size; omega
    have hbw := belOn hbx (by omega) hb1
    have hsz : W0.heap.size ≤ w1.drew.heap.size := hb1.size
    have hsw : w.heap.size ≤ W0.heap.size := by omega
    have hbd := hb1.drew
    go_wp2_with fail
    go_region_held (fun W1 => W1.cell? ⟨w.heap.size, 0, none⟩ = some (.int .i64 k) ∧ W1.cell? ⟨w.heap.size, 1, none⟩ = some (.int .u64 n) ∧ W1.cell? ⟨w.heap.size, 2, none⟩ = some (.string s) ∧ W1.cell? ⟨w.heap.size, 3, none⟩ = some (.slice a l.length c) ∧ W1.cell? ⟨w.heap.size, 4, none⟩ = some (.int .i64 e)) (go_keep) ((first | (go_at_call 32; refine Calls.mono (HS.out _) ?_; rintro e2 w2 ⟨rfl, hb2⟩; have hb3 := belOn hbd hsz hb2; obtain ⟨d0, d1, d2, d3, d4⟩ := HC.out w2 hb3) | (go_at_call 31; refine Calls.mono (HP2.out _ (belOn hbx hsw hb3)) ?_; rintro e3 w3 ⟨rfl, rfl⟩)))
    go_wp2
    go_ret2
    exact ⟨rfl, belOn hbx hsw hb3⟩
end
end Go.Proofs.YtgpimajdcfoigabDoor
namespace Go.Proofs.YtgpimajdcfoigabDoor
open Go.RowKit
set_option linter.unusedVariables false
set_option linter.unusedSimpArgs false
section
variable (B : Nat → ByteArray → Int) (W : List T → Bool)

theorem pick_lay : ∀ k, k < 25 → ∀ b, pickC k b / 16 = 0 ∨ 4 ≤ pickC k b / 16 := by decide
theorem pick_head : ∀ k, k < 25 → ∀ b, headC (pickC k b) ≤ 16 := by decide
theorem fits_lay {t : T} {c : Nat} (h : FitsC t c) (h0 : 0 ≤ t.k) (h1 : t.k ≤ 24) : (c / 16 = 0 ∨ 4 ≤ c / 16) ∧ headC c ≤ 16 := by
  rcases fits_cases h with ⟨hk, _, rfl⟩ | ⟨hk, _, rfl⟩ | ⟨hk, _, rfl⟩ | ⟨hk, _, rfl⟩ | ⟨hk, _, rfl⟩ | rfl | ⟨rfl, _⟩
  · decide
  · decide
  · decide
  · decide
  · decide
  · exact ⟨pick_lay _ (by omega) _, pick_head _ (by omega) _⟩
  · exact ⟨pick_lay _ (by omega) _, pick_head _ (by omega) _⟩
set_option maxRecDepth 100000 in
set_option maxHeartbeats 2000000 in
theorem form_of (x : V) (hx : BodyOk B W x) (f n₀ : Nat) (w : World) (hn : n₀ ≤ w.heap.size) (hl : Lies n₀ w x) (hT : SzTab w) (hg : Gd B W x.t f) (hb : T.body x.t ≤ 1000000000) :
    Calls Tryd.prog 22 #[x.val] w fun e' w' => e' = .returned (.tuple #[.int .u8 ((T.code x.t : Nat) : Int), .int .i64 ((T.body x.t : Nat) : Int)]) ∧ Below w.heap.size w w' := by
  obtain ⟨k, n, s, a, c, e, l, rfl⟩ := V.ex x
  have hbx := bel1 (Below.refl w.heap.size w) (Nat.le_refl _) (Obj.cells #[.int .i64 k, .int .u64 n, .string s, .slice a l.length c, .int .i64 e] 25)
  rw [code_of]
  by_cases hsp : k = 1 ∨ (k = 4 ∧ n = 0) ∨ (k = 5 ∧ n = 0) ∨ (k = 21 ∧ l.length = 0)
  · obtain ⟨hf, own, sub⟩ := gd_own B W hg
    have hl0 : l = [] := by
      by_cases h21 : k = 21
      · exact List.eq_nil_of_length_eq_zero (by omega)
      · exact ts_nil (own.isNum (by omega)).2.1
    subst hl0
    have hb0 : T.body (V.of k n s a c e []).t = 0 := by rw [V.t_of]; exact body_none _ _ _ _ _ _ (by omega)
    rw [hb0]
    have ok := hl.ok
    rw [V.val_of]
    rcases hsp with rfl | ⟨rfl, rfl⟩ | ⟨rfl, rfl⟩ | ⟨rfl, _⟩
    · by_cases h1 : n = 1
      · subst h1
        clear hx hl hT hg hb own sub hb0 ok
        go_enter Tryd.func22, Tryd.ntmps22
        go_wp2
        go_ret2
        exact ⟨by simp [codeG], hbx⟩
      · have h1' : (n == 1) = false := by rw [beq_eq_false_iff_ne]; exact h1
        clear hx hl hT hg hb own sub hb0 ok
        have hcg : codeG 1 n ([] : List V).length 0 = 66 := by simp [codeG, h1]
        rw [hcg]
        clear h1 hcg
        go_enter Tryd.func22, Tryd.ntmps22
        go_wp2
        go_ret2
        exact ⟨rfl, hbx⟩
    · clear hx hl hT hg hb own sub hb0 ok
      go_enter Tryd.func22, Tryd.ntmps22
      go_wp2
      go_ret2
      exact ⟨by simp [codeG], hbx⟩
    · clear hx hl hT hg hb own sub hb0 ok
      go_enter Tryd.func22, Tryd.ntmps22
      go_wp2
      go_ret2
      exact ⟨by simp [codeG], hbx⟩
    · clear hx hl hT hg hb own sub hb0 ok
      rw [List.length_nil]
      go_enter Tryd.func22, Tryd.ntmps22
      go_wp2
      go_ret2
      exact ⟨by simp [codeG], hbx⟩
  · have h := form_else B W k n s a c e l hx f n₀ w hn hl hT hg hb (by omega) (fun h1 h2 => hsp (by omega)) (fun h1 h2 => hsp (by omega)) (fun h1 h2 => hsp (by omega))
    have he : codeG k n l.length (T.body (V.of k n s a c e l).t) = pickC k.toNat (smallC k n (T.body (V.of k n s a c e l).t)) := by
      unfold codeG
      rw [if_neg (by omega), if_neg (by omega), if_neg (by omega), if_neg (by omega)]
    rw [he]
    exact h
/-- what length is asked, of a value x -/
theorem length_of (x : V) (hx : BodyOk B W x) (f n₀ : Nat) (w : World) (hn : n₀ ≤ w.heap.size) (hl : Lies n₀ w x) (hT : SzTab w) (hg : Gd B W x.t f) (hb : T.body x.t ≤ 1000000000) :
    Calls Tryd.prog 20 #[x.val] w fun e' w' => e' = .returned (.int .i64 ((T.len x.t : Nat) : Int)) ∧ Below w.heap.size w w' := by
  have hk : 0 ≤ x.t.k ∧ x.t.k ≤ 24 := by
    obtain ⟨k, n, s, a, c, e, l, rfl⟩ := V.ex x
    obtain ⟨hf, own, sub⟩ := gd_own B W hg
    rw [V.t_of]
    exact ⟨own.k0, own.k1⟩
  have h1 := kind_code (.inl rfl : FitsC x.t x.t.code) hk.1 hk.2
  have h2 := fits_lay (.inl rfl : FitsC x.t x.t.code) hk.1 hk.2
  have HF : Hid (∀ W1, Below w.heap.size w W1 → Calls Tryd.prog 22 #[.agg #[.int .i64 x.k, .int .u64 x.n, .string x.s, .slice x.a x.l.length x.c, .int .i64 x.e]] W1 fun e' w' => e' = .returned (.tuple #[.int .u8 ((T.code x.t : Nat) : Int), .int .i64 ((T.body x.t : Nat) : Int)]) ∧ Below W1.heap.size W1 w') := fun W1 hW => by
    have := form_of B W x hx f n₀ W1 (by have := hW.size; omega) (hl.keep hW hn) (hT.below hW) hg hb
    rw [V.val_eq] at this
    exact this
  have HH : Hid (∀ W1, Calls Tryd.prog 29 #[.int .u8 ((T.code x.t : Nat) : Int)] W1 fun e w' => e = .returned (.int .i64 ((headC (T.code x.t) : Nat) : Int)) ∧ W1 = w') := fun W1 => head_any _ h1.2 h2.1 W1
  have h3 := h2.2
  have HL : Hid (T.len x.t = 1 + headC (T.code x.t) + T.body x.t) := rfl
  rw [V.val_eq]
  generalize T.len x.t = len at HL ⊢
  generalize headC (T.code x.t) = hd at HH HL h3
  generalize T.code x.t = cd at HF HH
  generalize T.body x.t = bd at HF HL hb
  clear hx hl hT hg h1 h2 hk
  have hbx := bel1 (Below.refl w.heap.size w) (Nat.le_refl _) (Obj.cells #[.int .i64 x.k, .int .u64 x.n, .string x.s, .slice x.a x.l.length x.c, .int .i64 x.e] 25)
  go_enter Tryd.func20, Tryd.ntmps20
  go_wp2_with fail
  refine Calls.mono (HF.out _ hbx) ?_
  rintro e1 w1 ⟨rfl, hb1⟩
  go_wp2_with fail
  refine Calls.mono (HH.out _) ?_
  rintro e2 w2 ⟨rfl, rfl⟩
  go_wp2
  go_ret
  refine ⟨?_, belOn hbx (by simp) hb1⟩
  rw [HL.out]
  go_num
end
end Go.Proofs.YtgpimajdcfoigabDoor
