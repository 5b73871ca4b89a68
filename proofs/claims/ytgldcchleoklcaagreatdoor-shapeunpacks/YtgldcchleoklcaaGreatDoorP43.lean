/- HRFit, HRUnp, HRSym, HRComp, HRM, HRGl -/
import Derived.Test.YtgldcchleoklcaaGreatDoorP20
import Derived.Test.YtgldcchleoklcaaGreatDoorP41
import Derived.Test.YtgldcchleoklcaaGreatDoorP24
import Derived.Test.YtgldcchleoklcaaGreatDoorP25
import Derived.Test.YtgldcchleoklcaaGreatDoorP27
import Derived.Test.YtgldcchleoklcaaGreatDoorP40
import Derived.Deep.WholeRow
namespace Go.Proofs.YtgldcchleoklcaaGreatDoor
open Go.RowKit
set_option linter.unusedVariables false
set_option linter.unusedSimpArgs false
set_option maxRecDepth 100000 in
set_option maxHeartbeats 2000000 in
theorem among_any (n : Int) (ka : Option Addr) (ks : List Int) (M : Nat) (hM : ks.length = M) (w : World) (hk : 0 < M → ∃ b, ka = some ⟨b, 0, none⟩ ∧ b < w.heap.size ∧ Ints w b ks) (hl : M ≤ 100) :
    Calls Tryz.prog 116 #[.int .i64 n, .slice ka M M] w fun e w' => e = .returned (.bool (ks.contains n)) ∧ w' = w := by
  have HK := hide hk
  have HM := hide hM
  obtain ⟨r, hr⟩ : ∃ r, ks.contains n = r := ⟨_, rfl⟩
  rw [hr]
  have HR := hide hr
  clear hk hM hr
  go_enter Tryz.func116, Tryz.ntmps116
  go_wp2
  go_loopw [5] (fun i wr => ∃ j : Nat, i = .int .i64 j ∧ j ≤ M ∧ Hid (wr = w) ∧ Hid (∀ m (h : m < ks.length), m < j → ks[m] ≠ n)) (fun i _ => M - (intOf i).toNat)
  case atStart => exact ⟨0, rfl, Nat.zero_le _, rfl, fun m _ h => absurd h (by omega)⟩
  case round =>
    obtain ⟨j, rfl, hj, HW, HN⟩ := hrel
    have hw := HW.out
    subst hw
    by_cases hjM : j < M
    · obtain ⟨b, rfl, hb, hi⟩ := HK.out (by omega)
      have hjk : j < ks.length := by rw [HM.out]; exact hjM
      have hc : wr.cell? ⟨b, j, none⟩ = some (.int .i64 ks[j]) := by
        unfold World.cell?
        have h : wr.heap[b]? = _ := hi
        simp only [h]
        simp [hjk]
      by_cases he : ks[j] = n
      · have HT : Hid (r = true) := by
          rw [Hid, ← HR.out, List.contains_iff_mem]
          rw [← he]
          exact List.getElem_mem hjk
        rw [he] at hc
        clear hi he
        go_wp2
        go_ret
        exact ⟨congrArg (fun b => Ending.returned (Value.bool b)) HT.out.symm, rfl⟩
      · have heb : (ks[j] == n) = false := by simpa using he
        have HE := hide he
        clear hi he
        go_wp2
        go_roundw
        case rel => exact ⟨j + 1, by go_num, by omega, by trivial, fun m h hm => by
          by_cases e : m = j
          · subst e; exact HE.out
          · exact HN.out m h (by omega)⟩
        case measure => simp [intOf]; omega
    · obtain rfl : j = M := by omega
      have HT : Hid (r = false) := by
        rw [Hid, ← HR.out, Bool.eq_false_iff]
        intro h
        rw [List.contains_iff_mem] at h
        obtain ⟨m, hm, e⟩ := List.mem_iff_getElem.1 h
        exact HN.out m hm (by rw [HM.out] at hm; exact hm) e
      go_wp2
      go_ret
      exact ⟨congrArg (fun b => Ending.returned (Value.bool b)) HT.out.symm, rfl⟩
def fitsT (f : FS) (k e : Int) (o : Option Int) : Bool := if f.ty = 100 then true else if f.ty = 101 then (k == 23 && e == 20) else if f.ty = 102 then (match o with | some q => f.ks.contains q | none => false) else k == f.ty
set_option maxRecDepth 100000 in
set_option maxHeartbeats 4000000 in
theorem fits_any (f : Fd) (s : FS) (v : V) (n₀ : Nat) (w : World) (hn : n₀ ≤ w.heap.size) (hf : FdIn 0 w f s) (hks : s.ks.length ≤ 100) (hv : Lies n₀ w v) :
    Calls Tryz.prog 101 #[f.val, v.val] w fun e w' => e = .returned (.bool (fitsT s v.k v.e (kindV v.k v.l))) ∧ Below w.heap.size w w' := by
  obtain ⟨q1, q2, q3, q4, q5, q6, q7⟩ := hf
  have hty := q2
  rw [Fd.val_eq, V.val_eq, q2, q5, q6]
  obtain ⟨W0, hW0⟩ : ∃ W0, (w.alloc (Obj.cells #[.string f.name, .int .i64 s.ty, .slice f.ka s.ks.length s.ks.length, .bool f.must, .int .i64 f.d.k, .int .u64 f.d.n, .string f.d.s, .slice f.d.a f.d.l.length f.d.c, .int .i64 f.d.e] 66)).alloc (Obj.cells #[.int .i64 v.k, .int .u64 v.n, .string v.s, .slice v.a v.l.length v.c, .int .i64 v.e] 42) = W0 := ⟨_, rfl⟩
  have hs0 : W0.heap.size = w.heap.size + 2 := by rw [← hW0]; simp
  have hb0 : Below w.heap.size w W0 := by rw [← hW0]; exact bel2 (Below.refl _ _) (Nat.le_refl _) _ _
  have hx0 : W0.heap[w.heap.size]? = some (.cells #[.string f.name, .int .i64 s.ty, .slice f.ka s.ks.length s.ks.length, .bool f.must, .int .i64 f.d.k, .int .u64 f.d.n, .string f.d.s, .slice f.d.a f.d.l.length f.d.c, .int .i64 f.d.e] 66 (0, 0)) := by rw [← hW0]; exact heap_past (World.alloc_heap_new _ _) _
  have hkd := rkind_any v n₀ W0 (by omega) (hv.keep hb0 hn)
  unfold KindPost at hkd
  rw [V.val_eq] at hkd
  have HKD := hide hkd
  have HW0 := hide hW0
  have HBW : Hid (∀ o p, Below w.heap.size w ((w.alloc o).alloc p)) := fun o p => bel2 (Below.refl _ _) (Nat.le_refl _) o p
  obtain ⟨M, hM⟩ : ∃ M, s.ks.length = M := ⟨_, rfl⟩
  have HAM : Hid (∀ q W', Below W0.heap.size W0 W' → Calls Tryz.prog 116 #[.int .i64 q, .slice f.ka M M] W' fun e w' => e = .returned (.bool (s.ks.contains q)) ∧ w' = W') := fun q W' h => by
    refine among_any q f.ka s.ks M hM W' (fun h0 => ?_) (by omega)
    obtain ⟨b, e, _, r2, r3⟩ := q7 (by omega)
    have hb' : Below w.heap.size w W' := belOn hb0 (by omega) h
    exact ⟨b, e, by have := hb'.size; omega, (hb'.block b r2).trans r3⟩
  have HC : Hid (∀ W', Below W0.heap.size W0 W' → W'.cell? ⟨w.heap.size, 2, none⟩ = some (.slice f.ka M M) ∧ w.heap.size < W'.heap.size ∧ Below w.heap.size w W') := fun W' h => by
    have hxx := (h.block w.heap.size (by omega)).trans hx0
    refine ⟨?_, by have := h.size; omega, belOn hb0 (by omega) h⟩
    unfold World.cell?
    simp only [hxx]
    rw [← hM]
    rfl
  rw [hM]
  rw [hM] at HW0
  clear hx0 q1 q2 q3 q4 q5 q6 q7 hkd hW0 hv hs0 hb0 hty
  unfold fitsT
  generalize kindV v.k v.l = o at HKD ⊢
  by_cases h100 : s.ty = 100
  · rw [if_pos h100, h100]
    go_enter Tryz.func101, Tryz.ntmps101
    go_wp2
    go_ret
    exact ⟨rfl, HBW.out _ _⟩
  rw [if_neg h100]
  have b100 : (s.ty == 100) = false := by simpa using h100
  by_cases h101 : s.ty = 101
  · rw [if_pos h101]
    rw [h101]
    clear h100 b100
    by_cases hk : v.k = 23
    · rw [hk]
      go_enter Tryz.func101, Tryz.ntmps101
      go_wp2
      go_ret
      exact ⟨by simp, HBW.out _ _⟩
    · have hkb : (v.k == 23) = false := by simpa using hk
      rw [hkb]
      go_enter Tryz.func101, Tryz.ntmps101
      go_wp2
      go_ret
      exact ⟨by simp, HBW.out _ _⟩
  rw [if_neg h101]
  have b101 : (s.ty == 101) = false := by simpa using h101
  by_cases h102 : s.ty = 102
  · rw [if_pos h102]
    rw [h102] at HW0 ⊢
    clear h100 b100 h101 b101
    obtain ⟨ans, hans⟩ : ∃ ans, (match o with | some q => s.ks.contains q | none => false) = ans := ⟨_, rfl⟩
    rw [hans]
    have HANS := hide hans
    clear hans
    go_enter Tryz.func101, Tryz.ntmps101
    go_wp2_with fail
    rw [HW0.out]
    refine HKD.out.mono ?_
    rintro e1 w1 ⟨rfl, hb1⟩
    obtain ⟨c2, hz, hbw⟩ := HC.out w1 hb1
    cases o with
    | none =>
      have HX := hide (HAM.out 0 w1 hb1)
      go_wp2_with (go_at_call 116; refine Calls.mono HX.out ?_; rintro e2 w2 ⟨rfl, rfl⟩)
      go_ret
      exact ⟨by rw [← HANS.out]; simp, hbw⟩
    | some q =>
      have HX := hide (HAM.out q w1 hb1)
      go_wp2_with (go_at_call 116; refine Calls.mono HX.out ?_; rintro e2 w2 ⟨rfl, rfl⟩)
      go_ret
      exact ⟨by rw [← HANS.out]; simp, hbw⟩
  rw [if_neg h102]
  have b102 : (s.ty == 102) = false := by simpa using h102
  clear h100 h101 h102
  go_enter Tryz.func101, Tryz.ntmps101
  go_wp2
  go_ret
  exact ⟨rfl, HBW.out _ _⟩
theorem Tryz.sizeV : (Tryz.prog.info? 42).map (·.size) = some 5 := by kernel_rfl
theorem setR_size (w : World) (g : Nat) (c : Array Value) : (w.setRow g c).heap.size = w.heap.size := by simp [World.setRow]
theorem setR_at {w : World} {g : Nat} {cs : Array Value} {t : TypeId} {p : Nat × Nat} (h : w.heap[g]? = some (.cells cs t p)) (c : Array Value) : (w.setRow g c).heap[g]? = some (.cells c t p) := by
  simp only [World.setRow]
  rw [Array.getElem?_modify, if_pos rfl, h]
  rfl
theorem setR_ne (w : World) {g b : Nat} (h : g ≠ b) (c : Array Value) : (w.setRow g c).heap[b]? = w.heap[b]? := by
  simp only [World.setRow]
  rw [Array.getElem?_modify, if_neg h]
theorem setR_below {B : Nat} {a w : World} (h : Below B a w) {g : Nat} (hg : B ≤ g) (c : Array Value) : Below B a (w.setRow g c) :=
  ⟨h.os, h.tape, h.output, by rw [setR_size]; exact h.size, fun q hq => (setR_ne w (by omega) c).trans (h.block q hq)⟩
def RUPost (Q : Nat → Prop) (r : T × Int) (w : World) (e : Ending) (w' : World) : Prop := ∃ y : V, e = VN y r.2 ∧ Hid ((r.2 = 0 → y.t = r.1) ∧ LiesIn (fun q => Q q ∨ (w.heap.size ≤ q ∧ q < w'.heap.size)) w' y) ∧ Below w.heap.size w w'
theorem LiesIn.lies {Q : Nat → Prop} {w : World} {v : V} (h : LiesIn Q w v) (hQ : ∀ b, Q b → b < w.heap.size) : Lies w.heap.size w v := LiesIn.keep h (fun _ _ _ => rfl) hQ
theorem ru_fin {Q : Nat → Prop} {r : T × Int} {w X : World} {y : V} (h : r.2 = 0 → y.t = r.1) (hl : LiesIn Q w y) (hn : ∀ b, Q b → b < w.heap.size) (hb : Below w.heap.size w X) : RUPost Q r w (VN y r.2) X :=
  ⟨y, rfl, ⟨h, LiesIn.keep hl (fun b hq o => hb.cell (p := ⟨b, o, none⟩) (by show b < w.heap.size; exact hn b hq)) (fun b hq => .inl hq)⟩, hb⟩
theorem fit_fill {re : T → T × Int} {s : FS} {v : V} (hk : v.k ≠ 0) (h102 : s.ty ≠ 102) (hsy : ¬(s.ty = 101 ∧ v.k = 20)) : fillT re s v.t = if fitsT s v.k v.e (kindV v.k v.l) = true then (v.t, 0) else (nul, 73) := by
  unfold fillT fitsT
  rw [k_t, if_neg hk, e_t]
  by_cases h100 : s.ty = 100
  · rw [if_pos h100, if_pos h100, if_pos rfl]
  rw [if_neg h100, if_neg h100]
  by_cases h101 : s.ty = 101
  · rw [if_pos h101, if_pos h101, if_neg (fun h => hsy ⟨h101, h⟩)]
    by_cases h : v.k = 23 ∧ v.e = 20
    · rw [if_pos h, if_pos (by simp [h.1, h.2])]
    · rw [if_neg h, if_neg (by simpa using h)]
  rw [if_neg h101, if_neg h101, if_neg h102, if_neg h102]
  by_cases h : v.k = s.ty
  · rw [if_pos h, if_pos (by simpa using h)]
  · rw [if_neg h, if_neg (by simpa using h)]
set_option maxRecDepth 100000 in
set_option maxHeartbeats 8000000 in
theorem runpacked_plain (re : T → T × Int) (f : Fd) (s : FS) (v : V) (Q : Nat → Prop) (w : World) (hn : ∀ b, Q b → b < w.heap.size) (hf : FdIn 0 w f s) (hks : s.ks.length ≤ 100) (hok : okFS s = true) (hv : LiesIn Q w v) (h102 : s.ty ≠ 102 ∨ v.k = 0) (hsy : ¬(s.ty = 101 ∧ v.k = 20)) :
    Calls Tryz.prog 46 #[f.val, v.val] w (RUPost Q (fillT re s v.t) w) := by
  have HF := hide hf
  obtain ⟨q1, q2, q3, q4, q5, q6, q7⟩ := hf
  have hdl : LiesIn Q w s.d := LiesIn.keep (okFS_lies hok 0 w) (fun _ _ _ => rfl) (fun b h => absurd h (Nat.not_lt_zero _))
  rw [Fd.val_eq, V.val_eq, q2, q3, q4, q5, q6]
  have HB : Hid (∀ o p q, Below w.heap.size w (((w.alloc o).alloc p).alloc q)) := fun o p q => bel1 (bel2 (Below.refl _ _) (Nat.le_refl _) _ _) (by simp; omega) _
  by_cases hk : v.k = 0
  · cases hmu : s.must
    · have hr : fillT re s v.t = (s.d, 0) := by unfold fillT; rw [k_t, if_pos hk, hmu, if_neg (by simp)]
      have HE : Hid (∀ o p q, RUPost Q (s.d, 0) w (VN s.d 0) (((w.alloc o).alloc p).alloc q)) := fun o p q => ru_fin (fun _ => fs_d_t s) hdl hn (HB.out o p q)
      rw [hr, hk]
      clear hk hmu hr q1 q2 q3 q4 q5 q6 q7 hdl hv HF
      go_enter Tryz.func46, Tryz.ntmps46
      go_wp2
      exact bodyPost_ret (v := .tuple #[.agg #[.int .i64 s.d.k, .int .u64 s.d.n, .string s.d.s, .slice s.d.a s.d.l.length s.d.c, .int .i64 s.d.e], .int .i64 0]) (by simp [results, Tryz.results46, go_sem]) rfl (HE.out _ _ _)
    · have hr : fillT re s v.t = (nul, 72) := by unfold fillT; rw [k_t, if_pos hk, hmu, if_pos rfl]
      have HE : Hid (∀ o p q, RUPost Q (nul, 72) w (VN v 72) (((w.alloc o).alloc p).alloc q)) := fun o p q => ru_fin (fun h => absurd h (by decide)) hv hn (HB.out o p q)
      rw [hr]
      unfold VN at HE
      rw [hk] at HE ⊢
      clear hk hmu hr q1 q2 q3 q4 q5 q6 q7 hdl hv HF
      go_enter Tryz.func46, Tryz.ntmps46
      go_wp2
      exact bodyPost_ret (v := .tuple #[.agg #[.int .i64 0, .int .u64 v.n, .string v.s, .slice v.a v.l.length v.c, .int .i64 v.e], .int .i64 72]) (by simp [results, Tryz.results46, go_sem]) rfl (HE.out _ _ _)
  · have h102' : s.ty ≠ 102 := by
      rcases h102 with h | h
      · exact h
      · exact absurd h hk
    have hr := fit_fill (re := re) hk h102' hsy
    have hkb : (v.k == 0) = false := by simpa using hk
    have b102 : (s.ty != 102) = true := by simpa using h102'
    obtain ⟨W0, hW0⟩ : ∃ W0, ((w.alloc (Obj.cells #[.string f.name, .int .i64 s.ty, .slice f.ka s.ks.length s.ks.length, .bool s.must, .int .i64 s.d.k, .int .u64 s.d.n, .string s.d.s, .slice s.d.a s.d.l.length s.d.c, .int .i64 s.d.e] 66)).alloc (Obj.cells #[.int .i64 v.k, .int .u64 v.n, .string v.s, .slice v.a v.l.length v.c, .int .i64 v.e] 42)).alloc (Obj.cells #[.int .i64 0, .int .u64 0, .string ⟨#[]⟩, .slice none 0 0, .int .i64 0] 42) = W0 := ⟨_, rfl⟩
    have hs0 : W0.heap.size = w.heap.size + 3 := by rw [← hW0]; simp
    have hb0 : Below w.heap.size w W0 := by rw [← hW0]; exact HB.out _ _ _
    have hx2 : W0.heap[w.heap.size + 2]? = some (.cells #[.int .i64 0, .int .u64 0, .string ⟨#[]⟩, .slice none 0 0, .int .i64 0] 42 (0, 0)) := by rw [← hW0]; exact heap_at2 _ _ _ _
    have hx1 : W0.heap[w.heap.size + 1]? = some (.cells #[.int .i64 v.k, .int .u64 v.n, .string v.s, .slice v.a v.l.length v.c, .int .i64 v.e] 42 (0, 0)) := by rw [← hW0]; exact heap_past (heap_at1 _ _ _) _
    have hx0 : W0.heap[w.heap.size]? = some (.cells #[.string f.name, .int .i64 s.ty, .slice f.ka s.ks.length s.ks.length, .bool s.must, .int .i64 s.d.k, .int .u64 s.d.n, .string s.d.s, .slice s.d.a s.d.l.length s.d.c, .int .i64 s.d.e] 66 (0, 0)) := by rw [← hW0]; exact heap_past (heap_past (World.alloc_heap_new _ _) _) _
    have hfit := fits_any f s v w.heap.size W0 (by omega) ⟨q1, q2, q3, q4, q5, q6, fun h0 => by
      obtain ⟨b, e, _, r2, r3⟩ := q7 h0
      exact ⟨b, e, Nat.zero_le _, by omega, (hb0.block b r2).trans r3⟩⟩ hks ((hv.lies hn).keep hb0 (Nat.le_refl _))
    rw [Fd.val_eq, V.val_eq, q2, q3, q4, q5, q6] at hfit
    rw [hr]
    generalize fitsT s v.k v.e (kindV v.k v.l) = g at hfit ⊢
    have HFIT := hide hfit
    have HW0 := hide hW0
    have HC : Hid (∀ w1, Below W0.heap.size W0 w1 → (w1.cell? ⟨w.heap.size + 1, 0, none⟩ = some (.int .i64 v.k) ∧ w1.cell? ⟨w.heap.size + 1, 1, none⟩ = some (.int .u64 v.n) ∧ w1.cell? ⟨w.heap.size + 1, 2, none⟩ = some (.string v.s) ∧ w1.cell? ⟨w.heap.size + 1, 3, none⟩ = some (.slice v.a v.l.length v.c) ∧ w1.cell? ⟨w.heap.size + 1, 4, none⟩ = some (.int .i64 v.e)) ∧ w1.cell? ⟨w.heap.size, 1, none⟩ = some (.int .i64 s.ty) ∧ Hid (w1.heap[w.heap.size + 2]? = some (.cells #[.int .i64 0, .int .u64 0, .string ⟨#[]⟩, .slice none 0 0, .int .i64 0] 42 (0, 0))) ∧ Hid (Below w.heap.size w w1)) := fun w1 h => by
      have e1 := (h.block (w.heap.size + 1) (by omega)).trans hx1
      have e0 := (h.block w.heap.size (by omega)).trans hx0
      refine ⟨⟨?_, ?_, ?_, ?_, ?_⟩, ?_, (h.block (w.heap.size + 2) (by omega)).trans hx2, belOn hb0 (by omega) h⟩ <;> (unfold World.cell?; first | (simp only [e1]; rfl) | (simp only [e0]; rfl))
    have HS0 := hide hs0
    have HVL := hide hv
    clear hr hfit hW0 hx0 hx1 hx2 hb0 hs0 q1 q2 q3 q4 q5 q6 q7 hdl HF HB hv h102
    have hguard : (s.ty == 101) = false ∨ ((s.ty = 101) ∧ (v.k == 20) = false) := by
      by_cases h : s.ty = 101
      · refine .inr ⟨h, ?_⟩
        have : v.k ≠ 20 := fun h' => hsy ⟨h, h'⟩
        simpa using this
      · exact .inl (by simpa using h)
    clear hsy hk h102'
    rcases hguard with b101 | ⟨h101, hk20⟩
    · cases g
      · rw [if_neg (by simp)]
        have HEND : Hid (∀ w1, Below w.heap.size w w1 → RUPost Q (nul, 73) w (VN v 73) (w1.setRow (w.heap.size + 2) #[.int .i64 v.k, .int .u64 v.n, .string v.s, .slice v.a v.l.length v.c, .int .i64 v.e])) := fun w1 h => ru_fin (fun h => absurd h (by decide)) HVL.out hn (setR_below h (by omega) _)
        unfold VN at HEND
        go_enter Tryz.func46, Tryz.ntmps46
        go_wp2_with fail
        rw [HW0.out]
        refine HFIT.out.mono ?_
        rintro e1 w1 ⟨rfl, hb1⟩
        obtain ⟨⟨c0, c1, c2, c3, c4⟩, cty, HX1, HBW1⟩ := HC.out w1 hb1
        have hlt : w.heap.size + 2 < w1.heap.size := by have := hb1.size; have := HS0.out; omega
        have hy1 : w.heap.size + 1 < w1.heap.size := by omega
        have hy0 : w.heap.size < w1.heap.size := by omega
        have HZ : Hid ((w1.setRow (w.heap.size + 2) #[.int .i64 v.k, .int .u64 v.n, .string v.s, .slice v.a v.l.length v.c, .int .i64 v.e]).heap[w.heap.size + 2]? = some (.cells #[.int .i64 v.k, .int .u64 v.n, .string v.s, .slice v.a v.l.length v.c, .int .i64 v.e] 42 (0, 0))) := setR_at HX1.out _
        go_wp2_with (refine wpList_store_row rfl 42 (.tmp 4) (.tmp 36) rfl (w.heap.size + 2) #[.int .i64 v.k, .int .u64 v.n, .string v.s, .slice v.a v.l.length v.c, .int .i64 v.e] rfl rfl 42 _ HX1.out Tryz.sizeV rfl (by kernel_rfl) ?_)
        have hz := HZ.out
        have z0 : (w1.setRow (w.heap.size + 2) #[.int .i64 v.k, .int .u64 v.n, .string v.s, .slice v.a v.l.length v.c, .int .i64 v.e]).cell? ⟨w.heap.size + 2, 0, none⟩ = some (.int .i64 v.k) := by unfold World.cell?; simp only [hz]; rfl
        have z1 : (w1.setRow (w.heap.size + 2) #[.int .i64 v.k, .int .u64 v.n, .string v.s, .slice v.a v.l.length v.c, .int .i64 v.e]).cell? ⟨w.heap.size + 2, 1, none⟩ = some (.int .u64 v.n) := by unfold World.cell?; simp only [hz]; rfl
        have z2 : (w1.setRow (w.heap.size + 2) #[.int .i64 v.k, .int .u64 v.n, .string v.s, .slice v.a v.l.length v.c, .int .i64 v.e]).cell? ⟨w.heap.size + 2, 2, none⟩ = some (.string v.s) := by unfold World.cell?; simp only [hz]; rfl
        have z3 : (w1.setRow (w.heap.size + 2) #[.int .i64 v.k, .int .u64 v.n, .string v.s, .slice v.a v.l.length v.c, .int .i64 v.e]).cell? ⟨w.heap.size + 2, 3, none⟩ = some (.slice v.a v.l.length v.c) := by unfold World.cell?; simp only [hz]; rfl
        have z4 : (w1.setRow (w.heap.size + 2) #[.int .i64 v.k, .int .u64 v.n, .string v.s, .slice v.a v.l.length v.c, .int .i64 v.e]).cell? ⟨w.heap.size + 2, 4, none⟩ = some (.int .i64 v.e) := by unfold World.cell?; simp only [hz]; rfl
        exact bodyPost_ret (v := .tuple #[.agg #[.int .i64 v.k, .int .u64 v.n, .string v.s, .slice v.a v.l.length v.c, .int .i64 v.e], .int .i64 73]) (by simp [results, Tryz.results46, go_sem, z0, z1, z2, z3, z4]) rfl (HEND.out w1 HBW1.out)
      · rw [if_pos rfl]
        have HEND : Hid (∀ w1, Below w.heap.size w w1 → RUPost Q (v.t, 0) w (VN v 0) (w1.setRow (w.heap.size + 2) #[.int .i64 v.k, .int .u64 v.n, .string v.s, .slice v.a v.l.length v.c, .int .i64 v.e])) := fun w1 h => ru_fin (fun _ => rfl) HVL.out hn (setR_below h (by omega) _)
        unfold VN at HEND
        go_enter Tryz.func46, Tryz.ntmps46
        go_wp2_with fail
        rw [HW0.out]
        refine HFIT.out.mono ?_
        rintro e1 w1 ⟨rfl, hb1⟩
        obtain ⟨⟨c0, c1, c2, c3, c4⟩, cty, HX1, HBW1⟩ := HC.out w1 hb1
        have hlt : w.heap.size + 2 < w1.heap.size := by have := hb1.size; have := HS0.out; omega
        have hy1 : w.heap.size + 1 < w1.heap.size := by omega
        have hy0 : w.heap.size < w1.heap.size := by omega
        have HZ : Hid ((w1.setRow (w.heap.size + 2) #[.int .i64 v.k, .int .u64 v.n, .string v.s, .slice v.a v.l.length v.c, .int .i64 v.e]).heap[w.heap.size + 2]? = some (.cells #[.int .i64 v.k, .int .u64 v.n, .string v.s, .slice v.a v.l.length v.c, .int .i64 v.e] 42 (0, 0))) := setR_at HX1.out _
        go_wp2_with (refine wpList_store_row rfl 42 (.tmp 4) (.tmp 40) rfl (w.heap.size + 2) #[.int .i64 v.k, .int .u64 v.n, .string v.s, .slice v.a v.l.length v.c, .int .i64 v.e] rfl rfl 42 _ HX1.out Tryz.sizeV rfl (by kernel_rfl) ?_)
        have hz := HZ.out
        have z0 : (w1.setRow (w.heap.size + 2) #[.int .i64 v.k, .int .u64 v.n, .string v.s, .slice v.a v.l.length v.c, .int .i64 v.e]).cell? ⟨w.heap.size + 2, 0, none⟩ = some (.int .i64 v.k) := by unfold World.cell?; simp only [hz]; rfl
        have z1 : (w1.setRow (w.heap.size + 2) #[.int .i64 v.k, .int .u64 v.n, .string v.s, .slice v.a v.l.length v.c, .int .i64 v.e]).cell? ⟨w.heap.size + 2, 1, none⟩ = some (.int .u64 v.n) := by unfold World.cell?; simp only [hz]; rfl
        have z2 : (w1.setRow (w.heap.size + 2) #[.int .i64 v.k, .int .u64 v.n, .string v.s, .slice v.a v.l.length v.c, .int .i64 v.e]).cell? ⟨w.heap.size + 2, 2, none⟩ = some (.string v.s) := by unfold World.cell?; simp only [hz]; rfl
        have z3 : (w1.setRow (w.heap.size + 2) #[.int .i64 v.k, .int .u64 v.n, .string v.s, .slice v.a v.l.length v.c, .int .i64 v.e]).cell? ⟨w.heap.size + 2, 3, none⟩ = some (.slice v.a v.l.length v.c) := by unfold World.cell?; simp only [hz]; rfl
        have z4 : (w1.setRow (w.heap.size + 2) #[.int .i64 v.k, .int .u64 v.n, .string v.s, .slice v.a v.l.length v.c, .int .i64 v.e]).cell? ⟨w.heap.size + 2, 4, none⟩ = some (.int .i64 v.e) := by unfold World.cell?; simp only [hz]; rfl
        exact bodyPost_ret (v := .tuple #[.agg #[.int .i64 v.k, .int .u64 v.n, .string v.s, .slice v.a v.l.length v.c, .int .i64 v.e], .int .i64 0]) (by simp [results, Tryz.results46, go_sem, z0, z1, z2, z3, z4]) rfl (HEND.out w1 HBW1.out)
    · rw [h101] at HW0 HFIT HC ⊢
      clear h101 b102
      cases g
      · rw [if_neg (by simp)]
        have HEND : Hid (∀ w1, Below w.heap.size w w1 → RUPost Q (nul, 73) w (VN v 73) (w1.setRow (w.heap.size + 2) #[.int .i64 v.k, .int .u64 v.n, .string v.s, .slice v.a v.l.length v.c, .int .i64 v.e])) := fun w1 h => ru_fin (fun h => absurd h (by decide)) HVL.out hn (setR_below h (by omega) _)
        unfold VN at HEND
        go_enter Tryz.func46, Tryz.ntmps46
        go_wp2_with fail
        rw [HW0.out]
        refine HFIT.out.mono ?_
        rintro e1 w1 ⟨rfl, hb1⟩
        obtain ⟨⟨c0, c1, c2, c3, c4⟩, cty, HX1, HBW1⟩ := HC.out w1 hb1
        have hlt : w.heap.size + 2 < w1.heap.size := by have := hb1.size; have := HS0.out; omega
        have hy1 : w.heap.size + 1 < w1.heap.size := by omega
        have hy0 : w.heap.size < w1.heap.size := by omega
        have HZ : Hid ((w1.setRow (w.heap.size + 2) #[.int .i64 v.k, .int .u64 v.n, .string v.s, .slice v.a v.l.length v.c, .int .i64 v.e]).heap[w.heap.size + 2]? = some (.cells #[.int .i64 v.k, .int .u64 v.n, .string v.s, .slice v.a v.l.length v.c, .int .i64 v.e] 42 (0, 0))) := setR_at HX1.out _
        go_wp2_with (refine wpList_store_row rfl 42 (.tmp 4) (.tmp 36) rfl (w.heap.size + 2) #[.int .i64 v.k, .int .u64 v.n, .string v.s, .slice v.a v.l.length v.c, .int .i64 v.e] rfl rfl 42 _ HX1.out Tryz.sizeV rfl (by kernel_rfl) ?_)
        have hz := HZ.out
        have z0 : (w1.setRow (w.heap.size + 2) #[.int .i64 v.k, .int .u64 v.n, .string v.s, .slice v.a v.l.length v.c, .int .i64 v.e]).cell? ⟨w.heap.size + 2, 0, none⟩ = some (.int .i64 v.k) := by unfold World.cell?; simp only [hz]; rfl
        have z1 : (w1.setRow (w.heap.size + 2) #[.int .i64 v.k, .int .u64 v.n, .string v.s, .slice v.a v.l.length v.c, .int .i64 v.e]).cell? ⟨w.heap.size + 2, 1, none⟩ = some (.int .u64 v.n) := by unfold World.cell?; simp only [hz]; rfl
        have z2 : (w1.setRow (w.heap.size + 2) #[.int .i64 v.k, .int .u64 v.n, .string v.s, .slice v.a v.l.length v.c, .int .i64 v.e]).cell? ⟨w.heap.size + 2, 2, none⟩ = some (.string v.s) := by unfold World.cell?; simp only [hz]; rfl
        have z3 : (w1.setRow (w.heap.size + 2) #[.int .i64 v.k, .int .u64 v.n, .string v.s, .slice v.a v.l.length v.c, .int .i64 v.e]).cell? ⟨w.heap.size + 2, 3, none⟩ = some (.slice v.a v.l.length v.c) := by unfold World.cell?; simp only [hz]; rfl
        have z4 : (w1.setRow (w.heap.size + 2) #[.int .i64 v.k, .int .u64 v.n, .string v.s, .slice v.a v.l.length v.c, .int .i64 v.e]).cell? ⟨w.heap.size + 2, 4, none⟩ = some (.int .i64 v.e) := by unfold World.cell?; simp only [hz]; rfl
        exact bodyPost_ret (v := .tuple #[.agg #[.int .i64 v.k, .int .u64 v.n, .string v.s, .slice v.a v.l.length v.c, .int .i64 v.e], .int .i64 73]) (by simp [results, Tryz.results46, go_sem, z0, z1, z2, z3, z4]) rfl (HEND.out w1 HBW1.out)
      · rw [if_pos rfl]
        have HEND : Hid (∀ w1, Below w.heap.size w w1 → RUPost Q (v.t, 0) w (VN v 0) (w1.setRow (w.heap.size + 2) #[.int .i64 v.k, .int .u64 v.n, .string v.s, .slice v.a v.l.length v.c, .int .i64 v.e])) := fun w1 h => ru_fin (fun _ => rfl) HVL.out hn (setR_below h (by omega) _)
        unfold VN at HEND
        go_enter Tryz.func46, Tryz.ntmps46
        go_wp2_with fail
        rw [HW0.out]
        refine HFIT.out.mono ?_
        rintro e1 w1 ⟨rfl, hb1⟩
        obtain ⟨⟨c0, c1, c2, c3, c4⟩, cty, HX1, HBW1⟩ := HC.out w1 hb1
        have hlt : w.heap.size + 2 < w1.heap.size := by have := hb1.size; have := HS0.out; omega
        have hy1 : w.heap.size + 1 < w1.heap.size := by omega
        have hy0 : w.heap.size < w1.heap.size := by omega
        have HZ : Hid ((w1.setRow (w.heap.size + 2) #[.int .i64 v.k, .int .u64 v.n, .string v.s, .slice v.a v.l.length v.c, .int .i64 v.e]).heap[w.heap.size + 2]? = some (.cells #[.int .i64 v.k, .int .u64 v.n, .string v.s, .slice v.a v.l.length v.c, .int .i64 v.e] 42 (0, 0))) := setR_at HX1.out _
        go_wp2_with (refine wpList_store_row rfl 42 (.tmp 4) (.tmp 40) rfl (w.heap.size + 2) #[.int .i64 v.k, .int .u64 v.n, .string v.s, .slice v.a v.l.length v.c, .int .i64 v.e] rfl rfl 42 _ HX1.out Tryz.sizeV rfl (by kernel_rfl) ?_)
        have hz := HZ.out
        have z0 : (w1.setRow (w.heap.size + 2) #[.int .i64 v.k, .int .u64 v.n, .string v.s, .slice v.a v.l.length v.c, .int .i64 v.e]).cell? ⟨w.heap.size + 2, 0, none⟩ = some (.int .i64 v.k) := by unfold World.cell?; simp only [hz]; rfl
        have z1 : (w1.setRow (w.heap.size + 2) #[.int .i64 v.k, .int .u64 v.n, .string v.s, .slice v.a v.l.length v.c, .int .i64 v.e]).cell? ⟨w.heap.size + 2, 1, none⟩ = some (.int .u64 v.n) := by unfold World.cell?; simp only [hz]; rfl
        have z2 : (w1.setRow (w.heap.size + 2) #[.int .i64 v.k, .int .u64 v.n, .string v.s, .slice v.a v.l.length v.c, .int .i64 v.e]).cell? ⟨w.heap.size + 2, 2, none⟩ = some (.string v.s) := by unfold World.cell?; simp only [hz]; rfl
        have z3 : (w1.setRow (w.heap.size + 2) #[.int .i64 v.k, .int .u64 v.n, .string v.s, .slice v.a v.l.length v.c, .int .i64 v.e]).cell? ⟨w.heap.size + 2, 3, none⟩ = some (.slice v.a v.l.length v.c) := by unfold World.cell?; simp only [hz]; rfl
        have z4 : (w1.setRow (w.heap.size + 2) #[.int .i64 v.k, .int .u64 v.n, .string v.s, .slice v.a v.l.length v.c, .int .i64 v.e]).cell? ⟨w.heap.size + 2, 4, none⟩ = some (.int .i64 v.e) := by unfold World.cell?; simp only [hz]; rfl
        exact bodyPost_ret (v := .tuple #[.agg #[.int .i64 v.k, .int .u64 v.n, .string v.s, .slice v.a v.l.length v.c, .int .i64 v.e], .int .i64 0]) (by simp [results, Tryz.results46, go_sem, z0, z1, z2, z3, z4]) rfl (HEND.out w1 HBW1.out)
set_option maxRecDepth 100000 in
set_option maxHeartbeats 8000000 in
theorem runpacked_sym (re : T → T × Int) (f : Fd) (s : FS) (v : V) (Q : Nat → Prop) (w : World) (hn : ∀ b, Q b → b < w.heap.size) (hf : FdIn 0 w f s) (hv : LiesIn Q w v) (h101 : s.ty = 101) (hk : v.k = 20) :
    Calls Tryz.prog 46 #[f.val, v.val] w (RUPost Q (fillT re s v.t) w) := by
  obtain ⟨q1, q2, q3, q4, q5, q6, q7⟩ := hf
  rw [Fd.val_eq, V.val_eq, q2, q3, q4, q5, q6, h101, hk]
  have hr : fillT re s v.t = (T.of 23 0 ⟨#[]⟩ 20 [v.t], 0) := by
    unfold fillT
    rw [k_t, if_neg (by omega), if_neg (by omega), if_pos h101, if_pos hk]
  rw [hr]
  obtain ⟨W0, hW0⟩ : ∃ W0, ((w.alloc (Obj.cells #[.string f.name, .int .i64 101, .slice f.ka s.ks.length s.ks.length, .bool s.must, .int .i64 s.d.k, .int .u64 s.d.n, .string s.d.s, .slice s.d.a s.d.l.length s.d.c, .int .i64 s.d.e] 66)).alloc (Obj.cells #[.int .i64 20, .int .u64 v.n, .string v.s, .slice v.a v.l.length v.c, .int .i64 v.e] 42)).alloc (Obj.cells #[.int .i64 23, .int .u64 0, .string ⟨#[]⟩, .slice (some ⟨w.heap.size + 3, 0, none⟩) 1 1, .int .i64 20] 42) = W0 := ⟨_, rfl⟩
  have hs0 : W0.heap.size = w.heap.size + 3 := by rw [← hW0]; simp
  have hb0 : Below w.heap.size w W0 := by rw [← hW0]; exact bel1 (bel2 (Below.refl _ _) (Nat.le_refl _) _ _) (by simp; omega) _
  have HE : Hid (RUPost Q (T.of 23 0 ⟨#[]⟩ 20 [v.t], 0) w (.returned (.tuple #[.agg #[.int .i64 23, .int .u64 0, .string ⟨#[]⟩, .slice (some ⟨w.heap.size + 3, 0, none⟩) 1 1, .int .i64 20], .int .i64 0])) (W0.alloc (Obj.cells #[.int .i64 20, .int .u64 v.n, .string v.s, .slice v.a v.l.length v.c, .int .i64 v.e] 42))) := by
    have hbb : Below w.heap.size w (W0.alloc (Obj.cells #[.int .i64 20, .int .u64 v.n, .string v.s, .slice v.a v.l.length v.c, .int .i64 v.e] 42)) := bel1 hb0 (by omega) _
    have hrow : (W0.alloc (Obj.cells #[.int .i64 20, .int .u64 v.n, .string v.s, .slice v.a v.l.length v.c, .int .i64 v.e] 42)).heap[w.heap.size + 3]? = some (.cells #[.int .i64 20, .int .u64 v.n, .string v.s, .slice v.a v.l.length v.c, .int .i64 v.e] 42 (0, 0)) := by
      have := World.alloc_heap_new W0 (Obj.cells #[.int .i64 20, .int .u64 v.n, .string v.s, .slice v.a v.l.length v.c, .int .i64 v.e] 42)
      rwa [hs0] at this
    have hc : ∀ o u, (#[.int .i64 20, .int .u64 v.n, .string v.s, .slice v.a v.l.length v.c, .int .i64 v.e] : Array Value)[o]? = some u → (W0.alloc (Obj.cells #[.int .i64 20, .int .u64 v.n, .string v.s, .slice v.a v.l.length v.c, .int .i64 v.e] 42)).cell? ⟨w.heap.size + 3, o, none⟩ = some u := fun o u h => by
      unfold World.cell?
      simp only [hrow]
      exact h
    refine ⟨V.of 23 0 ⟨#[]⟩ (some ⟨w.heap.size + 3, 0, none⟩) 1 20 [v], by unfold VN; rw [V.l_of]; rfl, ⟨fun _ => by rw [V.t_of]; rfl, .mk ⟨by omega, by omega, by decide, by omega, by simp, by simp⟩ (fun _ => ⟨w.heap.size + 3, 0, rfl, .inr ⟨by omega, by simp [hs0]⟩, ?_⟩) (fun x hx => ?_)⟩, hbb⟩
    · intro i hi
      obtain rfl : i = 0 := by simp at hi; omega
      have hk' : ([v] : List V)[0].k = 20 := hk
      exact ⟨by rw [hk']; exact hc 0 _ rfl, hc 1 _ rfl, hc 2 _ rfl, hc 3 _ rfl, hc 4 _ rfl⟩
    · obtain rfl : x = v := by simpa using hx
      exact LiesIn.keep hv (fun b hq o => hbb.cell (p := ⟨b, o, none⟩) (by show b < w.heap.size; exact hn b hq)) (fun b hq => .inl hq)
  rw [← hW0] at HE
  clear hr hW0 hs0 hb0 q1 q2 q3 q4 q5 q6 q7 hv hk h101
  go_enter Tryz.func46, Tryz.ntmps46
  go_wp2
  exact bodyPost_ret (v := .tuple #[.agg #[.int .i64 23, .int .u64 0, .string ⟨#[]⟩, .slice (some ⟨w.heap.size + 3, 0, none⟩) 1 1, .int .i64 20], .int .i64 0]) (by simp [results, Tryz.results46, go_sem]) rfl HE.out
def RUR (Q : Nat → Prop) (u : (Int × List T) × Int × Int) (w : World) (e : Ending) (w' : World) : Prop := ∃ y : V, e = .returned (.tuple #[.agg #[.int .i64 u.1.1, .slice y.a y.l.length y.c], .int .i64 u.2.1, .int .i64 u.2.2]) ∧ Hid (V.ts y.l = u.1.2 ∧ LiesIn (fun q => Q q ∨ (w.heap.size ≤ q ∧ q < w'.heap.size)) w' (V.of 0 0 ⟨#[]⟩ y.a y.c 0 y.l)) ∧ Below w.heap.size w w'
def RPK (k : Int) (ts : List T) : Prop := ∀ (l : List FS) (Q : Nat → Prop) (W : World) (y : V) (a : Option Addr) (c : Nat) (fs : List Fd), ftab k = some l → LiesIn Q W (V.of 0 0 ⟨#[]⟩ y.a y.c 0 y.l) → (∀ b, Q b → b < W.heap.size) → V.ts y.l = ts → Flds l W a fs → l.length ≤ c →
  Calls Tryz.prog 37 #[.agg #[.int .i64 k, .slice y.a y.l.length y.c], .slice a l.length c] W fun e w' => ∃ z : V, e = .returned (.agg #[.int .i64 z.k, .int .u64 z.n, .string z.s, .slice z.a z.l.length z.c, .int .i64 z.e]) ∧ Hid (z.t = laidT k ts ∧ LiesIn (fun q => Q q ∨ (W.heap.size ≤ q ∧ q < w'.heap.size)) w' z) ∧ Below W.heap.size W w'
set_option maxRecDepth 100000 in
set_option maxHeartbeats 8000000 in
theorem runpacked_comp (re : T → T × Int) (u : (Int × List T) × Int × Int) (f : Fd) (s : FS) (v : V) (Q : Nat → Prop) (w : World) (hn : ∀ b, Q b → b < w.heap.size) (hf : FdIn 0 w f s) (hks : s.ks.length ≤ 100) (hv : LiesIn Q w v) (h102 : s.ty = 102) (hk : v.k ≠ 0)
    (hre : re v.t = if u.2.2 ≠ 0 then (nul, u.2.2) else (laidT u.1.1 u.1.2, 0)) (hUP : ∀ q, kindV v.k v.l = some q → q ∈ s.ks → (∀ W', Below w.heap.size w W' → Calls Tryz.prog 27 #[v.val] W' (RUR Q u W')) ∧ (u.2.2 = 0 → ∃ l, ftab u.1.1 = some l) ∧ (u.2.2 = 0 → RPK u.1.1 u.1.2)) :
    Calls Tryz.prog 46 #[f.val, v.val] w (RUPost Q (fillT re s v.t) w) := by
  obtain ⟨q1, q2, q3, q4, q5, q6, q7⟩ := hf
  have hr : fillT re s v.t = if fitsT s v.k v.e (kindV v.k v.l) = true then re v.t else (nul, 73) := by
    have hA : fillT re s v.t = (match kindV v.k v.l with | some k => if s.ks.contains k = true then re v.t else (nul, 73) | none => (nul, 73)) := by
      unfold fillT
      rw [kindV_t, k_t, if_neg hk, if_neg (by omega), if_neg (by omega), if_pos h102]
      cases kindV v.k v.l <;> rfl
    have hB : fitsT s v.k v.e (kindV v.k v.l) = (match kindV v.k v.l with | some q => s.ks.contains q | none => false) := by
      unfold fitsT
      rw [if_neg (by omega), if_neg (by omega), if_pos h102] <;> (cases kindV v.k v.l <;> rfl)
    rw [hA, hB]
    cases kindV v.k v.l with
    | none => simp
    | some q => rfl
  obtain ⟨W0, hW0⟩ : ∃ W0, ((w.alloc (Obj.cells #[.string f.name, .int .i64 102, .slice f.ka s.ks.length s.ks.length, .bool s.must, .int .i64 s.d.k, .int .u64 s.d.n, .string s.d.s, .slice s.d.a s.d.l.length s.d.c, .int .i64 s.d.e] 66)).alloc (Obj.cells #[.int .i64 v.k, .int .u64 v.n, .string v.s, .slice v.a v.l.length v.c, .int .i64 v.e] 42)).alloc (Obj.cells #[.int .i64 0, .int .u64 0, .string ⟨#[]⟩, .slice none 0 0, .int .i64 0] 42) = W0 := ⟨_, rfl⟩
  have hs0 : W0.heap.size = w.heap.size + 3 := by rw [← hW0]; simp
  have hb0 : Below w.heap.size w W0 := by rw [← hW0]; exact bel1 (bel2 (Below.refl _ _) (Nat.le_refl _) _ _) (by simp; omega) _
  have hx2 : W0.heap[w.heap.size + 2]? = some (.cells #[.int .i64 0, .int .u64 0, .string ⟨#[]⟩, .slice none 0 0, .int .i64 0] 42 (0, 0)) := by rw [← hW0]; exact heap_at2 _ _ _ _
  have hx1 : W0.heap[w.heap.size + 1]? = some (.cells #[.int .i64 v.k, .int .u64 v.n, .string v.s, .slice v.a v.l.length v.c, .int .i64 v.e] 42 (0, 0)) := by rw [← hW0]; exact heap_past (heap_at1 _ _ _) _
  have hx0 : W0.heap[w.heap.size]? = some (.cells #[.string f.name, .int .i64 102, .slice f.ka s.ks.length s.ks.length, .bool s.must, .int .i64 s.d.k, .int .u64 s.d.n, .string s.d.s, .slice s.d.a s.d.l.length s.d.c, .int .i64 s.d.e] 66 (0, 0)) := by rw [← hW0]; exact heap_past (heap_past (World.alloc_heap_new _ _) _) _
  have hfit := fits_any f s v w.heap.size W0 (by omega) ⟨q1, q2, q3, q4, q5, q6, fun h0 => by
    obtain ⟨b, e, _, r2, r3⟩ := q7 h0
    exact ⟨b, e, Nat.zero_le _, by omega, (hb0.block b r2).trans r3⟩⟩ hks ((hv.lies hn).keep hb0 (Nat.le_refl _))
  rw [Fd.val_eq, V.val_eq, q2, q3, q4, q5, q6, h102] at hfit
  rw [Fd.val_eq, V.val_eq, q2, q3, q4, q5, q6, h102, hr, hre]
  have hUP' : fitsT s v.k v.e (kindV v.k v.l) = true → (∀ W', Below w.heap.size w W' → Calls Tryz.prog 27 #[.agg #[.int .i64 v.k, .int .u64 v.n, .string v.s, .slice v.a v.l.length v.c, .int .i64 v.e]] W' (RUR Q u W')) ∧ (u.2.2 = 0 → ∃ l, ftab u.1.1 = some l) ∧ (u.2.2 = 0 → RPK u.1.1 u.1.2) := fun hg => by
    unfold fitsT at hg
    rw [if_neg (by omega), if_neg (by omega), if_pos h102] at hg
    cases hq : kindV v.k v.l with
    | none => rw [hq] at hg; cases hg
    | some q =>
      rw [hq] at hg
      have h := hUP q hq (by simpa using hg)
      rw [V.val_eq] at h
      exact h
  generalize fitsT s v.k v.e (kindV v.k v.l) = g at hfit hUP' ⊢
  have HFIT := hide hfit
  have HW0 := hide hW0
  have HC : Hid (∀ w1, Below W0.heap.size W0 w1 → (w1.cell? ⟨w.heap.size + 1, 0, none⟩ = some (.int .i64 v.k) ∧ w1.cell? ⟨w.heap.size + 1, 1, none⟩ = some (.int .u64 v.n) ∧ w1.cell? ⟨w.heap.size + 1, 2, none⟩ = some (.string v.s) ∧ w1.cell? ⟨w.heap.size + 1, 3, none⟩ = some (.slice v.a v.l.length v.c) ∧ w1.cell? ⟨w.heap.size + 1, 4, none⟩ = some (.int .i64 v.e)) ∧ w1.cell? ⟨w.heap.size, 1, none⟩ = some (.int .i64 102) ∧ Hid (w1.heap[w.heap.size + 2]? = some (.cells #[.int .i64 0, .int .u64 0, .string ⟨#[]⟩, .slice none 0 0, .int .i64 0] 42 (0, 0))) ∧ Hid (Below w.heap.size w w1)) := fun w1 h => by
    have e1 := (h.block (w.heap.size + 1) (by omega)).trans hx1
    have e0 := (h.block w.heap.size (by omega)).trans hx0
    refine ⟨⟨?_, ?_, ?_, ?_, ?_⟩, ?_, (h.block (w.heap.size + 2) (by omega)).trans hx2, belOn hb0 (by omega) h⟩ <;> (unfold World.cell?; first | (simp only [e1]; rfl) | (simp only [e0]; rfl))
  have HS0 := hide hs0
  have HVL := hide hv
  have hkb : (v.k == 0) = false := by simpa using hk
  have HUP := hide hUP'
  clear hr hfit hW0 hx0 hx1 hx2 hb0 hs0 q1 q2 q3 q4 q5 q6 q7 hv h102 hk hre hUP hUP'
  obtain ⟨⟨uk, ut⟩, ua, ue⟩ := u
  dsimp only at HUP ⊢
  cases g
  · rw [if_neg (by simp)]
    have HEND : Hid (∀ w1, Below w.heap.size w w1 → RUPost Q (nul, 73) w (VN v 73) (w1.setRow (w.heap.size + 2) #[.int .i64 v.k, .int .u64 v.n, .string v.s, .slice v.a v.l.length v.c, .int .i64 v.e])) := fun w1 h => ru_fin (fun h => absurd h (by decide)) HVL.out hn (setR_below h (by omega) _)
    unfold VN at HEND
    go_enter Tryz.func46, Tryz.ntmps46
    go_wp2_with fail
    rw [HW0.out]
    refine HFIT.out.mono ?_
    rintro e1 w1 ⟨rfl, hb1⟩
    obtain ⟨⟨c0, c1, c2, c3, c4⟩, cty, HX1, HBW1⟩ := HC.out w1 hb1
    have hlt : w.heap.size + 2 < w1.heap.size := by have := hb1.size; have := HS0.out; omega
    have hy1 : w.heap.size + 1 < w1.heap.size := by omega
    have hy0 : w.heap.size < w1.heap.size := by omega
    have HZ : Hid ((w1.setRow (w.heap.size + 2) #[.int .i64 v.k, .int .u64 v.n, .string v.s, .slice v.a v.l.length v.c, .int .i64 v.e]).heap[w.heap.size + 2]? = some (.cells #[.int .i64 v.k, .int .u64 v.n, .string v.s, .slice v.a v.l.length v.c, .int .i64 v.e] 42 (0, 0))) := setR_at HX1.out _
    go_wp2_with (refine wpList_store_row rfl 42 (.tmp 4) (.tmp 36) rfl (w.heap.size + 2) #[.int .i64 v.k, .int .u64 v.n, .string v.s, .slice v.a v.l.length v.c, .int .i64 v.e] rfl rfl 42 _ HX1.out Tryz.sizeV rfl (by kernel_rfl) ?_)
    have hz := HZ.out
    have z0 : (w1.setRow (w.heap.size + 2) #[.int .i64 v.k, .int .u64 v.n, .string v.s, .slice v.a v.l.length v.c, .int .i64 v.e]).cell? ⟨w.heap.size + 2, 0, none⟩ = some (.int .i64 v.k) := by unfold World.cell?; simp only [hz]; rfl
    have z1 : (w1.setRow (w.heap.size + 2) #[.int .i64 v.k, .int .u64 v.n, .string v.s, .slice v.a v.l.length v.c, .int .i64 v.e]).cell? ⟨w.heap.size + 2, 1, none⟩ = some (.int .u64 v.n) := by unfold World.cell?; simp only [hz]; rfl
    have z2 : (w1.setRow (w.heap.size + 2) #[.int .i64 v.k, .int .u64 v.n, .string v.s, .slice v.a v.l.length v.c, .int .i64 v.e]).cell? ⟨w.heap.size + 2, 2, none⟩ = some (.string v.s) := by unfold World.cell?; simp only [hz]; rfl
    have z3 : (w1.setRow (w.heap.size + 2) #[.int .i64 v.k, .int .u64 v.n, .string v.s, .slice v.a v.l.length v.c, .int .i64 v.e]).cell? ⟨w.heap.size + 2, 3, none⟩ = some (.slice v.a v.l.length v.c) := by unfold World.cell?; simp only [hz]; rfl
    have z4 : (w1.setRow (w.heap.size + 2) #[.int .i64 v.k, .int .u64 v.n, .string v.s, .slice v.a v.l.length v.c, .int .i64 v.e]).cell? ⟨w.heap.size + 2, 4, none⟩ = some (.int .i64 v.e) := by unfold World.cell?; simp only [hz]; rfl
    exact bodyPost_ret (v := .tuple #[.agg #[.int .i64 v.k, .int .u64 v.n, .string v.s, .slice v.a v.l.length v.c, .int .i64 v.e], .int .i64 73]) (by simp [results, Tryz.results46, go_sem, z0, z1, z2, z3, z4]) rfl (HEND.out w1 HBW1.out)
  · rw [if_pos rfl]
    obtain ⟨hU0, hft0, hP0⟩ := HUP.out rfl
    have HU := hide hU0
    have HFT := hide hft0
    have HP := hide hP0
    clear HUP hU0 hft0 hP0
    by_cases hue : ue = 0
    rotate_left
    · rw [if_pos hue]
      have hub : (ue == 0) = false := by simpa using hue
      have hux : (ue != 0) = true := by simpa using hue
      go_enter Tryz.func46, Tryz.ntmps46
      go_wp2_with fail
      rw [HW0.out]
      refine HFIT.out.mono ?_
      rintro e1 w1 ⟨rfl, hb1⟩
      obtain ⟨⟨c0, c1, c2, c3, c4⟩, cty, HX1, HBW1⟩ := HC.out w1 hb1
      have hlt : w.heap.size + 2 < w1.heap.size := by have := hb1.size; have := HS0.out; omega
      have hy1 : w.heap.size + 1 < w1.heap.size := by omega
      have hy0 : w.heap.size < w1.heap.size := by omega
      go_wp2_with fail
      refine (HU.out _ HBW1.out).mono ?_
      rintro e2 w2 ⟨y, rfl, HY, hb2⟩
      dsimp only
      have hs2 := hb2.size
      have hb02 : Below W0.heap.size W0 w2 := hb1.trans (hb2.mono hb1.size)
      obtain ⟨W2, hW2⟩ : ∃ W2, w2.alloc (Obj.cells #[.int .i64 uk, .slice y.a y.l.length y.c] 33) = W2 := ⟨_, rfl⟩
      have hsW2 : W2.heap.size = w2.heap.size + 1 := by rw [← hW2]; simp
      have hb22 : Below w2.heap.size w2 W2 := by rw [← hW2]; exact bel1 (Below.refl _ _) (Nat.le_refl _) _
      have hbx : W2.heap[w2.heap.size]? = some (.cells #[.int .i64 uk, .slice y.a y.l.length y.c] 33 (0, 0)) := by rw [← hW2]; exact World.alloc_heap_new _ _
      have hb0W : Below W0.heap.size W0 W2 := hb02.trans (hb22.mono hb02.size)
      obtain ⟨⟨d0, d1, d2, d3, d4⟩, _, HX2, HBW2⟩ := HC.out w2 hb02
      obtain ⟨⟨g0, g1, g2, g3, g4⟩, _, HXW, HBWW⟩ := HC.out W2 hb0W
      have hyy1 : w.heap.size + 1 < w2.heap.size := by omega
      have HW2 := hide hW2
      clear hW2 c0 c1 c2 c3 c4 cty
      have HEND : Hid (∀ X, Below w.heap.size w X → RUPost Q (nul, ue) w (VN v ue) (X.setRow (w.heap.size + 2) #[.int .i64 v.k, .int .u64 v.n, .string v.s, .slice v.a v.l.length v.c, .int .i64 v.e])) := fun X h => ru_fin (fun h => absurd h hue) HVL.out hn (setR_below h (by omega) _)
      unfold VN at HEND
      clear g0 g1 g2 g3 g4
      have HX3 : Hid ((w2.alloc (Obj.cells #[.int .i64 uk, .slice y.a y.l.length y.c] 33)).heap[w.heap.size + 2]? = some (.cells #[.int .i64 0, .int .u64 0, .string ⟨#[]⟩, .slice none 0 0, .int .i64 0] 42 (0, 0))) := by rw [HW2.out]; exact HXW.out
      have HBW3 : Hid (Below w.heap.size w (w2.alloc (Obj.cells #[.int .i64 uk, .slice y.a y.l.length y.c] 33))) := by rw [HW2.out]; exact HBWW.out
      have HZ : Hid (((w2.alloc (Obj.cells #[.int .i64 uk, .slice y.a y.l.length y.c] 33)).setRow (w.heap.size + 2) #[.int .i64 v.k, .int .u64 v.n, .string v.s, .slice v.a v.l.length v.c, .int .i64 v.e]).heap[w.heap.size + 2]? = some (.cells #[.int .i64 v.k, .int .u64 v.n, .string v.s, .slice v.a v.l.length v.c, .int .i64 v.e] 42 (0, 0))) := setR_at HX3.out _
      go_wp2_with (refine wpList_store_row rfl 42 (.tmp 4) (.tmp 49) rfl (w.heap.size + 2) #[.int .i64 v.k, .int .u64 v.n, .string v.s, .slice v.a v.l.length v.c, .int .i64 v.e] rfl rfl 42 _ HX3.out Tryz.sizeV rfl (by kernel_rfl) ?_)
      have hz := HZ.out
      have z0 : ((w2.alloc (Obj.cells #[.int .i64 uk, .slice y.a y.l.length y.c] 33)).setRow (w.heap.size + 2) #[.int .i64 v.k, .int .u64 v.n, .string v.s, .slice v.a v.l.length v.c, .int .i64 v.e]).cell? ⟨w.heap.size + 2, 0, none⟩ = some (.int .i64 v.k) := by unfold World.cell?; simp only [hz]; rfl
      have z1 : ((w2.alloc (Obj.cells #[.int .i64 uk, .slice y.a y.l.length y.c] 33)).setRow (w.heap.size + 2) #[.int .i64 v.k, .int .u64 v.n, .string v.s, .slice v.a v.l.length v.c, .int .i64 v.e]).cell? ⟨w.heap.size + 2, 1, none⟩ = some (.int .u64 v.n) := by unfold World.cell?; simp only [hz]; rfl
      have z2 : ((w2.alloc (Obj.cells #[.int .i64 uk, .slice y.a y.l.length y.c] 33)).setRow (w.heap.size + 2) #[.int .i64 v.k, .int .u64 v.n, .string v.s, .slice v.a v.l.length v.c, .int .i64 v.e]).cell? ⟨w.heap.size + 2, 2, none⟩ = some (.string v.s) := by unfold World.cell?; simp only [hz]; rfl
      have z3 : ((w2.alloc (Obj.cells #[.int .i64 uk, .slice y.a y.l.length y.c] 33)).setRow (w.heap.size + 2) #[.int .i64 v.k, .int .u64 v.n, .string v.s, .slice v.a v.l.length v.c, .int .i64 v.e]).cell? ⟨w.heap.size + 2, 3, none⟩ = some (.slice v.a v.l.length v.c) := by unfold World.cell?; simp only [hz]; rfl
      have z4 : ((w2.alloc (Obj.cells #[.int .i64 uk, .slice y.a y.l.length y.c] 33)).setRow (w.heap.size + 2) #[.int .i64 v.k, .int .u64 v.n, .string v.s, .slice v.a v.l.length v.c, .int .i64 v.e]).cell? ⟨w.heap.size + 2, 4, none⟩ = some (.int .i64 v.e) := by unfold World.cell?; simp only [hz]; rfl
      exact bodyPost_ret (v := .tuple #[.agg #[.int .i64 v.k, .int .u64 v.n, .string v.s, .slice v.a v.l.length v.c, .int .i64 v.e], .int .i64 ue]) (by simp [results, Tryz.results46, go_sem, z0, z1, z2, z3, z4]) rfl (HEND.out _ HBW3.out)
    · subst hue
      rw [if_neg (by simp)]
      go_enter Tryz.func46, Tryz.ntmps46
      go_wp2_with fail
      rw [HW0.out]
      refine HFIT.out.mono ?_
      rintro e1 w1 ⟨rfl, hb1⟩
      obtain ⟨⟨c0, c1, c2, c3, c4⟩, cty, HX1, HBW1⟩ := HC.out w1 hb1
      have hlt : w.heap.size + 2 < w1.heap.size := by have := hb1.size; have := HS0.out; omega
      have hy1 : w.heap.size + 1 < w1.heap.size := by omega
      have hy0 : w.heap.size < w1.heap.size := by omega
      go_wp2_with fail
      refine (HU.out _ HBW1.out).mono ?_
      rintro e2 w2 ⟨y, rfl, HY, hb2⟩
      dsimp only
      have hs2 := hb2.size
      have hb02 : Below W0.heap.size W0 w2 := hb1.trans (hb2.mono hb1.size)
      obtain ⟨W2, hW2⟩ : ∃ W2, w2.alloc (Obj.cells #[.int .i64 uk, .slice y.a y.l.length y.c] 33) = W2 := ⟨_, rfl⟩
      have hsW2 : W2.heap.size = w2.heap.size + 1 := by rw [← hW2]; simp
      have hb22 : Below w2.heap.size w2 W2 := by rw [← hW2]; exact bel1 (Below.refl _ _) (Nat.le_refl _) _
      have hbx : W2.heap[w2.heap.size]? = some (.cells #[.int .i64 uk, .slice y.a y.l.length y.c] 33 (0, 0)) := by rw [← hW2]; exact World.alloc_heap_new _ _
      have hb0W : Below W0.heap.size W0 W2 := hb02.trans (hb22.mono hb02.size)
      obtain ⟨⟨d0, d1, d2, d3, d4⟩, _, HX2, HBW2⟩ := HC.out w2 hb02
      obtain ⟨⟨g0, g1, g2, g3, g4⟩, _, HXW, HBWW⟩ := HC.out W2 hb0W
      have hyy1 : w.heap.size + 1 < w2.heap.size := by omega
      have HW2 := hide hW2
      clear hW2 c0 c1 c2 c3 c4 cty
      obtain ⟨l, hl⟩ := HFT.out trivial
      have hrf := rfields_any uk W2
      rw [hl] at hrf
      have HRF := hide hrf
      have HL := hide hl
      clear hrf hl g0 g1 g2 g3 g4
      go_wp2_with fail
      rw [HW2.out]
      refine HRF.out.mono ?_
      rintro e3 w3 ⟨a, c, fs, rfl, HFI, hlc, hb3⟩
      have hs3 := hb3.size
      have hbx3 := (hb3.block w2.heap.size (by omega)).trans hbx
      have k0 : w3.cell? ⟨w2.heap.size, 0, none⟩ = some (.int .i64 uk) := by unfold World.cell?; simp only [hbx3]; rfl
      have k1 : w3.cell? ⟨w2.heap.size, 1, none⟩ = some (.slice y.a y.l.length y.c) := by unfold World.cell?; simp only [hbx3]; rfl
      have hw2 : w2.heap.size < w3.heap.size := by omega
      have hb23 : Below w2.heap.size w2 w3 := hb22.trans (hb3.mono (by omega))
      have hs1 := hb1.size
      have hs0' := HS0.out
      have hpk := HP.out trivial l (fun q => Q q ∨ (w1.heap.size ≤ q ∧ q < w2.heap.size)) w3 y a c fs HL.out (LiesIn.keep HY.out.2 (fun b hq o => hb23.cell (p := ⟨b, o, none⟩) (by show b < w2.heap.size; exact hq.elim (fun h => by have := hn b h; omega) (fun h => by omega))) (fun b hq => hq)) (fun b hq => hq.elim (fun h => by have := hn b h; omega) (fun h => by omega)) HY.out.1 (HFI.out.flds (Below.refl _ _)) hlc
      have HPK := hide hpk
      clear hpk hbx3 hbx
      go_wp2_with fail
      refine HPK.out.mono ?_
      rintro e4 w4 ⟨z, rfl, HZ4, hb4⟩
      have hs4 := hb4.size
      have hb04 : Below W0.heap.size W0 w4 := hb0W.trans ((hb3.trans (hb4.mono hs3)).mono hb0W.size)
      obtain ⟨_, _, HX4, HBW4⟩ := HC.out w4 hb04
      have HEND : Hid (RUPost Q (laidT uk ut, 0) w (.returned (.tuple #[.agg #[.int .i64 z.k, .int .u64 z.n, .string z.s, .slice z.a z.l.length z.c, .int .i64 z.e], .int .i64 0])) (w4.setRow (w.heap.size + 2) #[.int .i64 z.k, .int .u64 z.n, .string z.s, .slice z.a z.l.length z.c, .int .i64 z.e])) := by
        refine ⟨z, rfl, ⟨fun _ => HZ4.out.1, LiesIn.keep HZ4.out.2 (fun b hq o => World.cell?_of_block (setR_ne (b := b) w4 (hq.elim (fun h => h.elim (fun h => by have := hn b h; omega) (fun h => by omega)) (fun h => by omega)) _)) (fun b hq => ?_)⟩, setR_below HBW4.out (by omega) _⟩
        rw [setR_size]
        exact hq.elim (fun h => h.elim (fun h => .inl h) (fun h => .inr (by omega))) (fun h => .inr (by omega))
      clear k0 k1
      have HZ : Hid ((w4.setRow (w.heap.size + 2) #[.int .i64 z.k, .int .u64 z.n, .string z.s, .slice z.a z.l.length z.c, .int .i64 z.e]).heap[w.heap.size + 2]? = some (.cells #[.int .i64 z.k, .int .u64 z.n, .string z.s, .slice z.a z.l.length z.c, .int .i64 z.e] 42 (0, 0))) := setR_at HX4.out _
      go_wp2_with (refine wpList_store_row rfl 42 (.tmp 4) (.tmp 59) rfl (w.heap.size + 2) #[.int .i64 z.k, .int .u64 z.n, .string z.s, .slice z.a z.l.length z.c, .int .i64 z.e] rfl rfl 42 _ HX4.out Tryz.sizeV rfl (by kernel_rfl) ?_)
      have hz := HZ.out
      have z0 : (w4.setRow (w.heap.size + 2) #[.int .i64 z.k, .int .u64 z.n, .string z.s, .slice z.a z.l.length z.c, .int .i64 z.e]).cell? ⟨w.heap.size + 2, 0, none⟩ = some (.int .i64 z.k) := by unfold World.cell?; simp only [hz]; rfl
      have z1 : (w4.setRow (w.heap.size + 2) #[.int .i64 z.k, .int .u64 z.n, .string z.s, .slice z.a z.l.length z.c, .int .i64 z.e]).cell? ⟨w.heap.size + 2, 1, none⟩ = some (.int .u64 z.n) := by unfold World.cell?; simp only [hz]; rfl
      have z2 : (w4.setRow (w.heap.size + 2) #[.int .i64 z.k, .int .u64 z.n, .string z.s, .slice z.a z.l.length z.c, .int .i64 z.e]).cell? ⟨w.heap.size + 2, 2, none⟩ = some (.string z.s) := by unfold World.cell?; simp only [hz]; rfl
      have z3 : (w4.setRow (w.heap.size + 2) #[.int .i64 z.k, .int .u64 z.n, .string z.s, .slice z.a z.l.length z.c, .int .i64 z.e]).cell? ⟨w.heap.size + 2, 3, none⟩ = some (.slice z.a z.l.length z.c) := by unfold World.cell?; simp only [hz]; rfl
      have z4 : (w4.setRow (w.heap.size + 2) #[.int .i64 z.k, .int .u64 z.n, .string z.s, .slice z.a z.l.length z.c, .int .i64 z.e]).cell? ⟨w.heap.size + 2, 4, none⟩ = some (.int .i64 z.e) := by unfold World.cell?; simp only [hz]; rfl
      exact bodyPost_ret (v := .tuple #[.agg #[.int .i64 z.k, .int .u64 z.n, .string z.s, .slice z.a z.l.length z.c, .int .i64 z.e], .int .i64 0]) (by simp [results, Tryz.results46, go_sem, z0, z1, z2, z3, z4]) rfl HEND.out
theorem fill_congr {re re' : T → T × Int} {k : Int} {f : FS} (ho : okR k f = true) {x : T} (h : ∀ q, kindV x.k x.l = some q → rk q < rk k → re x = re' x) : fillT re f x = fillT re' f x := by
  unfold fillT
  by_cases h102 : f.ty = 102
  · rw [if_neg (show ¬ f.ty = 100 by omega), if_neg (show ¬ f.ty = 101 by omega), if_pos h102, if_neg (show ¬ f.ty = 100 by omega), if_neg (show ¬ f.ty = 101 by omega), if_pos h102]
    cases hq : kindV x.k x.l with
    | none => rfl
    | some q =>
      by_cases hc : f.ks.contains q = true
      · have hm : q ∈ f.ks := by simpa using hc
        have := h q hq ((okR_out ho).2.2.2.1 h102 q hm)
        simp only [this]
      · simp only [if_neg hc]
  · rw [if_neg h102, if_neg h102]
theorem fills_congr {re re' : T → T × Int} {k : Int} {fs : List FS} (hf : ftab k = some fs) (l : List T) (h : ∀ (y : T) q, kindV y.k y.l = some q → rk q < rk k → re y = re' y) : fillsT re fs l = fillsT re' fs l := by
  apply List.ext_getElem
  · rw [fillsT_len, fillsT_len]
  · intro i h1 h2
    have h3 : i < fs.length := by rw [fillsT_len] at h1; exact h1
    rw [fillsT_get re fs l i h1 h3, fillsT_get re' fs l i h2 h3]
    exact fill_congr (ftab_r hf _ (List.getElem_mem h3)) (fun q hq hr => h _ q hq hr)
theorem unp_congr {re re' : T → T × Int} {x : T} {k : Int} (hk : kindV x.k x.l = some k) (h : ∀ (y : T) q, kindV y.k y.l = some q → rk q < rk k → re y = re' y) : unpT re x = unpT re' x := by
  unfold unpT
  rw [hk]
  cases hf : ftab k with
  | none => simp only [hf]
  | some fs => simp only [hf, fills_congr hf _ h]
theorem rep_stable : ∀ (N M : Nat) (x : T) (k : Int), kindV x.k x.l = some k → rk k < N → rk k < M → repT N x = repT M x := by
  intro N
  induction N with
  | zero => intro M x k _ h; omega
  | succ N ih =>
    intro M x k hk h1 h2
    cases M with
    | zero => omega
    | succ M =>
      rw [repT, repT, unp_congr hk (fun y q hq hr => ih M y q hq (by omega) (by omega))]
theorem unpT_none {re : T → T × Int} {x : T} (h : kindV x.k x.l = none) : unpT re x = ((0, []), 0, 70) := by
  unfold unpT
  rw [h]
theorem rep_eq (x : T) : rep x = if (unpT rep x).2.2 ≠ 0 then (nul, (unpT rep x).2.2) else (laidT (unpT rep x).1.1 (unpT rep x).1.2, 0) := by
  cases hk : kindV x.k x.l with
  | none =>
    rw [unpT_none hk]
    show repT 40 x = _
    rw [repT, unpT_none hk]
  | some k =>
    have h3 := rk_le k
    have e : rep x = repT 41 x := rep_stable 40 41 x k hk (by omega) (by omega)
    rw [e, repT]
    rfl
theorem chk_sub {v y x : V} (h : chkE v = 0) (hy : y ∈ v.l) (hx : x ∈ y.l) : chkE x = 0 := by
  rw [chk_iff] at h ⊢
  have h1 := dp_mem hy
  have h2 := dp_mem hx
  exact ⟨nd_sub (nd_sub h.1 hy) hx, by omega⟩
def rpT (fs : List FS) (l : List V) : List T := (List.zipWith (chkV rep) fs l).map Prod.fst
theorem rpT_len {fs : List FS} {l : List V} (h : l.length = fs.length) : (rpT fs l).length = fs.length := by simp [rpT, h]
theorem rpT_at {fs : List FS} {l : List V} (i : Nat) (h : i < (rpT fs l).length) (h1 : i < fs.length) (h2 : i < l.length) : (rpT fs l)[i] = (chkV rep fs[i] l[i]).1 := by simp [rpT]
theorem chkV_fit {f : FS} {v : V} {k : Int} (ho : okR k f = true) (h : (chkV rep f v).2 = 0) : chkE v = 0 ∧ (v.k = 0 → f.must = false ∧ (chkV rep f v).1 = f.d) ∧ (v.k ≠ 0 → f.ty ≠ 102 → (chkV rep f v).1 = v.t) ∧ (v.k ≠ 0 → f.ty = 102 → ∃ q, kindV v.k v.l = some q ∧ q ∈ f.ks ∧ rk q < rk k ∧ rep v.t = ((chkV rep f v).1, 0)) := by
  unfold chkV at h ⊢
  by_cases h1 : (f.must && decide (v.k = 0)) = true
  · rw [if_pos h1] at h; exact absurd h (by decide)
  rw [if_neg h1] at h ⊢
  by_cases h2 : chkE v ≠ 0
  · rw [if_pos h2] at h; exact absurd h h2
  rw [if_neg h2] at h ⊢
  by_cases h3 : f.ty = 101 ∧ v.k = 20
  · rw [if_pos h3] at h; exact absurd h (by decide)
  rw [if_neg h3] at h ⊢
  have hc : chkE v = 0 := by simpa using h2
  have hw := fill_ways (re := rep) (s := f) (x := v.t) (t := (fillT rep f v.t).1) (Prod.ext rfl h)
  rw [k_t] at hw
  refine ⟨hc, fun hk => ?_, fun hk h102 => ?_, fun hk h102 => ?_⟩
  · rcases hw with ⟨_, a, b⟩ | ⟨a, _⟩ | ⟨_, a, _⟩ | ⟨_, a, _⟩
    · exact ⟨a, b⟩
    · exact absurd hk a
    · omega
    · exact absurd hk a
  · rcases hw with ⟨a, _⟩ | ⟨_, a, _⟩ | ⟨a, b, _⟩ | ⟨a, _⟩
    · exact absurd a hk
    · exact a
    · exact absurd ⟨a, b⟩ h3
    · exact absurd a h102
  · have hfill : fillT rep f v.t = (match kindV v.k v.l with | some k => if f.ks.contains k = true then rep v.t else (nul, 73) | none => (nul, 73)) := by
      unfold fillT
      rw [kindV_t, k_t, if_neg hk, if_neg (by omega), if_neg (by omega), if_pos h102]
      cases kindV v.k v.l <;> rfl
    cases hq : kindV v.k v.l with
    | none => rw [hfill, hq] at h; exact absurd h (by show ¬ ((73 : Int) = 0); decide)
    | some q =>
      by_cases hm : f.ks.contains q = true
      · have e : fillT rep f v.t = rep v.t := by rw [hfill, hq]; simp only [if_pos hm]
        rw [e] at h ⊢
        have hm' : q ∈ f.ks := by simpa using hm
        exact ⟨q, rfl, hm', (okR_out ho).2.2.2.1 h102 q hm', Prod.ext rfl h⟩
      · rw [hfill, hq] at h
        simp only [if_neg hm] at h
        exact absurd h (by decide)
theorem unp_comp {v : V} {q : Int} {t : T} (hc : chkE v = 0) (hk : kindV v.k v.l = some q) (h : rep v.t = (t, 0)) : ∃ fs ts, unpR v = ((q, ts), 0, 0) ∧ ftab q = some fs ∧ t = laidT q ts ∧ ts.length = fs.length ∧ ∀ ys : List V, V.ts ys = ts → ys.length = fs.length ∧ (∀ i (h1 : i < fs.length) (h2 : i < ys.length), (chkV rep fs[i] ys[i]).2 = 0) ∧ rpT fs ys = ts := by
  have hu : unpR v = unpT rep v.t := by unfold unpR; rw [if_neg (by simp [hc])]
  have hz : (unpR v).2.2 = 0 := by
    rw [hu]
    by_cases hne : (unpT rep v.t).2.2 ≠ 0
    · rw [rep_eq, if_pos hne] at h
      exact absurd (congrArg Prod.snd h) hne
    · simpa using hne
  obtain ⟨k', fs, ts, e1, hf, hg, hd, hdd⟩ := unpR_good hz
  have hkk : k' = q := by
    obtain ⟨k, fs', d, y, h1, _, _, _, _, _, h2⟩ := unpT_ok (re := rep) (x := v.t) (by rw [← hu]; exact hz)
    rw [kindV_t, hk] at h1
    have h3 : (rowT k (fillsT rep fs' y.l)).2.2 = 0 := by rw [← h2, ← hu]; exact hz
    have h4 := (rowT_ok h3).1
    rw [← h2, ← hu, e1] at h4
    have h5 := congrArg (fun z => z.1.1) h4
    simp only at h5
    rw [h5]
    exact (Option.some.inj h1).symm
  subst hkk
  have ht : t = laidT k' ts := by
    have h6 := h
    rw [rep_eq, ← hu, e1, if_neg (by simp)] at h6
    exact (congrArg Prod.fst h6).symm
  refine ⟨fs, ts, e1, hf, ht, hg.1, fun ys hy => ?_⟩
  have hyl : ys.length = fs.length := by rw [← hg.1, ← hy, V.ts_length]
  have hat : ∀ i (h1 : i < fs.length) (h2 : i < ys.length), chkV rep fs[i] ys[i] = (ys[i].t, 0) := fun i h1 h2 => by
    have hti : i < ts.length := by rw [hg.1]; exact h1
    have hyt : ts[i] = ys[i].t := by
      have : ts[i]? = (V.ts ys)[i]? := by rw [hy]
      rw [V.ts_map, List.getElem?_map, List.getElem?_eq_getElem hti, List.getElem?_eq_getElem h2] at this
      exact Option.some.inj this
    have hgi := hg.2.2.1 i hti h1
    have hmu := hg.2.2.2.1 i hti h1
    have hsy := hg.2.2.2.2 i hti h1
    rw [hyt, k_t] at hmu hsy
    rw [hyt] at hgi
    have hch : chkE ys[i] = 0 := by
      rw [chk_iff]
      have hm := List.getElem_mem hti
      have h7 := (hg.2.1 _ hm).2
      have h8 := hdd _ hm
      rw [hyt] at h7 h8
      rw [nd_t] at h7
      rw [dp_t] at h8
      exact ⟨h7, h8⟩
    unfold chkV
    rw [if_neg (by
      intro h9
      simp only [Bool.and_eq_true, decide_eq_true_eq] at h9
      exact hmu h9.1 h9.2), if_neg (by simp [hch]), if_neg hsy, hgi]
  refine ⟨hyl, fun i h1 h2 => by rw [hat i h1 h2], ?_⟩
  apply List.ext_getElem
  · rw [rpT_len hyl, hg.1]
  · intro i h1 h2
    have h3 : i < fs.length := by rw [rpT_len hyl] at h1; exact h1
    have h4 : i < ys.length := by omega
    rw [rpT_at i h1 h3 h4, hat i h3 h4]
    have : ts[i]? = (V.ts ys)[i]? := by rw [hy]
    rw [V.ts_map, List.getElem?_map, List.getElem?_eq_getElem h2, List.getElem?_eq_getElem h4] at this
    exact (Option.some.inj this).symm
def GLL (Q : Nat → Prop) (lo : Nat) (L : List V) (lv : Value) (w : World) : Prop := w.ownsRow lo 42 5 lv L.length (flat L) ∧ ∀ x ∈ L, LiesIn (fun q => Q q ∨ (lo ≤ q ∧ q < w.heap.size ∧ lv.ownBlock ≠ some q)) w x
theorem GLL.nil (Q : Nat → Prop) (lo : Nat) (w : World) : GLL Q lo [] (.slice none 0 0) w := ⟨World.ownsRow_nil _ _ _ _, by simp⟩
theorem GLL.push {Q : Nat → Prop} {lo : Nat} {L : List V} {lv v' : Value} {wr X w3 : World} {Y : V} {o : Obj} (h : GLL Q lo L lv wr) (hQ : ∀ b, Q b → b < lo) (hlo : lo ≤ wr.heap.size) (hb : Below wr.heap.size wr X)
    (hY : LiesIn (fun q => Q q ∨ (wr.heap.size ≤ q ∧ q < X.heap.size)) X Y) (hown : w3.ownsRow lo 42 5 v' (L.length + 1) (flat L ++ words Y)) (hg : (X.alloc o).grownBy w3 lv.ownBlock) (hat : v'.ownBlock = lv.ownBlock ∨ v'.ownBlock = some (X.alloc o).heap.size) :
    GLL Q lo (L ++ [Y]) v' w3 ∧ Below lo wr w3 := by
  have hs := hb.size
  have hsx : (X.alloc o).heap.size = X.heap.size + 1 := by simp
  have hs3 := hg.size
  have hnl : ∀ b, wr.heap.size ≤ b → lv.ownBlock ≠ some b := fun b h1 e => by have := (ownsRow_lt h.1 e).2; omega
  have hlow : ∀ b, b < lo → lv.ownBlock ≠ some b := fun b h1 e => by have := (ownsRow_lt h.1 e).1; omega
  have hk : ∀ b, b < X.heap.size → lv.ownBlock ≠ some b → w3.heap[b]? = X.heap[b]? := fun b h1 h2 => (hg.block b (by omega) (fun e => h2 e.symm)).trans (Below.heap_alloc _ _ _ h1)
  have hkw : ∀ b, b < wr.heap.size → lv.ownBlock ≠ some b → w3.heap[b]? = wr.heap[b]? := fun b h1 h2 => (hk b (by omega) h2).trans (hb.block b h1)
  have hv' : ∀ b, b < X.heap.size → lv.ownBlock ≠ some b → v'.ownBlock ≠ some b := fun b h1 h2 e => by
    rcases hat with h | h
    · exact h2 (h.symm.trans e)
    · rw [h] at e
      have := Option.some.inj e
      omega
  refine ⟨⟨?_, fun x hx => ?_⟩, ⟨hg.os.trans hb.os, hg.tape.trans hb.tape, hg.output.trans hb.output, by omega, fun b hb' => hkw b (by omega) (hlow b hb')⟩⟩
  · rw [List.length_append, flat_append, show flat [Y] = words Y by simp [flat]]
    exact hown
  · rcases List.mem_append.1 hx with hx | hx
    · refine LiesIn.keep (h.2 x hx) (fun b hq o' => World.cell?_of_block ?_) (fun b hq => ?_)
      · rcases hq with hq | hq
        · have := hQ b hq
          exact hkw b (by omega) (hlow b this)
        · exact hkw b hq.2.1 hq.2.2
      · rcases hq with hq | hq
        · exact .inl hq
        · exact .inr ⟨hq.1, by omega, hv' b (by omega) hq.2.2⟩
    · obtain rfl : x = Y := by simpa using hx
      refine LiesIn.keep hY (fun b hq o' => World.cell?_of_block ?_) (fun b hq => ?_)
      · rcases hq with hq | hq
        · have := hQ b hq
          exact hk b (by omega) (hlow b this)
        · exact hk b hq.2 (hnl b hq.1)
      · rcases hq with hq | hq
        · exact .inl hq
        · exact .inr ⟨by omega, by omega, hv' b hq.2 (hnl b hq.1)⟩
theorem newsR (wr : World) (v1 v2 v3 v4 v5 : Value) (t : TypeId) : ∀ q u, ([v1, v2, v3, v4, v5] : List Value)[q]? = some u → (wr.alloc (.cells #[v1, v2, v3, v4, v5] t)).cell? ((⟨wr.heap.size, 0, none⟩ : Addr).add q) = some u := fun q u hq => by
  have hql : q < 5 := by have := (List.getElem?_eq_some_iff.1 hq).1; simpa using this
  have hh := World.alloc_heap_new wr (Obj.cells #[v1, v2, v3, v4, v5] t)
  have e1 : (⟨wr.heap.size, 0, none⟩ : Addr).add q = ⟨wr.heap.size, q, none⟩ := by by_cases h : q = 0 <;> simp [Addr.add, h]
  rw [e1]
  simp only [World.cell?, hh]
  have : q = 0 ∨ q = 1 ∨ q = 2 ∨ q = 3 ∨ q = 4 := by omega
  rcases this with rfl | rfl | rfl | rfl | rfl <;> simpa using hq
theorem null_of_chk {x : V} (h : chkE x = 0) (hk : x.k = 0) : x.t = nul := by
  have h1 := ((chk_iff x).1 h).1
  obtain ⟨k, n, s, a, c, e, l, rfl⟩ := V.ex x
  have h1 := ((nd_of _ _ _ _ _ _ _).1 h1).1
  rw [V.k_of] at hk
  subst hk
  rw [faultT_of] at h1
  unfold faultB at h1
  rw [if_neg (by decide), if_neg (by decide)] at h1
  have h2 : extraT 0 n s l.length e = false := by
    cases hx : extraT 0 n s l.length e
    · rfl
    · rw [hx, if_pos rfl] at h1; exact absurd h1 (by decide)
  unfold extraT at h2
  rw [if_pos rfl] at h2
  simp only [Bool.or_eq_false_iff, decide_eq_false_iff_not] at h2
  obtain ⟨h3, h4, h5, h6⟩ := h2
  have e1 : n = 0 := by simpa using h3
  have e2 : e = 0 := by simpa using h6
  have e3 : l = [] := List.eq_nil_of_length_eq_zero (by omega)
  have e4 : s = ⟨#[]⟩ := by
    refine bytes_eq ?_
    have h7 : s.toList = [] := by simpa using h4
    have h8 : (⟨#[]⟩ : ByteArray).toList = [] := by kernel_rfl
    exact h7.trans h8.symm
  subst e1 e2 e3 e4
  rw [V.t_of]
  rfl
theorem outs_rp {fs : List FS} {l : List V} (hl : l.length = fs.length) (i : Nat) (h1 : i < fs.length) (h2 : i < l.length) : (outs (rpT fs l) (fs.map FS.d))[i]? = some (if eqT (chkV rep fs[i] l[i]).1.t fs[i].d.t then leaf 0 0 ⟨#[]⟩ else (chkV rep fs[i] l[i]).1) := by
  have h3 : i < (rpT fs l).length := by rw [rpT_len hl]; exact h1
  have := outs_get (rpT fs l) (fs.map FS.d) i (by rw [rpT_len hl]; simp) h3
  rw [this, rpT_at i h3 h1 h2]
  simp
end Go.Proofs.YtgldcchleoklcaaGreatDoor
