import Derived.Test.YtgpimajdcfoigabDoorD22
import Derived.Test.YtgpimajdcfoigabDoorD35

/- codec's reader: span. -/
namespace Go.Proofs.YtgpimajdcfoigabDoor
open Go.RowKit
set_option linter.unusedVariables false
set_option linter.unusedSimpArgs false
/-- what span, and what reads within it, give -/
def OutJ {α : Type} (r : Res (α × Nat)) (R : Nat) (a : Option Addr) (n cap fin : Nat) (sz : Int) (F : World → Prop) (J : α → World → Prop) (e : Ending) (w' : World) : Prop :=
  match r with
  | .error x => e = Flt x ∧ F w'
  | .ok xq => e = .returned (.tuple #[]) ∧ RB w' R a n cap xq.2 fin sz ∧ xq.2 ≤ fin ∧ J xq.1 w' ∧ F w'
set_option maxRecDepth 100000 in
set_option maxHeartbeats 2000000 in
theorem span5 {α : Type} (inner : Nat → Nat → Nat → Int → Res (α × Nat)) (R : Nat) (a : Option Addr) (n cap p fin wd least : Nat) (sz : Int) (l : List Nat) (F G : World → Prop) (J : α → World → Prop) (b1 b2 b3 b4 b5 : Nat) (w : World) (hF0 : F w) (hr : RB w R a n cap p fin sz) (hp : p ≤ fin) (hfin : fin ≤ n) (hwd : wd = 1 ∨ wd = 4) (hleast : least ≤ 5)
    (HF : Hid (∀ W W', F W → Gro R W W' → F W')) (HS : Hid (∀ W, F W → Src W R a n cap l)) (HFG : Hid (∀ W, F W → G W)) (HG : Hid (∀ W W', G W → Gro R W W' → G W')) (HJ : Hid (∀ x W W', J x W → G W → Gro R W W' → J x W'))
    (HI : Hid (∀ (count q fin' : Nat) (sz' : Int) W1, F W1 → RB W1 R a n cap q fin' sz' → q ≤ fin' → fin' ≤ n → count < 4294967296 → fin' ≤ q + 4294967296 →
      Calls Tryd.prog 57 #[.int .i64 (count : Int), .pointer (some ⟨b1, 0, none⟩), .pointer (some ⟨b2, 0, none⟩), .pointer (some ⟨b3, 0, none⟩), .pointer (some ⟨b4, 0, none⟩), .pointer (some ⟨b5, 0, none⟩)] W1 (OutJ (inner count q fin' sz') R a n cap fin' sz' G J))) :
    Calls Tryd.prog 56 #[.pointer (some ⟨R, 0, none⟩), .int .i64 (wd : Int), .int .i64 (least : Int), .func (.func 57) #[] #[.pointer (some ⟨b1, 0, none⟩), .pointer (some ⟨b2, 0, none⟩), .pointer (some ⟨b3, 0, none⟩), .pointer (some ⟨b4, 0, none⟩), .pointer (some ⟨b5, 0, none⟩)]] w (OutJ (rspan l wd least p fin sz inner) R a n cap fin sz G J) := by
  have hs := HS.out w hF0
  have hn := hs.small
  have hlen := hs.rd.1
  have hby := hs.rd.2.1
  obtain ⟨c0, c1, c2, c3, f1, f2, f3, hlt⟩ := hr.cells
  have HNU : Hid (∀ W1, F W1 → RB W1 R a n cap p fin sz → Calls Tryd.prog 24 #[.pointer (some ⟨R, 0, none⟩), .int .i64 (wd : Int)] W1 (Outc (rnum l p fin sz wd) R W1 (fun m e w' => e = .returned (.int .u64 (m : Int)) ∧ RB w' R a n cap (p + wd) fin sz ∧ p + wd ≤ fin))) := fun W1 h1 h2 => number_any R a n cap p fin wd sz l W1 (HS.out W1 h1) h2 hp hfin (by omega) (by omega)
  have HF1 : Hid (F w.drew) := HF.out _ _ hF0 (Gro.refl R w).drew
  have HR1 : Hid (RB w.drew R a n cap p fin sz) := hr
  have hb : ∀ {p' fin' m : Nat} {sz' : Int}, rnum l p' fin' sz' wd = .ok m → m < 4294967296 := fun {p' fin' m sz'} h => by
    have h1 := rnum_le l h
    unfold rnum at h
    rw [if_pos h1] at h
    cases h
    have h2 := getN_lt ((l.drop p').take wd) (fun c hc => hby c (List.mem_of_mem_drop (List.mem_of_mem_take hc)))
    have h3 : (256 : Nat) ^ ((l.drop p').take wd).length ≤ 256 ^ 4 := Nat.pow_le_pow_right (by omega) (by rw [List.length_take]; omega)
    have h4 : (256 : Nat) ^ 4 = 4294967296 := by decide
    omega
  rw [rspan_b]
  unfold bindR
  clear hr hs hF0
  cases hrn : rnum l p fin sz wd with
  | error x =>
    rw [hrn] at HNU
    clear hrn hb
    go_enter Tryd.func56, Tryd.ntmps56
    go_wp2_with fail
    go_region_held (fun W1 => W1.cell? ⟨R, 2, none⟩ = some (.int .i64 (fin : Int)) ∧ W1.cell? ⟨R, 3, none⟩ = some (.int .i64 sz)) (go_keep) (fail)
    go_wp2_with fail
    refine Calls.mono (HNU.out _ HF1.out HR1.out) ?_
    rintro e1 w1 ⟨rfl, hg⟩
    exact ⟨rfl, rfl, HFG.out _ (HF.out _ _ HF1.out hg)⟩
  | ok size =>
    have hsz := hb hrn
    have hpw := rnum_le l hrn
    rw [hrn] at HNU
    have HNU2 : Hid (∀ W1, F W1 → RB W1 R a n cap p fin sz → Calls Tryd.prog 24 #[.pointer (some ⟨R, 0, none⟩), .int .i64 (wd : Int)] W1 (fun e w' => (e = .returned (.int .u64 (size : Int)) ∧ RB w' R a n cap (p + wd) fin sz ∧ p + wd ≤ fin) ∧ Gro R W1 w')) := HNU.out
    clear HNU hrn
    simp only
    by_cases h1 : size < least
    · rw [if_pos h1]
      go_enter Tryd.func56, Tryd.ntmps56
      go_wp2_with fail
      go_region_held (fun W1 => W1.cell? ⟨R, 2, none⟩ = some (.int .i64 (fin : Int)) ∧ W1.cell? ⟨R, 3, none⟩ = some (.int .i64 sz)) (go_keep) (fail)
      go_wp2_with fail
      refine Calls.mono (HNU2.out _ HF1.out HR1.out) ?_
      rintro e1 w1 ⟨⟨rfl, hr1, hq⟩, hg⟩
      have HF2 : Hid (F w1) := HF.out _ _ HF1.out hg
      clear hr1 hg
      go_wp2
      exact ⟨rfl, rfl, rfl, HFG.out _ HF2.out⟩
    rw [if_neg h1]
    have hlz : (least : Int) ≤ (size : Int) := by omega
    have HND : Hid (∀ W1, RB W1 R a n cap (p + wd) fin sz → Calls Tryd.prog 38 #[.pointer (some ⟨R, 0, none⟩), .int .i64 (size : Int)] W1 fun e w' => (p + wd + size ≤ fin → e = .returned (.tuple #[])) ∧ (¬ p + wd + size ≤ fin → e = Flt (shortC n sz)) ∧ (w' = W1.drew)) := fun W1 hW => need_any R a n cap (p + wd) fin size sz W1 hW hpw hfin hn (by omega)
    by_cases h2 : fin < p + wd + size
    · rw [if_pos h2, hlen]
      have HNO : Hid (¬ p + wd + size ≤ fin) := by show ¬ p + wd + size ≤ fin; omega
      clear h2
      go_enter Tryd.func56, Tryd.ntmps56
      go_wp2_with fail
      go_region_held (fun W1 => W1.cell? ⟨R, 2, none⟩ = some (.int .i64 (fin : Int)) ∧ W1.cell? ⟨R, 3, none⟩ = some (.int .i64 sz)) (go_keep) (fail)
      go_wp2_with fail
      refine Calls.mono (HNU2.out _ HF1.out HR1.out) ?_
      rintro e1 w1 ⟨⟨rfl, hr1, hq⟩, hg⟩
      have HF2 : Hid (F w1) := HF.out _ _ HF1.out hg
      have HR2 := hide hr1
      clear hr1 hg
      go_wp2_with fail
      refine Calls.mono (HND.out _ HR2.out) ?_
      rintro e2 w2 ⟨_, he2, rfl⟩
      obtain rfl := he2 HNO.out
      exact ⟨rfl, rfl, HFG.out _ (HF.out _ _ HF2.out (Gro.refl R w1).drew)⟩
    rw [if_neg h2]
    have HYE : Hid (p + wd + size ≤ fin) := by show p + wd + size ≤ fin; omega
    have hps : p + wd + size ≤ n := by omega
    have HN2 : Hid (∀ W1, F W1 → RB W1 R a n cap (p + wd) (p + wd + size) p → Calls Tryd.prog 24 #[.pointer (some ⟨R, 0, none⟩), .int .i64 (wd : Int)] W1 (Outc (rnum l (p + wd) (p + wd + size) p wd) R W1 (fun m e w' => e = .returned (.int .u64 (m : Int)) ∧ RB w' R a n cap (p + wd + wd) (p + wd + size) p ∧ p + wd + wd ≤ p + wd + size))) := fun W1 h1 h2 => number_any R a n cap (p + wd) (p + wd + size) wd p l W1 (HS.out W1 h1) h2 (by omega) hps (by omega) (by omega)
    clear h2
    cases hrn2 : rnum l (p + wd) (p + wd + size) p wd with
    | error x =>
      rw [hrn2] at HN2
      clear hrn2 hb
      go_enter Tryd.func56, Tryd.ntmps56
      go_wp2_with fail
      go_region_held (fun W1 => W1.cell? ⟨R, 2, none⟩ = some (.int .i64 (fin : Int)) ∧ W1.cell? ⟨R, 3, none⟩ = some (.int .i64 sz)) (go_keep) (fail)
      go_wp2_with fail
      refine Calls.mono (HNU2.out _ HF1.out HR1.out) ?_
      rintro e1 w1 ⟨⟨rfl, hr1, hq⟩, hg⟩
      have HF2 : Hid (F w1) := HF.out _ _ HF1.out hg
      have HR2 := hide hr1
      clear hr1 hg
      go_wp2_with fail
      refine Calls.mono (HND.out _ HR2.out) ?_
      rintro e2 w2 ⟨he2, _, rfl⟩
      obtain rfl := he2 HYE.out
      obtain ⟨d0, d1, d2, d3, g1, g2, g3, hlt1⟩ := HR2.out.cells
      have HF3 : Hid (F ((w1.drew.setCell ⟨R, 2, none⟩ (.int .i64 ((p + wd + size : Nat) : Int))).setCell ⟨R, 3, none⟩ (.int .i64 (p : Int)))) := HF.out _ _ HF2.out ((((Gro.refl R w1).drew).set 2 _).set 3 _)
      have HR3 : Hid (RB ((w1.drew.setCell ⟨R, 2, none⟩ (.int .i64 ((p + wd + size : Nat) : Int))).setCell ⟨R, 3, none⟩ (.int .i64 (p : Int))) R a n cap (p + wd) (p + wd + size) p) := (HR2.out.drew.set2 (p + wd + size)).set3 p
      have e1 : ((p + wd + size : Nat) : Int) = (p : Int) + (wd : Int) + (size : Int) := by omega
      rw [e1] at HF3 HR3
      clear e1
      go_wp2_with fail
      refine Calls.mono (HN2.out _ HF3.out HR3.out) ?_
      rintro e3 w3 ⟨rfl, hg3⟩
      exact ⟨rfl, rfl, HFG.out _ (HF.out _ _ HF3.out hg3)⟩
    | ok count =>
      have hcn := hb hrn2
      have hqf := rnum_le l hrn2
      rw [hrn2] at HN2
      have HN3 : Hid (∀ W1, F W1 → RB W1 R a n cap (p + wd) (p + wd + size) p → Calls Tryd.prog 24 #[.pointer (some ⟨R, 0, none⟩), .int .i64 (wd : Int)] W1 (fun e w' => (e = .returned (.int .u64 (count : Int)) ∧ RB w' R a n cap (p + wd + wd) (p + wd + size) p ∧ p + wd + wd ≤ p + wd + size) ∧ Gro R W1 w')) := HN2.out
      have HIN : Hid (∀ W1, F W1 → RB W1 R a n cap (p + wd + wd) (p + wd + size) p → Calls Tryd.prog 57 #[.int .i64 (count : Int), .pointer (some ⟨b1, 0, none⟩), .pointer (some ⟨b2, 0, none⟩), .pointer (some ⟨b3, 0, none⟩), .pointer (some ⟨b4, 0, none⟩), .pointer (some ⟨b5, 0, none⟩)] W1 (OutJ (inner count (p + wd + wd) (p + wd + size) p) R a n cap (p + wd + size) p G J)) := fun W1 h1 h2 => HI.out count _ _ _ W1 h1 h2 hqf hps hcn (by omega)
      clear HN2 hrn2 hb HI
      simp only
      cases hin : inner count (p + wd + wd) (p + wd + size) p with
      | error x =>
        rw [hin] at HIN
        clear hin
        go_enter Tryd.func56, Tryd.ntmps56
        go_wp2_with fail
        go_region_held (fun W1 => W1.cell? ⟨R, 2, none⟩ = some (.int .i64 (fin : Int)) ∧ W1.cell? ⟨R, 3, none⟩ = some (.int .i64 sz)) (go_keep) (fail)
        go_wp2_with fail
        refine Calls.mono (HNU2.out _ HF1.out HR1.out) ?_
        rintro e1 w1 ⟨⟨rfl, hr1, hq⟩, hg⟩
        have HF2 : Hid (F w1) := HF.out _ _ HF1.out hg
        have HR2 := hide hr1
        clear hr1 hg
        go_wp2_with fail
        refine Calls.mono (HND.out _ HR2.out) ?_
        rintro e2 w2 ⟨he2, _, rfl⟩
        obtain rfl := he2 HYE.out
        obtain ⟨d0, d1, d2, d3, g1, g2, g3, hlt1⟩ := HR2.out.cells
        have HF3 : Hid (F ((w1.drew.setCell ⟨R, 2, none⟩ (.int .i64 ((p + wd + size : Nat) : Int))).setCell ⟨R, 3, none⟩ (.int .i64 (p : Int)))) := HF.out _ _ HF2.out ((((Gro.refl R w1).drew).set 2 _).set 3 _)
        have HR3 : Hid (RB ((w1.drew.setCell ⟨R, 2, none⟩ (.int .i64 ((p + wd + size : Nat) : Int))).setCell ⟨R, 3, none⟩ (.int .i64 (p : Int))) R a n cap (p + wd) (p + wd + size) p) := (HR2.out.drew.set2 (p + wd + size)).set3 p
        have e1 : ((p + wd + size : Nat) : Int) = (p : Int) + (wd : Int) + (size : Int) := by omega
        rw [e1] at HF3 HR3
        clear e1
        go_wp2_with fail
        refine Calls.mono (HN3.out _ HF3.out HR3.out) ?_
        rintro e3 w3 ⟨⟨rfl, hr3, hq3⟩, hg3⟩
        have HF4 : Hid (F w3) := HF.out _ _ HF3.out hg3
        have HR4 := hide hr3
        clear hr3 hg3 d0 d1 d2 d3 g1 g2 g3 hlt1 HF3 HR3
        go_wp2_with fail
        refine Calls.mono (HIN.out _ HF4.out HR4.out) ?_
        rintro e4 w4 ⟨rfl, hf4⟩
        exact ⟨rfl, rfl, hf4⟩
      | ok xq =>
        obtain ⟨x, q⟩ := xq
        rw [hin] at HIN
        clear hin
        simp only
        by_cases h5 : q < p + wd + size
        · rw [if_pos h5]
          have hqd : (q : Int) < ((p + wd + size : Nat) : Int) := by omega
          go_enter Tryd.func56, Tryd.ntmps56
          go_wp2_with fail
          go_region_held (fun W1 => W1.cell? ⟨R, 2, none⟩ = some (.int .i64 (fin : Int)) ∧ W1.cell? ⟨R, 3, none⟩ = some (.int .i64 sz)) (go_keep) (fail)
          go_wp2_with fail
          refine Calls.mono (HNU2.out _ HF1.out HR1.out) ?_
          rintro e1 w1 ⟨⟨rfl, hr1, hq⟩, hg⟩
          have HF2 : Hid (F w1) := HF.out _ _ HF1.out hg
          have HR2 := hide hr1
          clear hr1 hg
          go_wp2_with fail
          refine Calls.mono (HND.out _ HR2.out) ?_
          rintro e2 w2 ⟨he2, _, rfl⟩
          obtain rfl := he2 HYE.out
          obtain ⟨d0, d1, d2, d3, g1, g2, g3, hlt1⟩ := HR2.out.cells
          have HF3 : Hid (F ((w1.drew.setCell ⟨R, 2, none⟩ (.int .i64 ((p + wd + size : Nat) : Int))).setCell ⟨R, 3, none⟩ (.int .i64 (p : Int)))) := HF.out _ _ HF2.out ((((Gro.refl R w1).drew).set 2 _).set 3 _)
          have HR3 : Hid (RB ((w1.drew.setCell ⟨R, 2, none⟩ (.int .i64 ((p + wd + size : Nat) : Int))).setCell ⟨R, 3, none⟩ (.int .i64 (p : Int))) R a n cap (p + wd) (p + wd + size) p) := (HR2.out.drew.set2 (p + wd + size)).set3 p
          have e1 : ((p + wd + size : Nat) : Int) = (p : Int) + (wd : Int) + (size : Int) := by omega
          rw [e1] at HF3 HR3
          clear e1
          go_wp2_with fail
          refine Calls.mono (HN3.out _ HF3.out HR3.out) ?_
          rintro e3 w3 ⟨⟨rfl, hr3, hq3⟩, hg3⟩
          have HF4 : Hid (F w3) := HF.out _ _ HF3.out hg3
          have HR4 := hide hr3
          clear hr3 hg3 d0 d1 d2 d3 g1 g2 g3 hlt1 HF3 HR3
          go_wp2_with fail
          refine Calls.mono (HIN.out _ HF4.out HR4.out) ?_
          rintro e4 w4 ⟨rfl, hr4, hq4, hj4, hf4⟩
          simp only at hr4 hq4 hj4
          have HF5 := hide hf4
          have HR5 := hide hr4
          have HJ5 := hide hj4
          obtain ⟨d0, d1, d2, d3, g1, g2, g3, hlt1⟩ := hr4.cells
          clear hr4 hj4 hf4 HF4 HR4
          go_wp2_with fail
          go_region_held (fun W1 => W1.cell? ⟨R, 1, none⟩ = some (.int .i64 (q : Int)) ∧ W1.cell? ⟨R, 2, none⟩ = some (.int .i64 ((p + wd + size : Nat) : Int))) (go_keep) (fail)
          go_wp2
          exact ⟨rfl, rfl, rfl, HG.out _ _ HF5.out (Gro.refl R w4).drew⟩
        · rw [if_neg h5]
          have hqe : ((p + wd + size : Nat) : Int) ≤ (q : Int) := by omega
          go_enter Tryd.func56, Tryd.ntmps56
          go_wp2_with fail
          go_region_held (fun W1 => W1.cell? ⟨R, 2, none⟩ = some (.int .i64 (fin : Int)) ∧ W1.cell? ⟨R, 3, none⟩ = some (.int .i64 sz)) (go_keep) (fail)
          go_wp2_with fail
          refine Calls.mono (HNU2.out _ HF1.out HR1.out) ?_
          rintro e1 w1 ⟨⟨rfl, hr1, hq⟩, hg⟩
          have HF2 : Hid (F w1) := HF.out _ _ HF1.out hg
          have HR2 := hide hr1
          clear hr1 hg
          go_wp2_with fail
          refine Calls.mono (HND.out _ HR2.out) ?_
          rintro e2 w2 ⟨he2, _, rfl⟩
          obtain rfl := he2 HYE.out
          obtain ⟨d0, d1, d2, d3, g1, g2, g3, hlt1⟩ := HR2.out.cells
          have HF3 : Hid (F ((w1.drew.setCell ⟨R, 2, none⟩ (.int .i64 ((p + wd + size : Nat) : Int))).setCell ⟨R, 3, none⟩ (.int .i64 (p : Int)))) := HF.out _ _ HF2.out ((((Gro.refl R w1).drew).set 2 _).set 3 _)
          have HR3 : Hid (RB ((w1.drew.setCell ⟨R, 2, none⟩ (.int .i64 ((p + wd + size : Nat) : Int))).setCell ⟨R, 3, none⟩ (.int .i64 (p : Int))) R a n cap (p + wd) (p + wd + size) p) := (HR2.out.drew.set2 (p + wd + size)).set3 p
          have e1 : ((p + wd + size : Nat) : Int) = (p : Int) + (wd : Int) + (size : Int) := by omega
          rw [e1] at HF3 HR3
          clear e1
          go_wp2_with fail
          refine Calls.mono (HN3.out _ HF3.out HR3.out) ?_
          rintro e3 w3 ⟨⟨rfl, hr3, hq3⟩, hg3⟩
          have HF4 : Hid (F w3) := HF.out _ _ HF3.out hg3
          have HR4 := hide hr3
          clear hr3 hg3 d0 d1 d2 d3 g1 g2 g3 hlt1 HF3 HR3
          go_wp2_with fail
          refine Calls.mono (HIN.out _ HF4.out HR4.out) ?_
          rintro e4 w4 ⟨rfl, hr4, hq4, hj4, hf4⟩
          simp only at hr4 hq4 hj4
          have HF5 := hide hf4
          have HR5 := hide hr4
          have HJ5 := hide hj4
          obtain ⟨d0, d1, d2, d3, g1, g2, g3, hlt1⟩ := hr4.cells
          clear hr4 hj4 hf4 HF4 HR4
          go_wp2_with fail
          go_region_held (fun W1 => W1.cell? ⟨R, 1, none⟩ = some (.int .i64 (q : Int)) ∧ W1.cell? ⟨R, 2, none⟩ = some (.int .i64 ((p + wd + size : Nat) : Int))) (go_keep) (fail)
          go_wp2
          first | go_end0 | refine bodyPost_ret (results_none rfl _ _ _) rfl ?_
          have hg5 : Gro R w4 ((w4.drew.setCell ⟨R, 2, none⟩ (.int .i64 (fin : Int))).setCell ⟨R, 3, none⟩ (.int .i64 sz)) := (((Gro.refl R w4).drew).set 2 _).set 3 _
          exact ⟨rfl, (HR5.out.drew.set2 fin).set3 sz, by have := HYE.out; show q ≤ fin; omega, HJ.out _ _ _ HJ5.out HF5.out hg5, HG.out _ _ HF5.out hg5⟩
set_option maxRecDepth 100000 in
set_option maxHeartbeats 2000000 in
theorem span4 {α : Type} (inner : Nat → Nat → Nat → Int → Res (α × Nat)) (R : Nat) (a : Option Addr) (n cap p fin wd least : Nat) (sz : Int) (l : List Nat) (F G : World → Prop) (J : α → World → Prop) (b1 b2 b3 b4 : Nat) (w : World) (hF0 : F w) (hr : RB w R a n cap p fin sz) (hp : p ≤ fin) (hfin : fin ≤ n) (hwd : wd = 1 ∨ wd = 4) (hleast : least ≤ 5)
    (HF : Hid (∀ W W', F W → Gro R W W' → F W')) (HS : Hid (∀ W, F W → Src W R a n cap l)) (HFG : Hid (∀ W, F W → G W)) (HG : Hid (∀ W W', G W → Gro R W W' → G W')) (HJ : Hid (∀ x W W', J x W → G W → Gro R W W' → J x W'))
    (HI : Hid (∀ (count q fin' : Nat) (sz' : Int) W1, F W1 → RB W1 R a n cap q fin' sz' → q ≤ fin' → fin' ≤ n → count < 4294967296 → fin' ≤ q + 4294967296 →
      Calls Tryd.prog 59 #[.int .i64 (count : Int), .pointer (some ⟨b1, 0, none⟩), .pointer (some ⟨b2, 0, none⟩), .pointer (some ⟨b3, 0, none⟩), .pointer (some ⟨b4, 0, none⟩)] W1 (OutJ (inner count q fin' sz') R a n cap fin' sz' G J))) :
    Calls Tryd.prog 56 #[.pointer (some ⟨R, 0, none⟩), .int .i64 (wd : Int), .int .i64 (least : Int), .func (.func 59) #[] #[.pointer (some ⟨b1, 0, none⟩), .pointer (some ⟨b2, 0, none⟩), .pointer (some ⟨b3, 0, none⟩), .pointer (some ⟨b4, 0, none⟩)]] w (OutJ (rspan l wd least p fin sz inner) R a n cap fin sz G J) := by
  have hs := HS.out w hF0
  have hn := hs.small
  have hlen := hs.rd.1
  have hby := hs.rd.2.1
  obtain ⟨c0, c1, c2, c3, f1, f2, f3, hlt⟩ := hr.cells
  have HNU : Hid (∀ W1, F W1 → RB W1 R a n cap p fin sz → Calls Tryd.prog 24 #[.pointer (some ⟨R, 0, none⟩), .int .i64 (wd : Int)] W1 (Outc (rnum l p fin sz wd) R W1 (fun m e w' => e = .returned (.int .u64 (m : Int)) ∧ RB w' R a n cap (p + wd) fin sz ∧ p + wd ≤ fin))) := fun W1 h1 h2 => number_any R a n cap p fin wd sz l W1 (HS.out W1 h1) h2 hp hfin (by omega) (by omega)
  have HF1 : Hid (F w.drew) := HF.out _ _ hF0 (Gro.refl R w).drew
  have HR1 : Hid (RB w.drew R a n cap p fin sz) := hr
  have hb : ∀ {p' fin' m : Nat} {sz' : Int}, rnum l p' fin' sz' wd = .ok m → m < 4294967296 := fun {p' fin' m sz'} h => by
    have h1 := rnum_le l h
    unfold rnum at h
    rw [if_pos h1] at h
    cases h
    have h2 := getN_lt ((l.drop p').take wd) (fun c hc => hby c (List.mem_of_mem_drop (List.mem_of_mem_take hc)))
    have h3 : (256 : Nat) ^ ((l.drop p').take wd).length ≤ 256 ^ 4 := Nat.pow_le_pow_right (by omega) (by rw [List.length_take]; omega)
    have h4 : (256 : Nat) ^ 4 = 4294967296 := by decide
    omega
  rw [rspan_b]
  unfold bindR
  clear hr hs hF0
  cases hrn : rnum l p fin sz wd with
  | error x =>
    rw [hrn] at HNU
    clear hrn hb
    go_enter Tryd.func56, Tryd.ntmps56
    go_wp2_with fail
    go_region_held (fun W1 => W1.cell? ⟨R, 2, none⟩ = some (.int .i64 (fin : Int)) ∧ W1.cell? ⟨R, 3, none⟩ = some (.int .i64 sz)) (go_keep) (fail)
    go_wp2_with fail
    refine Calls.mono (HNU.out _ HF1.out HR1.out) ?_
    rintro e1 w1 ⟨rfl, hg⟩
    exact ⟨rfl, rfl, HFG.out _ (HF.out _ _ HF1.out hg)⟩
  | ok size =>
    have hsz := hb hrn
    have hpw := rnum_le l hrn
    rw [hrn] at HNU
    have HNU2 : Hid (∀ W1, F W1 → RB W1 R a n cap p fin sz → Calls Tryd.prog 24 #[.pointer (some ⟨R, 0, none⟩), .int .i64 (wd : Int)] W1 (fun e w' => (e = .returned (.int .u64 (size : Int)) ∧ RB w' R a n cap (p + wd) fin sz ∧ p + wd ≤ fin) ∧ Gro R W1 w')) := HNU.out
    clear HNU hrn
    simp only
    by_cases h1 : size < least
    · rw [if_pos h1]
      go_enter Tryd.func56, Tryd.ntmps56
      go_wp2_with fail
      go_region_held (fun W1 => W1.cell? ⟨R, 2, none⟩ = some (.int .i64 (fin : Int)) ∧ W1.cell? ⟨R, 3, none⟩ = some (.int .i64 sz)) (go_keep) (fail)
      go_wp2_with fail
      refine Calls.mono (HNU2.out _ HF1.out HR1.out) ?_
      rintro e1 w1 ⟨⟨rfl, hr1, hq⟩, hg⟩
      have HF2 : Hid (F w1) := HF.out _ _ HF1.out hg
      clear hr1 hg
      go_wp2
      exact ⟨rfl, rfl, rfl, HFG.out _ HF2.out⟩
    rw [if_neg h1]
    have hlz : (least : Int) ≤ (size : Int) := by omega
    have HND : Hid (∀ W1, RB W1 R a n cap (p + wd) fin sz → Calls Tryd.prog 38 #[.pointer (some ⟨R, 0, none⟩), .int .i64 (size : Int)] W1 fun e w' => (p + wd + size ≤ fin → e = .returned (.tuple #[])) ∧ (¬ p + wd + size ≤ fin → e = Flt (shortC n sz)) ∧ (w' = W1.drew)) := fun W1 hW => need_any R a n cap (p + wd) fin size sz W1 hW hpw hfin hn (by omega)
    by_cases h2 : fin < p + wd + size
    · rw [if_pos h2, hlen]
      have HNO : Hid (¬ p + wd + size ≤ fin) := by show ¬ p + wd + size ≤ fin; omega
      clear h2
      go_enter Tryd.func56, Tryd.ntmps56
      go_wp2_with fail
      go_region_held (fun W1 => W1.cell? ⟨R, 2, none⟩ = some (.int .i64 (fin : Int)) ∧ W1.cell? ⟨R, 3, none⟩ = some (.int .i64 sz)) (go_keep) (fail)
      go_wp2_with fail
      refine Calls.mono (HNU2.out _ HF1.out HR1.out) ?_
      rintro e1 w1 ⟨⟨rfl, hr1, hq⟩, hg⟩
      have HF2 : Hid (F w1) := HF.out _ _ HF1.out hg
      have HR2 := hide hr1
      clear hr1 hg
      go_wp2_with fail
      refine Calls.mono (HND.out _ HR2.out) ?_
      rintro e2 w2 ⟨_, he2, rfl⟩
      obtain rfl := he2 HNO.out
      exact ⟨rfl, rfl, HFG.out _ (HF.out _ _ HF2.out (Gro.refl R w1).drew)⟩
    rw [if_neg h2]
    have HYE : Hid (p + wd + size ≤ fin) := by show p + wd + size ≤ fin; omega
    have hps : p + wd + size ≤ n := by omega
    have HN2 : Hid (∀ W1, F W1 → RB W1 R a n cap (p + wd) (p + wd + size) p → Calls Tryd.prog 24 #[.pointer (some ⟨R, 0, none⟩), .int .i64 (wd : Int)] W1 (Outc (rnum l (p + wd) (p + wd + size) p wd) R W1 (fun m e w' => e = .returned (.int .u64 (m : Int)) ∧ RB w' R a n cap (p + wd + wd) (p + wd + size) p ∧ p + wd + wd ≤ p + wd + size))) := fun W1 h1 h2 => number_any R a n cap (p + wd) (p + wd + size) wd p l W1 (HS.out W1 h1) h2 (by omega) hps (by omega) (by omega)
    clear h2
    cases hrn2 : rnum l (p + wd) (p + wd + size) p wd with
    | error x =>
      rw [hrn2] at HN2
      clear hrn2 hb
      go_enter Tryd.func56, Tryd.ntmps56
      go_wp2_with fail
      go_region_held (fun W1 => W1.cell? ⟨R, 2, none⟩ = some (.int .i64 (fin : Int)) ∧ W1.cell? ⟨R, 3, none⟩ = some (.int .i64 sz)) (go_keep) (fail)
      go_wp2_with fail
      refine Calls.mono (HNU2.out _ HF1.out HR1.out) ?_
      rintro e1 w1 ⟨⟨rfl, hr1, hq⟩, hg⟩
      have HF2 : Hid (F w1) := HF.out _ _ HF1.out hg
      have HR2 := hide hr1
      clear hr1 hg
      go_wp2_with fail
      refine Calls.mono (HND.out _ HR2.out) ?_
      rintro e2 w2 ⟨he2, _, rfl⟩
      obtain rfl := he2 HYE.out
      obtain ⟨d0, d1, d2, d3, g1, g2, g3, hlt1⟩ := HR2.out.cells
      have HF3 : Hid (F ((w1.drew.setCell ⟨R, 2, none⟩ (.int .i64 ((p + wd + size : Nat) : Int))).setCell ⟨R, 3, none⟩ (.int .i64 (p : Int)))) := HF.out _ _ HF2.out ((((Gro.refl R w1).drew).set 2 _).set 3 _)
      have HR3 : Hid (RB ((w1.drew.setCell ⟨R, 2, none⟩ (.int .i64 ((p + wd + size : Nat) : Int))).setCell ⟨R, 3, none⟩ (.int .i64 (p : Int))) R a n cap (p + wd) (p + wd + size) p) := (HR2.out.drew.set2 (p + wd + size)).set3 p
      have e1 : ((p + wd + size : Nat) : Int) = (p : Int) + (wd : Int) + (size : Int) := by omega
      rw [e1] at HF3 HR3
      clear e1
      go_wp2_with fail
      refine Calls.mono (HN2.out _ HF3.out HR3.out) ?_
      rintro e3 w3 ⟨rfl, hg3⟩
      exact ⟨rfl, rfl, HFG.out _ (HF.out _ _ HF3.out hg3)⟩
    | ok count =>
      have hcn := hb hrn2
      have hqf := rnum_le l hrn2
      rw [hrn2] at HN2
      have HN3 : Hid (∀ W1, F W1 → RB W1 R a n cap (p + wd) (p + wd + size) p → Calls Tryd.prog 24 #[.pointer (some ⟨R, 0, none⟩), .int .i64 (wd : Int)] W1 (fun e w' => (e = .returned (.int .u64 (count : Int)) ∧ RB w' R a n cap (p + wd + wd) (p + wd + size) p ∧ p + wd + wd ≤ p + wd + size) ∧ Gro R W1 w')) := HN2.out
      have HIN : Hid (∀ W1, F W1 → RB W1 R a n cap (p + wd + wd) (p + wd + size) p → Calls Tryd.prog 59 #[.int .i64 (count : Int), .pointer (some ⟨b1, 0, none⟩), .pointer (some ⟨b2, 0, none⟩), .pointer (some ⟨b3, 0, none⟩), .pointer (some ⟨b4, 0, none⟩)] W1 (OutJ (inner count (p + wd + wd) (p + wd + size) p) R a n cap (p + wd + size) p G J)) := fun W1 h1 h2 => HI.out count _ _ _ W1 h1 h2 hqf hps hcn (by omega)
      clear HN2 hrn2 hb HI
      simp only
      cases hin : inner count (p + wd + wd) (p + wd + size) p with
      | error x =>
        rw [hin] at HIN
        clear hin
        go_enter Tryd.func56, Tryd.ntmps56
        go_wp2_with fail
        go_region_held (fun W1 => W1.cell? ⟨R, 2, none⟩ = some (.int .i64 (fin : Int)) ∧ W1.cell? ⟨R, 3, none⟩ = some (.int .i64 sz)) (go_keep) (fail)
        go_wp2_with fail
        refine Calls.mono (HNU2.out _ HF1.out HR1.out) ?_
        rintro e1 w1 ⟨⟨rfl, hr1, hq⟩, hg⟩
        have HF2 : Hid (F w1) := HF.out _ _ HF1.out hg
        have HR2 := hide hr1
        clear hr1 hg
        go_wp2_with fail
        refine Calls.mono (HND.out _ HR2.out) ?_
        rintro e2 w2 ⟨he2, _, rfl⟩
        obtain rfl := he2 HYE.out
        obtain ⟨d0, d1, d2, d3, g1, g2, g3, hlt1⟩ := HR2.out.cells
        have HF3 : Hid (F ((w1.drew.setCell ⟨R, 2, none⟩ (.int .i64 ((p + wd + size : Nat) : Int))).setCell ⟨R, 3, none⟩ (.int .i64 (p : Int)))) := HF.out _ _ HF2.out ((((Gro.refl R w1).drew).set 2 _).set 3 _)
        have HR3 : Hid (RB ((w1.drew.setCell ⟨R, 2, none⟩ (.int .i64 ((p + wd + size : Nat) : Int))).setCell ⟨R, 3, none⟩ (.int .i64 (p : Int))) R a n cap (p + wd) (p + wd + size) p) := (HR2.out.drew.set2 (p + wd + size)).set3 p
        have e1 : ((p + wd + size : Nat) : Int) = (p : Int) + (wd : Int) + (size : Int) := by omega
        rw [e1] at HF3 HR3
        clear e1
        go_wp2_with fail
        refine Calls.mono (HN3.out _ HF3.out HR3.out) ?_
        rintro e3 w3 ⟨⟨rfl, hr3, hq3⟩, hg3⟩
        have HF4 : Hid (F w3) := HF.out _ _ HF3.out hg3
        have HR4 := hide hr3
        clear hr3 hg3 d0 d1 d2 d3 g1 g2 g3 hlt1 HF3 HR3
        go_wp2_with fail
        refine Calls.mono (HIN.out _ HF4.out HR4.out) ?_
        rintro e4 w4 ⟨rfl, hf4⟩
        exact ⟨rfl, rfl, hf4⟩
      | ok xq =>
        obtain ⟨x, q⟩ := xq
        rw [hin] at HIN
        clear hin
        simp only
        by_cases h5 : q < p + wd + size
        · rw [if_pos h5]
          have hqd : (q : Int) < ((p + wd + size : Nat) : Int) := by omega
          go_enter Tryd.func56, Tryd.ntmps56
          go_wp2_with fail
          go_region_held (fun W1 => W1.cell? ⟨R, 2, none⟩ = some (.int .i64 (fin : Int)) ∧ W1.cell? ⟨R, 3, none⟩ = some (.int .i64 sz)) (go_keep) (fail)
          go_wp2_with fail
          refine Calls.mono (HNU2.out _ HF1.out HR1.out) ?_
          rintro e1 w1 ⟨⟨rfl, hr1, hq⟩, hg⟩
          have HF2 : Hid (F w1) := HF.out _ _ HF1.out hg
          have HR2 := hide hr1
          clear hr1 hg
          go_wp2_with fail
          refine Calls.mono (HND.out _ HR2.out) ?_
          rintro e2 w2 ⟨he2, _, rfl⟩
          obtain rfl := he2 HYE.out
          obtain ⟨d0, d1, d2, d3, g1, g2, g3, hlt1⟩ := HR2.out.cells
          have HF3 : Hid (F ((w1.drew.setCell ⟨R, 2, none⟩ (.int .i64 ((p + wd + size : Nat) : Int))).setCell ⟨R, 3, none⟩ (.int .i64 (p : Int)))) := HF.out _ _ HF2.out ((((Gro.refl R w1).drew).set 2 _).set 3 _)
          have HR3 : Hid (RB ((w1.drew.setCell ⟨R, 2, none⟩ (.int .i64 ((p + wd + size : Nat) : Int))).setCell ⟨R, 3, none⟩ (.int .i64 (p : Int))) R a n cap (p + wd) (p + wd + size) p) := (HR2.out.drew.set2 (p + wd + size)).set3 p
          have e1 : ((p + wd + size : Nat) : Int) = (p : Int) + (wd : Int) + (size : Int) := by omega
          rw [e1] at HF3 HR3
          clear e1
          go_wp2_with fail
          refine Calls.mono (HN3.out _ HF3.out HR3.out) ?_
          rintro e3 w3 ⟨⟨rfl, hr3, hq3⟩, hg3⟩
          have HF4 : Hid (F w3) := HF.out _ _ HF3.out hg3
          have HR4 := hide hr3
          clear hr3 hg3 d0 d1 d2 d3 g1 g2 g3 hlt1 HF3 HR3
          go_wp2_with fail
          refine Calls.mono (HIN.out _ HF4.out HR4.out) ?_
          rintro e4 w4 ⟨rfl, hr4, hq4, hj4, hf4⟩
          simp only at hr4 hq4 hj4
          have HF5 := hide hf4
          have HR5 := hide hr4
          have HJ5 := hide hj4
          obtain ⟨d0, d1, d2, d3, g1, g2, g3, hlt1⟩ := hr4.cells
          clear hr4 hj4 hf4 HF4 HR4
          go_wp2_with fail
          go_region_held (fun W1 => W1.cell? ⟨R, 1, none⟩ = some (.int .i64 (q : Int)) ∧ W1.cell? ⟨R, 2, none⟩ = some (.int .i64 ((p + wd + size : Nat) : Int))) (go_keep) (fail)
          go_wp2
          exact ⟨rfl, rfl, rfl, HG.out _ _ HF5.out (Gro.refl R w4).drew⟩
        · rw [if_neg h5]
          have hqe : ((p + wd + size : Nat) : Int) ≤ (q : Int) := by omega
          go_enter Tryd.func56, Tryd.ntmps56
          go_wp2_with fail
          go_region_held (fun W1 => W1.cell? ⟨R, 2, none⟩ = some (.int .i64 (fin : Int)) ∧ W1.cell? ⟨R, 3, none⟩ = some (.int .i64 sz)) (go_keep) (fail)
          go_wp2_with fail
          refine Calls.mono (HNU2.out _ HF1.out HR1.out) ?_
          rintro e1 w1 ⟨⟨rfl, hr1, hq⟩, hg⟩
          have HF2 : Hid (F w1) := HF.out _ _ HF1.out hg
          have HR2 := hide hr1
          clear hr1 hg
          go_wp2_with fail
          refine Calls.mono (HND.out _ HR2.out) ?_
          rintro e2 w2 ⟨he2, _, rfl⟩
          obtain rfl := he2 HYE.out
          obtain ⟨d0, d1, d2, d3, g1, g2, g3, hlt1⟩ := HR2.out.cells
          have HF3 : Hid (F ((w1.drew.setCell ⟨R, 2, none⟩ (.int .i64 ((p + wd + size : Nat) : Int))).setCell ⟨R, 3, none⟩ (.int .i64 (p : Int)))) := HF.out _ _ HF2.out ((((Gro.refl R w1).drew).set 2 _).set 3 _)
          have HR3 : Hid (RB ((w1.drew.setCell ⟨R, 2, none⟩ (.int .i64 ((p + wd + size : Nat) : Int))).setCell ⟨R, 3, none⟩ (.int .i64 (p : Int))) R a n cap (p + wd) (p + wd + size) p) := (HR2.out.drew.set2 (p + wd + size)).set3 p
          have e1 : ((p + wd + size : Nat) : Int) = (p : Int) + (wd : Int) + (size : Int) := by omega
          rw [e1] at HF3 HR3
          clear e1
          go_wp2_with fail
          refine Calls.mono (HN3.out _ HF3.out HR3.out) ?_
          rintro e3 w3 ⟨⟨rfl, hr3, hq3⟩, hg3⟩
          have HF4 : Hid (F w3) := HF.out _ _ HF3.out hg3
          have HR4 := hide hr3
          clear hr3 hg3 d0 d1 d2 d3 g1 g2 g3 hlt1 HF3 HR3
          go_wp2_with fail
          refine Calls.mono (HIN.out _ HF4.out HR4.out) ?_
          rintro e4 w4 ⟨rfl, hr4, hq4, hj4, hf4⟩
          simp only at hr4 hq4 hj4
          have HF5 := hide hf4
          have HR5 := hide hr4
          have HJ5 := hide hj4
          obtain ⟨d0, d1, d2, d3, g1, g2, g3, hlt1⟩ := hr4.cells
          clear hr4 hj4 hf4 HF4 HR4
          go_wp2_with fail
          go_region_held (fun W1 => W1.cell? ⟨R, 1, none⟩ = some (.int .i64 (q : Int)) ∧ W1.cell? ⟨R, 2, none⟩ = some (.int .i64 ((p + wd + size : Nat) : Int))) (go_keep) (fail)
          go_wp2
          first | go_end0 | refine bodyPost_ret (results_none rfl _ _ _) rfl ?_
          have hg5 : Gro R w4 ((w4.drew.setCell ⟨R, 2, none⟩ (.int .i64 (fin : Int))).setCell ⟨R, 3, none⟩ (.int .i64 sz)) := (((Gro.refl R w4).drew).set 2 _).set 3 _
          exact ⟨rfl, (HR5.out.drew.set2 fin).set3 sz, by have := HYE.out; show q ≤ fin; omega, HJ.out _ _ _ HJ5.out HF5.out hg5, HG.out _ _ HF5.out hg5⟩
end Go.Proofs.YtgpimajdcfoigabDoor
