import Derived.Test.YtgpimajdcfoigabDoorD24
import Derived.Test.YtgpimajdcfoigabDoorD45

/- codec's reader: data of sixteen bytes, of texts. -/
namespace Go.Proofs.YtgpimajdcfoigabDoor
open Go.RowKit
set_option linter.unusedVariables false
set_option linter.unusedSimpArgs false
theorem mkS_size (s : List Nat) : (mkS s).size = s.length := by
  show ((s.map UInt8.ofNat).toArray).size = _
  simp
/-- sixteen bytes, and where they end -/
def rsixteen (l : List Nat) (p fin : Nat) (sz : Int) : Res (ByteArray × Nat) := match rbytes l p fin sz 16 with
  | .error x => .error x
  | .ok s => .ok (mkS s, p + 16)
set_option maxRecDepth 100000 in
set_option maxHeartbeats 2000000 in
theorem dat_sixteen (f k c : Nat) (hf : 0 < f) (hc : c < 256) (hk : k ≤ 24) (hlay : c / 16 = 9) : DatC f k c := by
  intro d R a n cap place p fin sz l w hd hs hr hp hfin hpl
  obtain ⟨f, rfl⟩ : ∃ g, f = g + 1 := ⟨f - 1, by omega⟩
  have hrd : rdat badB twiceW l (f + 1) k c place p fin sz = (match rsixteen l p fin sz with
      | .error x => .error x
      | .ok (s, q) => .ok (T.of k 0 s 0 [], q)) := by
    rw [rdat, if_neg (by omega), if_neg (by omega), if_pos (by omega)]
    unfold rsixteen
    cases rbytes l p fin sz 16 <;> rfl
  rw [hrd]
  clear hrd
  have HC : Hid (∀ W1, Src W1 R a n cap l → RB W1 R a n cap p fin sz → Calls Tryd.prog 40 #[.pointer (some ⟨R, 0, none⟩), .int .i64 16] W1 (Outc (rsixteen l p fin sz) R W1 (fun mq e w' => e = .returned (.string mq.1) ∧ RB w' R a n cap mq.2 fin sz ∧ mq.2 ≤ fin))) := fun W1 h1 h2 => (bytes_any R a n cap p fin 16 sz l W1 h1 h2 hp hfin (by omega)).mono fun e w' h => by
    unfold rsixteen
    cases hb : rbytes l p fin sz 16 with
    | error x => rw [hb] at h; exact h
    | ok s => rw [hb] at h; exact h
  have hqb : ∀ mq, rsixteen l p fin sz = .ok mq → p ≤ mq.2 ∧ mq.1.size ≤ 281474976710656 := fun mq hm => by
    unfold rsixteen at hm
    cases hb : rbytes l p fin sz 16 with
    | error x => rw [hb] at hm; cases hm
    | ok s =>
      rw [hb] at hm
      unfold rbytes at hb
      split at hb
      · cases hb
        cases hm
        refine ⟨by show p ≤ p + 16; omega, ?_⟩
        show (mkS _).size ≤ _
        rw [mkS_size, List.length_take]
        omega
      · cases hb
  generalize rsixteen l p fin sz = rn at HC hqb ⊢
  have HLAY : Hid (∀ W1, Calls Tryd.prog 33 #[.int .u8 (c : Int)] W1 fun e w' => e = .returned (.int .u8 (9 : Int)) ∧ W1 = w') := fun W1 => by
    have := layout_any c hc W1
    rw [hlay] at this
    exact this
  have hlt := hr.cells.2.2.2.2.2.2.2
  have HR := hide hr
  have HS := hide hs
  clear hr hs hlay
  cases rn with
  | error x =>
    clear hqb
    go_enter Tryd.func26, Tryd.ntmps26
    go_wp2_with fail
    refine Calls.mono (HLAY.out _) ?_
    rintro e1 w1 ⟨rfl, rfl⟩
    go_wp2_with fail
    refine Calls.mono (HC.out _ ((HS.out.alloc _).alloc _) ((HR.out.alloc _).alloc _)) ?_
    rintro e2 w2 ⟨rfl, hg⟩
    exact ⟨rfl, rfl, (((Gro.refl R w).alloc _).alloc _).trans hg⟩
  | ok mq =>
    have hqb1 := hqb mq rfl
    clear hqb
    go_enter Tryd.func26, Tryd.ntmps26
    go_wp2_with fail
    refine Calls.mono (HLAY.out _) ?_
    rintro e1 w1 ⟨rfl, rfl⟩
    go_wp2_with fail
    refine Calls.mono (HC.out _ ((HS.out.alloc _).alloc _) ((HR.out.alloc _).alloc _)) ?_
    rintro e2 w2 ⟨⟨rfl, hr2, hq2⟩, hg⟩
    obtain ⟨g1, g2, g3, g4, hz⟩ := two_boxes hlt hg
    have HGA : Hid (Gro R w w2) := (((Gro.refl R w).alloc _).alloc _).trans hg
    have HR2 := hide hr2
    have k0 := g1 0
    have k1 := g1 1
    have k2 := g1 2
    have k3 := g1 3
    have k4 := g1 4
    have j0 := g2 0
    have j1 := g2 1
    have j2 := g2 2
    have j3 := g2 3
    have j4 := g2 4
    simp only [List.getElem?_toArray, List.getElem?_cons_zero, List.getElem?_cons_succ] at k0 k1 k2 k3 k4 j0 j1 j2 j3 j4
    clear hg hr2 g1 g2
    go_wp2
    refine bodyPost_ret (v := .agg #[.int .i64 (k : Int), .int .u64 0, .string mq.1, .slice none 0 0, .int .i64 0]) (by simp [results, Tryd.results26, go_sem, k0, k1, k2, k3, k4]) rfl ⟨⟨.of (k : Int) 0 mq.1 none 0 0 [], by rw [V.l_of]; rfl, ⟨by rw [V.t_of]; rfl, lies_leaf _ _ _ _ _ (by omega) (by omega) hqb1.2, ?_, hqb1.1, hq2⟩⟩, ?_⟩
    · exact RB.over (RB.over (RB.over (RB.over (RB.over (RB.over HR2.out (by omega) _ _) (by omega) _ _) (by omega) _ _) (by omega) _ _) (by omega) _ _) (by omega) _ _
    · exact Gro.over (Gro.over (Gro.over (Gro.over (Gro.over (Gro.over HGA.out (by omega) _ _) (by omega) _ _) (by omega) _ _) (by omega) _ _) (by omega) _ _) (by omega) _ _
theorem rtext_bound {B : Nat → ByteArray → Int} {l : List Nat} {k wd p fin n : Nat} {sz : Int} {mq : ByteArray × Nat} (hl : l.length = n) (hn : n ≤ 281474976710656) (hm : rtext B l k wd p fin sz = .ok mq) : p ≤ mq.2 ∧ mq.1.size ≤ 281474976710656 := by
  unfold rtext at hm
  cases hr : rnum l p fin sz wd with
  | error x => rw [hr] at hm; cases hm
  | ok m =>
    rw [hr] at hm
    simp only at hm
    cases hb : rbytes l (p + wd) fin sz m with
    | error x => rw [hb] at hm; cases hm
    | ok s =>
      rw [hb] at hm
      simp only at hm
      split at hm
      · cases hm
      · cases hm
        unfold rbytes at hb
        split at hb
        · cases hb
          refine ⟨by show p ≤ p + wd + m; omega, ?_⟩
          show (mkS _).size ≤ _
          rw [mkS_size, List.length_take, List.length_drop]
          omega
        · cases hb
set_option maxRecDepth 100000 in
set_option maxHeartbeats 2000000 in
theorem dat_short (f k c : Nat) (hf : 0 < f) (hc : c < 256) (hk : k ≤ 24) (hlay : c / 16 = 10) : DatC f k c := by
  intro d R a n cap place p fin sz l w hd hs hr hp hfin hpl
  obtain ⟨f, rfl⟩ : ∃ g, f = g + 1 := ⟨f - 1, by omega⟩
  have hrd : rdat badB twiceW l (f + 1) k c place p fin sz = (match rtext badB l k 1 p fin sz with
      | .error x => .error x
      | .ok (s, q) => .ok (T.of k 0 s 0 [], q)) := by
    rw [rdat, if_neg (by omega), if_neg (by omega), if_neg (by omega), if_pos (by omega)]
    rw [if_pos hlay]
    cases rtext badB l k 1 p fin sz <;> rfl
  rw [hrd]
  clear hrd
  have HC : Hid (∀ W1, Src W1 R a n cap l → RB W1 R a n cap p fin sz → Calls Tryd.prog 41 #[.pointer (some ⟨R, 0, none⟩), .int .i64 (k : Int), .int .i64 1] W1 (Outc (rtext badB l k 1 p fin sz) R W1 (fun mq e w' => e = .returned (.string mq.1) ∧ RB w' R a n cap mq.2 fin sz ∧ mq.2 ≤ fin))) := fun W1 h1 h2 => (rdText_any k 1 R a n cap p fin sz l W1 h1 h2 hp hfin (by omega) hk).mono fun e w' h => by
    cases hb : rtext badB l k 1 p fin sz with
    | error x => rw [hb] at h; exact h
    | ok s => rw [hb] at h; exact ⟨⟨h.1.1, h.1.2.1, h.1.2.2.1⟩, h.2⟩
  have hqb : ∀ mq, rtext badB l k 1 p fin sz = .ok mq → p ≤ mq.2 ∧ mq.1.size ≤ 281474976710656 := fun mq hm => rtext_bound hs.rd.1 hs.small hm
  generalize rtext badB l k 1 p fin sz = rn at HC hqb ⊢
  have HLAY : Hid (∀ W1, Calls Tryd.prog 33 #[.int .u8 (c : Int)] W1 fun e w' => e = .returned (.int .u8 (10 : Int)) ∧ W1 = w') := fun W1 => by
    have := layout_any c hc W1
    rw [hlay] at this
    exact this
  have hlt := hr.cells.2.2.2.2.2.2.2
  have HR := hide hr
  have HS := hide hs
  clear hr hs hlay
  cases rn with
  | error x =>
    clear hqb
    go_enter Tryd.func26, Tryd.ntmps26
    go_wp2_with fail
    refine Calls.mono (HLAY.out _) ?_
    rintro e1 w1 ⟨rfl, rfl⟩
    go_wp2_with fail
    refine Calls.mono (HC.out _ ((HS.out.alloc _).alloc _) ((HR.out.alloc _).alloc _)) ?_
    rintro e2 w2 ⟨rfl, hg⟩
    exact ⟨rfl, rfl, (((Gro.refl R w).alloc _).alloc _).trans hg⟩
  | ok mq =>
    have hqb1 := hqb mq rfl
    clear hqb
    go_enter Tryd.func26, Tryd.ntmps26
    go_wp2_with fail
    refine Calls.mono (HLAY.out _) ?_
    rintro e1 w1 ⟨rfl, rfl⟩
    go_wp2_with fail
    refine Calls.mono (HC.out _ ((HS.out.alloc _).alloc _) ((HR.out.alloc _).alloc _)) ?_
    rintro e2 w2 ⟨⟨rfl, hr2, hq2⟩, hg⟩
    obtain ⟨g1, g2, g3, g4, hz⟩ := two_boxes hlt hg
    have HGA : Hid (Gro R w w2) := (((Gro.refl R w).alloc _).alloc _).trans hg
    have HR2 := hide hr2
    have k0 := g1 0
    have k1 := g1 1
    have k2 := g1 2
    have k3 := g1 3
    have k4 := g1 4
    have j0 := g2 0
    have j1 := g2 1
    have j2 := g2 2
    have j3 := g2 3
    have j4 := g2 4
    simp only [List.getElem?_toArray, List.getElem?_cons_zero, List.getElem?_cons_succ] at k0 k1 k2 k3 k4 j0 j1 j2 j3 j4
    clear hg hr2 g1 g2
    go_wp2
    refine bodyPost_ret (v := .agg #[.int .i64 (k : Int), .int .u64 0, .string mq.1, .slice none 0 0, .int .i64 0]) (by simp [results, Tryd.results26, go_sem, k0, k1, k2, k3, k4]) rfl ⟨⟨.of (k : Int) 0 mq.1 none 0 0 [], by rw [V.l_of]; rfl, ⟨by rw [V.t_of]; rfl, lies_leaf _ _ _ _ _ (by omega) (by omega) hqb1.2, ?_, hqb1.1, hq2⟩⟩, ?_⟩
    · exact RB.over (RB.over (RB.over (RB.over (RB.over (RB.over HR2.out (by omega) _ _) (by omega) _ _) (by omega) _ _) (by omega) _ _) (by omega) _ _) (by omega) _ _
    · exact Gro.over (Gro.over (Gro.over (Gro.over (Gro.over (Gro.over HGA.out (by omega) _ _) (by omega) _ _) (by omega) _ _) (by omega) _ _) (by omega) _ _) (by omega) _ _
set_option maxRecDepth 100000 in
set_option maxHeartbeats 2000000 in
theorem dat_long (f k c : Nat) (hf : 0 < f) (hc : c < 256) (hk : k ≤ 24) (hlay : c / 16 = 11) : DatC f k c := by
  intro d R a n cap place p fin sz l w hd hs hr hp hfin hpl
  obtain ⟨f, rfl⟩ : ∃ g, f = g + 1 := ⟨f - 1, by omega⟩
  have hrd : rdat badB twiceW l (f + 1) k c place p fin sz = (match rtext badB l k 4 p fin sz with
      | .error x => .error x
      | .ok (s, q) => .ok (T.of k 0 s 0 [], q)) := by
    rw [rdat, if_neg (by omega), if_neg (by omega), if_neg (by omega), if_pos (by omega)]
    rw [if_neg (show ¬ c / 16 = 10 by omega)]
    cases rtext badB l k 4 p fin sz <;> rfl
  rw [hrd]
  clear hrd
  have HC : Hid (∀ W1, Src W1 R a n cap l → RB W1 R a n cap p fin sz → Calls Tryd.prog 41 #[.pointer (some ⟨R, 0, none⟩), .int .i64 (k : Int), .int .i64 4] W1 (Outc (rtext badB l k 4 p fin sz) R W1 (fun mq e w' => e = .returned (.string mq.1) ∧ RB w' R a n cap mq.2 fin sz ∧ mq.2 ≤ fin))) := fun W1 h1 h2 => (rdText_any k 4 R a n cap p fin sz l W1 h1 h2 hp hfin (by omega) hk).mono fun e w' h => by
    cases hb : rtext badB l k 4 p fin sz with
    | error x => rw [hb] at h; exact h
    | ok s => rw [hb] at h; exact ⟨⟨h.1.1, h.1.2.1, h.1.2.2.1⟩, h.2⟩
  have hqb : ∀ mq, rtext badB l k 4 p fin sz = .ok mq → p ≤ mq.2 ∧ mq.1.size ≤ 281474976710656 := fun mq hm => rtext_bound hs.rd.1 hs.small hm
  generalize rtext badB l k 4 p fin sz = rn at HC hqb ⊢
  have HLAY : Hid (∀ W1, Calls Tryd.prog 33 #[.int .u8 (c : Int)] W1 fun e w' => e = .returned (.int .u8 (11 : Int)) ∧ W1 = w') := fun W1 => by
    have := layout_any c hc W1
    rw [hlay] at this
    exact this
  have hlt := hr.cells.2.2.2.2.2.2.2
  have HR := hide hr
  have HS := hide hs
  clear hr hs hlay
  cases rn with
  | error x =>
    clear hqb
    go_enter Tryd.func26, Tryd.ntmps26
    go_wp2_with fail
    refine Calls.mono (HLAY.out _) ?_
    rintro e1 w1 ⟨rfl, rfl⟩
    go_wp2_with fail
    refine Calls.mono (HC.out _ ((HS.out.alloc _).alloc _) ((HR.out.alloc _).alloc _)) ?_
    rintro e2 w2 ⟨rfl, hg⟩
    exact ⟨rfl, rfl, (((Gro.refl R w).alloc _).alloc _).trans hg⟩
  | ok mq =>
    have hqb1 := hqb mq rfl
    clear hqb
    go_enter Tryd.func26, Tryd.ntmps26
    go_wp2_with fail
    refine Calls.mono (HLAY.out _) ?_
    rintro e1 w1 ⟨rfl, rfl⟩
    go_wp2_with fail
    refine Calls.mono (HC.out _ ((HS.out.alloc _).alloc _) ((HR.out.alloc _).alloc _)) ?_
    rintro e2 w2 ⟨⟨rfl, hr2, hq2⟩, hg⟩
    obtain ⟨g1, g2, g3, g4, hz⟩ := two_boxes hlt hg
    have HGA : Hid (Gro R w w2) := (((Gro.refl R w).alloc _).alloc _).trans hg
    have HR2 := hide hr2
    have k0 := g1 0
    have k1 := g1 1
    have k2 := g1 2
    have k3 := g1 3
    have k4 := g1 4
    have j0 := g2 0
    have j1 := g2 1
    have j2 := g2 2
    have j3 := g2 3
    have j4 := g2 4
    simp only [List.getElem?_toArray, List.getElem?_cons_zero, List.getElem?_cons_succ] at k0 k1 k2 k3 k4 j0 j1 j2 j3 j4
    clear hg hr2 g1 g2
    go_wp2
    refine bodyPost_ret (v := .agg #[.int .i64 (k : Int), .int .u64 0, .string mq.1, .slice none 0 0, .int .i64 0]) (by simp [results, Tryd.results26, go_sem, k0, k1, k2, k3, k4]) rfl ⟨⟨.of (k : Int) 0 mq.1 none 0 0 [], by rw [V.l_of]; rfl, ⟨by rw [V.t_of]; rfl, lies_leaf _ _ _ _ _ (by omega) (by omega) hqb1.2, ?_, hqb1.1, hq2⟩⟩, ?_⟩
    · exact RB.over (RB.over (RB.over (RB.over (RB.over (RB.over HR2.out (by omega) _ _) (by omega) _ _) (by omega) _ _) (by omega) _ _) (by omega) _ _) (by omega) _ _
    · exact Gro.over (Gro.over (Gro.over (Gro.over (Gro.over (Gro.over HGA.out (by omega) _ _) (by omega) _ _) (by omega) _ _) (by omega) _ _) (by omega) _ _) (by omega) _ _
end Go.Proofs.YtgpimajdcfoigabDoor
