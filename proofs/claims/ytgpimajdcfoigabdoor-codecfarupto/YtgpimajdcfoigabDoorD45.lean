import Derived.Test.YtgpimajdcfoigabDoorD23
import Derived.BigQuiet
import Derived.Laws.IdiomStrings

/- Bytes and texts that a reader reads. -/
namespace Go.Proofs.YtgpimajdcfoigabDoor
open Go.RowKit
set_option linter.unusedVariables false
set_option linter.unusedSimpArgs false
theorem conv_nil (w : World) (a : Option Addr) (cap : Nat) : (convert 28 9 (.slice a 0 cap)).run Tryd.prog w = .ok (.string (mkS [])) w := by
  cases a with
  | none => kernel_rfl
  | some x =>
    have hr := run_convert_bytes_back (P := Tryd.prog) w 28 9 5 x cap [] Tryd.underlying28 Tryd.underlying5 Tryd.underlying9 (fun j hj => absurd hj (by simp))
    exact hr
theorem conv_cut {w : World} {a : Option Addr} {n : Nat} {l : List Nat} (h : Rd w a n l) (p m cap : Nat) (hm : p + m ≤ n) (h0 : 0 < m) (b off : Nat) (ha : a = some ⟨b, off, none⟩) :
    (convert 28 9 (.slice (some ⟨b, off + p, none⟩) m cap)).run Tryd.prog w = .ok (.string (mkS ((l.drop p).take m))) w := by
  obtain ⟨b', off', ha', hlt, hc⟩ := h.2.2 (by omega)
  rw [ha] at ha'
  cases ha'
  have hl := h.1
  have hlen : ((l.drop p).take m).length = m := by simp; omega
  have hr := run_convert_bytes_back (P := Tryd.prog) w 28 9 5 ⟨b, off + p, none⟩ cap (((l.drop p).take m).map UInt8.ofNat) Tryd.underlying28 Tryd.underlying5 Tryd.underlying9 (fun j hj => by
    rw [List.length_map, hlen] at hj
    have e1 : (⟨b, off + p, none⟩ : Addr).add j = ⟨b, off + (p + j), none⟩ := by by_cases h : j = 0 <;> simp [Addr.add, h, Nat.add_assoc]
    have hj2 : p + j < l.length := by omega
    rw [e1, hc (p + j) (by omega)]
    have : l[p + j] < 256 := h.2.1 _ (List.getElem_mem hj2)
    simp [List.getD_eq_getElem?_getD, List.getElem?_eq_getElem hj2]
    omega)
  rw [List.length_map, hlen] at hr
  rw [hr]
  rfl
theorem Gro.drewN {g : Nat} {a b : World} (h : Gro g a b) (n : Nat) : Gro g a (b.drewN n) := ⟨h.os, h.tape, h.output, h.size, h.block⟩
set_option maxRecDepth 100000 in
set_option maxHeartbeats 1000000 in
theorem bytes_any (R : Nat) (a : Option Addr) (n cap p fin m : Nat) (sz : Int) (l : List Nat) (w : World) (hs : Src w R a n cap l) (hr : RB w R a n cap p fin sz) (hp : p ≤ fin) (hfin : fin ≤ n) (hm : m ≤ 281474976710656) :
    Calls Tryd.prog 40 #[.pointer (some ⟨R, 0, none⟩), .int .i64 (m : Int)] w (Outc (rbytes l p fin sz m) R w (fun s e w' => e = .returned (.string (mkS s)) ∧ RB w' R a n cap (p + m) fin sz ∧ p + m ≤ fin)) := by
  obtain ⟨c0, c1, c2, c3, f1, _, _, hlt⟩ := hr.cells
  have hn := hs.small
  have hcap := hs.room
  have hrd := hs.rd
  have HN : Hid (∀ W1, RB W1 R a n cap p fin sz → Calls Tryd.prog 38 #[.pointer (some ⟨R, 0, none⟩), .int .i64 (m : Int)] W1 fun e w' => (p + m ≤ fin → e = .returned (.tuple #[])) ∧ (¬ p + m ≤ fin → e = Flt (shortC n sz)) ∧ (w' = W1.drew)) := fun W1 hW => need_any R a n cap p fin m sz W1 hW hp hfin hn (by omega)
  unfold rbytes
  rw [hrd.1]
  by_cases hok : p + m ≤ fin
  · rw [if_pos hok]
    have HR := hide hr
    have hpn : p + m ≤ cap := by omega
    have hpc : p ≤ cap := by omega
    have hpm : p + m ≤ 281474976710656 := by omega
    have E1 : Hid ((p : Int) + (m : Int) = ((p + m : Nat) : Int)) := (by omega : (p : Int) + (m : Int) = ((p + m : Nat) : Int))
    by_cases hm0 : m = 0
    · subst hm0
      have hz : (l.drop p).take 0 = [] := by simp
      rw [hz]
      have hv : ∀ k a cap, (convert 28 9 (.slice a 0 cap)).run Tryd.prog (w.drewN k) = .ok (.string (mkS [])) (w.drewN k) := fun k a cap => conv_nil _ a cap
      obtain ⟨S, hS⟩ : ∃ S, mkS [] = S := ⟨_, rfl⟩
      rw [hS] at hv
      suffices hh : Calls Tryd.prog 40 #[.pointer (some ⟨R, 0, none⟩), .int .i64 ((0 : Nat) : Int)] w (fun e w' => (e = .returned (.string S) ∧ RB w' R a n cap p fin sz) ∧ Gro R w w') from hh.mono fun e w' x => by rw [← hS] at x; exact ⟨⟨x.1.1, x.1.2, hok⟩, x.2⟩
      clear hS hz
      clear hr hs hrd
      go_enter Tryd.func40, Tryd.ntmps40
      go_wp2_with fail
      refine Calls.mono (HN.out _ HR.out) ?_
      rintro e1 w1 ⟨he, _, rfl⟩
      obtain rfl := he hok
      go_wp2_with fail
      go_quiet (fail)
      go_wp2
      all_goals
        go_ret
        refine ⟨⟨rfl, ?_⟩, (Gro.drewN (Gro.refl R w) _).set _ _⟩
        have hx : RB w R a n cap p fin sz := HR.out
        first
          | exact RB.set1 (w := w.drewN _) hx p
          | (simp only [show cap = p by assumption] at hx; exact RB.set1 (w := w.drewN _) hx p)
    · have h0 : 0 < m := by omega
      obtain ⟨b, off, ha, hlt', _⟩ := hrd.2.2 (by omega)
      subst ha
      have hv : ∀ k cap, (convert 28 9 (.slice (some ⟨b, off + p, none⟩) m cap)).run Tryd.prog (w.drewN k) = .ok (.string (mkS ((l.drop p).take m))) (w.drewN k) := fun k cap => conv_cut (w := w.drewN k) hrd p m cap (by omega) h0 b off rfl
      obtain ⟨S, hS⟩ : ∃ S, mkS ((l.drop p).take m) = S := ⟨_, rfl⟩
      rw [hS] at hv
      suffices hh : Calls Tryd.prog 40 #[.pointer (some ⟨R, 0, none⟩), .int .i64 (m : Int)] w (fun e w' => (e = .returned (.string S) ∧ RB w' R (some ⟨b, off, none⟩) n cap (p + m) fin sz ∧ p + m ≤ fin) ∧ Gro R w w') from hh.mono fun e w' x => by rw [← hS] at x; exact x
      clear hS
      clear hr hs hrd
      go_enter Tryd.func40, Tryd.ntmps40
      go_wp2_with fail
      refine Calls.mono (HN.out _ HR.out) ?_
      rintro e1 w1 ⟨he, _, rfl⟩
      obtain rfl := he hok
      go_wp2_with fail
      go_quiet (fail)
      go_wp2
      go_ret
      refine ⟨⟨rfl, ?_, hok⟩, ?_⟩
      · first
          | exact RB.set1 (HR.out : RB (w.drewN _) R (some ⟨b, off, none⟩) n cap p fin sz) (p + m)
          | (rw [E1.out]; exact RB.set1 (HR.out : RB (w.drewN _) R (some ⟨b, off, none⟩) n cap p fin sz) (p + m))
      · exact (Gro.drewN (Gro.refl R w) _).set _ _
  · rw [if_neg hok]
    have HR := hide hr
    clear hr hs hrd
    go_enter Tryd.func40, Tryd.ntmps40
    go_wp2_with fail
    refine Calls.mono (HN.out _ HR.out) ?_
    rintro e1 w1 ⟨_, he, rfl⟩
    obtain rfl := he hok
    exact ⟨rfl, rfl, (Gro.refl R w).drew⟩
theorem utfF_bound (s : ByteArray) : ∀ f i, -1 ≤ utfF s f i ∧ utfF s f i ≤ s.size := by
  intro f
  induction f with
  | zero => intro i; unfold utfF; constructor <;> omega
  | succ f ih =>
    intro i
    unfold utfF
    split
    · split
      · constructor <;> omega
      · exact ih _
    · constructor <;> omega
theorem badB_bound (k : Nat) (s : ByteArray) : -1 ≤ badB k s ∧ badB k s ≤ s.size := by
  unfold badB
  split
  · exact utfF_bound s _ _
  · split
    · rcases ascZ_asc s with ⟨h, _⟩ | ⟨j, h, hj⟩
      · rw [h]; constructor <;> omega
      · rw [hj.1]; constructor <;> omega
    · constructor <;> omega
set_option maxRecDepth 100000 in
set_option maxHeartbeats 2000000 in
theorem rdText_any (k wd R : Nat) (a : Option Addr) (n cap p fin : Nat) (sz : Int) (l : List Nat) (w : World) (hs : Src w R a n cap l) (hr : RB w R a n cap p fin sz) (hp : p ≤ fin) (hfin : fin ≤ n) (hwd : wd = 1 ∨ wd = 4) (hk : k ≤ 24) :
    Calls Tryd.prog 41 #[.pointer (some ⟨R, 0, none⟩), .int .i64 (k : Int), .int .i64 (wd : Int)] w (Outc (rtext badB l k wd p fin sz) R w (fun s e w' => e = .returned (.string s.1) ∧ RB w' R a n cap s.2 fin sz ∧ s.2 ≤ fin ∧ p ≤ s.2)) := by
  obtain ⟨c0, c1, c2, c3, f1, _, _, hlt⟩ := hr.cells
  have hn := hs.small
  have HNU := hide (number_any R a n cap p fin wd sz l w hs hr hp hfin (by omega) (by omega))
  have HS := hide hs
  have hlen := hs.rd.1
  unfold rtext
  have hmb : ∀ m, rnum l p fin sz wd = .ok m → m < 4294967296 ∧ p + wd ≤ fin := fun m hm => by
    unfold rnum at hm
    split at hm
    · cases hm
      have h1 : wd ≤ 4 := by omega
      refine ⟨Nat.lt_of_lt_of_le (getN_bound l p wd hs.rd.2.1 (by omega)) ?_, by assumption⟩
      rcases hwd with rfl | rfl <;> decide
    · cases hm
  cases hrn : rnum l p fin sz wd with
  | error x =>
    rw [hrn] at HNU
    clear hr hs hmb hrn
    go_enter Tryd.func41, Tryd.ntmps41
    go_wp2_with fail
    refine Calls.mono HNU.out ?_
    rintro e1 w1 ⟨rfl, hg⟩
    exact ⟨rfl, rfl, hg⟩
  | ok m =>
    rw [hrn] at HNU
    obtain ⟨hm, hpw⟩ := hmb m hrn
    have HBY : Hid (∀ W1, Gro R w W1 → RB W1 R a n cap (p + wd) fin sz → Calls Tryd.prog 40 #[.pointer (some ⟨R, 0, none⟩), .int .i64 (m : Int)] W1 (Outc (rbytes l (p + wd) fin sz m) R W1 (fun s e w' => e = .returned (.string (mkS s)) ∧ RB w' R a n cap (p + wd + m) fin sz ∧ p + wd + m ≤ fin))) := fun W1 hg hr1 => bytes_any R a n cap (p + wd) fin m sz l W1 (HS.out.gro hg) hr1 hpw hfin (by omega)
    clear hr hs hmb hrn
    simp only
    cases hrb : rbytes l (p + wd) fin sz m with
    | error x =>
      rw [hrb] at HBY
      clear hrb
      go_enter Tryd.func41, Tryd.ntmps41
      go_wp2_with fail
      refine Calls.mono HNU.out ?_
      rintro e1 w1 ⟨⟨rfl, hr1, hq⟩, hg⟩
      have HR1 := hide hr1
      have HGR := hide hg
      obtain ⟨d0, d1, _⟩ := hr1.cells
      clear hr1 hg
      go_wp2_with fail
      refine Calls.mono (HBY.out _ HGR.out HR1.out) ?_
      rintro e2 w2 ⟨rfl, hg2⟩
      exact ⟨rfl, rfl, HGR.out.trans hg2⟩
    | ok s =>
      rw [hrb] at HBY
      have hsz : (mkS s).size ≤ 281474976710656 := by
        unfold rbytes at hrb
        split at hrb
        · cases hrb
          show (((l.drop (p + wd)).take m).map UInt8.ofNat).toArray.size ≤ _
          simp
          omega
        · cases hrb
      have hbb := badB_bound k (mkS s)
      have HB2 : Hid (∀ W1, Gro R w W1 → RB W1 R a n cap (p + wd) fin sz → Calls Tryd.prog 40 #[.pointer (some ⟨R, 0, none⟩), .int .i64 (m : Int)] W1 (fun e w' => (e = .returned (.string (mkS s)) ∧ RB w' R a n cap (p + wd + m) fin sz ∧ p + wd + m ≤ fin) ∧ Gro R W1 w')) := HBY.out
      clear HBY
      have HUT : Hid (∀ W1, Gro R w W1 → Calls Tryd.prog 54 #[.string (mkS s)] W1 fun e w' => e = .returned (.int .i64 (utfZ (mkS s) 0)) ∧ Below W1.heap.size W1 w') := fun W1 hg => utf8_any _ W1 hsz (HS.out.gro hg).utf
      have HAS : Hid (∀ W1, Calls Tryd.prog 55 #[.string (mkS s)] W1 fun e w' => e = .returned (.int .i64 (ascZ (mkS s))) ∧ W1 = w') := fun W1 => (ascii_any _ W1 hsz).mono fun e w' ⟨z, he, hz, hw⟩ => ⟨by rw [he, hz.unique (ascZ_asc _)], hw⟩
      have hpp : p + wd ≤ 281474976710656 := by omega
      clear hrb
      simp only
      by_cases h19 : k = 19
      · subst h19
        have hB : badB 19 (mkS s) = utfZ (mkS s) 0 := rfl
        rw [hB] at hbb ⊢
        clear hB HAS hk
        generalize utfZ (mkS s) 0 = z at hbb HUT ⊢
        by_cases hz : 0 ≤ z
        · rw [if_pos hz]
          have hsz2 : z ≤ 281474976710656 := by omega
          generalize mkS s = S at *
          go_enter Tryd.func41, Tryd.ntmps41
          go_wp2_with fail
          refine Calls.mono HNU.out ?_
          rintro e1 w1 ⟨⟨rfl, hr1, hq⟩, hg⟩
          have HR1 := hide hr1
          have HGR := hide hg
          obtain ⟨d0, d1, _⟩ := hr1.cells
          clear hr1 hg
          go_wp2_with fail
          refine Calls.mono (HB2.out _ HGR.out HR1.out) ?_
          rintro e2 w2 ⟨⟨rfl, hr2, hq2⟩, hg2⟩
          have HR2 := hide hr2
          have HG2 := hide (HGR.out.trans hg2)
          clear hr2 hg2
          go_wp2_with fail
          refine Calls.mono (HUT.out _ HG2.out) ?_
          rintro e3 w3 ⟨rfl, hb3⟩
          have HG3 := hide (HG2.out.trans (Gro.of_below hb3))
          have HR3 := hide (HR2.out.keep hb3)
          clear hb3
          go_wp2
          refine ⟨rfl, rfl, ?_, HG3.out⟩
          first
            | rfl
            | (unfold Flt; congr; omega)
        · rw [if_neg hz]
          have hz' : z < 0 := by omega
          generalize mkS s = S at *
          go_enter Tryd.func41, Tryd.ntmps41
          go_wp2_with fail
          refine Calls.mono HNU.out ?_
          rintro e1 w1 ⟨⟨rfl, hr1, hq⟩, hg⟩
          have HR1 := hide hr1
          have HGR := hide hg
          obtain ⟨d0, d1, _⟩ := hr1.cells
          clear hr1 hg
          go_wp2_with fail
          refine Calls.mono (HB2.out _ HGR.out HR1.out) ?_
          rintro e2 w2 ⟨⟨rfl, hr2, hq2⟩, hg2⟩
          have HR2 := hide hr2
          have HG2 := hide (HGR.out.trans hg2)
          clear hr2 hg2
          go_wp2_with fail
          refine Calls.mono (HUT.out _ HG2.out) ?_
          rintro e3 w3 ⟨rfl, hb3⟩
          have HG3 := hide (HG2.out.trans (Gro.of_below hb3))
          have HR3 := hide (HR2.out.keep hb3)
          clear hb3
          go_wp2
          go_ret
          exact ⟨⟨rfl, HR3.out, hq2, by omega⟩, HG3.out⟩
      by_cases h20 : k = 20
      · subst h20
        have hB : badB 20 (mkS s) = ascZ (mkS s) := rfl
        rw [hB] at hbb ⊢
        clear hB HUT hk h19
        generalize ascZ (mkS s) = z at hbb HAS ⊢
        by_cases hz : 0 ≤ z
        · rw [if_pos hz]
          have hsz2 : z ≤ 281474976710656 := by omega
          generalize mkS s = S at *
          go_enter Tryd.func41, Tryd.ntmps41
          go_wp2_with fail
          refine Calls.mono HNU.out ?_
          rintro e1 w1 ⟨⟨rfl, hr1, hq⟩, hg⟩
          have HR1 := hide hr1
          have HGR := hide hg
          obtain ⟨d0, d1, _⟩ := hr1.cells
          clear hr1 hg
          go_wp2_with fail
          refine Calls.mono (HB2.out _ HGR.out HR1.out) ?_
          rintro e2 w2 ⟨⟨rfl, hr2, hq2⟩, hg2⟩
          have HR2 := hide hr2
          have HG2 := hide (HGR.out.trans hg2)
          clear hr2 hg2
          go_wp2_with fail
          refine Calls.mono (HAS.out _) ?_
          rintro e3 w3 ⟨rfl, rfl⟩
          have HG3 := HG2
          have HR3 := HR2
          go_wp2
          refine ⟨rfl, rfl, ?_, HG3.out⟩
          first
            | rfl
            | (unfold Flt; congr; omega)
        · rw [if_neg hz]
          have hz' : z < 0 := by omega
          generalize mkS s = S at *
          go_enter Tryd.func41, Tryd.ntmps41
          go_wp2_with fail
          refine Calls.mono HNU.out ?_
          rintro e1 w1 ⟨⟨rfl, hr1, hq⟩, hg⟩
          have HR1 := hide hr1
          have HGR := hide hg
          obtain ⟨d0, d1, _⟩ := hr1.cells
          clear hr1 hg
          go_wp2_with fail
          refine Calls.mono (HB2.out _ HGR.out HR1.out) ?_
          rintro e2 w2 ⟨⟨rfl, hr2, hq2⟩, hg2⟩
          have HR2 := hide hr2
          have HG2 := hide (HGR.out.trans hg2)
          clear hr2 hg2
          go_wp2_with fail
          refine Calls.mono (HAS.out _) ?_
          rintro e3 w3 ⟨rfl, rfl⟩
          have HG3 := HG2
          have HR3 := HR2
          go_wp2
          go_ret
          exact ⟨⟨rfl, HR3.out, hq2, by omega⟩, HG3.out⟩
      · have hB : badB k (mkS s) = -1 := by unfold badB; rw [if_neg h19, if_neg h20]
        rw [hB]
        rw [if_neg (by omega)]
        have g19 : ((k : Int) == 19) = false := by rw [beq_eq_false_iff_ne]; omega
        have g20 : ((k : Int) == 20) = false := by rw [beq_eq_false_iff_ne]; omega
        clear hB hbb HUT HAS h19 h20
        · generalize mkS s = S at *
          go_enter Tryd.func41, Tryd.ntmps41
          go_wp2_with fail
          refine Calls.mono HNU.out ?_
          rintro e1 w1 ⟨⟨rfl, hr1, hq⟩, hg⟩
          have HR1 := hide hr1
          have HGR := hide hg
          obtain ⟨d0, d1, _⟩ := hr1.cells
          clear hr1 hg
          go_wp2_with fail
          refine Calls.mono (HB2.out _ HGR.out HR1.out) ?_
          rintro e2 w2 ⟨⟨rfl, hr2, hq2⟩, hg2⟩
          have HR2 := hide hr2
          have HG2 := hide (HGR.out.trans hg2)
          clear hr2 hg2
          have HG3 := HG2
          have HR3 := HR2
          go_wp2
          go_ret
          exact ⟨⟨rfl, HR3.out, hq2, by omega⟩, HG3.out⟩
end Go.Proofs.YtgpimajdcfoigabDoor
