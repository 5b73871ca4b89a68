import Derived.Test.YtcadlhpgapdgdaaGreatDoorJSeM9
import Derived.Test.YtcadlhpgapdgdaaGreatDoorJAlM9
import Derived.Test.YtcadlhpgapdgdaaGreatDoorJCtM9
import Derived.Test.YtcadlhpgapdgdaaGreatDoorJOwM9
import Derived.Test.YtcadlhpgapdgdaaGreatDoorJLivM9
import Derived.Deep.DeepCutAuto

/- Stage 20: JournalScans: the walk. -/
namespace Go.Proofs.YtcadlhpgapdgdaaGreatDoor
open Go.RowKit Go.MuLone Go.Maps
set_option linter.unusedVariables false
set_option linter.unusedSimpArgs false
theorem rowIs_at {w w' : World} {b n : Nat} {t : TypeId} {f : Nat → Value} (h : w.rowIs b t n f) (e : w'.heap[b]? = w.heap[b]?) : w'.rowIs b t n f := by
  obtain ⟨c, h1, h2, h3⟩ := h
  exact ⟨c, e.trans h1, h2, h3⟩
theorem scn_siz (l : List Nat) (s : Int) : sizN (scn l s).1 ≤ l.length := by
  unfold scn
  split
  · exact Nat.zero_le _
  · split
    · exact Nat.zero_le _
    · exact wl_siz _ _ (Nat.le_refl _)
/-- what is told is not much -/
theorem told_small {Z : List Bt} {M : List (List (List Nat))} {n : Nat} (h : batches Z = M) (hs : sizN M ≤ n) : Z.length ≤ n ∧ (∀ z ∈ Z, z.1.length ≤ n ∧ ∀ r ∈ z.1, r.1.length ≤ n) ∧ (Z.flatMap (·.1)).length ≤ n := by
  subst h
  have h1 := siz_len (batches Z)
  have hl : (batches Z).length = Z.length := by simp [batches]
  have hf : ((batches Z).map List.length).sum = (Z.flatMap (·.1)).length := by
    rw [List.length_flatMap]
    simp [batches, Function.comp_def]
  refine ⟨by omega, fun z hz => ?_, by omega⟩
  have hm : z.1.map (·.1) ∈ batches Z := List.mem_map.2 ⟨z, hz, rfl⟩
  have h2 := siz_mem hm
  refine ⟨?_, fun r hr => ?_⟩
  · have h3 : (z.1.map (·.1)).length ≤ bodN (z.1.map (·.1)) := by
      generalize z.1.map (·.1) = x
      induction x with
      | nil => exact Nat.le_refl _
      | cons r x ih2 => simp only [bodN, List.map_cons, List.sum_cons, List.length_cons] at ih2 ⊢; omega
    rw [List.length_map] at h3
    omega
  · have := bod_mem (List.mem_map.2 ⟨r, hr, rfl⟩ : r.1 ∈ z.1.map (·.1))
    omega
/-- what is told stays, where its blocks stay -/
theorem tl_keep {w w' : World} {B : Nat} {v : Value} {Z : List Bt} (h : Wy AK w B v Z ∧ ToldL B w Z) (hk : ∀ k, B ≤ k → k < w.heap.size → w'.heap[k]? = w.heap[k]?) : Wy AK w' B v Z ∧ ToldL B w' Z :=
  ⟨h.1.at fun k e => hk k (h.1.lt e).1 (h.1.lt e).2, h.2.keep fun k cs t f h1 h2 _ => hk k h1 (Array.getElem?_eq_some_iff.1 h2).1⟩
theorem ToldL.both {w : World} {B1 B2 : Nat} {Z1 Z2 : List Bt} (h1 : ToldL B1 w Z1) (h2 : ToldL B2 w Z2) (hB : B1 ≤ B2) (hz : ∀ z ∈ Z1, ∀ g, z.2.ownBlock = some g → g < B2) (hr : ∀ z ∈ Z1, ∀ o ∈ z.1, ∀ g, o.2.ownBlock = some g → g < B2) : ToldL B1 w (Z1 ++ Z2) := by
  refine ⟨?_, fun z hm => ?_, List.pairwise_append.2 ⟨h1.apt, h2.apt, fun a ha b hb g hg hbg => ?_⟩⟩
  · rw [List.flatMap_append]
    refine ⟨fun o ho => ?_, List.pairwise_append.2 ⟨h1.rcs.apt, h2.rcs.apt, fun a ha b hb g hg hbg => ?_⟩⟩
    · rcases List.mem_append.1 ho with h | h
      · exact h1.rcs.own o h
      · exact (h2.rcs.own o h).mono hB
    · obtain ⟨z, hm, hza⟩ := List.mem_flatMap.1 ha
      have := hr z hm a hza g hg
      have := ((h2.rcs.own b hb).lt g hbg).1
      omega
  · rcases List.mem_append.1 hm with h | h
    · exact h1.row z h
    · exact (h2.row z h).mono hB
  · have := hz a ha g hg
    have := ((h2.row b hb).lt hbg).1
    omega
theorem ak_row {w : World} {B : Nat} {a : Option Addr} {n c : Nat} {Z : List Bt} (hn : Z.length = n) (h : Wy AK w B (.slice a n c) Z) (ht : ToldL B w Z) : 0 < n → ∃ g off, a = some ⟨g, off, none⟩ ∧ g < w.heap.size ∧ ∀ j (hj : j < Z.length), w.cell? ⟨g, off + j, none⟩ = some Z[j].2 := fun h0 => by
  subst hn
  obtain ⟨a', c', e, hl, hr2⟩ := h.row1 (·.2) (fun o ho => by
    obtain ⟨x, k, e⟩ := (ht.row o ho).shape
    show [if o.2.oneCell' then o.2 else _] = [o.2]
    rw [e]
    rfl)
  simp only [Value.slice.injEq, true_and] at e
  obtain ⟨rfl, rfl⟩ := e
  exact hr2 h0
set_option maxRecDepth 100000 in
set_option maxHeartbeats 8000000 in
theorem scans_walk (a : Option Addr) (cap : Nat) (l : List Nat) (s : Int) (w : World) (g : Addr) (hE : Eb w g) (hT : Er w) (hr : Rb w (.slice a l.length cap) l) (hn : l.length ≤ 1048576) (hs : -9223372036854775808 ≤ s ∧ s < 9223372036854775808) :
    Calls Tryz.prog 4 #[.slice a l.length cap, .int .i64 s] w fun e w' => e = .returned (.bool true) ∧ Below w.heap.size w w' := by
  have HLV := hide (live_yes w g hE hT)
  have HE := hide hE
  have HT := hide hT
  have HR := hide hr
  obtain ⟨M, hM⟩ : ∃ M, (scn l s).1 = M := ⟨_, rfl⟩
  obtain ⟨en, hen⟩ : ∃ en, (scn l s).2.1 = en := ⟨_, rfl⟩
  obtain ⟨ec, hec⟩ : ∃ ec, (scn l s).2.2 = ec := ⟨_, rfl⟩
  have hsz : sizN M ≤ l.length := by rw [← hM]; exact scn_siz l s
  have HSC : Hid ((scn l s).1 = M ∧ (scn l s).2.1 = en ∧ (scn l s).2.2 = ec) := ⟨hM, hen, hec⟩
  have HSZ := hide hsz
  have hby : ∀ c ∈ l, c < 256 := hr.rdS.2.1
  have HBY := hide hby
  clear hE hT hr hM hen hec hsz hby
  go_enter Tryz.func4, Tryz.ntmps4
  go_wp2_with fail
  refine HLV.out.mono ?_
  rintro e w1 ⟨rfl, hb1⟩
  have HLE := hide (lentBytes_any a l.length cap l w1 (HR.out.below hb1).rdS (by omega))
  have HB1 := hide hb1
  clear hb1 HLV
  go_wp2_with fail
  refine HLE.out.mono ?_
  rintro e w2 ⟨rfl, hrow2, hb2⟩
  obtain ⟨g0, hg0⟩ : ∃ g0, w1.heap.size = g0 := ⟨_, rfl⟩
  rw [hg0] at hrow2 ⊢
  have hL2 : Rd w2 (some ⟨g0, 0, none⟩) l.length l := by
    refine ⟨rfl, HBY.out, fun h0 => ⟨g0, 0, rfl, hrow2.lt, fun j hj => ?_⟩⟩
    have := hrow2.cell (show j < l.length + 9 by omega)
    rw [Nat.zero_add, this]
    simp only [bW, List.getD_eq_getElem?_getD]
    rw [List.getElem?_append_left (by omega)]
  have HB2 : Hid (Below w.heap.size w w2) := belOn HB1.out HB1.out.size hb2
  have hs1 := scan_any g (some ⟨g0, 0, none⟩) (l.length + 9) l s w2 (HE.out.below HB2.out) (HT.out.below HB2.out) hL2 (by omega) (by omega)
  have HS1 := hide hs1
  have HL2 := hide hL2
  have HG0 : Hid (w.heap.size ≤ g0 ∧ g0 < w2.heap.size) := ⟨by rw [← hg0]; exact HB1.out.size, hrow2.lt⟩
  have HRW := hide hrow2
  clear hs1 hL2 hrow2 hb2 hg0 HLE
  go_wp2_with fail
  refine HS1.out.mono ?_
  rintro e w3 ⟨⟨v1, Z1, rfl, hwy1, htl1, hbz1⟩, hb3⟩
  rw [HSC.out.1] at hbz1
  rw [HSC.out.2.1, HSC.out.2.2]
  obtain ⟨va1, vc1, rfl, hzl1, hrl1, hml1⟩ := RdL.told hwy1 htl1
  rw [hbz1] at hrl1 hml1
  have hz1 : Z1.length = M.length := by
    have := congrArg List.length hbz1
    simpa [batches] using this
  have HB3 : Hid (Below w.heap.size w w3) := belOn HB2.out HB2.out.size hb3
  have HC3 : Hid (Below w2.heap.size w2 w3) := hb3
  have HS2 := hide (scan20_rb a cap l s w3 (HR.out.below HB3.out) (by omega) hs)
  have H1 := hide (And.intro hwy1 (And.intro htl1 (And.intro hbz1 (And.intro hrl1 hml1))))
  have HZ1 := hide hz1
  have HZL := hide hzl1
  clear hwy1 htl1 hbz1 hrl1 hml1 hz1 hzl1 hb3 HS1
  go_wp2_with fail
  refine HS2.out.mono ?_
  rintro e w4 ⟨⟨v2, Zr, rfl, hwyr, htlr, hbzr⟩, hb4⟩
  rw [HSC.out.1] at hbzr
  rw [HSC.out.2.1, HSC.out.2.2]
  obtain ⟨var, vcr, rfl, _, hrlr, _⟩ := RdL.told hwyr htlr
  rw [hbzr] at hrlr
  have hzr : Zr.length = M.length := by
    have := congrArg List.length hbzr
    simpa [batches] using this
  have hsm := same_any va1 var vc1 vcr M M w4 (H1.out.2.2.2.1.below hb4) hrlr (by rw [← HZ1.out]; exact HZL.out) H1.out.2.2.2.2
  rw [decide_eq_true (rfl : M = M)] at hsm
  rw [hzr, HZ1.out]
  have HSM := hide hsm
  have HB4 : Hid (Below w.heap.size w w4) := belOn HB3.out HB3.out.size hb4
  have HC4 : Hid (Below w2.heap.size w2 w4) := belOn HC3.out HC3.out.size hb4
  have HD4 : Hid (Below w3.heap.size w3 w4) := hb4
  have HRR := hide (And.intro hwyr (And.intro htlr hbzr))
  have HZR := hide hzr
  clear hwyr htlr hbzr hrlr hzr hsm hb4 HS2
  go_wp2_with fail
  refine HSM.out.mono ?_
  rintro e w5 ⟨rfl, hb5⟩
  have HB5 : Hid (Below w.heap.size w w5) := belOn HB4.out HB4.out.size hb5
  have HC5 : Hid (Below w2.heap.size w2 w5) := belOn HC4.out HC4.out.size hb5
  have HD5 : Hid (Below w3.heap.size w3 w5) := belOn HD4.out HD4.out.size hb5
  have HE5 : Hid (Below w4.heap.size w4 w5) := hb5
  have HS3 := hide (scan_any g (some ⟨g0, 0, none⟩) (l.length + 9) l s w5 (HE.out.below HB5.out) (HT.out.below HB5.out) (HL2.out.below HC5.out) (by omega) (by omega))
  clear hb5 HSM
  go_wp2_with fail
  refine HS3.out.mono ?_
  rintro e w6 ⟨⟨v3, Z2, rfl, hwy2, htl2, hbz2⟩, hb6⟩
  rw [HSC.out.1] at hbz2
  rw [HSC.out.2.1, HSC.out.2.2]
  obtain ⟨va2, vc2, rfl, hzl2, hrl2, hml2⟩ := RdL.told hwy2 htl2
  rw [hbz2] at hrl2 hml2
  have hz2 : Z2.length = M.length := by
    have := congrArg List.length hbz2
    simpa [batches] using this
  rw [hz2]
  have HB6 : Hid (Below w.heap.size w w6) := belOn HB5.out HB5.out.size hb6
  have HC6 : Hid (Below w2.heap.size w2 w6) := belOn HC5.out HC5.out.size hb6
  have HD6 : Hid (Below w3.heap.size w3 w6) := belOn HD5.out HD5.out.size hb6
  have HE6 : Hid (Below w4.heap.size w4 w6) := belOn HE5.out HE5.out.size hb6
  have H2 := hide (And.intro hwy2 (And.intro htl2 hbz2))
  have HZ2 := hide hz2
  have HASL := hide (asLent_kp g0 l.length cap a l w6 (rowIs_at HRW.out (HC6.out.block g0 HG0.out.2)) (HR.out.below HB6.out).rdS (by omega) HBY.out)
  clear hwy2 htl2 hbz2 hrl2 hml2 hz2 hzl2 hb6 HS3
  go_wp2_with fail
  refine HASL.out.mono ?_
  rintro e w7 ⟨rfl, hk7⟩
  have hko : ∀ k, w2.heap.size ≤ k → k < w6.heap.size → w7.heap[k]? = w6.heap[k]? := fun k h1 h2 => hk7.block h2 (fun e => by have := HG0.out.2; omega)
  have h17 : Wy AK w7 w2.heap.size (.slice va1 Z1.length vc1) Z1 ∧ ToldL w2.heap.size w7 Z1 := tl_keep ⟨H1.out.1, H1.out.2.1⟩ fun k h1 h2 => (hko k h1 (Nat.lt_of_lt_of_le h2 HD6.out.size)).trans (HD6.out.block k h2)
  have hr7 : Wy AK w7 w3.heap.size (.slice var Zr.length vcr) Zr ∧ ToldL w3.heap.size w7 Zr := tl_keep ⟨HRR.out.1, HRR.out.2.1⟩ fun k h1 h2 => (hko k (Nat.le_trans HC3.out.size h1) (Nat.lt_of_lt_of_le h2 HE6.out.size)).trans (HE6.out.block k h2)
  have h27 : Wy AK w7 w5.heap.size (.slice va2 Z2.length vc2) Z2 ∧ ToldL w5.heap.size w7 Z2 := tl_keep ⟨H2.out.1, H2.out.2.1⟩ fun k h1 h2 => hko k (Nat.le_trans HC5.out.size h1) h2
  have HB7 : Hid (Below w.heap.size w w7) := HB6.out.trans (hk7.toBelow HB6.out.size (fun k hk e => by have := HG0.out.1; omega))
  have HS7 : Hid (w6.heap.size ≤ w7.heap.size) := hk7.size
  have H17 := hide h17
  have HR7 := hide hr7
  have H27 := hide h27
  obtain ⟨q1, p1, e1, hl1, rl1, ml1⟩ := RdL.told h17.1 h17.2
  obtain ⟨q2, p2, e2, hl2, rl2, ml2⟩ := RdL.told h27.1 h27.2
  obtain ⟨q3, p3, e3, hl3, rl3, ml3⟩ := RdL.told hr7.1 hr7.2
  simp only [Value.slice.injEq, true_and] at e1 e2 e3
  obtain ⟨rfl, rfl⟩ := e1
  obtain ⟨rfl, rfl⟩ := e2
  obtain ⟨rfl, rfl⟩ := e3
  rw [H1.out.2.2.1] at rl1 ml1
  rw [H2.out.2.2] at rl2 ml2
  rw [HRR.out.2.2] at rl3
  have HSA := hide (same_any va1 var vc1 vcr M M w7 rl1 rl3 (by rw [← HZ1.out]; exact hl1) ml1)
  have HSB := hide (fun w8 (hb8 : Below w7.heap.size w7 w8) => same_any va2 var vc2 vcr M M w8 (rl2.below hb8) (rl3.below hb8) (by rw [← HZ2.out]; exact hl2) ml2)
  rw [decide_eq_true (rfl : M = M)] at HSA HSB
  clear hko h17 hr7 h27 hk7 hl1 hl2 hl3 rl1 rl2 rl3 ml1 ml2 ml3 HASL
  go_wp2_with fail
  refine HSA.out.mono ?_
  rintro e w8 ⟨rfl, hb8⟩
  have HSB8 := hide (HSB.out w8 hb8)
  have HB8 := hide hb8
  clear hb8 HSA HSB
  go_wp2_with fail
  refine HSB8.out.mono ?_
  rintro e w9 ⟨rfl, hb9⟩
  have hb79 : Below w7.heap.size w7 w9 := belOn HB8.out HB8.out.size hb9
  have h19 := tl_keep (w' := w9) H17.out fun k _ h2 => hb79.block k h2
  have h29 := tl_keep (w' := w9) H27.out fun k _ h2 => hb79.block k h2
  have HB9 : Hid (Below w.heap.size w w9) := belOn HB7.out HB7.out.size hb79
  have HC9 : Hid (w7.heap.size ≤ w9.heap.size) := hb79.size
  rw [HZ1.out] at h19
  rw [HZ2.out] at h29
  have HR1 := hide (ak_row HZ1.out h19.1 h19.2)
  have HR2 := hide (ak_row HZ2.out h29.1 h29.2)
  have H19 := hide h19
  have H29 := hide h29
  clear hb9 hb79 h19 h29 HSB8
  have hMl : M.length ≤ 1048576 := by have := (siz_len M).1; have := HSZ.out; omega
  go_wp2_with fail
  go_loopw [20, 21] (fun av i wr => ∃ k : Nat, k ≤ M.length ∧ i = .int .i64 (k : Int) ∧ Hid (Wy AK wr w9.heap.size av (Z1.take k)) ∧ Hid (Below w9.heap.size w9 wr)) (fun _ i _ => M.length - (intOf i).toNat)
  case atStart => exact ⟨0, Nat.zero_le _, rfl, .inl ⟨rfl, rfl⟩, hide (Below.refl _ _)⟩
  case round =>
    rename World => wr
    obtain ⟨k, hk, rfl, HW, HB⟩ := hrel
    have HTL : Hid ((Z1.take k).length = k) := by show _ = _; rw [List.length_take, HZ1.out]; omega
    obtain ⟨xa, xc, hav⟩ := HW.out.shape
    rw [HTL.out] at hav
    subst hav
    have HBA : Hid (w9.heap.size ≤ wr.heap.size) := HB.out.size
    by_cases hkn : k < M.length
    · obtain ⟨g1, o1, rfl, hgl, hc⟩ := HR1.out (by omega)
      have hk1 : k < Z1.length := by rw [HZ1.out]; exact hkn
      have hcell := (HB.out.cell (p := ⟨g1, o1 + k, none⟩) hgl).trans (hc k hk1)
      obtain ⟨y, d, hyd⟩ := (H19.out.2.row Z1[k] (List.getElem_mem hk1)).shape
      have HZT : Hid (Z1.take (k + 1) = Z1.take k ++ [Z1[k]]) := List.take_succ_eq_append_getElem hk1
      rw [hyd] at hcell
      have HCE : Hid (AK.enc Z1[k] = [.slice y Z1[k].1.length d]) := by show [if Z1[k].2.oneCell' then Z1[k].2 else _] = _; rw [hyd]; rfl
      have hki : (k : Int) < (M.length : Int) := by omega
      generalize Z1[k] = z at *
      clear hc hyd
      have HWA : Hid (Wy AK (wr.alloc (.cells #[.slice y z.1.length d] 29)) w9.heap.size (.slice xa k xc) (Z1.take k)) := HW.out.at fun q e => Below.heap_alloc _ _ _ (HW.out.lt e).2
      go_wp2_with (at_builtin; go_loud (refine wpList_append_way akOk _ rfl (.tmp 66) (.tmp 71) rfl w9.heap.size (.slice xa k xc) (Z1.take k) z rfl HWA.out wr.heap.size 1 rfl (by rw [HCE.out]; exact heap_new _ _) (by simp; exact Nat.le_trans HBA.out (Nat.le_succ _)) (by rw [HTL.out]; show (k + 1) * 24 ≤ _; omega) ?_); intro v' wn hwn hgn hsn; have HWN := hide hwn; have HGN := hide hgn; clear hwn hgn hsn)
      refine ⟨⟨k + 1, by omega, by go_num, ?_, ?_⟩, by simp [intOf]; omega⟩
      · rw [HZT.out]; exact HWN
      · exact (bel1 HB.out HBA.out _).grown HGN.out (Nat.le_trans HBA.out (by simp)) (fun q hq => (HW.out.lt hq).1)
    · have hkn' : k = M.length := by omega
      subst hkn'
      rw [show Z1.take M.length = Z1 by rw [← HZ1.out, List.take_length]] at HW
      go_wp2_with fail
      go_loopw [20, 22] (fun av i wq => ∃ k : Nat, k ≤ M.length ∧ i = .int .i64 (k : Int) ∧ Hid (Wy AK wq w9.heap.size av (Z1 ++ Z2.take k)) ∧ Hid (Below w9.heap.size w9 wq)) (fun _ i _ => M.length - (intOf i).toNat)
      case atStart => exact ⟨0, Nat.zero_le _, rfl, by simpa using HW, HB⟩
      case round =>
        rename World => wq
        obtain ⟨k, hk, rfl, HW2, HB2⟩ := hrel
        have HTL2 : Hid ((Z1 ++ Z2.take k).length = M.length + k) := by show _ = _; rw [List.length_append, List.length_take, HZ1.out, HZ2.out]; omega
        obtain ⟨xa2, xc2, hav2⟩ := HW2.out.shape
        rw [HTL2.out] at hav2
        subst hav2
        have HBA2 : Hid (w9.heap.size ≤ wq.heap.size) := HB2.out.size
        by_cases hkn : k < M.length
        · obtain ⟨g1, o1, rfl, hgl, hc⟩ := HR2.out (by omega)
          have hk1 : k < Z2.length := by rw [HZ2.out]; exact hkn
          have hcell := (HB2.out.cell (p := ⟨g1, o1 + k, none⟩) hgl).trans (hc k hk1)
          obtain ⟨y, d, hyd⟩ := (H29.out.2.row Z2[k] (List.getElem_mem hk1)).shape
          have HZT : Hid (Z1 ++ Z2.take (k + 1) = (Z1 ++ Z2.take k) ++ [Z2[k]]) := by show _ = _; rw [List.take_succ_eq_append_getElem hk1, List.append_assoc]
          rw [hyd] at hcell
          have HCE : Hid (AK.enc Z2[k] = [.slice y Z2[k].1.length d]) := by show [if Z2[k].2.oneCell' then Z2[k].2 else _] = _; rw [hyd]; rfl
          have hki : (k : Int) < (M.length : Int) := by omega
          generalize Z2[k] = z at *
          clear hc hyd
          have HWA : Hid (Wy AK (wq.alloc (.cells #[.slice y z.1.length d] 29)) w9.heap.size (.slice xa2 (M.length + k) xc2) (Z1 ++ Z2.take k)) := HW2.out.at fun q e => Below.heap_alloc _ _ _ (HW2.out.lt e).2
          go_wp2_with (at_builtin; go_loud (refine wpList_append_way akOk _ rfl (.tmp 79) (.tmp 84) rfl w9.heap.size (.slice xa2 (M.length + k) xc2) (Z1 ++ Z2.take k) z rfl HWA.out wq.heap.size 1 rfl (by rw [HCE.out]; exact heap_new _ _) (by simp; exact Nat.le_trans HBA2.out (Nat.le_succ _)) (by rw [HTL2.out]; show (M.length + k + 1) * 24 ≤ _; omega) ?_); intro v' wn hwn hgn hsn; have HWN := hide hwn; have HGN := hide hgn; clear hwn hgn hsn)
          refine ⟨⟨k + 1, by omega, by go_num, ?_, ?_⟩, by simp [intOf]; omega⟩
          · rw [HZT.out]; exact HWN
          · exact (bel1 HB2.out HBA2.out _).grown HGN.out (Nat.le_trans HBA2.out (by simp)) (fun q hq => (HW2.out.lt hq).1)
        · have hkn' : k = M.length := by omega
          subst hkn'
          rw [show Z2.take M.length = Z2 by rw [← HZ2.out, List.take_length]] at HW2 HTL2
          have hsz1 := told_small H1.out.2.2.1 HSZ.out
          have hsz2 := told_small H2.out.2.2 HSZ.out
          have hc29 : w2.heap.size ≤ w9.heap.size := Nat.le_trans (Nat.le_trans HC6.out.size HS7.out) HC9.out
          have h1q := tl_keep (w' := wq) H19.out fun k _ h2 => HB2.out.block k h2
          have h2q := tl_keep (w' := wq) H29.out fun k _ h2 => HB2.out.block k h2
          have hbo : ToldL w2.heap.size wq (Z1 ++ Z2) := h1q.2.both h2q.2 HC5.out.size
            (fun z hz g hg => Nat.lt_of_lt_of_le ((H1.out.2.1.row z hz).lt hg).2 HD5.out.size)
            (fun z hz o ho g hg => Nat.lt_of_lt_of_le ((H1.out.2.1.rcs.own o (List.mem_flatMap.2 ⟨z, hz, ho⟩)).lt g hg).2 HD5.out.size)
          have HOW := hide (owned_told w2.heap.size xa2 xc2 (Z1 ++ Z2) wq (by rw [HTL2.out]; exact HW2.out.mono hc29) hbo (Nat.le_trans hc29 HBA2.out) (by rw [List.length_append]; omega) (fun z hz => by
            rcases List.mem_append.1 hz with h | h
            · exact ⟨by have := (hsz1.2.1 z h).1; omega, fun r hr => by have := (hsz1.2.1 z h).2 r hr; omega⟩
            · exact ⟨by have := (hsz2.2.1 z h).1; omega, fun r hr => by have := (hsz2.2.1 z h).2 r hr; omega⟩) (by rw [List.flatMap_append, List.length_append]; omega))
          rw [HTL2.out] at HOW
          have HBQ : Hid (Below w.heap.size w wq) := belOn HB9.out HB9.out.size HB2.out
          clear hsz1 hsz2 hc29 h1q h2q hbo
          go_wp2_with fail
          refine HOW.out.mono ?_
          rintro e wz ⟨rfl, hbz⟩
          have HBZ : Hid (Below w.heap.size w wz) := HBQ.out.trans (hbz.mono (by have := HG0.out; omega))
          clear hbz
          go_wp2
          go_ret
          exact ⟨rfl, HBZ.out⟩
end Go.Proofs.YtcadlhpgapdgdaaGreatDoor
