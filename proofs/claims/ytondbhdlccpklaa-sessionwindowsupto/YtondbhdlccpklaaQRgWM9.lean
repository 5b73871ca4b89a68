import Derived.Test.YtondbhdlccpklaaQRgMM9

/- SessionRanges: the walk. -/
namespace Go.Proofs.Ytondbhdlccpklaa
open Go.RowKit Go.Maps
set_option linter.unusedVariables false
set_option linter.unusedSimpArgs false

/-- numbers that came in -/
def Ri (w : World) (a : Option Addr) (n : Nat) (zs : List Int) : Prop := 0 < n → ∃ b off, a = some ⟨b, off, none⟩ ∧ b < w.heap.size ∧ ∀ j, j < n → w.cell? ⟨b, off + j, none⟩ = some (.int .i64 (zs.getD j 0))
def H0 : List (Int × Int) := [(0, -1)]
theorem note0a (C : List (Int × Pd)) (id : Int) : noteE H0 C id 0 = if hasK C id = true then 131 else 0 := by
  unfold noteE
  rw [show hasK H0 0 = true by decide, if_neg (by simp)]
/-- a session with deliveries that came -/
structure Rs (w0 : World) (n : Nat) (C : List (Int × Pd)) (W : World) : Prop where
  sb : SB W (n + 4) (s1 n)
  th : TbI W n H0
  ts : TbP W (n + 2) []
  tc : TbP W (n + 3) C
  wd : Words C
  rg : Reg C
  be : Below w0.heap.size w0 W
theorem Rs.below {w0 : World} {n : Nat} {C : List (Int × Pd)} {W W' : World} (h : Rs w0 n C W) (hb : Below W.heap.size W W') : Rs w0 n C W' :=
  ⟨h.sb.at (hb.block _ h.sb.lt), h.th.at (hb.block _ h.th.lt), h.ts.at (hb.block _ h.ts.lt), h.tc.at (hb.block _ h.tc.lt), h.wd, h.rg, belOn h.be h.be.size hb⟩
theorem Rs.turn {w0 : World} {n : Nat} {C C' : List (Int × Pd)} {W W' : World} (h : Rs w0 n C W) (hn : w0.heap.size ≤ n) (ht : TbP W' (n + 3) C') (hk : Kp (fun q => q = n + 3) W W') (hw : Words C') (hr : Reg C') : Rs w0 n C' W' :=
  ⟨h.sb.at (hk.block h.sb.lt (by omega)), h.th.at (hk.block h.th.lt (by omega)), h.ts.at (hk.block h.ts.lt (by omega)), ht, hw, hr, kpNew h.be h.be.size hk (fun k hk => by omega)⟩
/-- one more that came -/
theorem Rs.arrive {w0 : World} {n : Nat} {C : List (Int × Pd)} {W : World} (h : Rs w0 n C W) (hn : w0.heap.size ≤ n) (hl : C.length ≤ 100000) (id : Int) :
    Calls Try.prog 28 #[.pointer (some ⟨n + 4, 0, none⟩), .int .i64 id, .int .i64 0, .string tT, .bool false] W fun e w' => ∃ x C', e = .returned (.int .i64 x) ∧ Rs w0 n C' w' ∧ C'.length = (if x = 0 then C.length + 1 else C.length) ∧ Below w0.heap.size w0 w' := by
  cases hi : isW id
  · refine (arrive_arg (n + 4) id 0 tT false W hi).mono ?_
    rintro e w' ⟨rfl, hb⟩
    exact ⟨1, C, rfl, h.below hb, by simp, (h.below hb).be⟩
  · have hwi := isW_iff.1 hi
    cases hh : hasK C id
    · have hE : noteE H0 C id 0 = 0 := by rw [note0a, hh]; rfl
      refine (arrive_yes (n + 4) (s1 n) H0 C id 0 tT W hi h.sb h.th h.tc (wf_of (by decide) (by decide)) hE (by unfold maxLen; omega)).mono ?_
      rintro e w' ⟨rfl, t, k⟩
      have := h.turn hn t k (fun q hq => by rcases List.mem_cons.1 hq with rfl | hq; exact hwi; exact h.wd q hq) (fun q hq => by rcases List.mem_cons.1 hq with rfl | hq; rfl; exact h.rg q hq)
      exact ⟨0, _, rfl, this, by simp, this.be⟩
    · have hE : noteE H0 C id 0 = 131 := by rw [note0a, hh]; rfl
      refine (arrive_no (n + 4) (s1 n) H0 C id 0 tT false W hi h.sb h.th h.tc (wf_of (by decide) (by decide)) (.inl (by rw [hE]; decide))).mono ?_
      rintro e w' ⟨rfl, hb⟩
      exact ⟨131, C, by rw [hE], h.below hb, by simp, (h.below hb).be⟩
theorem RdP.below {w w' : World} {a : Option Addr} {ps : List Pd} (h : RdP w a ps) (hb : Below w.heap.size w w') : RdP w' a ps := fun j hj => by
  obtain ⟨g, e, h1, h2, h3, h4⟩ := h j hj
  exact ⟨g, e, by have := hb.size; omega, (hb.cell (p := ⟨g, j * 3, none⟩) h1).trans h2, (hb.cell (p := ⟨g, j * 3 + 1, none⟩) h1).trans h3, (hb.cell (p := ⟨g, j * 3 + 2, none⟩) h1).trans h4⟩
theorem RdP.kp {X : Nat → Prop} {w w' : World} {a : Option Addr} {ps : List Pd} (h : RdP w a ps) (hb : Kp X w w') (hx : ∀ g o m, a = some ⟨g, o, m⟩ → ¬ X g) : RdP w' a ps := fun j hj => by
  obtain ⟨g, e, h1, h2, h3, h4⟩ := h j hj
  have := hx g 0 none e
  exact ⟨g, e, by have := hb.size; omega, (hb.cell h1 this).trans h2, (hb.cell h1 this).trans h3, (hb.cell h1 this).trans h4⟩
theorem take_snoc {ps : List Pd} {j : Nat} (h : j < ps.length) : ps.take (j + 1) = ps.take j ++ [ps[j]] := List.take_succ_eq_append_getElem h
set_option maxRecDepth 100000 in
set_option maxHeartbeats 8000000 in
theorem ranges_walk (a : Option Addr) (n c : Nat) (zs : List Int) (begun one two : Int) (w : World) (hz : Ri w a n zs) (hwf : ∀ j, j < n → wf64 (zs.getD j 0)) (hn48 : n ≤ 281474976710656) (hb0 : wf64 begun) (ho0 : wf64 one) (ht0 : wf64 two) :
    Calls Try.prog 7 #[.slice a n c, .int .i64 begun, .int .i64 one, .int .i64 two] w fun e w' => e = .returned (.bool true) ∧ Below w.heap.size w w' := by
  have HZ := hide hz
  have HWf := hide hwf
  clear hz hwf hb0 ho0 ht0
  go_enter Try.func7, Try.ntmps7
  go_wp2_with fail
  refine (live_any w).mono ?_
  rintro e1 w1 ⟨rfl, hb1⟩
  have HB1 := hide hb1
  clear hb1
  go_wp2_with fail
  refine (first_any w1).mono ?_
  rintro e2 w2 ⟨rfl, hb2⟩
  obtain ⟨V2, hV2⟩ : ∃ V2, w2.alloc (.cells pf0 39) = V2 := ⟨_, rfl⟩
  have HV2 := hide hV2
  have HP2 : Hid (V2.heap[w2.heap.size]? = some (.cells pf0 39 (0, 0))) := by show _ = _; rw [← hV2]; exact heap_alloc_last _ _
  have HB2 : Hid (Below w.heap.size w V2) := by
    show Below _ _ _
    rw [← hV2]
    exact bel1 (belOn HB1.out HB1.out.size hb2) (by have := HB1.out.size; have := hb2.size; omega) _
  clear hV2 hb2
  go_wp2_with (first | (refine wpList_store_row rfl 39 (.tmp 10) (.tmp 33) rfl w2.heap.size pf0 rfl rfl 39 _ (heap_alloc_last w2 _) Try.infoPf rfl (by kernel_rfl) ?_; rw [World.setRow_alloc_new, HV2.out]) | (refine wpList_load_row rfl 39 (.tmp 10) rfl w2.heap.size rfl 39 pf0 (0, 0) _ HP2.out Try.underlying39 rfl Try.infoPf ?_))
  refine (new_yes pf0 17 0 2 5 10 1 pf0_pf four0 V2).mono ?_
  rintro e3 w3 ⟨k, rfl, hk, hses, hb3⟩
  have HP3 : Hid (w3.heap[w2.heap.size]? = some (.cells pf0 39 (0, 0))) := (hb3.block _ (Array.getElem?_eq_some_iff.1 HP2.out).1).trans HP2.out
  have HS3 := hide hses
  have hkw : w.heap.size ≤ k := by have := HB2.out.size; omega
  have HB3 : Hid (Below w.heap.size w w3) := belOn HB2.out HB2.out.size hb3
  clear hses hb3 hk
  by_cases hn2 : (n : Int) > 2000
  · go_wp2
    go_ret
    exact ⟨rfl, HB3.out⟩
  by_cases hbl : begun < 0
  · go_wp2
    go_ret
    exact ⟨rfl, HB3.out⟩
  by_cases hbh : begun > 4294967295
  · go_wp2
    go_ret
    exact ⟨rfl, HB3.out⟩
  go_wp2_with (refine wpList_load_row rfl 39 (.tmp 10) rfl w2.heap.size rfl 39 pf0 (0, 0) _ HP3.out Try.underlying39 rfl Try.infoPf ?_)
  refine (peer_yes (k + 4) (newSn 2 5 10 1 k) pf0 17 0 2 5 10 1 w3 HS3.out.sb rfl pf0_pf four0).mono ?_
  rintro e4 w4 ⟨rfl, sb4, k4⟩
  have HS4 : Hid (Ses w4 (k + 4) (s1 k) [] [] [] []) := HS3.out.turn sb4 ⟨rfl, rfl, rfl, rfl⟩ k4
  have HB4 : Hid (Below w.heap.size w w4) := kpNew HB3.out HB3.out.size k4 (fun q hq => by omega)
  have HH : Hid (Calls Try.prog 27 #[.pointer (some ⟨k + 4, 0, none⟩)] w4 fun e w' => e = .returned (.tuple #[.int .i64 0, .int .i64 0]) ∧ TbI w' k [(0, -1)] ∧ Kp (fun q => q = k) w4 w') :=
    handle_yes (k + 4) (s1 k) [] 0 w4 HS4.out.sb HS4.out.th rfl (by decide) (by omega) (show (0 : Int) ≤ 1 by decide) (fun j hj => by omega) rfl
  clear sb4 k4 HP3 HP2 HV2
  go_wp2_with fail
  refine HH.out.mono ?_
  rintro e5 w5 ⟨rfl, t5, k5⟩
  have HR : Hid (Rs w k [] w5) := ⟨HS4.out.sb.at (k5.block HS4.out.sb.lt (by omega)), t5, HS4.out.ts.at (k5.block HS4.out.ts.lt (show k + 2 ≠ k by omega)), HS4.out.tc.at (k5.block HS4.out.tc.lt (show k + 3 ≠ k by omega)), fun q hq => (by cases hq), fun q hq => (by cases hq), kpNew HB4.out HB4.out.size k5 (fun q hq => by omega)⟩
  clear t5 k5 HH HS4 HB4 HS3 HB3 HB2 HB1
  go_wp2
  go_loopw [15, 16] (fun t i wr => ∃ (j : Nat) (C : List (Int × Pd)), i = .int .i64 j ∧ t = .int .i64 (C.length : Int) ∧ j ≤ n ∧ C.length ≤ j ∧ Rs w k C wr) (fun _ i _ => n - (intOf i).toNat)
  case atStart => exact ⟨0, [], rfl, rfl, by omega, by simp, HR.out⟩
  case round =>
    obtain ⟨j, C, rfl, rfl, hj, hcj, hrs⟩ := hrel
    have HRs := hide hrs
    clear hrs HR
    by_cases hjn : j < n
    · obtain ⟨b, off, ea, hbl2, hcell⟩ := HZ.out (by omega)
      subst ea
      have hc0 := hcell j hjn
      rw [← HRs.out.be.cell (p := ⟨b, off + j, none⟩) hbl2] at hc0
      obtain ⟨id, hid⟩ : ∃ id, id = zs.getD j 0 := ⟨_, rfl⟩
      rw [← hid] at hc0
      have HA := hide (HRs.out.arrive hkw (by omega) id)
      have hblr : b < wr.heap.size := by have := HRs.out.be.size; omega
      clear hcell hid
      go_wp2_with fail
      refine HA.out.mono ?_
      rintro e6 w6 ⟨x, C', rfl, hrs', hlen, hb6⟩
      have HR6 := hide hrs'
      clear hrs' hb6 hc0
      by_cases hx : x = 0
      · subst hx
        rw [if_pos rfl] at hlen
        have HL := hide hlen
        clear hlen
        have hcl : (C.length : Int) ≤ 2000 := by omega
        go_wp2
        go_roundw
        case rel => exact ⟨j + 1, C', by go_num, by rw [HL.out]; go_num, by omega, by rw [HL.out]; omega, HR6.out⟩
        case measure => simp [intOf]; omega
      · rw [if_neg hx] at hlen
        have HL := hide hlen
        have hxb : (x == 0) = false := by simp [hx]
        clear hlen hx
        go_wp2
        go_roundw
        case rel => exact ⟨j + 1, C', by go_num, by rw [HL.out], by omega, by rw [HL.out]; omega, HR6.out⟩
        case measure => simp [intOf]; omega
    · obtain rfl : j = n := by omega
      by_cases h1 : one < 0
      · go_wp2
        go_ret
        exact ⟨rfl, HRs.out.be⟩
      by_cases h2 : two < 0
      · go_wp2
        go_ret
        exact ⟨rfl, HRs.out.be⟩
      by_cases h3 : one > 1000000000
      · go_wp2
        go_ret
        exact ⟨rfl, HRs.out.be⟩
      by_cases h4 : two > 1000000000
      · go_wp2
        go_ret
        exact ⟨rfl, HRs.out.be⟩
      obtain ⟨mid, hmid⟩ : ∃ mid, mid = (begun + one) % 4294967296 := ⟨_, rfl⟩
      obtain ⟨last, hlast⟩ : ∃ last, last = (mid + 1 + two) % 4294967296 := ⟨_, rfl⟩
      obtain ⟨nx, hnx⟩ : ∃ nx, nx = (mid + 1) % 4294967296 := ⟨_, rfl⟩
      have hmb : 0 ≤ mid ∧ mid ≤ 4294967295 := by omega
      have hlb : 0 ≤ last ∧ last ≤ 4294967295 := by omega
      have hxb : 0 ≤ nx ∧ nx ≤ 4294967295 := by omega
      have HMid := hide hmid
      have HLast := hide hlast
      have HNx := hide hnx
      have HAll := hide (range_any (k + 4) (s1 k) false C begun last wr HRs.out.sb HRs.out.tc HRs.out.wd (by omega))
      clear hmid hlast hnx
      have HSp : Hid (rangeL C begun mid ++ rangeL C nx last = rangeL C begun last) := range_split (by obtain ⟨D, _, h⟩ := HRs.out.tc; exact h.1) HRs.out.wd ⟨by omega, by omega⟩ ⟨by omega, by omega⟩ ⟨by omega, by omega⟩ HMid.out HLast.out HNx.out
      have hCl : C.length ≤ 2000 := by omega
      have HNd : Hid ((C.map (·.1)).Nodup) := by obtain ⟨D, _, h⟩ := HRs.out.tc; exact h.1
      have hAp : Hid (∀ i q (hi : i < (rangeL C begun last).length) (hq : q < (rangeL C begun last).length), i ≠ q → ((rangeL C begun last)[i]).1 ≠ ((rangeL C begun last)[q]).1) := by
        have e1 : isW begun = true := isW_iff.2 ⟨by omega, by omega⟩
        have e2 : isW last = true := isW_iff.2 hlb
        have eC : rangeL C begun last = (gsL C begun (gapZ begun last)).map (thing C begun) := by
          unfold rangeL rgL
          rw [e1, e2, Bool.and_self, if_pos rfl]
        show ∀ i q (hi : i < (rangeL C begun last).length) (hq : q < (rangeL C begun last).length), i ≠ q → ((rangeL C begun last)[i]).1 ≠ ((rangeL C begun last)[q]).1
        rw [eC]
        exact all_apart HNd.out HRs.out.wd HRs.out.rg ⟨by omega, by omega⟩ (by unfold gapZ; omega)
      have HFs := hide (Fg.start (last := last) (b := begun) HNd.out HRs.out.wd HRs.out.rg ⟨by omega, by omega⟩)
      have HFd : Hid (∀ Ci, Fg C (rangeL C begun last) (rangeL C begun last).length Ci → rangeL Ci begun last = []) := fun Ci h => Fg.done HRs.out.wd HRs.out.rg ⟨by omega, by omega⟩ hlb h
      have hla := rangeL_len C begun last
      have hll := rangeL_len C begun mid
      have hlr := rangeL_len C nx last
      obtain ⟨A, hA⟩ : ∃ A, A = rangeL C begun last := ⟨_, rfl⟩
      obtain ⟨Lf, hLf⟩ : ∃ Lf, Lf = rangeL C begun mid := ⟨_, rfl⟩
      obtain ⟨Rt, hRt⟩ : ∃ Rt, Rt = rangeL C nx last := ⟨_, rfl⟩
      rw [← hA] at HAll HSp HFs hla
      have HAp : Hid (∀ i q (hi : i < A.length) (hq : q < A.length), i ≠ q → (A[i]).1 ≠ (A[q]).1) := by subst hA; exact hAp
      have HFd' : Hid (∀ Ci, Fg C A A.length Ci → rangeL Ci begun last = []) := by subst hA; exact HFd
      rw [← hLf, ← hRt] at HSp
      rw [← hLf] at hll
      rw [← hRt] at hlr
      have HLf := hide hLf
      have HRt := hide hRt
      clear hA hLf hRt hAp HFd
      go_wp2_with fail
      rw [← HMid.out, ← HLast.out]
      refine HAll.out.mono ?_
      rintro e7 w7 ⟨v7, rfl, o7, b7⟩
      have HR7 := hide (HRs.out.below b7)
      obtain ⟨a7, c7, rfl, rd7, lt7⟩ := o7.rd
      have HD7 := hide rd7
      have HT7 : Hid (∀ g o m, a7 = some ⟨g, o, m⟩ → g ≠ k + 3) := fun g o m e => by have := (lt7 g o m e).1; have := HRs.out.tc.lt; omega
      have HLeft := hide (range_any (k + 4) (s1 k) false C begun mid w7 HR7.out.sb HR7.out.tc HR7.out.wd (by omega))
      rw [← HLf.out] at HLeft
      clear o7 b7 rd7 lt7
      go_wp2_with fail
      refine HLeft.out.mono ?_
      rintro e8 w8 ⟨v8, rfl, o8, b8⟩
      have HR8 := hide (HR7.out.below b8)
      have HD78 := hide (HD7.out.below b8)
      obtain ⟨a8, c8, rfl, rd8, lt8⟩ := o8.rd
      have HD8 := hide rd8
      have HRight := hide (range_any (k + 4) (s1 k) false C nx last w8 HR8.out.sb HR8.out.tc HR8.out.wd (by omega))
      rw [← HRt.out] at HRight
      clear o8 b8 rd8 lt8
      go_wp2_with fail
      rw [← HNx.out]
      refine HRight.out.mono ?_
      rintro e9 w9 ⟨v9, rfl, o9, b9⟩
      have HR9 := hide (HR8.out.below b9)
      have HD79 := hide (HD78.out.below b9)
      have HD89 := hide (HD8.out.below b9)
      obtain ⟨a9, c9, rfl, rd9, lt9⟩ := o9.rd
      have HD9 := hide rd9
      clear o9 b9 rd9 lt9 HLf HRt HD7 HD78 HD8 HLeft HRight HAll HR7 HR8
      obtain ⟨i0, hi, hz0, hz1, hz2⟩ := info_parts Try.infoPd
      obtain ⟨nl, hnl⟩ : ∃ nl, nl = Lf.length := ⟨_, rfl⟩
      obtain ⟨nr, hnr⟩ : ∃ nr, nr = Rt.length := ⟨_, rfl⟩
      rw [← hnl] at hll
      rw [← hnr] at hlr
      rw [← hnl, ← hnr]
      have HNl := hide hnl
      have HNr := hide hnr
      clear hnl hnr
      go_wp2
      go_loopw [23, 24] (fun v i W => ∃ q : Nat, i = .int .i64 q ∧ q ≤ nl ∧ OwnP W w9.heap.size v (Lf.take q) ∧ Below w9.heap.size w9 W) (fun _ i _ => nl - (intOf i).toNat)
      case atStart => exact ⟨0, rfl, Nat.zero_le _, ⟨rfl, .inl ⟨rfl, rfl⟩⟩, Below.refl _ _⟩
      case round =>
        obtain ⟨q, rfl, hq, ho, hb⟩ := hrel
        have HO := hide ho
        have HB := hide hb
        have hsz := hb.size
        by_cases hqn : q < nl
        · have hqL : q < Lf.length := by have := HNl.out; omega
          obtain ⟨g, eg, hg1, p1, p2, p3⟩ := HD89.out q hqL
          subst eg
          rw [← hb.cell (p := ⟨g, q * 3, none⟩) hg1] at p1
          rw [← hb.cell (p := ⟨g, q * 3 + 1, none⟩) hg1] at p2
          rw [← hb.cell (p := ⟨g, q * 3 + 2, none⟩) hg1] at p3
          have hgw : g < wr.heap.size := by omega
          have HS := hide (take_snoc hqL)
          obtain ⟨p, hp⟩ : ∃ p, p = Lf[q] := ⟨_, rfl⟩
          rw [← hp] at HS p1 p2 p3
          have hlen : Hid ((Lf.take q).length ≤ 2000) := by show _ ≤ _; rw [List.length_take]; omega
          have hqb : (q : Int) ≤ 2000 := by omega
          clear ho hb hp
          go_wp2_with (at_builtin; refine wpList_append_own_at _ rfl _ _ 72 rfl w9.heap.size 75 i0 (pdV pd0) 3 32 Try.underlying72 hi hz0 hz1 hz2 rfl (by decide) _ _ _ rfl (HO.out.alloc _) ⟨wr.heap.size, 0, none⟩ 1 1 (pdL p) rfl rfl (cell_pd_new _ _ _) (pd_one p) (by have := hlen.out; unfold maxLen; omega) (by have := hlen.out; omega) (by simp; omega) ?_; intro v' w10 hown' hgrow hnil hloc)
          go_roundw
          case rel =>
            refine ⟨q + 1, by go_num, by omega, ?_, ?_⟩
            · rw [HS.out]
              unfold OwnP
              rw [flatP_snoc]
              simpa using hown'
            · exact (bel1 HB.out (by omega) _).grown hgrow (by simp; omega) (fun x hx => (HO.out.lt x hx).1)
          case measure => simp [intOf]; omega
        · obtain rfl : q = nl := by omega
          rw [List.take_of_length_le (by have := HNl.out; omega)] at HO
          clear ho hb
          go_wp2
          go_loopw [23, 25] (fun v i W => ∃ x : Nat, i = .int .i64 x ∧ x ≤ nr ∧ OwnP W w9.heap.size v (Lf ++ Rt.take x) ∧ Below w9.heap.size w9 W) (fun _ i _ => nr - (intOf i).toNat)
          case atStart => exact ⟨0, rfl, Nat.zero_le _, by rw [List.take_zero, List.append_nil]; exact HO.out, HB.out⟩
          case round =>
            obtain ⟨x, rfl, hx, ho, hb⟩ := hrel
            clear HO HB hsz
            have HO := hide ho
            have HB := hide hb
            have hsz := hb.size
            by_cases hxn : x < nr
            · have hxL : x < Rt.length := by have := HNr.out; omega
              obtain ⟨g, eg, hg1, p1, p2, p3⟩ := HD9.out x hxL
              subst eg
              rw [← hb.cell (p := ⟨g, x * 3, none⟩) hg1] at p1
              rw [← hb.cell (p := ⟨g, x * 3 + 1, none⟩) hg1] at p2
              rw [← hb.cell (p := ⟨g, x * 3 + 2, none⟩) hg1] at p3
              have hgw : g < wr.heap.size := by omega
              have HS := hide (take_snoc hxL)
              obtain ⟨p, hp⟩ : ∃ p, p = Rt[x] := ⟨_, rfl⟩
              rw [← hp] at HS p1 p2 p3
              have hlen : Hid ((Lf ++ Rt.take x).length ≤ 4000) := by show _ ≤ _; rw [List.length_append, List.length_take]; have := HNl.out; omega
              have hqb : (x : Int) ≤ 2000 := by omega
              clear ho hb hp
              go_wp2_with (at_builtin; refine wpList_append_own_at _ rfl _ _ 72 rfl w9.heap.size 75 i0 (pdV pd0) 3 32 Try.underlying72 hi hz0 hz1 hz2 rfl (by decide) _ _ _ rfl (HO.out.alloc _) ⟨wr.heap.size, 0, none⟩ 1 1 (pdL p) rfl rfl (cell_pd_new _ _ _) (pd_one p) (by have := hlen.out; unfold maxLen; omega) (by have := hlen.out; omega) (by simp; omega) ?_; intro v' w10 hown' hgrow hnil hloc)
              go_roundw
              case rel =>
                refine ⟨x + 1, by go_num, by omega, ?_, ?_⟩
                · rw [HS.out, ← List.append_assoc]
                  unfold OwnP
                  rw [flatP_snoc]
                  simpa [Nat.add_assoc] using hown'
                · exact (bel1 HB.out (by omega) _).grown hgrow (by simp; omega) (fun z hz => (HO.out.lt z hz).1)
              case measure => simp [intOf]; omega
            · obtain rfl : x = nr := by omega
              rw [List.take_of_length_le (by have := HNr.out; omega), HSp.out] at HO
              clear ho hb
              obtain ⟨ab, cb, rfl, rdb, ltb⟩ := HO.out.rd
              have HSame := hide (same_eq a7 ab A c7 cb wr (HD79.out.below HB.out) rdb (by omega))
              have HRb := hide (HR9.out.below HB.out)
              have HDb := hide (HD79.out.below HB.out)
              clear rdb ltb HO HB hsz HD79 HD89 HD9 HR9
              go_wp2_with fail
              refine HSame.out.mono ?_
              rintro e12 w12 ⟨rfl, b12⟩
              have HR12 := hide (HRb.out.below b12)
              have HD12 := hide (HDb.out.below b12)
              have HNone := hide (range_any (k + 4) (s1 k) true [] begun last w12 HR12.out.sb HR12.out.ts (fun q hq => (by cases hq)) (by simp))
              rw [rangeL_nil] at HNone
              clear b12 HRb HDb HSame
              go_wp2_with fail
              refine HNone.out.mono ?_
              rintro e13 w13 ⟨v13, rfl, o13, b13⟩
              obtain ⟨a13, c13, rfl, rd13, lt13⟩ := o13.rd
              have HR13 := hide (HR12.out.below b13)
              have HD13 := hide (HD12.out.below b13)
              clear o13 b13 rd13 lt13 HR12 HD12 HNone
              obtain ⟨na, hna⟩ : ∃ na, na = A.length := ⟨_, rfl⟩
              rw [← hna] at hla ⊢
              have HNa := hide hna
              clear hna
              rw [List.length_nil]
              go_wp2
              go_loopw [28] (fun i W => ∃ (x : Nat) (Ci : List (Int × Pd)), i = .int .i64 x ∧ x ≤ na ∧ Rs w k Ci W ∧ Fg C A x Ci ∧ RdP W a7 A) (fun i _ => na - (intOf i).toNat)
              case atStart => exact ⟨0, C, rfl, Nat.zero_le _, HR13.out, HFs.out, HD13.out⟩
              case round =>
                obtain ⟨x, Ci, rfl, hx, hrs, hfg, hrd⟩ := hrel
                have HRi := hide hrs
                have HFi := hide hfg
                have HDi := hide hrd
                have hCi : Ci.length ≤ 2000 := by have := hfg.len; omega
                clear HR13 HD13 hrs hfg hrd
                by_cases hxn : x < na
                · have hxA : x < A.length := by have := HNa.out; omega
                  obtain ⟨g, eg, hg1, p1, p2, p3⟩ := HDi.out x hxA
                  have hgk := HT7.out g 0 none eg
                  subst eg
                  have hlf := HFi.out.left x hxA (Nat.le_refl _)
                  have HSt := hide (HFi.out.step hxA HAp.out)
                  obtain ⟨id, hid⟩ : ∃ id, id = (A[x]).1 := ⟨_, rfl⟩
                  rw [← hid] at p1 hlf HSt
                  have hwid : wf64 id := by
                    have hm := lu_mem (d := pd0) hlf
                    exact wf_word (HRi.out.wd _ hm)
                  have HF := hide (forget_yes (k + 4) (s1 k) false Ci id wr HRi.out.sb HRi.out.tc hwid hlf)
                  have hxb : (x : Int) ≤ 2000 := by omega
                  clear p2 p3 hlf hid hwid
                  go_wp2_with fail
                  refine HF.out.mono ?_
                  rintro e14 w14 ⟨rfl, t14, k14⟩
                  have HR14 : Hid (Rs w k (Ci.filter fun p => p.1 != id) w14) := HRi.out.turn hkw t14 k14 (fun q hq => HRi.out.wd q (List.mem_filter.1 hq).1) (fun q hq => HRi.out.rg q (List.mem_filter.1 hq).1)
                  have HD14 : Hid (RdP w14 (some ⟨g, 0, none⟩) A) := HDi.out.kp k14 (fun g' o m e => by cases e; exact hgk)
                  clear t14 k14 p1
                  go_wp2
                  go_roundw
                  case rel => exact ⟨x + 1, _, by go_num, by omega, HR14.out, HSt.out, HD14.out⟩
                  case measure => simp [intOf]; omega
                · obtain rfl : x = na := by omega
                  have hdone := HFd'.out Ci (by have := HNa.out; rw [← this]; exact HFi.out)
                  have hlen := hide HFi.out.len
                  have HRest := hide (range_any (k + 4) (s1 k) false Ci begun last wr HRi.out.sb HRi.out.tc HRi.out.wd (by omega))
                  rw [hdone] at HRest
                  clear hdone
                  go_wp2_with fail
                  refine HRest.out.mono ?_
                  rintro e15 w15 ⟨v15, rfl, o15, b15⟩
                  obtain ⟨a15, c15, rfl, rd15, lt15⟩ := o15.rd
                  have HR15 := hide (HRi.out.below b15)
                  have HSt := hide (state_any (k + 4) (s1 k) [] Ci w15 HR15.out.sb HR15.out.ts HR15.out.tc)
                  unfold Sn.st at HSt
                  rw [List.length_nil]
                  clear o15 b15 rd15 lt15 HRest
                  go_wp2_with fail
                  refine HSt.out.mono ?_
                  rintro e16 w16 ⟨rfl, b16⟩
                  have HB16 : Hid (Below w.heap.size w w16) := belOn HR15.out.be HR15.out.be.size b16
                  have hcc : ((Ci.length : Int) == (C.length : Int) - (x : Int)) = true := by have := hlen.out; simp; omega
                  have hcb : (C.length : Int) ≤ 2000 := by omega
                  clear b16 HSt
                  go_wp2
                  go_ret
                  exact ⟨rfl, bel1 HB16.out HB16.out.size _⟩
end Go.Proofs.Ytondbhdlccpklaa
