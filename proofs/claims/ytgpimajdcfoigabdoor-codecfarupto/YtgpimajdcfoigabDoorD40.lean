import Derived.Test.YtgpimajdcfoigabDoorD38
import Derived.Test.YtgpimajdcfoigabDoorD39

/- codec's reader: array's closure. -/
namespace Go.Proofs.YtgpimajdcfoigabDoor
open Go.RowKit
set_option linter.unusedVariables false
set_option linter.unusedSimpArgs false
/-- the boxes of array: the reader, the depth -/
structure ABx (N R d : Nat) (W : World) : Prop where
  b0 : W.heap[N]? = some (.cells #[.pointer (some ⟨R, 0, none⟩)] 55)
  b1 : W.heap[N + 1]? = some (.cells #[.int .i64 (d : Int)] 3)
  sz : N + 4 ≤ W.heap.size
theorem ABx.keep {N R d : Nat} {W W' : World} (h : ABx N R d W) (hk : ∀ b, N ≤ b → b ≤ N + 1 → W'.heap[b]? = W.heap[b]?) (hs : W.heap.size ≤ W'.heap.size) : ABx N R d W' :=
  ⟨(hk _ (by omega) (by omega)).trans h.b0, (hk _ (by omega) (by omega)).trans h.b1, by have := h.sz; omega⟩
structure AG (w0 : World) (N R d : Nat) (W : World) : Prop where
  gro : Gro R w0 W
  bx : ABx N R d W
structure AF (w0 : World) (N R d : Nat) (W : World) : Prop where
  g : AG w0 N R d W
  bk : W.heap[N + 2]? = some (.cells #[.int .i64 0] 3)
  bl : W.heap[N + 3]? = some (.cells #[.slice none 0 0] 23)
theorem AG.on {w0 : World} {N R d : Nat} {W W' : World} (h : AG w0 N R d W) (hg : Gro R W W') (hR : R < N) : AG w0 N R d W' :=
  ⟨h.gro.trans hg, h.bx.keep (fun b h1 h2 => hg.block b (by have := h.bx.sz; omega) (by simp; omega)) hg.size⟩
theorem AF.on {w0 : World} {N R d : Nat} {W W' : World} (h : AF w0 N R d W) (hg : Gro R W W') (hR : R < N) : AF w0 N R d W' :=
  ⟨h.g.on hg hR, (hg.block (N + 2) (by have := h.g.bx.sz; omega) (by simp; omega)).trans h.bk, (hg.block (N + 3) (by have := h.g.bx.sz; omega) (by simp; omega)).trans h.bl⟩
/-- what array has gathered -/
def AJ (N : Nat) (x : Nat × List T) (W : World) : Prop := ∃ ys lv, Gat (N + 4) (N + 3) ys lv W ∧ V.ts ys = x.2 ∧ W.heap[N + 2]? = some (.cells #[.int .i64 (x.1 : Int)] 3)
/-- what a call of data is asked -/
def DatAt (f d R : Nat) (a : Option Addr) (n cap : Nat) (l : List Nat) (k c : Nat) : Prop := ∀ (q fin : Nat) (sz : Int) W, Src W R a n cap l → RB W R a n cap q fin sz → q ≤ fin → fin ≤ n →
  Calls Tryd.prog 26 #[.pointer (some ⟨R, 0, none⟩), .int .i64 (k : Int), .int .u8 (c : Int), .int .i64 (q : Int), .int .i64 ((d : Int) + 1)] W (Outc (rdat badB twiceW l f k c q q fin sz) R W (GotV R a n cap q fin sz W))
/-- behind i elements -/
structure AL (w0 : World) (N R d e : Nat) (a : Option Addr) (n cap q fin : Nat) (sz : Int) (Rf : Nat → Res (T × Nat)) (count : Nat) (tot : Res ((Nat × List T) × Nat)) (i : Nat) (ys : List V) (lv : Value) (q' : Nat) (wr : World) : Prop where
  eg : AG w0 N R d wr
  kb : wr.heap[N + 2]? = some (.cells #[.int .i64 (e : Int)] 3)
  gat : Gat (N + 4) (N + 3) ys lv wr
  len : ys.length = i
  rb : RB wr R a n cap q' fin sz
  q1 : q + i ≤ q'
  q2 : q' ≤ fin
  tot : tot = bindR (rmany Rf (count - i) q') (fun zs => .ok ((e, V.ts ys ++ zs.1), zs.2))
theorem AL.err {w0 : World} {N R d e : Nat} {a : Option Addr} {n cap q fin : Nat} {sz : Int} {Rf : Nat → Res (T × Nat)} {count : Nat} {tot : Res ((Nat × List T) × Nat)} {i : Nat} {ys : List V} {lv : Value} {q' : Nat} {wr : World} (h : AL w0 N R d e a n cap q fin sz Rf count tot i ys lv q' wr) (hi : i < count) {x : Int × Int} (hx : Rf q' = .error x) : tot = .error x := by
  rw [h.tot, show count - i = (count - (i + 1)) + 1 by omega, rmany_b, hx]
  rfl
theorem AL.fin {w0 : World} {N R d e : Nat} {a : Option Addr} {n cap q fin : Nat} {sz : Int} {Rf : Nat → Res (T × Nat)} {count : Nat} {tot : Res ((Nat × List T) × Nat)} {i : Nat} {ys : List V} {lv : Value} {q' : Nat} {wr : World} (h : AL w0 N R d e a n cap q fin sz Rf count tot i ys lv q' wr) (hi : i = count) : tot = .ok ((e, V.ts ys), q') := by
  rw [h.tot, hi, Nat.sub_self, rmany]
  simp [bindR]
theorem AL.push {w0 : World} {N R d e : Nat} {a : Option Addr} {n cap q fin : Nat} {sz : Int} {Rf : Nat → Res (T × Nat)} {count : Nat} {tot : Res ((Nat × List T) × Nat)} {i : Nat} {ys : List V} {la : Option Addr} {lc q' : Nat} {wr : World} {y : V} {t : T} {q2 zb g c : Nat} {W4 w5 wf : World} (h : AL w0 N R d e a n cap q fin sz Rf count tot i ys (.slice la i lc) q' wr) (hi : i < count) (hP : App4 (N + 4) R wr i la lc ys y (t, q2) q' fin sz a n cap zb W4) (hQ : App5 (N + 4) ys i la lc g c W4 w5) (hf : Fin2 w5 wf g (N + 3) i y (.slice (some ⟨g, 0, none⟩) (i + 1) c)) (hx : Rf q' = .ok (t, q2)) (hlt : q' < q2) (hR : R < N) (hN : w0.heap.size = N) :
    AL w0 N R d e a n cap q fin sz Rf count tot (i + 1) (ys ++ [y]) (.slice (some ⟨g, 0, none⟩) (i + 1) c) q2 wf := by
  have hlen := h.len
  have hyt := hP.yt
  simp only at hyt
  subst hyt
  have hq1 := h.q1
  have hp2 := hP.q2
  have hsz := h.eg.bx.sz
  obtain ⟨p1, p2, p3, p4⟩ := Gat.push (R := R) h.gat (by omega) (by omega) (by omega) hsz hP.gro hP.lies (zs := zeroW) rfl (by rw [hlen]) (by rw [hlen]; exact hQ.own) hQ.grow hQ.at_ (by rw [hlen]; exact hf)
  have hb : ∀ b, b < N + 3 → b ≠ R → wf.heap[b]? = wr.heap[b]? := fun b h1 h2 => (p3 b (by omega) (by omega)).trans (hP.gro.block b (by omega) (by simpa using h2))
  refine ⟨⟨p2 w0 h.eg.gro (by omega) (by omega), h.eg.bx.keep (fun b h1 h2 => hb b (by omega) (by omega)) p4⟩, (hb _ (by omega) (by omega)).trans h.kb, p1, by simp [hlen], (p3 R (by omega) (by omega)).trans hP.rb, by omega, hp2, ?_⟩
  rw [h.tot, show count - i = (count - (i + 1)) + 1 by omega, rmany_b, hx]
  unfold bindR
  simp only
  cases rmany Rf (count - (i + 1)) q2 with
  | error x => rfl
  | ok zs => simp [V.ts_map]
set_option maxRecDepth 100000 in
set_option maxHeartbeats 8000000 in
theorem arr1_any (w0 : World) (N R d f : Nat) (a : Option Addr) (n cap : Nat) (l : List Nat) (hN : w0.heap.size = N) (hs0 : Src w0 R a n cap l) (hR : R < N) (hdf : d + (f + 1) = 33) (HV0 : Hid (f ≠ 0 → ∀ c k, c < 256 → kindC c = some k → DatAt f d R a n cap l k c))
    (count q fin : Nat) (sz : Int) (w : World) (hF : AF w0 N R d w) (hr : RB w R a n cap q fin sz) (hq : q ≤ fin) (hfin : fin ≤ n) (hcn : count < 4294967296) (hfq : fin ≤ q + 4294967296) :
    Calls Tryd.prog 59 #[.int .i64 (count : Int), .pointer (some ⟨N, 0, none⟩), .pointer (some ⟨N + 2, 0, none⟩), .pointer (some ⟨N + 1, 0, none⟩), .pointer (some ⟨N + 3, 0, none⟩)] w
      (OutJ (rarrI l (rdat badB twiceW l f) f count q fin sz) R a n cap fin sz (AG w0 N R d) (AJ N)) := by
  have hb := hF.g.bx
  have c0 : w.cell? ⟨N, 0, none⟩ = some (.pointer (some ⟨R, 0, none⟩)) := by simp [World.cell?, hb.b0]
  have hsz := hb.sz
  have hn := hs0.small
  have hby := hs0.rd.2.1
  have hd : d ≤ 32 := by omega
  have HSR : Hid (∀ W', Gro R w W' → Src W' R a n cap l) := fun W' hg => (hs0.gro hF.g.gro).gro hg
  have HNU : Hid (Calls Tryd.prog 24 #[.pointer (some ⟨R, 0, none⟩), .int .i64 1] w (Outc (rnum l q fin sz 1) R w (fun m e w' => e = .returned (.int .u64 (m : Int)) ∧ RB w' R a n cap (q + 1) fin sz ∧ q + 1 ≤ fin))) := number_any R a n cap q fin 1 sz l w (HSR.out w (Gro.refl R w)) hr hq hfin (by omega) (by omega)
  have HFF := hide hF
  have HS0 := hide hs0
  clear hb hF hr hs0
  unfold rarrI
  unfold bindR
  cases hrn : rnum l q fin sz 1 with
  | error x =>
    rw [hrn] at HNU
    clear hrn
    go_enter Tryd.func59, Tryd.ntmps59
    go_wp2_with fail
    refine Calls.mono HNU.out ?_
    rintro e1 w1 ⟨rfl, hg⟩
    exact ⟨rfl, rfl, HFF.out.g.on hg hR⟩
  | ok c =>
    have hc : c < 256 := by
      have h1 := rnum_lt l hby hrn
      simpa using h1
    rw [hrn] at HNU
    have HNU2 : Hid (Calls Tryd.prog 24 #[.pointer (some ⟨R, 0, none⟩), .int .i64 1] w (fun e w' => (e = .returned (.int .u64 (c : Int)) ∧ RB w' R a n cap (q + 1) fin sz ∧ q + 1 ≤ fin) ∧ Gro R w w')) := HNU.out
    have HST : Hid (∀ W1, Gro R w W1 → Calls Tryd.prog 60 #[.int .u8 (c : Int)] W1 fun e w' => e = .returned (.bool (standsC c)) ∧ Below W1.heap.size W1 w') := fun W1 hg => stands_any c hc W1 (HSR.out W1 hg).tab
    clear HNU hrn
    simp only
    cases hst : standsC c with
    | false =>
      rw [hst] at HST
      rw [if_neg (by simp)]
      go_enter Tryd.func59, Tryd.ntmps59
      go_wp2_with fail
      refine Calls.mono HNU2.out ?_
      rintro e1 w1 ⟨⟨rfl, hr1, hq1⟩, hg1⟩
      have HG1 := hide hg1
      have HR1 := hide hr1
      clear hg1 hr1
      go_wp2_with fail
      refine Calls.mono (HST.out _ HG1.out) ?_
      rintro e2 w2 ⟨rfl, hb2⟩
      have HG2 : Hid (Gro R w w2) := HG1.out.trans (Gro.of_below hb2)
      obtain ⟨d0, d1, d2, d3, _, _, _, hlt2⟩ := (HR1.out.keep hb2).cells
      have dn : w2.cell? ⟨N, 0, none⟩ = some (.pointer (some ⟨R, 0, none⟩)) := (World.cell?_of_block (HG2.out.block N (by omega) (by simp; omega))).trans c0
      have hNl : N < w2.heap.size := by have := HG2.out.size; omega
      clear hb2
      go_wp2
      try (have hqq : (q : Int) + 1 - 1 = (q : Int) := by omega)
      try rw [hqq]
      first
        | exact ⟨rfl, rfl, rfl, HFF.out.g.on HG2.out hR⟩
        | exact ⟨rfl, rfl, by simp [Flt], HFF.out.g.on HG2.out hR⟩
    | true =>
      rw [hst] at HST
      rw [if_pos rfl]
      have hst' := hst
      unfold standsC at hst'
      simp at hst'
      obtain ⟨e, he⟩ := Option.isSome_iff_exists.1 hst'.1
      have H4 : Hid (c / 16 ≠ 4) := by show c / 16 ≠ 4; omega
      have HKI : Hid (∀ W1, Gro R w W1 → Calls Tryd.prog 25 #[.int .u8 (c : Int)] W1 fun e' w' => e' = .returned (.tuple #[.int .i64 (e : Int), .bool true]) ∧ Below W1.heap.size W1 w') := fun W1 hW => by
        have := kindOf_any c hc W1 (HSR.out W1 hW).tab
        simp only [kindR, he] at this
        exact this
      have HV : Hid (f ≠ 0 → DatAt f d R a n cap l e c) := fun h0 => HV0.out h0 c e hc he
      have he24 : e ≤ 24 := by
        rcases kind_cases he with h | h | h | h | h | h <;> omega
      rw [he]
      simp only [Option.getD_some]
      clear hst hst' he HV0
      generalize hRf : (fun r : Nat => (if f = 0 then .error ((r : Int), 26) else rdat badB twiceW l f e c r r fin sz : Res (T × Nat))) = Rf
      show Calls _ _ _ _ (OutJ (bindR (rmany Rf count (q + 1)) (fun xq => .ok ((e, xq.1), xq.2))) R a n cap fin sz (AG w0 N R d) (AJ N))
      generalize htt : bindR (rmany Rf count (q + 1)) (fun xq => (.ok ((e, xq.1), xq.2) : Res ((Nat × List T) × Nat))) = tot
      have HTT : Hid (tot = bindR (rmany Rf (count - 0) (q + 1)) (fun zs => .ok ((e, V.ts [] ++ zs.1), zs.2))) := by
        show tot = _
        rw [← htt, Nat.sub_zero]
        unfold bindR
        cases rmany Rf count (q + 1) <;> simp [V.ts]
      have HRF0 : Hid (∀ r : Nat, Rf r = (if f = 0 then .error ((r : Int), 26) else rdat badB twiceW l f e c r r fin sz : Res (T × Nat))) := fun r => by rw [← hRf]
      clear htt hRf
      obtain ⟨i0, hi0, hzz⟩ := Option.map_eq_some_iff.1 Tryd.infoV
      simp only [Prod.mk.injEq] at hzz
      obtain ⟨hz0, hz1, hz2⟩ := hzz
      have HI0 := hide hi0
      have HZ0 := hide hz0
      have HZ1 := hide hz1
      have HZ2 := hide hz2
      have HFIN := hide (And.intro hfq hfin)
      clear hi0 hz0 hz1 hz2 hfq hfin hby
      go_enter Tryd.func59, Tryd.ntmps59
      go_wp2_with fail
      refine Calls.mono HNU2.out ?_
      rintro e1 w1 ⟨⟨rfl, hr1, hq1⟩, hg1⟩
      have HG1 := hide hg1
      have HR1 := hide hr1
      clear hg1 hr1
      go_wp2_with fail
      refine Calls.mono (HST.out _ HG1.out) ?_
      rintro e2 w2 ⟨rfl, hb2⟩
      have HG2 : Hid (Gro R w w2) := HG1.out.trans (Gro.of_below hb2)
      have HR2 : Hid (RB w2 R a n cap (q + 1) fin sz) := HR1.out.keep hb2
      clear hb2
      go_wp2_with fail
      refine Calls.mono (HKI.out _ HG2.out) ?_
      rintro e3 w3 ⟨rfl, hb3⟩
      have HG3 : Hid (Gro R w w3) := HG2.out.trans (Gro.of_below hb3)
      have HR3 : Hid (RB w3 R a n cap (q + 1) fin sz) := HR2.out.keep hb3
      have HF3 : Hid (AF w0 N R d w3) := HFF.out.on HG3.out hR
      have dk : w3.cell? ⟨N + 2, 0, none⟩ = some (.int .i64 0) := by simp [World.cell?, HF3.out.bk]
      have zk : w3.frozen? ⟨N + 2, 0, none⟩ = false := by simp [World.frozen?, HF3.out.bk]
      have hNl : N + 2 < w3.heap.size := (Array.getElem?_eq_some_iff.1 HF3.out.bk).1
      have HL0 : Hid (AL w0 N R d e a n cap (q + 1) fin sz Rf count tot 0 [] (.slice none 0 0) (q + 1) (w3.setCell ⟨N + 2, 0, none⟩ (.int .i64 (e : Int)))) := by
        have hfar : ∀ b, b ≠ N + 2 → (w3.setCell ⟨N + 2, 0, none⟩ (.int .i64 (e : Int))).heap[b]? = w3.heap[b]? := fun b h => heap_far0 h
        have hg3 := HF3.out.g.gro
        have hk3 := HF3.out.bk
        refine ⟨⟨⟨(sc3 _ _ _).1.trans hg3.os, (sc3 _ _ _).2.1.trans hg3.tape, (sc3 _ _ _).2.2.trans hg3.output, by simpa using hg3.size, fun b hb hne => (hfar b (by omega)).trans (hg3.block b hb hne)⟩, HF3.out.g.bx.keep (fun b h1 h2 => hfar b (by omega)) (by simp)⟩, by simp [World.setCell, Array.getElem?_modify, hk3], ⟨(hfar _ (by omega)).trans HF3.out.bl, ⟨rfl, .inl ⟨rfl, rfl⟩⟩, by simp⟩, rfl, (hfar R (by omega)).trans HR3.out, Nat.le_refl _, hq1, HTT.out⟩
      clear hb3 HG1 HG2 HR1 HR2 HR3 HNU2 HST HKI HFF
      go_wp2_with fail
      generalize w3.setCell ⟨N + 2, 0, none⟩ (.int .i64 (e : Int)) = wl at HL0 ⊢
      clear dk zk hNl HF3 HG3
      go_wp2
      go_loopw [25] (fun u wr => ∃ i : Nat, u = .int .i64 (i : Int) ∧ i ≤ count ∧ Hid (∃ ys lv q', AL w0 N R d e a n cap (q + 1) fin sz Rf count tot i ys lv q' wr)) (fun u _ => count - (intOf u).toNat)
      case atStart => exact ⟨0, rfl, Nat.zero_le _, _, _, _, HL0.out⟩
      case round =>
        obtain ⟨i, rfl, hi, HX⟩ := hrel
        obtain ⟨ys, lv, q', hL⟩ := HX.out
        have HL := hide hL
        clear hL HX HL0
        by_cases hic : i < count
        · by_cases hf0 : f = 0
          · have hd32 : d = 32 := by omega
            subst hd32
            have hbx := HL.out.eg.bx
            have hsw := hbx.sz
            have dc : wr.cell? ⟨N + 1, 0, none⟩ = some (.int .i64 32) := by simp [World.cell?, hbx.b1]
            have dr : wr.cell? ⟨N, 0, none⟩ = some (.pointer (some ⟨R, 0, none⟩)) := by simp [World.cell?, hbx.b0]
            obtain ⟨d0, d1, d2, d3, _, _, _, hlt2⟩ := HL.out.rb.cells
            have HTE : Hid (tot = .error ((q' : Int), 26)) := HL.out.err hic (by rw [HRF0.out, if_pos hf0])
            clear hbx
            go_wp2
            exact ⟨rfl, rfl, HTE.out ▸ ⟨rfl, HL.out.eg⟩⟩
          · have HRF : Hid (∀ r, Rf r = rdat badB twiceW l f e c r r fin sz) := fun r => by rw [HRF0.out, if_neg hf0]
            have HV := hide (HV.out hf0)
            have hd32 : (d : Int) + 1 ≤ 32 := by omega
            clear HRF0 hf0 hdf
            obtain ⟨la, lc, hlv, hnil, hllc⟩ := HL.out.gat.slice
            rw [HL.out.len] at hlv
            subst hlv
            have hbx := HL.out.eg.bx
            have hsw := hbx.sz
            have HKP : Hid (∀ L W', (∀ b, N ≤ b → b ≤ N + 3 → W'.heap[b]? = wr.heap[b]?) → (L.getD 10 true = false → W'.cell? ⟨R, 1, none⟩ = some (.int .i64 (q' : Int))) → Kept (fun W' => W'.cell? ⟨N, 0, none⟩ = some (.pointer (some ⟨R, 0, none⟩)) ∧ W'.cell? ⟨N + 2, 0, none⟩ = some (.int .i64 (e : Int)) ∧ W'.cell? ⟨N + 1, 0, none⟩ = some (.int .i64 (d : Int))) (fun z W' => (z = 16 → W'.cell? ⟨N + 3, 0, none⟩ = some (.slice la i lc)) ∧ (z = 10 → W'.cell? ⟨R, 1, none⟩ = some (.int .i64 (q' : Int)))) L W') := fun L W' hk hat => by
              have e0 := (hk N (by omega) (by omega)).trans hbx.b0
              have e1 := (hk (N + 1) (by omega) (by omega)).trans hbx.b1
              have e2 := (hk (N + 2) (by omega) (by omega)).trans HL.out.kb
              have e4 := (hk (N + 3) (by omega) (by omega)).trans HL.out.gat.box
              exact ⟨⟨by simp [World.cell?, e0], by simp [World.cell?, e2], by simp [World.cell?, e1]⟩, fun z hz => ⟨fun _ => by simp [World.cell?, e4], fun h => hat (h ▸ hz)⟩⟩
            have HK0 : Hid (∀ L, Kept (fun W' => W'.cell? ⟨N, 0, none⟩ = some (.pointer (some ⟨R, 0, none⟩)) ∧ W'.cell? ⟨N + 2, 0, none⟩ = some (.int .i64 (e : Int)) ∧ W'.cell? ⟨N + 1, 0, none⟩ = some (.int .i64 (d : Int))) (fun z W' => (z = 16 → W'.cell? ⟨N + 3, 0, none⟩ = some (.slice la i lc)) ∧ (z = 10 → W'.cell? ⟨R, 1, none⟩ = some (.int .i64 (q' : Int)))) L wr.drew) := fun L => HKP.out L _ (fun _ _ _ => rfl) (fun _ => HL.out.rb.cells.2.1)
            have HSRC : Hid (∀ W', Gro R wr W' → Src W' R a n cap l) := fun W' hg => (HS0.out.gro HL.out.eg.gro).gro hg
            have HGB : Hid (∀ W', Gro R wr W' → ∀ b, N ≤ b → b ≤ N + 3 → W'.heap[b]? = wr.heap[b]?) := fun W' hg b h1 h2 => hg.block b (by omega) (by simp; omega)
            have HVV : Hid (∀ W', Gro R wr W' → RB W' R a n cap q' fin sz → Calls Tryd.prog 26 #[.pointer (some ⟨R, 0, none⟩), .int .i64 (e : Int), .int .u8 (c : Int), .int .i64 (q' : Int), .int .i64 ((d : Int) + 1)] W' (Outc (rdat badB twiceW l f e c q' q' fin sz) R W' (GotV R a n cap q' fin sz W'))) := fun W' hg hr => HV.out q' fin sz W' (HSRC.out W' hg) hr HL.out.q2 HFIN.out.2
            have hdw : IntKind.i64.wrap ((d : Int) + 1) = (d : Int) + 1 := by rw [IntKind.wrap_i64]; omega
            have dc : wr.cell? ⟨N + 1, 0, none⟩ = some (.int .i64 (d : Int)) := by simp [World.cell?, hbx.b1]
            have hRl := HL.out.rb.cells.2.2.2.2.2.2.2
            clear hbx hnil hllc
            go_wp2_with fail
            cases hrv : rdat badB twiceW l f e c q' q' fin sz with
            | error x =>
              have HVE : Hid (∀ W', Gro R wr W' → RB W' R a n cap q' fin sz → Calls Tryd.prog 26 #[.pointer (some ⟨R, 0, none⟩), .int .i64 (e : Int), .int .u8 (c : Int), .int .i64 (q' : Int), .int .i64 ((d : Int) + 1)] W' (fun e w' => e = Flt x ∧ Gro R W' w')) := fun W' h1 h2 => by
                have := HVV.out W' h1 h2
                rw [hrv] at this
                exact this
              have HTE : Hid (tot = .error x) := HL.out.err hic ((HRF.out q').trans hrv)
              clear HVV hrv
              refine wp_region_Z (S := (fun W' => W'.cell? ⟨N, 0, none⟩ = some (.pointer (some ⟨R, 0, none⟩)) ∧ W'.cell? ⟨N + 2, 0, none⟩ = some (.int .i64 (e : Int)) ∧ W'.cell? ⟨N + 1, 0, none⟩ = some (.int .i64 (d : Int)))) (C := (fun z W' => (z = 16 → W'.cell? ⟨N + 3, 0, none⟩ = some (.slice la i lc)) ∧ (z = 10 → W'.cell? ⟨R, 1, none⟩ = some (.int .i64 (q' : Int))))) (by kernel_rfl) (HK0.out _) (fun hHeld => ?_)
              clear hHeld
              refine Z_take (i := 0) (d := 35) (v := ?_) (Zs := [16]) rfl rfl (by kernel_rfl) (by kernel_rfl) (by kernel_rfl) (fun _ _ _ h => h) (fun _ => ⟨fun h => absurd h (by decide), fun h => absurd h (by decide)⟩) (by kernel_rfl) rfl ?_ (HK0.out _) ?_
              rotate_left
              · intro w hSw hC
                have hC10 := (hC 16 (by simp)).1 rfl; try dsimp only at hSw
                go_simp
                try with_reducible rfl
              try simp only [List.setIfInBounds_toArray, List.set_cons_zero, List.set_cons_succ]
              refine Z_take (i := 1) (d := 36) (v := ?_) (Zs := []) rfl rfl (by kernel_rfl) (by kernel_rfl) (by kernel_rfl) (fun _ _ _ h => h) (fun _ => ⟨fun h => absurd h (by decide), fun h => absurd h (by decide)⟩) (by kernel_rfl) rfl ?_ (HK0.out _) ?_
              rotate_left
              · intro w hSw hC
                try dsimp only at hSw
                go_simp
                try with_reducible rfl
              try simp only [List.setIfInBounds_toArray, List.set_cons_zero, List.set_cons_succ]
              refine Z_take (i := 2) (d := 37) (v := ?_) (Zs := []) rfl rfl (by kernel_rfl) (by kernel_rfl) (by kernel_rfl) (fun _ _ _ h => h) (fun _ => ⟨fun h => absurd h (by decide), fun h => absurd h (by decide)⟩) (by kernel_rfl) rfl ?_ (HK0.out _) ?_
              rotate_left
              · intro w hSw hC
                try dsimp only at hSw
                go_simp
                try with_reducible rfl
              try simp only [List.setIfInBounds_toArray, List.set_cons_zero, List.set_cons_succ]
              refine Z_take (i := 3) (d := 38) (v := ?_) (Zs := []) rfl rfl (by kernel_rfl) (by kernel_rfl) (by kernel_rfl) (fun _ _ _ h => h) (fun _ => ⟨fun h => absurd h (by decide), fun h => absurd h (by decide)⟩) (by kernel_rfl) rfl ?_ (HK0.out _) ?_
              rotate_left
              · intro w hSw hC
                try dsimp only at hSw
                go_simp
                try with_reducible rfl
              try simp only [List.setIfInBounds_toArray, List.set_cons_zero, List.set_cons_succ]
              refine Z_take (i := 4) (d := 39) (v := ?_) (Zs := []) rfl rfl (by kernel_rfl) (by kernel_rfl) (by kernel_rfl) (fun _ _ _ h => h) (fun _ => ⟨fun h => absurd h (by decide), fun h => absurd h (by decide)⟩) (by kernel_rfl) rfl ?_ (HK0.out _) ?_
              rotate_left
              · intro w hSw hC
                try dsimp only at hSw
                go_simp
                try with_reducible rfl
              try simp only [List.setIfInBounds_toArray, List.set_cons_zero, List.set_cons_succ]
              refine Z_take (i := 5) (d := 40) (v := ?_) (Zs := []) rfl rfl (by kernel_rfl) (by kernel_rfl) (by kernel_rfl) (fun _ _ _ h => h) (fun _ => ⟨fun h => absurd h (by decide), fun h => absurd h (by decide)⟩) (by kernel_rfl) rfl ?_ (HK0.out _) ?_
              rotate_left
              · intro w hSw hC
                try dsimp only at hSw
                go_simp
                try with_reducible rfl
              try simp only [List.setIfInBounds_toArray, List.set_cons_zero, List.set_cons_succ]
              refine Z_take (i := 6) (d := 41) (v := ?_) (Zs := []) rfl rfl (by kernel_rfl) (by kernel_rfl) (by kernel_rfl) (fun _ _ _ h => h) (fun _ => ⟨fun h => absurd h (by decide), fun h => absurd h (by decide)⟩) (by kernel_rfl) rfl ?_ (HK0.out _) ?_
              rotate_left
              · intro w hSw hC
                try dsimp only at hSw
                go_simp
                try with_reducible rfl
              try simp only [List.setIfInBounds_toArray, List.set_cons_zero, List.set_cons_succ]
              refine Z_take (i := 7) (d := 42) (v := ?_) (Zs := [10]) rfl rfl (by kernel_rfl) (by kernel_rfl) (by kernel_rfl) (fun _ _ _ h => h) (fun _ => ⟨fun h => absurd h (by decide), fun h => absurd h (by decide)⟩) (by kernel_rfl) rfl ?_ (HK0.out _) ?_
              rotate_left
              · intro w hSw hC
                have hC10 := (hC 10 (by simp)).2 rfl; try dsimp only at hSw
                go_simp
                try with_reducible rfl
              try simp only [List.setIfInBounds_toArray, List.set_cons_zero, List.set_cons_succ]
              refine Z_take (i := 8) (d := 43) (v := ?_) (Zs := []) rfl rfl (by kernel_rfl) (by kernel_rfl) (by kernel_rfl) (fun _ _ _ h => h) (fun _ => ⟨fun h => absurd h (by decide), fun h => absurd h (by decide)⟩) (by kernel_rfl) rfl ?_ (HK0.out _) ?_
              rotate_left
              · intro w hSw hC
                try dsimp only at hSw
                go_simp
                try with_reducible rfl
              try simp only [List.setIfInBounds_toArray, List.set_cons_zero, List.set_cons_succ]
              refine Z_take (i := 9) (d := 44) (v := ?_) (Zs := []) rfl rfl (by kernel_rfl) (by kernel_rfl) (by kernel_rfl) (fun _ _ _ h => h) (fun _ => ⟨fun h => absurd h (by decide), fun h => absurd h (by decide)⟩) (by kernel_rfl) rfl ?_ (HK0.out _) ?_
              rotate_left
              · intro w hSw hC
                try dsimp only at hSw
                go_simp
                try with_reducible rfl
              try simp only [List.setIfInBounds_toArray, List.set_cons_zero, List.set_cons_succ]
              refine Z_take (i := 11) (d := 46) (v := ?_) (Zs := []) rfl rfl (by kernel_rfl) (by kernel_rfl) (by kernel_rfl) (fun _ _ _ h => h) (fun _ => ⟨fun h => absurd h (by decide), fun h => absurd h (by decide)⟩) (by kernel_rfl) rfl ?_ (HK0.out _) ?_
              rotate_left
              · intro w hSw hC
                try dsimp only at hSw
                go_simp
                try with_reducible rfl
              try simp only [List.setIfInBounds_toArray, List.set_cons_zero, List.set_cons_succ]
              refine wpAnyZ_ready (rs := [10, 12]) (by kernel_rfl) (by simp) ?_
              refine AllReadyZ.cons rfl (fun K hK => ?_) (AllReadyZ.cons rfl (fun K hK => ?_) AllReadyZ.nil)
              · go_simp
                try rw [hdw]
                refine Calls.mono (HVE.out _ (Gro.refl R wr).drew HL.out.rb) ?_
                rintro e1 w1 ⟨rfl, hg1⟩
                exact ⟨rfl, HTE.out ▸ ⟨rfl, HL.out.eg.on (((Gro.refl R wr).drew).trans hg1) hR⟩⟩
              · go_simp
                refine hK.out _ _ (HKP.out _ _ (HGB.out _ ((Gro.refl R wr).drew.alloc _)) (fun _ => (HL.out.rb.drew.alloc _).cells.2.1)) (fun _ => ?_)
                clear hK K
                refine wpAnyZ_ready (rs := [10]) (by kernel_rfl) (by simp) ?_
                refine AllReadyZ.cons rfl (fun K hK => ?_) AllReadyZ.nil
                go_simp
                try rw [hdw]
                refine Calls.mono (HVE.out _ ((Gro.refl R wr).drew.alloc _) (HL.out.rb.drew.alloc _)) ?_
                rintro e1 w1 ⟨rfl, hg1⟩
                exact ⟨rfl, HTE.out ▸ ⟨rfl, HL.out.eg.on (((Gro.refl R wr).drew.alloc _).trans hg1) hR⟩⟩

            | ok tq =>
              obtain ⟨t, q2⟩ := tq
              have HVO : Hid (∀ W', Gro R wr W' → RB W' R a n cap q' fin sz → Calls Tryd.prog 26 #[.pointer (some ⟨R, 0, none⟩), .int .i64 (e : Int), .int .u8 (c : Int), .int .i64 (q' : Int), .int .i64 ((d : Int) + 1)] W' (fun e w' => GotV R a n cap q' fin sz W' (t, q2) e w' ∧ Gro R W' w')) := fun W' h1 h2 => by
                have := HVV.out W' h1 h2
                rw [hrv] at this
                exact this
              have HRV := hide ((HRF.out q').trans hrv)
              have HLT : Hid (q' < q2) := (rdat_far badB twiceW l f _ _ _ _ _ _ _ _ HL.out.q2 hrv).2.2 H4.out
              clear HVV hrv
              refine wp_region_Z (S := (fun W' => W'.cell? ⟨N, 0, none⟩ = some (.pointer (some ⟨R, 0, none⟩)) ∧ W'.cell? ⟨N + 2, 0, none⟩ = some (.int .i64 (e : Int)) ∧ W'.cell? ⟨N + 1, 0, none⟩ = some (.int .i64 (d : Int)))) (C := (fun z W' => (z = 16 → W'.cell? ⟨N + 3, 0, none⟩ = some (.slice la i lc)) ∧ (z = 10 → W'.cell? ⟨R, 1, none⟩ = some (.int .i64 (q' : Int))))) (by kernel_rfl) (HK0.out _) (fun hHeld => ?_)
              clear hHeld
              refine Z_take (i := 0) (d := 35) (v := ?_) (Zs := [16]) rfl rfl (by kernel_rfl) (by kernel_rfl) (by kernel_rfl) (fun _ _ _ h => h) (fun _ => ⟨fun h => absurd h (by decide), fun h => absurd h (by decide)⟩) (by kernel_rfl) rfl ?_ (HK0.out _) ?_
              rotate_left
              · intro w hSw hC
                have hC10 := (hC 16 (by simp)).1 rfl; try dsimp only at hSw
                go_simp
                try with_reducible rfl
              try simp only [List.setIfInBounds_toArray, List.set_cons_zero, List.set_cons_succ]
              refine Z_take (i := 1) (d := 36) (v := ?_) (Zs := []) rfl rfl (by kernel_rfl) (by kernel_rfl) (by kernel_rfl) (fun _ _ _ h => h) (fun _ => ⟨fun h => absurd h (by decide), fun h => absurd h (by decide)⟩) (by kernel_rfl) rfl ?_ (HK0.out _) ?_
              rotate_left
              · intro w hSw hC
                try dsimp only at hSw
                go_simp
                try with_reducible rfl
              try simp only [List.setIfInBounds_toArray, List.set_cons_zero, List.set_cons_succ]
              refine Z_take (i := 2) (d := 37) (v := ?_) (Zs := []) rfl rfl (by kernel_rfl) (by kernel_rfl) (by kernel_rfl) (fun _ _ _ h => h) (fun _ => ⟨fun h => absurd h (by decide), fun h => absurd h (by decide)⟩) (by kernel_rfl) rfl ?_ (HK0.out _) ?_
              rotate_left
              · intro w hSw hC
                try dsimp only at hSw
                go_simp
                try with_reducible rfl
              try simp only [List.setIfInBounds_toArray, List.set_cons_zero, List.set_cons_succ]
              refine Z_take (i := 3) (d := 38) (v := ?_) (Zs := []) rfl rfl (by kernel_rfl) (by kernel_rfl) (by kernel_rfl) (fun _ _ _ h => h) (fun _ => ⟨fun h => absurd h (by decide), fun h => absurd h (by decide)⟩) (by kernel_rfl) rfl ?_ (HK0.out _) ?_
              rotate_left
              · intro w hSw hC
                try dsimp only at hSw
                go_simp
                try with_reducible rfl
              try simp only [List.setIfInBounds_toArray, List.set_cons_zero, List.set_cons_succ]
              refine Z_take (i := 4) (d := 39) (v := ?_) (Zs := []) rfl rfl (by kernel_rfl) (by kernel_rfl) (by kernel_rfl) (fun _ _ _ h => h) (fun _ => ⟨fun h => absurd h (by decide), fun h => absurd h (by decide)⟩) (by kernel_rfl) rfl ?_ (HK0.out _) ?_
              rotate_left
              · intro w hSw hC
                try dsimp only at hSw
                go_simp
                try with_reducible rfl
              try simp only [List.setIfInBounds_toArray, List.set_cons_zero, List.set_cons_succ]
              refine Z_take (i := 5) (d := 40) (v := ?_) (Zs := []) rfl rfl (by kernel_rfl) (by kernel_rfl) (by kernel_rfl) (fun _ _ _ h => h) (fun _ => ⟨fun h => absurd h (by decide), fun h => absurd h (by decide)⟩) (by kernel_rfl) rfl ?_ (HK0.out _) ?_
              rotate_left
              · intro w hSw hC
                try dsimp only at hSw
                go_simp
                try with_reducible rfl
              try simp only [List.setIfInBounds_toArray, List.set_cons_zero, List.set_cons_succ]
              refine Z_take (i := 6) (d := 41) (v := ?_) (Zs := []) rfl rfl (by kernel_rfl) (by kernel_rfl) (by kernel_rfl) (fun _ _ _ h => h) (fun _ => ⟨fun h => absurd h (by decide), fun h => absurd h (by decide)⟩) (by kernel_rfl) rfl ?_ (HK0.out _) ?_
              rotate_left
              · intro w hSw hC
                try dsimp only at hSw
                go_simp
                try with_reducible rfl
              try simp only [List.setIfInBounds_toArray, List.set_cons_zero, List.set_cons_succ]
              refine Z_take (i := 7) (d := 42) (v := ?_) (Zs := [10]) rfl rfl (by kernel_rfl) (by kernel_rfl) (by kernel_rfl) (fun _ _ _ h => h) (fun _ => ⟨fun h => absurd h (by decide), fun h => absurd h (by decide)⟩) (by kernel_rfl) rfl ?_ (HK0.out _) ?_
              rotate_left
              · intro w hSw hC
                have hC10 := (hC 10 (by simp)).2 rfl; try dsimp only at hSw
                go_simp
                try with_reducible rfl
              try simp only [List.setIfInBounds_toArray, List.set_cons_zero, List.set_cons_succ]
              refine Z_take (i := 8) (d := 43) (v := ?_) (Zs := []) rfl rfl (by kernel_rfl) (by kernel_rfl) (by kernel_rfl) (fun _ _ _ h => h) (fun _ => ⟨fun h => absurd h (by decide), fun h => absurd h (by decide)⟩) (by kernel_rfl) rfl ?_ (HK0.out _) ?_
              rotate_left
              · intro w hSw hC
                try dsimp only at hSw
                go_simp
                try with_reducible rfl
              try simp only [List.setIfInBounds_toArray, List.set_cons_zero, List.set_cons_succ]
              refine Z_take (i := 9) (d := 44) (v := ?_) (Zs := []) rfl rfl (by kernel_rfl) (by kernel_rfl) (by kernel_rfl) (fun _ _ _ h => h) (fun _ => ⟨fun h => absurd h (by decide), fun h => absurd h (by decide)⟩) (by kernel_rfl) rfl ?_ (HK0.out _) ?_
              rotate_left
              · intro w hSw hC
                try dsimp only at hSw
                go_simp
                try with_reducible rfl
              try simp only [List.setIfInBounds_toArray, List.set_cons_zero, List.set_cons_succ]
              refine Z_take (i := 11) (d := 46) (v := ?_) (Zs := []) rfl rfl (by kernel_rfl) (by kernel_rfl) (by kernel_rfl) (fun _ _ _ h => h) (fun _ => ⟨fun h => absurd h (by decide), fun h => absurd h (by decide)⟩) (by kernel_rfl) rfl ?_ (HK0.out _) ?_
              rotate_left
              · intro w hSw hC
                try dsimp only at hSw
                go_simp
                try with_reducible rfl
              try simp only [List.setIfInBounds_toArray, List.set_cons_zero, List.set_cons_succ]
              refine wpAnyZ_ready (rs := [10, 12]) (by kernel_rfl) (by simp) ?_
              refine AllReadyZ.cons rfl (fun K hK => ?_) (AllReadyZ.cons rfl (fun K hK => ?_) AllReadyZ.nil)
              · go_simp
                try rw [hdw]
                refine Calls.mono (HVO.out _ (Gro.refl R wr).drew HL.out.rb) ?_
                rintro e1 w1 ⟨⟨y, rfl, HY⟩, hg1⟩
                have HG1 : Hid (Gro R wr w1) := ((Gro.refl R wr).drew).trans hg1
                clear hg1
                refine hK.out _ _ (HKP.out _ _ (HGB.out _ HG1.out) (fun h => absurd (by kernel_rfl) (Bool.eq_false_iff.1 h))) (fun _ => ?_)
                clear hK K
                refine wpAnyZ_ready (rs := [12]) (by kernel_rfl) (by simp) ?_
                refine AllReadyZ.cons rfl (fun K hK => ?_) AllReadyZ.nil
                go_simp
                refine hK.out _ _ (HKP.out _ _ (HGB.out _ (HG1.out.alloc _)) (fun h => absurd (by kernel_rfl) (Bool.eq_false_iff.1 h))) (fun _ => ?_)
                clear hK K
                have HP : Hid (App4 (N + 4) R wr i la lc ys y (t, q2) q' fin sz a n cap w1.heap.size (w1.alloc (Obj.cells #[.int .i64 0, .int .u64 0, .string ⟨#[]⟩, .slice none 0 0, .int .i64 0] 25))) := app4_a HL.out.gat HL.out.len (by omega) (by omega) HY.out HG1.out
                generalize w1.alloc (Obj.cells #[.int .i64 0, .int .u64 0, .string ⟨#[]⟩, .slice none 0 0, .int .i64 0] 25) = W4 at HP ⊢
                generalize w1.heap.size = zb at HP ⊢
                clear HY HG1
                refine wpAnyZ_ready (rs := [13]) (by kernel_rfl) (by simp) ?_
                refine AllReadyZ.cons rfl (fun K hK => ?_) AllReadyZ.nil
                refine step_append_at rfl (.tmp 35) (.tmp 47) 23 rfl (N + 4) 25 i0 _ 5 64 Tryd.underlying23 HI0.out HZ0.out HZ1.out HZ2.out rfl (by decide) _ i (flat ys) rfl HP.out.row ⟨zb, 0, none⟩ 1 1 zeroW rfl rfl HP.out.news HP.out.one HP.out.m1 HP.out.m2 HP.out.base ?_
                intro v' w5 hown hgrow hat
                obtain ⟨g, cc, cur, rfl, hgM, hgh, hgsz⟩ := own_some hown
                have HQ : Hid (App5 (N + 4) ys i la lc g cc W4 w5) := ⟨hown, hgrow, hat, hgM, cur, hgh, hgsz⟩
                clear hown hgrow hat
                have HK5 : Hid (∀ L, L.getD 10 true = true → Kept (fun W' => W'.cell? ⟨N, 0, none⟩ = some (.pointer (some ⟨R, 0, none⟩)) ∧ W'.cell? ⟨N + 2, 0, none⟩ = some (.int .i64 (e : Int)) ∧ W'.cell? ⟨N + 1, 0, none⟩ = some (.int .i64 (d : Int))) (fun z W' => (z = 16 → W'.cell? ⟨N + 3, 0, none⟩ = some (.slice la i lc)) ∧ (z = 10 → W'.cell? ⟨R, 1, none⟩ = some (.int .i64 (q' : Int)))) L w5) := fun L hL => HKP.out L _ (fun b h1 h2 => (HQ.out.low b (by omega) HP.out.row HP.out.base).trans (HGB.out _ HP.out.gro b h1 h2)) (fun h => absurd hL (Bool.eq_false_iff.1 h))
                refine hK.out _ _ (HK5.out _ (by kernel_rfl)) (fun _ => ?_)
                clear hK K
                have hi1 : (i : Int) < (i : Int) + 1 := by omega
                refine Z_take (i := 14) (d := 49) (v := .pointer (some ⟨g, i * 5, none⟩)) (Zs := []) rfl rfl (by kernel_rfl) (by kernel_rfl) (by kernel_rfl) (fun _ _ _ h => h) (fun _ => ⟨fun h => absurd h (by decide), fun h => absurd h (by decide)⟩) (by kernel_rfl) rfl ?_ (HK5.out _ (by kernel_rfl)) ?_
                · intro w hSw hC
                  clear hC hSw
                  go_simp
                  done
                try simp only [List.setIfInBounds_toArray, List.set_cons_zero, List.set_cons_succ]
                refine wpAnyZ_ready (rs := [15, 16]) (by kernel_rfl) (by simp) ?_
                have HKQ : Hid (∀ L W', L.getD 16 true = true → L.getD 10 true = true → (∀ b, N ≤ b → b ≤ N + 2 → W'.heap[b]? = w5.heap[b]?) → Kept (fun W' => W'.cell? ⟨N, 0, none⟩ = some (.pointer (some ⟨R, 0, none⟩)) ∧ W'.cell? ⟨N + 2, 0, none⟩ = some (.int .i64 (e : Int)) ∧ W'.cell? ⟨N + 1, 0, none⟩ = some (.int .i64 (d : Int))) (fun z W' => (z = 16 → W'.cell? ⟨N + 3, 0, none⟩ = some (.slice la i lc)) ∧ (z = 10 → W'.cell? ⟨R, 1, none⟩ = some (.int .i64 (q' : Int)))) L W') := fun L W' hL hL' hk => by
                  have hk' : ∀ b, N ≤ b → b ≤ N + 2 → W'.heap[b]? = wr.heap[b]? := fun b h1 h2 => (hk b h1 h2).trans ((HQ.out.low b (by omega) HP.out.row HP.out.base).trans (HGB.out _ HP.out.gro b h1 (by omega)))
                  have e0 := (hk' N (by omega) (by omega)).trans HL.out.eg.bx.b0
                  have e1 := (hk' (N + 1) (by omega) (by omega)).trans HL.out.eg.bx.b1
                  have e2 := (hk' (N + 2) (by omega) (by omega)).trans HL.out.kb
                  exact ⟨⟨by simp [World.cell?, e0], by simp [World.cell?, e2], by simp [World.cell?, e1]⟩, fun z hz => ⟨fun h => absurd (h ▸ hL) (Bool.eq_false_iff.1 hz), fun h => absurd (h ▸ hL') (Bool.eq_false_iff.1 hz)⟩⟩
                obtain ⟨cur, hgh, hgsz⟩ := HQ.out.cur
                have hgM := HQ.out.gM
                have hb4 : w5.heap[N + 3]? = some (.cells #[.slice la i lc] 23) := (HQ.out.low (N + 3) (by omega) HP.out.row HP.out.base).trans ((HGB.out _ HP.out.gro (N + 3) (by omega) (by omega)).trans HL.out.gat.box)
                have HGH := hide hgh
                have HB4 := hide hb4
                have kk : ∀ j, j < 5 → ∃ u, w5.cell? ⟨g, i * 5 + j, none⟩ = some u := fun j hj => ⟨cur[i * 5 + j]'(by omega), by simp [World.cell?, hgh]⟩
                obtain ⟨u0, k0⟩ := kk 0 (by omega)
                obtain ⟨u1, k1⟩ := kk 1 (by omega)
                obtain ⟨u2, k2⟩ := kk 2 (by omega)
                obtain ⟨u3, k3⟩ := kk 3 (by omega)
                obtain ⟨u4, k4⟩ := kk 4 (by omega)
                have z0 : ∀ o, w5.frozen? ⟨g, o, none⟩ = false := fun o => by simp [World.frozen?, hgh]
                have b4 : w5.cell? ⟨N + 3, 0, none⟩ = some (.slice la i lc) := by simp [World.cell?, hb4]
                have z4 : w5.frozen? ⟨N + 3, 0, none⟩ = false := by simp [World.frozen?, hb4]
                have hg5 : g < w5.heap.size := (Array.getElem?_eq_some_iff.1 hgh).1
                have hl5 : N + 3 < w5.heap.size := (Array.getElem?_eq_some_iff.1 hb4).1
                have hne : g ≠ N + 3 := by omega
                have hne' : N + 3 ≠ g := by omega
                clear kk hgh hb4
                rw [Nat.add_zero] at k0
                refine AllReadyZ.cons rfl (fun K hK => ?_) (AllReadyZ.cons rfl (fun K hK => ?_) AllReadyZ.nil)
                · go_simp
                  refine hK.out _ _ (HKP.out _ _ (fun b h1 h2 => by rw [put5_eq, put5_far (by omega)]; exact (HQ.out.low b (by omega) HP.out.row HP.out.base).trans (HGB.out _ HP.out.gro b h1 h2)) (fun h => absurd (by kernel_rfl) (Bool.eq_false_iff.1 h))) (fun _ => ?_)
                  clear hK K
                  rw [put5_eq]
                  have hF2 := fin_a (w5 := w5) (g := g) (lb := N + 3) (i := i) (y := y) (v' := .slice (some ⟨g, 0, none⟩) (i + 1) cc) HB4.out hne'
                  have HF2 := hide hF2
                  have b5 : (put5 w5 g (i * 5) y).cell? ⟨N + 3, 0, none⟩ = some (.slice la i lc) := (World.cell?_of_block (put5_far hne')).trans b4
                  have z5 : (put5 w5 g (i * 5) y).frozen? ⟨N + 3, 0, none⟩ = false := (World.frozen?_of_block (put5_far hne')).trans z4
                  have hl6 : N + 3 < (put5 w5 g (i * 5) y).heap.size := by rw [put5_size]; exact hl5
                  clear hF2 k0 k1 k2 k3 k4 z0 b4 z4
                  have HKR := hide (fun b (_ : N ≤ b) (h2 : b ≤ N + 2) => (put5_far (w := w5) (o := i * 5) (y := y) (show b ≠ g by omega)))
                  generalize put5 w5 g (i * 5) y = W9 at *
                  refine wpAnyZ_ready (rs := [16]) (by kernel_rfl) (by simp) ?_
                  refine AllReadyZ.cons rfl (fun K hK => ?_) AllReadyZ.nil
                  go_simp
                  refine hK.out _ _ (HKQ.out _ _ (by kernel_rfl) (by kernel_rfl) (fun b h1 h2 => (heap_far0 (by omega)).trans (HKR.out b h1 h2))) (fun _ => ?_)
                  clear hK K
                  refine wpAnyZ_done (by kernel_rfl) ?_ _
                  have HNX := hide (AL.push HL.out hic HP.out HQ.out HF2.out HRV.out HLT.out hR hN)
                  clear HF2 HKR HKQ HKP HK0 HK5 HGB HSRC HVO HP HQ
                  go_wp2
                  go_roundw
                  case rel => exact ⟨i + 1, by go_num, by omega, _, _, _, HNX.out⟩
                  case measure => simp [intOf]; omega
                · go_simp
                  refine hK.out _ _ (HKQ.out _ _ (by kernel_rfl) (by kernel_rfl) (fun b h1 h2 => heap_far0 (by omega))) (fun _ => ?_)
                  clear hK K
                  have hF2 := fin_b (w5 := w5) (g := g) (lb := N + 3) (i := i) (y := y) (v' := .slice (some ⟨g, 0, none⟩) (i + 1) cc) HB4.out hne'
                  have HF2 := hide hF2
                  have HKR := hide (fun b (_ : N ≤ b) (h2 : b ≤ N + 2) => (heap_far0 (W := w5) (o := 0) (u := .slice (some ⟨g, 0, none⟩) (i + 1) cc) (show b ≠ N + 3 by omega)))
                  have k0' : (w5.setCell ⟨N + 3, 0, none⟩ (.slice (some ⟨g, 0, none⟩) (i + 1) cc)).cell? ⟨g, i * 5, none⟩ = some u0 := (World.cell?_of_block (heap_far0 hne)).trans k0
                  have k1' : (w5.setCell ⟨N + 3, 0, none⟩ (.slice (some ⟨g, 0, none⟩) (i + 1) cc)).cell? ⟨g, i * 5 + 1, none⟩ = some u1 := (World.cell?_of_block (heap_far0 hne)).trans k1
                  have k2' : (w5.setCell ⟨N + 3, 0, none⟩ (.slice (some ⟨g, 0, none⟩) (i + 1) cc)).cell? ⟨g, i * 5 + 2, none⟩ = some u2 := (World.cell?_of_block (heap_far0 hne)).trans k2
                  have k3' : (w5.setCell ⟨N + 3, 0, none⟩ (.slice (some ⟨g, 0, none⟩) (i + 1) cc)).cell? ⟨g, i * 5 + 3, none⟩ = some u3 := (World.cell?_of_block (heap_far0 hne)).trans k3
                  have k4' : (w5.setCell ⟨N + 3, 0, none⟩ (.slice (some ⟨g, 0, none⟩) (i + 1) cc)).cell? ⟨g, i * 5 + 4, none⟩ = some u4 := (World.cell?_of_block (heap_far0 hne)).trans k4
                  have z0' : ∀ o, (w5.setCell ⟨N + 3, 0, none⟩ (.slice (some ⟨g, 0, none⟩) (i + 1) cc)).frozen? ⟨g, o, none⟩ = false := fun o => (World.frozen?_of_block (heap_far0 hne)).trans (z0 o)
                  have hg6 : g < (w5.setCell ⟨N + 3, 0, none⟩ (.slice (some ⟨g, 0, none⟩) (i + 1) cc)).heap.size := by simpa using hg5
                  clear hF2 k0 k1 k2 k3 k4 z0 b4 z4
                  generalize w5.setCell ⟨N + 3, 0, none⟩ (.slice (some ⟨g, 0, none⟩) (i + 1) cc) = W9 at *
                  refine wpAnyZ_ready (rs := [15]) (by kernel_rfl) (by simp) ?_
                  refine AllReadyZ.cons rfl (fun K hK => ?_) AllReadyZ.nil
                  go_simp
                  refine hK.out _ _ (HKQ.out _ _ (by kernel_rfl) (by kernel_rfl) (fun b h1 h2 => by rw [put5_eq, put5_far (by omega)]; exact HKR.out b h1 h2)) (fun _ => ?_)
                  clear hK K
                  rw [put5_eq]
                  refine wpAnyZ_done (by kernel_rfl) ?_ _
                  have HNX := hide (AL.push HL.out hic HP.out HQ.out HF2.out HRV.out HLT.out hR hN)
                  clear HF2 HKR HKQ HKP HK0 HK5 HGB HSRC HVO HP HQ k0' k1' k2' k3' k4' z0' hg6
                  generalize put5 W9 g (i * 5) y = W10 at *
                  go_wp2
                  go_roundw
                  case rel => exact ⟨i + 1, by go_num, by omega, _, _, _, HNX.out⟩
                  case measure => simp [intOf]; omega

              · go_simp
                have HG0 : Hid (Gro R wr (wr.drew.alloc (Obj.cells #[.int .i64 0, .int .u64 0, .string ⟨#[]⟩, .slice none 0 0, .int .i64 0] 25))) := (Gro.refl R wr).drew.alloc _
                refine hK.out _ _ (HKP.out _ _ (HGB.out _ HG0.out) (fun _ => (HL.out.rb.drew.alloc _).cells.2.1)) (fun _ => ?_)
                clear hK K
                refine wpAnyZ_ready (rs := [10]) (by kernel_rfl) (by simp) ?_
                refine AllReadyZ.cons rfl (fun K hK => ?_) AllReadyZ.nil
                go_simp
                try rw [hdw]
                refine Calls.mono (HVO.out _ HG0.out (HL.out.rb.drew.alloc _)) ?_
                rintro e1 W4 ⟨⟨y, rfl, HY⟩, hg1⟩
                have HP : Hid (App4 (N + 4) R wr i la lc ys y (t, q2) q' fin sz a n cap wr.heap.size W4) := app4_b HL.out.gat HL.out.len (by omega) (by omega) HY.out hg1
                clear hg1 HY
                refine hK.out _ _ (HKP.out _ _ (HGB.out _ HP.out.gro) (fun h => absurd (by kernel_rfl) (Bool.eq_false_iff.1 h))) (fun _ => ?_)
                clear hK K
                have hzd : wr.drew.heap.size = wr.heap.size := rfl
                try rw [hzd]
                clear hzd
                generalize hzb : wr.heap.size = zb at HP ⊢
                clear hzb HG0
                refine wpAnyZ_ready (rs := [13]) (by kernel_rfl) (by simp) ?_
                refine AllReadyZ.cons rfl (fun K hK => ?_) AllReadyZ.nil
                refine step_append_at rfl (.tmp 35) (.tmp 47) 23 rfl (N + 4) 25 i0 _ 5 64 Tryd.underlying23 HI0.out HZ0.out HZ1.out HZ2.out rfl (by decide) _ i (flat ys) rfl HP.out.row ⟨zb, 0, none⟩ 1 1 zeroW rfl rfl HP.out.news HP.out.one HP.out.m1 HP.out.m2 HP.out.base ?_
                intro v' w5 hown hgrow hat
                obtain ⟨g, cc, cur, rfl, hgM, hgh, hgsz⟩ := own_some hown
                have HQ : Hid (App5 (N + 4) ys i la lc g cc W4 w5) := ⟨hown, hgrow, hat, hgM, cur, hgh, hgsz⟩
                clear hown hgrow hat
                have HK5 : Hid (∀ L, L.getD 10 true = true → Kept (fun W' => W'.cell? ⟨N, 0, none⟩ = some (.pointer (some ⟨R, 0, none⟩)) ∧ W'.cell? ⟨N + 2, 0, none⟩ = some (.int .i64 (e : Int)) ∧ W'.cell? ⟨N + 1, 0, none⟩ = some (.int .i64 (d : Int))) (fun z W' => (z = 16 → W'.cell? ⟨N + 3, 0, none⟩ = some (.slice la i lc)) ∧ (z = 10 → W'.cell? ⟨R, 1, none⟩ = some (.int .i64 (q' : Int)))) L w5) := fun L hL => HKP.out L _ (fun b h1 h2 => (HQ.out.low b (by omega) HP.out.row HP.out.base).trans (HGB.out _ HP.out.gro b h1 h2)) (fun h => absurd hL (Bool.eq_false_iff.1 h))
                refine hK.out _ _ (HK5.out _ (by kernel_rfl)) (fun _ => ?_)
                clear hK K
                have hi1 : (i : Int) < (i : Int) + 1 := by omega
                refine Z_take (i := 14) (d := 49) (v := .pointer (some ⟨g, i * 5, none⟩)) (Zs := []) rfl rfl (by kernel_rfl) (by kernel_rfl) (by kernel_rfl) (fun _ _ _ h => h) (fun _ => ⟨fun h => absurd h (by decide), fun h => absurd h (by decide)⟩) (by kernel_rfl) rfl ?_ (HK5.out _ (by kernel_rfl)) ?_
                · intro w hSw hC
                  clear hC hSw
                  go_simp
                  done
                try simp only [List.setIfInBounds_toArray, List.set_cons_zero, List.set_cons_succ]
                refine wpAnyZ_ready (rs := [15, 16]) (by kernel_rfl) (by simp) ?_
                have HKQ : Hid (∀ L W', L.getD 16 true = true → L.getD 10 true = true → (∀ b, N ≤ b → b ≤ N + 2 → W'.heap[b]? = w5.heap[b]?) → Kept (fun W' => W'.cell? ⟨N, 0, none⟩ = some (.pointer (some ⟨R, 0, none⟩)) ∧ W'.cell? ⟨N + 2, 0, none⟩ = some (.int .i64 (e : Int)) ∧ W'.cell? ⟨N + 1, 0, none⟩ = some (.int .i64 (d : Int))) (fun z W' => (z = 16 → W'.cell? ⟨N + 3, 0, none⟩ = some (.slice la i lc)) ∧ (z = 10 → W'.cell? ⟨R, 1, none⟩ = some (.int .i64 (q' : Int)))) L W') := fun L W' hL hL' hk => by
                  have hk' : ∀ b, N ≤ b → b ≤ N + 2 → W'.heap[b]? = wr.heap[b]? := fun b h1 h2 => (hk b h1 h2).trans ((HQ.out.low b (by omega) HP.out.row HP.out.base).trans (HGB.out _ HP.out.gro b h1 (by omega)))
                  have e0 := (hk' N (by omega) (by omega)).trans HL.out.eg.bx.b0
                  have e1 := (hk' (N + 1) (by omega) (by omega)).trans HL.out.eg.bx.b1
                  have e2 := (hk' (N + 2) (by omega) (by omega)).trans HL.out.kb
                  exact ⟨⟨by simp [World.cell?, e0], by simp [World.cell?, e2], by simp [World.cell?, e1]⟩, fun z hz => ⟨fun h => absurd (h ▸ hL) (Bool.eq_false_iff.1 hz), fun h => absurd (h ▸ hL') (Bool.eq_false_iff.1 hz)⟩⟩
                obtain ⟨cur, hgh, hgsz⟩ := HQ.out.cur
                have hgM := HQ.out.gM
                have hb4 : w5.heap[N + 3]? = some (.cells #[.slice la i lc] 23) := (HQ.out.low (N + 3) (by omega) HP.out.row HP.out.base).trans ((HGB.out _ HP.out.gro (N + 3) (by omega) (by omega)).trans HL.out.gat.box)
                have HGH := hide hgh
                have HB4 := hide hb4
                have kk : ∀ j, j < 5 → ∃ u, w5.cell? ⟨g, i * 5 + j, none⟩ = some u := fun j hj => ⟨cur[i * 5 + j]'(by omega), by simp [World.cell?, hgh]⟩
                obtain ⟨u0, k0⟩ := kk 0 (by omega)
                obtain ⟨u1, k1⟩ := kk 1 (by omega)
                obtain ⟨u2, k2⟩ := kk 2 (by omega)
                obtain ⟨u3, k3⟩ := kk 3 (by omega)
                obtain ⟨u4, k4⟩ := kk 4 (by omega)
                have z0 : ∀ o, w5.frozen? ⟨g, o, none⟩ = false := fun o => by simp [World.frozen?, hgh]
                have b4 : w5.cell? ⟨N + 3, 0, none⟩ = some (.slice la i lc) := by simp [World.cell?, hb4]
                have z4 : w5.frozen? ⟨N + 3, 0, none⟩ = false := by simp [World.frozen?, hb4]
                have hg5 : g < w5.heap.size := (Array.getElem?_eq_some_iff.1 hgh).1
                have hl5 : N + 3 < w5.heap.size := (Array.getElem?_eq_some_iff.1 hb4).1
                have hne : g ≠ N + 3 := by omega
                have hne' : N + 3 ≠ g := by omega
                clear kk hgh hb4
                rw [Nat.add_zero] at k0
                refine AllReadyZ.cons rfl (fun K hK => ?_) (AllReadyZ.cons rfl (fun K hK => ?_) AllReadyZ.nil)
                · go_simp
                  refine hK.out _ _ (HKP.out _ _ (fun b h1 h2 => by rw [put5_eq, put5_far (by omega)]; exact (HQ.out.low b (by omega) HP.out.row HP.out.base).trans (HGB.out _ HP.out.gro b h1 h2)) (fun h => absurd (by kernel_rfl) (Bool.eq_false_iff.1 h))) (fun _ => ?_)
                  clear hK K
                  rw [put5_eq]
                  have hF2 := fin_a (w5 := w5) (g := g) (lb := N + 3) (i := i) (y := y) (v' := .slice (some ⟨g, 0, none⟩) (i + 1) cc) HB4.out hne'
                  have HF2 := hide hF2
                  have b5 : (put5 w5 g (i * 5) y).cell? ⟨N + 3, 0, none⟩ = some (.slice la i lc) := (World.cell?_of_block (put5_far hne')).trans b4
                  have z5 : (put5 w5 g (i * 5) y).frozen? ⟨N + 3, 0, none⟩ = false := (World.frozen?_of_block (put5_far hne')).trans z4
                  have hl6 : N + 3 < (put5 w5 g (i * 5) y).heap.size := by rw [put5_size]; exact hl5
                  clear hF2 k0 k1 k2 k3 k4 z0 b4 z4
                  have HKR := hide (fun b (_ : N ≤ b) (h2 : b ≤ N + 2) => (put5_far (w := w5) (o := i * 5) (y := y) (show b ≠ g by omega)))
                  generalize put5 w5 g (i * 5) y = W9 at *
                  refine wpAnyZ_ready (rs := [16]) (by kernel_rfl) (by simp) ?_
                  refine AllReadyZ.cons rfl (fun K hK => ?_) AllReadyZ.nil
                  go_simp
                  refine hK.out _ _ (HKQ.out _ _ (by kernel_rfl) (by kernel_rfl) (fun b h1 h2 => (heap_far0 (by omega)).trans (HKR.out b h1 h2))) (fun _ => ?_)
                  clear hK K
                  refine wpAnyZ_done (by kernel_rfl) ?_ _
                  have HNX := hide (AL.push HL.out hic HP.out HQ.out HF2.out HRV.out HLT.out hR hN)
                  clear HF2 HKR HKQ HKP HK0 HK5 HGB HSRC HVO HP HQ
                  go_wp2
                  go_roundw
                  case rel => exact ⟨i + 1, by go_num, by omega, _, _, _, HNX.out⟩
                  case measure => simp [intOf]; omega
                · go_simp
                  refine hK.out _ _ (HKQ.out _ _ (by kernel_rfl) (by kernel_rfl) (fun b h1 h2 => heap_far0 (by omega))) (fun _ => ?_)
                  clear hK K
                  have hF2 := fin_b (w5 := w5) (g := g) (lb := N + 3) (i := i) (y := y) (v' := .slice (some ⟨g, 0, none⟩) (i + 1) cc) HB4.out hne'
                  have HF2 := hide hF2
                  have HKR := hide (fun b (_ : N ≤ b) (h2 : b ≤ N + 2) => (heap_far0 (W := w5) (o := 0) (u := .slice (some ⟨g, 0, none⟩) (i + 1) cc) (show b ≠ N + 3 by omega)))
                  have k0' : (w5.setCell ⟨N + 3, 0, none⟩ (.slice (some ⟨g, 0, none⟩) (i + 1) cc)).cell? ⟨g, i * 5, none⟩ = some u0 := (World.cell?_of_block (heap_far0 hne)).trans k0
                  have k1' : (w5.setCell ⟨N + 3, 0, none⟩ (.slice (some ⟨g, 0, none⟩) (i + 1) cc)).cell? ⟨g, i * 5 + 1, none⟩ = some u1 := (World.cell?_of_block (heap_far0 hne)).trans k1
                  have k2' : (w5.setCell ⟨N + 3, 0, none⟩ (.slice (some ⟨g, 0, none⟩) (i + 1) cc)).cell? ⟨g, i * 5 + 2, none⟩ = some u2 := (World.cell?_of_block (heap_far0 hne)).trans k2
                  have k3' : (w5.setCell ⟨N + 3, 0, none⟩ (.slice (some ⟨g, 0, none⟩) (i + 1) cc)).cell? ⟨g, i * 5 + 3, none⟩ = some u3 := (World.cell?_of_block (heap_far0 hne)).trans k3
                  have k4' : (w5.setCell ⟨N + 3, 0, none⟩ (.slice (some ⟨g, 0, none⟩) (i + 1) cc)).cell? ⟨g, i * 5 + 4, none⟩ = some u4 := (World.cell?_of_block (heap_far0 hne)).trans k4
                  have z0' : ∀ o, (w5.setCell ⟨N + 3, 0, none⟩ (.slice (some ⟨g, 0, none⟩) (i + 1) cc)).frozen? ⟨g, o, none⟩ = false := fun o => (World.frozen?_of_block (heap_far0 hne)).trans (z0 o)
                  have hg6 : g < (w5.setCell ⟨N + 3, 0, none⟩ (.slice (some ⟨g, 0, none⟩) (i + 1) cc)).heap.size := by simpa using hg5
                  clear hF2 k0 k1 k2 k3 k4 z0 b4 z4
                  generalize w5.setCell ⟨N + 3, 0, none⟩ (.slice (some ⟨g, 0, none⟩) (i + 1) cc) = W9 at *
                  refine wpAnyZ_ready (rs := [15]) (by kernel_rfl) (by simp) ?_
                  refine AllReadyZ.cons rfl (fun K hK => ?_) AllReadyZ.nil
                  go_simp
                  refine hK.out _ _ (HKQ.out _ _ (by kernel_rfl) (by kernel_rfl) (fun b h1 h2 => by rw [put5_eq, put5_far (by omega)]; exact HKR.out b h1 h2)) (fun _ => ?_)
                  clear hK K
                  rw [put5_eq]
                  refine wpAnyZ_done (by kernel_rfl) ?_ _
                  have HNX := hide (AL.push HL.out hic HP.out HQ.out HF2.out HRV.out HLT.out hR hN)
                  clear HF2 HKR HKQ HKP HK0 HK5 HGB HSRC HVO HP HQ k0' k1' k2' k3' k4' z0' hg6
                  generalize put5 W9 g (i * 5) y = W10 at *
                  go_wp2
                  go_roundw
                  case rel => exact ⟨i + 1, by go_num, by omega, _, _, _, HNX.out⟩
                  case measure => simp [intOf]; omega
        · have hie : i = count := by omega
          subst hie
          go_wp2
          first | go_end0 | refine bodyPost_ret (results_none rfl _ _ _) rfl ?_
          rw [HL.out.fin rfl]
          exact ⟨rfl, HL.out.rb, HL.out.q2, ⟨ys, lv, HL.out.gat, rfl, HL.out.kb⟩, HL.out.eg⟩
end Go.Proofs.YtgpimajdcfoigabDoor
