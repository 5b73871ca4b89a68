
/- Stage 6: a byte is taken. -/
import Derived.Test.YtaijcnkmklibcaaSMeans
namespace Go.Proofs.Ytaijcnkmklibcaa
open Go.RowKit Go.Deep
set_option linter.unusedVariables false
set_option linter.unusedSimpArgs false

set_option maxHeartbeats 4000000 in
set_option maxRecDepth 100000 in
theorem awaitFrame_any (S : Nat) (lim tk at_ : Int) (v : Value) (sz kd : Int) (hd : Bool) (er : Int) (mf : Value) (w : World) (hS : StB w S lim tk at_ v sz kd hd er mf) :
    Calls Try.prog 52 #[.pointer (some ⟨S, 0, none⟩)] w fun e w' => e = .returned (.tuple #[]) ∧ StB w' S lim tk at_ v sz kd false er (mfn S 1) ∧ Kp (fun k => k = S) w w' := by
  have HS := hide hS
  obtain ⟨s0, s1, s2, s3, s4, s5, s6, s7, s8⟩ := hS.cells
  have f6 := hS.frozen 6
  have f8 := hS.frozen 8
  have hSl := hS.lt
  clear hS
  go_enter Try.func52, Try.ntmps52
  go_wp2
  exact bodyPost_end (v := .tuple #[]) (by simp [results, Try.results52, go_sem]) rfl ⟨rfl, (HS.out.setHd false).setMf (mfn S 1), kp_self (kp_self (Kp.refl _ w) 6 _) 8 _⟩
theorem own_ne_st {w : World} {base S n : Nat} {v u : Value} {xs : List Value} {lim tk at_ sz kd er : Int} {hd : Bool} {mf : Value} (h : w.ownsRow base 5 1 v n xs) (hb : StB w S lim tk at_ u sz kd hd er mf) : v.ownBlock ≠ some S := by
  rcases h.2 with ⟨rfl, _⟩ | ⟨g, cap, cur, rfl, _, hg, _⟩
  · intro e; cases e
  · intro e
    simp only [Value.ownBlock, Option.some.injEq] at e
    subst e
    unfold StB at hb
    rw [hg] at hb
    simp at hb
theorem own_ne_it {w : World} {base R n : Nat} {v : Value} {xs : List Value} {v0 v1 v2 v3 v4 v5 : Value} (h : w.ownsRow base 5 1 v n xs) (hb : IB w R v0 v1 v2 v3 v4 v5) : v.ownBlock ≠ some R := by
  rcases h.2 with ⟨rfl, _⟩ | ⟨g, cap, cur, rfl, _, hg, _⟩
  · intro e; cases e
  · intro e
    simp only [Value.ownBlock, Option.some.injEq] at e
    subst e
    unfold IB at hb
    rw [hg] at hb
    simp at hb
theorem own_kp {w w' : World} {base S n m g c : Nat} {xs : List Value} (h : w.ownsRow base 5 1 (.slice (some ⟨g, 0, none⟩) m c) n xs) (hk : Kp (fun k => k = S) w w') (hne : g ≠ S) : w'.ownsRow base 5 1 (.slice (some ⟨g, 0, none⟩) m c) n xs := by
  refine ⟨h.1, ?_⟩
  rcases h.2 with hn | ⟨g', cap, cur, hv, hbg, hg, rest⟩
  · exact .inl hn
  · refine .inr ⟨g', cap, cur, hv, hbg, ?_, rest⟩
    simp only [Value.slice.injEq, Option.some.injEq, Addr.mk.injEq, and_true] at hv
    exact (hk.2.2.2.2 g' (Array.getElem?_eq_some_iff.1 hg).1 (by rw [← hv.1]; exact hne)).trans hg
theorem StB.grown {w w' : World} {S : Nat} {lim tk at_ : Int} {v : Value} {sz kd : Int} {hd : Bool} {er : Int} {mf : Value} {row : Option Nat} (h : StB w S lim tk at_ v sz kd hd er mf) (hg : w.grownBy w' row) (hne : row ≠ some S) : StB w' S lim tk at_ v sz kd hd er mf :=
  (hg.block S h.lt (fun e => hne e.symm)).trans h
theorem mIt_form (mo sz : Nat) (l : List Nat) (A1 A2 : Option Addr) : ∃ (p ty ch : Int) (ax : Option Addr) (nx : Nat) (ay : Option Addr) (ny : Nat), mIt mo sz l A1 A2 = itV (mK mo sz l) p ty ch (.slice ax nx nx) (.slice ay ny ny) := by
  unfold mIt mK
  split
  · split
    · exact ⟨0, 0, 0, none, 0, none, 0, rfl⟩
    · exact ⟨_, 0, 0, none, 0, none, 0, rfl⟩
  · split
    · split
      · exact ⟨0, 0, 0, none, 0, none, 0, rfl⟩
      · exact ⟨0, _, _, _, _, _, _, rfl⟩
    · exact ⟨0, 0, 0, none, 0, none, 0, rfl⟩
theorem mIt_none (mo sz : Nat) (l : List Nat) (A1 A2 : Option Addr) (h : mK mo sz l = 0) : mIt mo sz l A1 A2 = it0 := by
  unfold mIt mK at *
  split
  · rename_i h0
    rw [if_pos h0] at h
    split
    · rfl
    · rename_i h1; rw [if_neg h1] at h; omega
  · rename_i h0
    rw [if_neg h0] at h
    split
    · rename_i h4
      rw [if_pos h4] at h
      split
      · rfl
      · rename_i h1; rw [if_neg h1] at h; omega
    · rfl
/-- what may change -/
def KS (S : Nat) (v : Value) (w w' : World) : Prop := Kp (fun k => k = S ∨ v.ownBlock = some k) w w'
theorem KS.of {S : Nat} {v : Value} {w w' : World} (h : Kp (fun k => k = S) w w') : KS S v w w' := Kp.mono h (fun k hk => .inl hk)
theorem KS.grown {S : Nat} {v : Value} {w w1 w2 : World} (h : KS S v w w1) (hg : w1.grownBy w2 v.ownBlock) : KS S v w w2 := by
  obtain ⟨h1, h2, h3, h4, h5⟩ := h
  exact ⟨hg.os.trans h1, hg.tape.trans h2, hg.output.trans h3, Nat.le_trans h4 hg.size, fun k hk hq => (hg.block k (by omega) (fun e => hq (.inr e.symm))).trans (h5 k hk hq)⟩
theorem KS.self {S : Nat} {v : Value} {w w1 w2 : World} (h : KS S v w w1) (h2 : Kp (fun k => k = S) w1 w2) : KS S v w w2 := by
  obtain ⟨a1, a2, a3, a4, a5⟩ := h
  obtain ⟨b1, b2, b3, b4, b5⟩ := h2
  exact ⟨b1.trans a1, b2.trans a2, b3.trans a3, Nat.le_trans a4 b4, fun k hk hq => (b5 k (by omega) (fun e => hq (.inl e))).trans (a5 k hk hq)⟩
theorem KS.fresh {S : Nat} {v : Value} {w w1 : World} (h : KS S v w w1) {b o : Nat} (hb : w.heap.size ≤ b) (x : Value) : KS S v w (w1.setCell ⟨b, o, none⟩ x) := Kp.fresh h hb x
theorem KS.set {S : Nat} {v : Value} {w w1 : World} (h : KS S v w w1) (o : Nat) (x : Value) : KS S v w (w1.setCell ⟨S, o, none⟩ x) := Kp.setCell h (.inl rfl) x

theorem mOut.set {w w1 : World} {l : List Nat} {o1 o2 : Option Nat} (h : mOut w w1 l o1 o2) {b o : Nat} (hb : b < w.heap.size) (x : Value) : mOut w (w1.setCell ⟨b, o, none⟩ x) l o1 o2 := by
  obtain ⟨h1, h2, h3, h4, h5⟩ := h
  exact ⟨h1, h2, fun g hg => ⟨(h3 g hg).1, (h3 g hg).2.setOther (by have := (h3 g hg).1; omega) x⟩, fun g hg => ⟨(h4 g hg).1, (h4 g hg).2.setOther (by have := (h4 g hg).1; omega) x⟩, h5⟩
theorem mOut.alloc {w w1 : World} {l : List Nat} {o1 o2 : Option Nat} (h : mOut w w1 l o1 o2) (o : Obj) : mOut w (w1.alloc o) l o1 o2 := by
  obtain ⟨h1, h2, h3, h4, h5⟩ := h
  exact ⟨h1, h2, fun g hg => ⟨(h3 g hg).1, (h3 g hg).2.alloc o⟩, fun g hg => ⟨(h4 g hg).1, (h4 g hg).2.alloc o⟩, h5⟩
theorem mOut.kp {w w1 w2 : World} {S : Nat} {l : List Nat} {o1 o2 : Option Nat} (h : mOut w w1 l o1 o2) (hk : Kp (fun k => k = S) w1 w2) (hS : S < w.heap.size) : mOut w w2 l o1 o2 := by
  obtain ⟨h1, h2, h3, h4, h5⟩ := h
  exact ⟨h1, h2, fun g hg => ⟨(h3 g hg).1, hk.bl (h3 g hg).2 (by have := (h3 g hg).1; omega)⟩, fun g hg => ⟨(h4 g hg).1, hk.bl (h4 g hg).2 (by have := (h4 g hg).1; omega)⟩, h5⟩
theorem mOut.base {w w0 w1 : World} {l : List Nat} {o1 o2 : Option Nat} (h : mOut w w1 l o1 o2) (hw : w0.heap.size ≤ w.heap.size) : mOut w0 w1 l o1 o2 := by
  obtain ⟨h1, h2, h3, h4, h5⟩ := h
  exact ⟨h1, h2, fun g hg => ⟨Nat.le_trans hw (h3 g hg).1, (h3 g hg).2⟩, fun g hg => ⟨Nat.le_trans hw (h4 g hg).1, (h4 g hg).2⟩, h5⟩
/-- what a step answers -/
def StepP (S mo B : Nat) (lim tk at_ : Int) (sz : Nat) (kd : Int) (hd : Bool) (v : Value) (l : List Nat) (c : Nat) (w : World) (e : Ending) (w' : World) : Prop :=
  ∃ (o1 o2 : Option Nat) (v' : Value),
      (¬ mE mo lim sz kd (l ++ [c]) = 0 → e = .returned it0 ∧ StB w' S lim (tk + 1) at_ (.slice none 0 0) (mSz mo lim sz (l ++ [c]) : Int) (mKd mo kd (l ++ [c])) hd (mE mo lim sz kd (l ++ [c])) (mfn S (mMo mo lim kd (l ++ [c])))) ∧
      (mE mo lim sz kd (l ++ [c]) = 0 → mK mo sz (l ++ [c]) = 0 → e = .returned it0 ∧ StB w' S lim (tk + 1) at_ v' (mSz mo lim sz (l ++ [c]) : Int) (mKd mo kd (l ++ [c])) hd 0 (mfn S (mMo mo lim kd (l ++ [c]))) ∧ w'.ownsRow B 5 1 v' (l.length + 1) ((l ++ [c]).map byteV)) ∧
      (mE mo lim sz kd (l ++ [c]) = 0 → ¬ mK mo sz (l ++ [c]) = 0 → e = .returned (mIt mo sz (l ++ [c]) (o1.map (fun g => (⟨g, 0, none⟩ : Addr))) (o2.map (fun g => (⟨g, 0, none⟩ : Addr)))) ∧ StB w' S lim (tk + 1) (tk + 1) (.slice none 0 0) (mSz mo lim sz (l ++ [c]) : Int) (mKd mo kd (l ++ [c])) false 0 (mfn S 1) ∧ (mo = 4 → mOut w w' (l ++ [c]) o1 o2)) ∧
      (v'.ownBlock = v.ownBlock ∨ ∃ g, v'.ownBlock = some g ∧ w.heap.size ≤ g) ∧ KS S v w w'
set_option maxHeartbeats 4000000 in
set_option maxRecDepth 100000 in
theorem step_any (S mo B : Nat) (lim tk at_ : Int) (sz : Nat) (kd : Int) (hd : Bool) (v : Value) (l : List Nat) (c : Nat) (w : World)
    (hS : StB w S lim tk at_ v (sz : Int) kd hd 0 (mfn S mo)) (hown : w.ownsRow B 5 1 v l.length (l.map byteV)) (hB : B ≤ w.heap.size) (hl : ∀ c ∈ l, c < 256) (hc : c < 256) (hmo : mo ≤ 4) (h1 : mo = 1 → l.length < 4) (h3 : mo = 3 → 5 ≤ l.length) (hn : l.length ≤ 2000000) (ht0 : 0 ≤ tk) (ht1 : tk ≤ 281474976710656) :
    Calls Try.prog 48 #[.pointer (some ⟨S, 0, none⟩), .int .u8 (c : Int)] w fun e w' => StepP S mo B lim tk at_ sz kd hd v l c w e w' := by
  obtain ⟨i0, hi, hz0, hz1, hz2⟩ := info_parts Try.info5
  have HI := hide hi
  have HZ0 := hide hz0
  have HZ1 := hide hz1
  have HZ2 := hide hz2
  clear hi hz0 hz1 hz2
  have hSl := hS.lt
  have hne : S ≠ w.heap.size := by omega
  have hne2 : w.heap.size ≠ S := by omega
  have HS := hide hS
  have HO := hide hown
  have HNS := hide (own_ne_st hown hS)
  have HL : Hid (∀ x ∈ l ++ [c], x < 256) := fun x hx => by
    rcases List.mem_append.1 hx with h | h
    · exact hl x h
    · simp at h; omega
  have HM := hide (And.intro hmo (And.intro h1 (And.intro h3 (And.intro hn (And.intro hB hc)))))
  have htw : IntKind.i64.wrap (tk + 1) = tk + 1 := by rw [IntKind.wrap_i64]; omega
  obtain ⟨s0, s1, s2, s3, s4, s5, s6, s7, s8⟩ := hS.cells
  have f1 := hS.frozen 1
  clear hS hown hl hmo h1 h3 hn hB hc ht0 ht1
  go_enter Try.func48, Try.ntmps48
  go_upto_region 2 with fail
  clear s0 s1 s2 s3 s4 s5 s6 s7 s8 f1 htw
  obtain ⟨W1, hW1⟩ : ∃ W1, W1 = (w.setCell ⟨S, 1, none⟩ (.int .i64 (tk + 1))).alloc (.cells #[.int .i64 0, .int .i64 0, .int .i64 0, .int .i64 0, .slice none 0 0, .slice none 0 0] 51) := ⟨_, rfl⟩
  have HS1 : Hid (StB W1 S lim (tk + 1) at_ v (sz : Int) kd hd 0 (mfn S mo)) := by rw [hW1]; exact (HS.out.setTk (tk + 1)).alloc _
  have HO1 : Hid (W1.ownsRow B 5 1 v l.length (l.map byteV)) := by rw [hW1]; exact (own_set HO.out HNS.out 1 _).alloc _
  have HI1 : Hid (IZ W1 w.heap.size) := by
    rw [hW1]
    have h := IZ.new (w.setCell ⟨S, 1, none⟩ (.int .i64 (tk + 1)))
    rw [show (w.setCell ⟨S, 1, none⟩ (.int .i64 (tk + 1))).heap.size = w.heap.size by simp] at h
    exact h
  have HK1 : Hid (KS S v w W1) := by rw [hW1]; exact Kp.below (KS.of (kp_self (Kp.refl _ w) 1 _)) (below_box _ _)
  rw [← hW1]
  clear hW1
  have hz1 : w.heap.size < W1.heap.size := HI1.out.lt
  obtain ⟨s0, s1, s2, s3, s4, s5, s6, s7, s8⟩ := HS1.out.cells
  go_upto_region 3 with (at_builtin; refine wpList_append_new _ rfl (.tmp 18) (.tmp 20) 33 rfl B 5 i0 (.int .u8 0) 1 Try.underlying33 HI.out HZ0.out HZ1.out HZ2.out rfl v l.length _ rfl (HO1.out.alloc _) ⟨W1.heap.size, 0, none⟩ 1 (byteV c) rfl (cell_new1 _ _ _) rfl (by have := HM.out.2.2.2.1; unfold maxLen; omega) (by have := HM.out.2.2.2.1; omega) (by have := HM.out.2.2.2.2.1; simp; omega) ?_; intro v2 W2 r1 r2 r3; have HR2 := hide r1; have HG2 := hide r2; have HV2 := hide r3; have HS2 : Hid (StB W2 S lim (tk + 1) at_ v (sz : Int) kd hd 0 (mfn S mo)) := (HS1.out.alloc _).grown r2 HNS.out; obtain ⟨gv, cv, rfl, hgB, hgl⟩ := own_shape r1 (Nat.succ_pos l.length); clear r1 r2 r3 s0 s1 s2 s3 s4 s5 s6 s7 s8; obtain ⟨s0, s1, s2, s3, s4, s5, s6, s7, s8⟩ := HS2.out.cells; have f3 := HS2.out.frozen 3)
  clear s0 s1 s2 s3 s4 s5 s6 s7 s8 f3
  have HO2 : Hid (W2.ownsRow B 5 1 (.slice (some ⟨gv, 0, none⟩) (l.length + 1) cv) (l.length + 1) ((l ++ [c]).map byteV)) := by
    have := HR2.out
    rw [List.map_append]
    exact this
  have HN2 := hide (own_ne_st HO2.out HS2.out)
  obtain ⟨W3, hW3⟩ : ∃ W3, W3 = W2.setCell ⟨S, 3, none⟩ (.slice (some ⟨gv, 0, none⟩) (l.length + 1) cv) := ⟨_, rfl⟩
  have HS3 : Hid (StB W3 S lim (tk + 1) at_ (.slice (some ⟨gv, 0, none⟩) (l.length + 1) cv) (sz : Int) kd hd 0 (mfn S mo)) := by rw [hW3]; exact HS2.out.setHeld _
  have HO3 : Hid (W3.ownsRow B 5 1 (.slice (some ⟨gv, 0, none⟩) (l.length + 1) cv) (l.length + 1) ((l ++ [c]).map byteV)) := by rw [hW3]; exact own_set HO2.out HN2.out 3 _
  have HI3 : Hid (IZ W3 w.heap.size) := by
    rw [hW3]
    refine IB.setOther ?_ hne _
    have h0 : IZ (W1.alloc (.cells #[byteV c] 5)) w.heap.size := IB.below HI1.out (below_box W1 _) HI1.out.lt
    exact (HG2.out.block _ (by simp; omega) (fun e => own_ne_it (HO1.out.alloc _) h0 e.symm)).trans h0
  have HK3 : Hid (KS S v w W3) := by rw [hW3]; exact (KS.grown (Kp.below HK1.out (below_box W1 _)) HG2.out).set 3 _
  have HVV : Hid ((Value.slice (some ⟨gv, 0, none⟩) (l.length + 1) cv).ownBlock = v.ownBlock ∨ ∃ g, (Value.slice (some ⟨gv, 0, none⟩) (l.length + 1) cv).ownBlock = some g ∧ w.heap.size ≤ g) := by
    rcases HV2.out with h | ⟨g, h, hg⟩
    · exact .inl h
    · exact .inr ⟨g, h, by simp at hg; omega⟩
  rw [← hW3]
  clear hW3 hgB hgl HS2 HO2 HN2 HR2 HG2 HV2 HI1 HS1 HO1 HK1
  obtain ⟨a3, c3, ha3, hb3, hc3, hr3⟩ := Rd.of_own0 HO3.out HL.out
  simp only [Value.slice.injEq, true_and] at ha3
  obtain ⟨rfl, rfl⟩ := ha3
  have hgS : gv ≠ S := fun e => own_ne_st HO3.out HS3.out (by rw [e]; rfl)
  have hll : (l ++ [c]).length = l.length + 1 := by simp
  have HMN := hide (means_any S mo lim (tk + 1) at_ sz kd 0 hd (some ⟨gv, 0, none⟩) (l.length + 1) cv (l ++ [c]) W3 HS3.out hr3 hc3 (fun h => by cases h) (by have := HM.out.2.2.2.1; omega) (fun b o h => by simp only [Option.some.injEq, Addr.mk.injEq, and_true] at h; rw [← h.1]; exact hgS) HM.out.1 (fun h => by have := HM.out.2.1 h; omega) (fun h => by have := HM.out.2.2.1 h; omega))
  have HIF := hide (mIt_form mo sz (l ++ [c]))
  have HIN := hide (mIt_none mo sz (l ++ [c]))
  clear hb3 hc3 hr3 hll
  generalize hEE : mE mo lim sz kd (l ++ [c]) = E at HMN
  generalize hKK : mK mo sz (l ++ [c]) = kk at HIF HIN
  generalize hSZ : mSz mo lim sz (l ++ [c]) = sz2 at HMN
  generalize hKD : mKd mo kd (l ++ [c]) = kd2 at HMN
  generalize hMO : mMo mo lim kd (l ++ [c]) = mo2 at HMN
  generalize hMI : mIt mo sz (l ++ [c]) = MI at HMN HIF HIN
  have HEE := hide hEE
  have HKK := hide hKK
  have HSZ := hide hSZ
  have HKD := hide hKD
  have HMO := hide hMO
  have HMM := hide hMI
  have HKL : Hid (mo = 4 → ¬ kk = 0 → ¬ (l ++ [c]).length < sz) := fun h4 hk hlt => by
    rw [← hKK, h4] at hk
    unfold mK at hk
    rw [if_neg (by omega), if_pos rfl, if_pos hlt] at hk
    exact hk rfl
  clear hEE hKK hSZ hKD hMO hMI
  obtain ⟨V, hV⟩ : ∃ V : Value, V = .slice (some ⟨gv, 0, none⟩) (l.length + 1) cv := ⟨_, rfl⟩
  have hmo5 : mo = 0 ∨ mo = 1 ∨ mo = 2 ∨ mo = 3 ∨ mo = 4 := by have := HM.out.1; omega
  obtain ⟨s0, s1, s2, s3, s4, s5, s6, s7, s8⟩ := HS3.out.cells
  rw [mfn_mid] at s8
  have hz3 : w.heap.size < W3.heap.size := HI3.out.lt
  go_cut [5, 6] (fun pv ev wx => ∃ (o1 o2 : Option Nat) (J : Nat) (p ty ch : Int) (ax : Option Addr) (nx : Nat) (ay : Option Addr) (ny : Nat), pv = .pointer (some ⟨J, 0, none⟩) ∧ ev = .int .i64 E ∧ Hid (MI (o1.map (fun g => (⟨g, 0, none⟩ : Addr))) (o2.map (fun g => (⟨g, 0, none⟩ : Addr))) = itV kk p ty ch (.slice ax nx nx) (.slice ay ny ny)) ∧ Hid (IB wx J (.int .i64 kk) (.int .i64 p) (.int .i64 ty) (.int .i64 ch) (.slice ax nx nx) (.slice ay ny ny)) ∧ Hid (StB wx S lim (tk + 1) at_ (.slice (some ⟨gv, 0, none⟩) (l.length + 1) cv) (sz2 : Int) kd2 hd 0 (mfn S mo2)) ∧ Hid (IZ wx w.heap.size) ∧ Hid (wx.ownsRow B 5 1 (.slice (some ⟨gv, 0, none⟩) (l.length + 1) cv) (l.length + 1) ((l ++ [c]).map byteV)) ∧ Hid (KS S v w wx) ∧ Hid (w.heap.size < J) ∧ Hid (J ≠ S) ∧ Hid (mo = 4 → ¬ kk = 0 → mOut W3 wx (l ++ [c]) o1 o2))
  case first =>
    rcases hmo5 with rfl | rfl | rfl | rfl | rfl
    all_goals
      simp only [mid] at HMN s8
      go_wp2_with fail
      clear s0 s1 s2 s3 s4 s5 s6 s7 s8
      refine HMN.out.mono ?_
      rintro e w4 ⟨o1, o2, rfl, hm, hq1, hq2⟩
      obtain ⟨p, ty, ch, ax, nx, ay, ny, hmi⟩ := HIF.out (o1.map (fun g => (⟨g, 0, none⟩ : Addr))) (o2.map (fun g => (⟨g, 0, none⟩ : Addr)))
      rw [hmi]
      have HMI := hide hmi
      have HS4 := hide hq1
      have HI4 : Hid (IZ w4 w.heap.size) := (hq2.2.2.2.2 _ hz3 hne2).trans HI3.out
      have HO4 : Hid (w4.ownsRow B 5 1 (.slice (some ⟨gv, 0, none⟩) (l.length + 1) cv) (l.length + 1) ((l ++ [c]).map byteV)) := own_kp HO3.out hq2 hgS
      have HK4 := hide (KS.self HK3.out hq2)
      have hz4 : w.heap.size < w4.heap.size := HI4.out.lt
      have hSl4 : S < w4.heap.size := hq1.lt
      have HMT := hide hm
      clear hmi hq1 hq2 hm HMN
      unfold itV
      go_wp2_with fail
      go_meet
      exact ⟨o1, o2, w4.heap.size, p, ty, ch, ax, nx, ay, ny, rfl, rfl, HMI, hide (heap_alloc_new _ _), hide (HS4.out.alloc _), hide (IB.below HI4.out (below_box w4 _) hz4), hide (HO4.out.alloc _), hide (Kp.below HK4.out (below_box w4 _)), hide hz4, hide (by omega), hide (fun h4 hk => (HMT.out h4 (HKL.out h4 hk)).alloc _)⟩
  case rest =>
    obtain ⟨o1, o2, J, p, ty, ch, ax, nx, ay, ny, rfl, rfl, HMI, HJ, HS5, HI5, HO5, HK5, HJw, HJS, HMT⟩ := hcut
    rename World => w5
    have HZ3 : Hid (w.heap.size < W3.heap.size ∧ S < W3.heap.size) := ⟨hz3, HS3.out.lt⟩
    clear s0 s1 s2 s3 s4 s5 s6 s7 s8 HMN hmo5 hz3 HS3 HI3 HO3 HK3 hV V
    obtain ⟨s0, s1, s2, s3, s4, s5, s6, s7, s8⟩ := HS5.out.cells
    have g2 := HS5.out.frozen 2
    have g3 := HS5.out.frozen 3
    have g7 := HS5.out.frozen 7
    obtain ⟨⟨j0, j1, j2, j3, j4, j5⟩, _⟩ := HJ.out.facts
    obtain ⟨⟨i0', i1, i2, i3, i4, i5⟩, hif⟩ := HI5.out.facts
    have f0 := hif 0
    have f1 := hif 1
    have f2 := hif 2
    have f3 := hif 3
    have f4 := hif 4
    have f5 := hif 5
    have hlt5 : w.heap.size < w5.heap.size := HI5.out.lt
    have hJR : J ≠ w.heap.size := by have := HJw.out; omega
    have hRJ : w.heap.size ≠ J := by have := HJw.out; omega
    have hJS : J ≠ S := HJS.out
    have hSJ : S ≠ J := fun e => hJS e.symm
    clear hif
    have HNR : Hid ((Value.slice (some ⟨gv, 0, none⟩) (l.length + 1) cv).ownBlock ≠ some w.heap.size) := own_ne_it HO5.out HI5.out
    have HPO : Hid (∀ e W, StepP S mo B lim tk at_ sz kd hd v l c w e W ↔ ∃ (o1 o2 : Option Nat) (v' : Value), (¬ E = 0 → e = .returned it0 ∧ StB W S lim (tk + 1) at_ (.slice none 0 0) (sz2 : Int) kd2 hd E (mfn S mo2)) ∧ (E = 0 → kk = 0 → e = .returned it0 ∧ StB W S lim (tk + 1) at_ v' (sz2 : Int) kd2 hd 0 (mfn S mo2) ∧ W.ownsRow B 5 1 v' (l.length + 1) ((l ++ [c]).map byteV)) ∧ (E = 0 → ¬ kk = 0 → e = .returned (MI (o1.map (fun g => (⟨g, 0, none⟩ : Addr))) (o2.map (fun g => (⟨g, 0, none⟩ : Addr)))) ∧ StB W S lim (tk + 1) (tk + 1) (.slice none 0 0) (sz2 : Int) kd2 false 0 (mfn S 1) ∧ (mo = 4 → mOut w W (l ++ [c]) o1 o2)) ∧ (v'.ownBlock = v.ownBlock ∨ ∃ g, v'.ownBlock = some g ∧ w.heap.size ≤ g) ∧ KS S v w W) := fun e W => by
      unfold StepP
      rw [HEE.out, HKK.out, HSZ.out, HKD.out, HMO.out, HMM.out]
    by_cases hE : E = 0
    · subst hE
      by_cases hk : kk = 0
      · subst hk
        go_wp2
        refine bodyPost_ret (v := itV 0 p ty ch (.slice ax nx nx) (.slice ay ny ny)) (by simp [results, Try.results48, go_sem, i0', i1, i2, i3, i4, i5, hlt5, hne, hne2, it0, itV]) rfl ((HPO.out _ _).2 ⟨o1, o2, _, fun h => by simp at h, fun _ _ => ⟨?_, ?_, ?_⟩, fun _ h => by simp at h, HVV.out, ?_⟩)
        · rw [← HMI.out, HIN.out _ _ (by first | trivial | rfl)]
        · exact ((((((HS5.out).setOther hne2 _).setOther hne2 _).setOther hne2 _).setOther hne2 _).setOther hne2 _).setOther hne2 _
        · exact own_set (own_set (own_set (own_set (own_set (own_set (HO5.out) HNR.out 0 _) HNR.out 1 _) HNR.out 2 _) HNR.out 3 _) HNR.out 4 _) HNR.out 5 _
        · exact KS.fresh (KS.fresh (KS.fresh (KS.fresh (KS.fresh (KS.fresh (HK5.out) (Nat.le_refl _) _) (Nat.le_refl _) _) (Nat.le_refl _) _) (Nat.le_refl _) _) (Nat.le_refl _) _) (Nat.le_refl _) _
      · have HSX : Hid (StB ((w5.setCell ⟨S, 2, none⟩ (.int .i64 (tk + 1))).setCell ⟨S, 3, none⟩ (.slice none 0 0)) S lim (tk + 1) (tk + 1) (.slice none 0 0) (sz2 : Int) kd2 hd 0 (mfn S mo2)) := (HS5.out.setAt (tk + 1)).setHeld _
        have HJX : Hid (IB ((w5.setCell ⟨S, 2, none⟩ (.int .i64 (tk + 1))).setCell ⟨S, 3, none⟩ (.slice none 0 0)) J (.int .i64 kk) (.int .i64 p) (.int .i64 ty) (.int .i64 ch) (.slice ax nx nx) (.slice ay ny ny)) := (HJ.out.setOther hSJ _).setOther hSJ _
        have HIX : Hid (IZ ((w5.setCell ⟨S, 2, none⟩ (.int .i64 (tk + 1))).setCell ⟨S, 3, none⟩ (.slice none 0 0)) w.heap.size) := IB.setOther (IB.setOther HI5.out hne _) hne _
        have HKX : Hid (KS S v w ((w5.setCell ⟨S, 2, none⟩ (.int .i64 (tk + 1))).setCell ⟨S, 3, none⟩ (.slice none 0 0))) := (HK5.out.set 2 _).set 3 _
        go_wp2_with fail
        clear s0 s1 s2 s3 s4 s5 s6 s7 s8 g2 g3 g7 j0 j1 j2 j3 j4 j5 i0' i1 i2 i3 i4 i5 f0 f1 f2 f3 f4 f5
        refine (awaitFrame_any S lim (tk + 1) (tk + 1) (.slice none 0 0) (sz2 : Int) kd2 hd 0 (mfn S mo2) _ HSX.out).mono ?_
        rintro e w6 ⟨rfl, hs6, hk6⟩
        have HS6 := hide hs6
        have HJ6 : Hid (IB w6 J (.int .i64 kk) (.int .i64 p) (.int .i64 ty) (.int .i64 ch) (.slice ax nx nx) (.slice ay ny ny)) := (hk6.2.2.2.2 J HJX.out.lt hJS).trans HJX.out
        have HI6 : Hid (IZ w6 w.heap.size) := (hk6.2.2.2.2 _ HIX.out.lt hne2).trans HIX.out
        have HK6 := hide (KS.self HKX.out hk6)
        have HM6 : Hid (mo = 4 → mOut W3 w6 (l ++ [c]) o1 o2) := fun h4 => (((HMT.out h4 hk).set HZ3.out.2 _).set HZ3.out.2 _).kp hk6 HZ3.out.2
        clear hs6 hk6
        obtain ⟨⟨j0, j1, j2, j3, j4, j5⟩, _⟩ := HJ6.out.facts
        obtain ⟨⟨i0', i1, i2, i3, i4, i5⟩, hif⟩ := HI6.out.facts
        have f0 := hif 0
        have f1 := hif 1
        have f2 := hif 2
        have f3 := hif 3
        have f4 := hif 4
        have f5 := hif 5
        have hlt5 : w.heap.size < w6.heap.size := HI6.out.lt
        clear hif
        go_wp2
        refine bodyPost_ret (v := itV kk p ty ch (.slice ax nx nx) (.slice ay ny ny)) (by simp [results, Try.results48, go_sem, i0', i1, i2, i3, i4, i5, hlt5, hne, hne2, it0, itV]) rfl ((HPO.out _ _).2 ⟨o1, o2, _, fun h => by simp at h, fun _ h => absurd h hk, fun _ _ => ⟨?_, ?_, fun h4 => ?_⟩, HVV.out, ?_⟩)
        · rw [← HMI.out]
        · exact ((((((HS6.out).setOther hne2 _).setOther hne2 _).setOther hne2 _).setOther hne2 _).setOther hne2 _).setOther hne2 _
        · exact mOut.base (((((((HM6.out h4).set HZ3.out.1 _).set HZ3.out.1 _).set HZ3.out.1 _).set HZ3.out.1 _).set HZ3.out.1 _).set HZ3.out.1 _) (Nat.le_of_lt HZ3.out.1)
        · exact KS.fresh (KS.fresh (KS.fresh (KS.fresh (KS.fresh (KS.fresh (HK6.out) (Nat.le_refl _) _) (Nat.le_refl _) _) (Nat.le_refl _) _) (Nat.le_refl _) _) (Nat.le_refl _) _) (Nat.le_refl _) _
    · go_wp2
      refine bodyPost_ret (v := it0) (by simp [results, Try.results48, go_sem, i0', i1, i2, i3, i4, i5, hlt5, hne, hne2, it0, itV]) rfl ((HPO.out _ _).2 ⟨o1, o2, _, fun _ => ⟨rfl, ?_⟩, fun h => absurd h hE, fun h => absurd h hE, HVV.out, ?_⟩)
      · exact (((((((HS5.out.setEr E).setHeld (.slice none 0 0)).setOther hne2 _).setOther hne2 _).setOther hne2 _).setOther hne2 _).setOther hne2 _).setOther hne2 _
      · exact KS.fresh (KS.fresh (KS.fresh (KS.fresh (KS.fresh (KS.fresh ((HK5.out.set 7 _).set 3 _) (Nat.le_refl _) _) (Nat.le_refl _) _) (Nat.le_refl _) _) (Nat.le_refl _) _) (Nat.le_refl _) _) (Nat.le_refl _) _
end Go.Proofs.Ytaijcnkmklibcaa
