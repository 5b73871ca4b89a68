import Derived.Test.YtgpimajdcfoigaaDoorB48
import Derived.Test.YtgpimajdcfoigaaDoorB32
import Derived.Test.YtgpimajdcfoigaaDoorB25
import Derived.Test.YtgpimajdcfoigaaDoorB16
import Derived.Test.YtgpimajdcfoigaaDoorB33

/- codec.Decode, Whole, Shortest: of any bytes. -/
namespace Go.Proofs.YtgpimajdcfoigaaDoor
open Go.RowKit
set_option linter.unusedVariables false
set_option linter.unusedSimpArgs false
/-- a fault has a number -/
def Nz {α : Type} (r : Res α) : Prop := ∀ x, r = .error x → x.2 ≠ 0
theorem Nz.bind {α β : Type} {r : Res α} {K : α → Res β} (h : Nz r) (hk : ∀ a, Nz (K a)) : Nz (bindR r K) := by
  cases r with
  | ok a => exact hk a
  | error x => exact fun y hy => by cases hy; exact h x rfl
theorem Nz.okk {α : Type} (a : α) : Nz (.ok a : Res α) := fun x h => by cases h
theorem Nz.err {α : Type} {x : Int × Int} (h : x.2 ≠ 0) : Nz (.error x : Res α) := fun y hy => by cases hy; exact h
theorem nz_short (n : Nat) (sz : Int) : (shortC n sz).2 ≠ 0 := by unfold shortC; split <;> simp
theorem nz_num (l : List Nat) (p fin : Nat) (sz : Int) (w : Nat) : Nz (rnum l p fin sz w) := by
  unfold rnum
  split
  · exact Nz.okk _
  · exact Nz.err (nz_short _ _)
theorem nz_bytes (l : List Nat) (p fin : Nat) (sz : Int) (w : Nat) : Nz (rbytes l p fin sz w) := by
  unfold rbytes
  split
  · exact Nz.okk _
  · exact Nz.err (nz_short _ _)
theorem nz_val (l : List Nat) (D : Nat → Nat → Nat → Nat → Nat → Int → Res (T × Nat)) (f : Nat) (hD : f ≠ 0 → ∀ k c place p fin sz, Nz (D k c place p fin sz)) (p fin : Nat) (sz : Int) : Nz (rvalG l D f p fin sz) := by
  rw [rvalG_b]
  refine (nz_num _ _ _ _ _).bind fun c => ?_
  split
  · exact Nz.err (by simp)
  · split
    · exact Nz.err (by simp)
    · exact hD (by assumption) _ _ _ _ _ _
theorem nz_many {R : Nat → Res (T × Nat)} (hR : ∀ p, Nz (R p)) : ∀ n p, Nz (rmany R n p)
  | 0, p => by rw [rmany]; exact Nz.okk _
  | n + 1, p => by
    rw [rmany_b]
    exact (hR p).bind fun xq => (nz_many hR n xq.2).bind fun ys => Nz.okk _
theorem nz_span {α : Type} (l : List Nat) (w least p fin : Nat) (sz : Int) (inner : Nat → Nat → Nat → Int → Res (α × Nat)) (hi : ∀ c q fin sz, Nz (inner c q fin sz)) : Nz (rspan l w least p fin sz inner) := by
  rw [rspan_b]
  refine (nz_num _ _ _ _ _).bind fun size => ?_
  split
  · exact Nz.err (by simp)
  split
  · exact Nz.err (nz_short _ _)
  refine (nz_num _ _ _ _ _).bind fun count => (hi _ _ _ _).bind fun xq => ?_
  split
  · exact Nz.err (by simp)
  · exact Nz.okk _
theorem nz_dat (B : Nat → ByteArray → Int) (W : List T → Bool) (l : List Nat) : ∀ f, f ≠ 0 → ∀ k c place p fin sz, Nz (rdat B W l f k c place p fin sz)
  | 0 => fun h => absurd rfl h
  | f + 1 => fun _ k c place p fin sz => by
    have ih := nz_dat B W l f
    have iv := nz_val l (rdat B W l f) f ih
    rw [rdat_b]
    split
    · exact (iv _ _ _).bind fun dq => (iv _ _ _).bind fun vq => Nz.okk _
    split
    · exact Nz.okk _
    split
    · exact (nz_bytes _ _ _ _ _).bind fun s => Nz.okk _
    split
    · refine Nz.bind ?_ fun _ => Nz.okk _
      rw [rtext_b]
      refine (nz_num _ _ _ _ _).bind fun n => (nz_bytes _ _ _ _ _).bind fun s => ?_
      split
      · exact Nz.err (by simp)
      · exact Nz.okk _
    split
    · refine Nz.bind ?_ fun _ => Nz.okk _
      rw [relems_b]
      refine (nz_span _ _ _ _ _ _ _ fun c q fin sz => ?_).bind fun xq => ?_
      · split
        · exact Nz.err (by simp)
        split
        · exact Nz.err (by simp)
        exact nz_many (fun p => iv _ _ _) _ _
      · split
        · exact Nz.err (by simp)
        · exact Nz.okk _
    split
    · refine Nz.bind ?_ fun _ => Nz.okk _
      rw [rarr_b]
      refine nz_span _ _ _ _ _ _ _ fun c q fin sz => ?_
      unfold rarrI
      refine (nz_num _ _ _ _ _).bind fun c => ?_
      split
      · refine (nz_many (fun p => ?_) _ _).bind fun _ => Nz.okk _
        split
        · exact Nz.err (by simp)
        · exact ih (by assumption) _ _ _ _ _ _
      · exact Nz.err (by simp)
    · refine Nz.bind ?_ fun _ => Nz.okk _
      rw [rnumber_b]
      refine (nz_num _ _ _ _ _).bind fun m => ?_
      split
      · exact Nz.okk _
      · split
        · exact Nz.okk _
        · exact Nz.err (by simp)
theorem nz_dec (B : Nat → ByteArray → Int) (W : List T → Bool) (l : List Nat) (p : Nat) : Nz (rdec B W l p) := by
  have h := nz_val l (rdat B W l 32) 32 (nz_dat B W l 32) p l.length (-1)
  intro x hx
  unfold rdec rval at hx
  cases hr : rvalG l (rdat B W l 32) 32 p l.length (-1) with
  | error y => rw [hr] at hx; cases hx; exact h x hr
  | ok vq =>
    rw [hr] at hx
    obtain ⟨v, q⟩ := vq
    simp only at hx
    split at hx
    · cases hx; simp
    · cases hx
/-- Decode at a place that is there -/
theorem decode_any (a : Option Addr) (n cap p : Nat) (l : List Nat) (w : World) (hB : Bts w a n cap l) (hp : p ≤ n) : Calls Tryd.prog 10 #[.slice a n cap, .int .i64 (p : Int)] w (DecOut (rdec badB twiceW l p) p n w) := by
  refine decode_of a n cap p l w hB hp ?_
  refine val_of 32 _ a n cap p n (-1) l _ (hB.src p) (decW_boxes w a n cap p).2.2.2 hp (Nat.le_refl _) ?_
  intro c k h1 h2 h3
  refine dat_all 32 h3 c k ?_ h2
  have h4 := rnum_lt l hB.rd.2.1 h1
  simpa using h4
theorem Rd.below2 {w w' : World} {a : Option Addr} {n : Nat} {l : List Nat} (h : Rd w a n l) (hb : Below w.heap.size w w') : Rd w' a n l := h.below hb
theorem Bts.below2 {w w' : World} {a : Option Addr} {n cap : Nat} {l : List Nat} (h : Bts w a n cap l) (hb : Below w.heap.size w w') : Bts w' a n cap l :=
  ⟨h.rd.below hb, h.room, h.small, fun h0 x hx => Nat.lt_of_lt_of_le (h.apart h0 x hx) hb.size, h.tab.below hb, tabs_below h.utf hb, Nat.le_trans h.pos hb.size⟩
theorem whole_any (a : Option Addr) (n cap : Nat) (l : List Nat) (w : World) (hB : Bts w a n cap l) : Calls Tryd.prog 11 #[.slice a n cap] w (WholeOut (rwhole l) w) :=
  whole_of a n cap l w hB.rd.1 hB.small (nz_dec _ _ _ _) (fun W1 hW => decode_any a n cap 0 l W1 (hB.below2 hW) (Nat.zero_le _))
theorem nz_whole (l : List Nat) : Nz (rwhole l) := by
  intro x hx
  unfold rwhole at hx
  cases hr : rdec badB twiceW l 0 with
  | error y => rw [hr] at hx; cases hx; exact nz_dec _ _ _ _ x hr
  | ok vq =>
    rw [hr] at hx
    obtain ⟨v, q⟩ := vq
    simp only at hx
    split at hx
    · cases hx; simp
    · cases hx
theorem rwhole_ok {l : List Nat} {t : T} (h : rwhole l = .ok t) : rdec badB twiceW l 0 = .ok (t, l.length) := by
  unfold rwhole at h
  cases hr : rdec badB twiceW l 0 with
  | error y => rw [hr] at h; cases h
  | ok vq =>
    rw [hr] at h
    obtain ⟨v, q⟩ := vq
    simp only at h
    split at h
    · cases h
    · cases h
      have := (rdec_far badB twiceW l hr).2.1
      congr 2
      omega
theorem shortest_any (a : Option Addr) (n cap : Nat) (l : List Nat) (w : World) (hB : Bts w a n cap l) (hn : 0 < n) :
    Calls Tryd.prog 13 #[.slice a n cap] w fun e w' => ∃ b : Bool, e = .returned (.bool b) ∧ Hid (b = true ↔ shortP l) ∧ Below w.heap.size w w' :=
  shortest_of a n cap l w hB hn (nz_whole l) (fun t ht => by
    have h := rdec_rg badB twiceW l hB.rd.2.1 (Nat.zero_le _) (rwhole_ok ht)
    omega) (whole_any a n cap l w hB)
end Go.Proofs.YtgpimajdcfoigaaDoor


/- longshoreref02's Great. -/
namespace Go.Proofs.YtgpimajdcfoigaaDoor
open Go.RowKit
set_option linter.unusedVariables false
set_option linter.unusedSimpArgs false

/-- Great -/
theorem great_any (x : V) (n₀ : Nat) (w : World) (hn : n₀ ≤ w.heap.size) (hx : Lies n₀ w x) :
    Calls Tryd.prog 7 #[x.val] w fun e w' => (e = .returned (.bool true) ∧ Below w.heap.size w w') ∨ (e = .returned (.bool false) ∧ T.wt x.t ≤ 100000 ∧ Below w.heap.size w w') := by
  rw [V.val_eq]
  have HW : Hid (∀ w1, Below w.heap.size w w1 → Calls Tryd.prog 15 #[.agg #[.int .i64 x.k, .int .u64 x.n, .string x.s, .slice x.a x.l.length x.c, .int .i64 x.e], .int .i64 0] w1 fun e w' => ∃ z, e = .returned (.int .i64 z) ∧ Hid (0 ≤ z ∧ z ≤ 35184372088832 ∧ (z ≤ 100000 → z = 0 + T.wt x.t)) ∧ Below w1.heap.size w1 w') := by
    intro w1 hb
    have := weigh_any x 0 n₀ w1 (by have := hb.size; omega) (hx.keep hb hn) (by omega) (by omega)
    rwa [V.val_eq] at this
  clear hx
  go_enter Tryd.func7, Tryd.ntmps7
  go_wp2_with fail
  refine Calls.mono (HW.out _ (bel1 (Below.refl _ _) (Nat.le_refl _) _)) ?_
  rintro e w1 ⟨z, rfl, HZ, hb1⟩
  have hbw := belOn (bel1 (Below.refl w.heap.size w) (Nat.le_refl _) _) (by simp) hb1
  by_cases hz : z ≤ 100000
  · go_wp2
    go_ret
    exact .inr ⟨by first | rfl | (simp; omega), by have := HZ.out.2.2 hz; omega, hbw⟩
  · go_wp2
    go_ret
    exact .inl ⟨by first | rfl | (simp; omega), hbw⟩

end Go.Proofs.YtgpimajdcfoigaaDoor


/- CodecCuts: the walk. -/
namespace Go.Proofs.YtgpimajdcfoigaaDoor
open Go.RowKit
set_option linter.unusedVariables false
set_option linter.unusedSimpArgs false
theorem rd_take2 {w : World} {a : Option Addr} {n m : Nat} {l : List Nat} (h : Rd w a n l) (hm : m ≤ n) : Rd w a m (l.take m) := by
  refine ⟨by rw [List.length_take, h.1]; omega, fun c hc => h.2.1 c (List.mem_of_mem_take hc), fun h0 => ?_⟩
  obtain ⟨b, off, ha, hlt, hc⟩ := h.2.2 (by omega)
  refine ⟨b, off, ha, hlt, fun j hj => ?_⟩
  rw [hc j (by omega)]
  simp [List.getD_eq_getElem?_getD, List.getElem?_take, hj]
/-- what is written is read -/
theorem enc_dec (v : V) (hg : Gd badB twiceW v.t 32) (hl : T.len v.t ≤ 1048576) : rdec badB twiceW (T.enc v.t) 0 = .ok (v.t, (T.enc v.t).length) := by
  have he := enc_len badB twiceW v.t 32 hg
  have hb : T.body v.t + 16 < 4294967296 := by have := hl; unfold T.len at this; omega
  unfold rdec
  rw [val_back badB twiceW v 32 0 (T.enc v.t).length (-1) (T.enc v.t) hg hb (by simp) (by omega)]
  simp only
  rw [if_neg (by omega)]
  simp
theorem cut_dec (v : V) (hg : Gd badB twiceW v.t 32) (hl : T.len v.t ≤ 1048576) (m : Nat) (hm : m < T.len v.t) : rdec badB twiceW ((T.enc v.t).take m) 0 = .error ((m : Int), 10) ∧ rwhole ((T.enc v.t).take m) = .error ((m : Int), 10) := by
  have he := enc_len badB twiceW v.t 32 hg
  have h1 : rdec badB twiceW ((T.enc v.t).take m) 0 = .error ((m : Int), 10) := by
    have := rdec_cut badB twiceW ((T.enc v.t).take m) ((T.enc v.t).drop m) v.t (fun h => by
      have := congrArg List.length h
      simp at this
      omega) (by rw [List.take_append_drop]; exact enc_dec v hg hl)
    rw [this, List.length_take]
    congr 2
    omega
  exact ⟨h1, by unfold rwhole; rw [h1]⟩
theorem wf64 {k : Int} (h : (Lit.int .i64 k).wf = true) : -9223372036854775808 ≤ k ∧ k ≤ 9223372036854775807 := by
  simpa [Lit.wf, IntKind.min, IntKind.max, IntKind.signed, IntKind.bits] using h
set_option maxRecDepth 100000 in
set_option maxHeartbeats 4000000 in
theorem cuts_walk (v : V) (k : Int) (w : World) (hv : Lies w.heap.size w v) (wk : (Lit.int .i64 k).wf = true) (hT : SzTab w) (hU : Lib.Utf8Tabs 1 2 w) :
    Calls Tryd.prog 4 #[v.val, .int .i64 k] w fun e w' => e = .returned (.bool true) ∧ Below w.heap.size w w' := by
  have hk : -9223372036854775808 ≤ k ∧ k ≤ 9223372036854775807 := wf64 wk
  clear wk
  have HTB : Hid (∀ W1, Below w.heap.size w W1 → SzTab W1 ∧ Lib.Utf8Tabs 1 2 W1) := fun W1 hW => ⟨hT.below hW, tabs_below hU hW⟩
  have HLV : Hid (∀ W1, Below w.heap.size w W1 → Lies w.heap.size W1 v) := fun W1 hW => hv.keep hW (Nat.le_refl _)
  have HAW : Hid (∀ W1, Below w.heap.size w W1 → Calls Tryd.prog 6 #[] W1 fun e w' => e = .returned (.bool true) ∧ Below W1.heap.size W1 w') := fun W1 hW => awake_any W1 (hT.below hW) (tabs_below hU hW)
  obtain ⟨W0, hW0⟩ : ∃ W0, w.alloc (Obj.cells #[.int .i64 v.k, .int .u64 v.n, .string v.s, .slice v.a v.l.length v.c, .int .i64 v.e] 25) = W0 := ⟨_, rfl⟩
  have hb0 : Below w.heap.size w W0 := by rw [← hW0]; exact bel1 (Below.refl _ _) (Nat.le_refl _) _
  have hx0 : W0.heap[w.heap.size]? = some (.cells #[.int .i64 v.k, .int .u64 v.n, .string v.s, .slice v.a v.l.length v.c, .int .i64 v.e] 25) := by rw [← hW0]; exact World.alloc_heap_new _ _
  have hz0 : W0.heap.size = w.heap.size + 1 := by rw [← hW0]; simp
  have HBX : Hid (∀ W1, Below W0.heap.size W0 W1 → BoxC W1 w.heap.size v ∧ w.heap.size < W1.heap.size ∧ Below w.heap.size w W1) := fun W1 hW => by
    have e0 := (hW.block _ (by omega)).trans hx0
    exact ⟨by simp [BoxC, World.cell?, e0], by have := hW.size; omega, belOn hb0 (by omega) hW⟩
  have HW0 := hide hW0
  have HB0 := hide hb0
  have HK := hide hk
  clear hW0 hx0 hz0 hv hT hU hb0 hk
  rw [V.val_eq]
  go_enter Tryd.func4, Tryd.ntmps4
  go_wp2_with fail
  rw [HW0.out]
  refine Calls.mono (HAW.out _ HB0.out) ?_
  rintro e1 w1 ⟨rfl, hb1⟩
  have HB1 := hide hb1
  obtain ⟨⟨c0, c1, c2, c3, c4⟩, hz1, hbw1⟩ := HBX.out w1 hb1
  have hga := great_any v w.heap.size w1 hbw1.size (HLV.out _ hbw1)
  rw [V.val_eq] at hga
  have HGA := hide hga
  clear hb1 hga
  go_wp2_with fail
  refine Calls.mono HGA.out ?_
  rintro e2 w2 (⟨rfl, hb2⟩ | ⟨rfl, hwt, hb2⟩)
  · go_wp2
    go_ret
    exact ⟨rfl, belOn hbw1 hbw1.size hb2⟩
  · have HB2 : Hid (Below W0.heap.size W0 w2) := belOn HB1.out HB1.out.size hb2
    clear c0 c1 c2 c3 c4 hb2
    obtain ⟨⟨c0, c1, c2, c3, c4⟩, hz2, hbw2⟩ := HBX.out w2 HB2.out
    have hev := encode_any v w.heap.size w2 (by omega) (HLV.out _ hbw2) (HTB.out _ hbw2).1 (HTB.out _ hbw2).2 (by omega)
    rw [V.val_eq] at hev
    have HEV := hide hev
    clear hev
    go_wp2_with fail
    refine Calls.mono HEV.out ?_
    clear c0 c1 c2 c3 c4
    rintro e3 w3 (⟨hz3, rfl, hb3⟩ | ⟨hz3, g, rfl, HG, hb3⟩)
    · have hzb : (encE v == 0) = false := by rw [beq_eq_false_iff_ne]; exact hz3
      have hzn : (encE v != 0) = true := by simpa using hz3
      have hbf := belOn hbw2 hbw2.size hb3
      clear hb3
      go_wp2
      go_ret
      exact ⟨rfl, hbf⟩
    · have HB3 : Hid (Below w.heap.size w w3) := belOn hbw2 hbw2.size hb3
      obtain ⟨a1, a2, a3, a4, a5⟩ := HG.out
      have r1 : Rd w3 (some ⟨g, 0, none⟩) (T.len v.t) (T.enc v.t) := by
        have := a2.rd (enc_lt v.t)
        rw [a3] at this
        exact this
      have hg3 : g < w3.heap.size := a2.lt
      have hp1 : 0 < T.len v.t := by unfold T.len; omega
      have HA := hide (And.intro a4 a5)
      have HR := hide r1
      clear hb3 hz3 a1 a2 a3 a4 HG r1
      obtain ⟨L, hL⟩ : ∃ L, T.len v.t = L := ⟨_, rfl⟩
      rw [hL] at a5 hp1 HR ⊢
      have HL := hide hL
      clear hL
      have HBT : Hid (∀ m, m < L → ∀ W1, Below w3.heap.size w3 W1 → Bts W1 (some ⟨g, 0, none⟩) m L ((T.enc v.t).take m)) := fun m hm W1 hW => by
        have hbw := belOn HB3.out HB3.out.size hW
        have hu := (HTB.out _ hbw).2
        exact ⟨(rd_take2 HR.out (by omega)).below hW, by omega, by omega, fun _ x hx => by cases hx; have := hW.size; show g < _; omega, (HTB.out _ hbw).1, hu, tabs_three hu⟩
      have HDE : Hid (∀ m, m < L → ∀ W1, Below w3.heap.size w3 W1 → Calls Tryd.prog 10 #[.slice (some ⟨g, 0, none⟩) m L, .int .i64 0] W1 fun e w' => e = .returned (.tuple #[.agg #[.int .i64 0, .int .u64 0, .string ⟨#[]⟩, .slice none 0 0, .int .i64 0], .int .i64 (m : Int), .int .i64 10]) ∧ Below W1.heap.size W1 w') := fun m hm W1 hW => by
        have h := decode_any (some ⟨g, 0, none⟩) m L 0 _ W1 (HBT.out m hm W1 hW) (Nat.zero_le _)
        rw [(cut_dec v HA.out.1 HA.out.2 m (by have := HL.out; omega)).1] at h
        exact h
      have HWH : Hid (∀ m, m < L → ∀ W1, Below w3.heap.size w3 W1 → Calls Tryd.prog 11 #[.slice (some ⟨g, 0, none⟩) m L] W1 fun e w' => e = .returned (.tuple #[.agg #[.int .i64 0, .int .u64 0, .string ⟨#[]⟩, .slice none 0 0, .int .i64 0], .int .i64 (m : Int), .int .i64 10]) ∧ Below W1.heap.size W1 w') := fun m hm W1 hW => by
        have h := whole_any (some ⟨g, 0, none⟩) m L _ W1 (HBT.out m hm W1 hW)
        rw [(cut_dec v HA.out.1 HA.out.2 m (by have := HL.out; omega)).2] at h
        exact h
      clear HBT
      have hLi : (L : Int) ≠ 0 := by omega
      have hLb : ((L : Int) == 0) = false := by rw [beq_eq_false_iff_ne]; exact hLi
      obtain ⟨K, hK, hK0, hK1⟩ : ∃ K : Nat, (if k < 0 then -(k + 1) else k) = (K : Int) ∧ 0 ≤ K ∧ K ≤ 9223372036854775807 := by
        have := HK.out
        by_cases h : k < 0
        · exact ⟨(-(k + 1)).toNat, by rw [if_pos h]; omega, by omega, by omega⟩
        · exact ⟨k.toNat, by rw [if_neg h]; omega, by omega, by omega⟩
      obtain ⟨m, hm⟩ : ∃ m, K % L = m := ⟨_, rfl⟩
      have hml : m < L := by rw [← hm]; exact Nat.mod_lt _ hp1
      have hmi : (K : Int) % (L : Int) = (m : Int) := by rw [← hm]; simp
      have hmt : (K : Int).tmod (L : Int) = (m : Int) := by rw [Int.tmod_eq_emod_of_nonneg (by omega)]; exact hmi
      have HD := hide (HDE.out m hml)
      have HWW := hide (HWH.out m hml)
      clear HDE HWH hm
      by_cases h0 : k < 0
      · rw [if_pos h0] at hK
        have hw1 : IntKind.i64.wrap (k + 1) = k + 1 := by have := HK.out; rw [IntKind.wrap_i64]; omega
        have hw2 : IntKind.i64.wrap (-(k + 1)) = (K : Int) := by have := HK.out; rw [IntKind.wrap_i64]; omega
        go_wp2_with fail
        refine Calls.mono (HD.out _ (Below.refl _ _)) ?_
        rintro e4 w4 ⟨rfl, hb4⟩
        have HB4 := hide (bel1 hb4 hb4.size (Obj.cells #[.int .i64 0, .int .u64 0, .string ⟨#[]⟩, .slice none 0 0, .int .i64 0] 25))
        clear hb4
        go_wp2_with fail
        refine Calls.mono (HWW.out _ HB4.out) ?_
        rintro e5 w5 ⟨rfl, hb5⟩
        have hb6 := belOn HB3.out HB3.out.size (belOn HB4.out (by have := HB4.out.size; omega) hb5)
        have hb7 := bel1 hb6 hb6.size (Obj.cells #[.int .i64 0, .int .u64 0, .string ⟨#[]⟩, .slice none 0 0, .int .i64 0] 25)
        clear hb5 hb6
        go_wp2
        go_ret
        exact ⟨rfl, hb7⟩
      · rw [if_neg h0] at hK
        subst hK
        go_wp2_with fail
        refine Calls.mono (HD.out _ (Below.refl _ _)) ?_
        rintro e4 w4 ⟨rfl, hb4⟩
        have HB4 := hide (bel1 hb4 hb4.size (Obj.cells #[.int .i64 0, .int .u64 0, .string ⟨#[]⟩, .slice none 0 0, .int .i64 0] 25))
        clear hb4
        go_wp2_with fail
        refine Calls.mono (HWW.out _ HB4.out) ?_
        rintro e5 w5 ⟨rfl, hb5⟩
        have hb6 := belOn HB3.out HB3.out.size (belOn HB4.out (by have := HB4.out.size; omega) hb5)
        have hb7 := bel1 hb6 hb6.size (Obj.cells #[.int .i64 0, .int .u64 0, .string ⟨#[]⟩, .slice none 0 0, .int .i64 0] 25)
        clear hb5 hb6
        go_wp2
        go_ret
        exact ⟨rfl, hb7⟩
end Go.Proofs.YtgpimajdcfoigaaDoor
