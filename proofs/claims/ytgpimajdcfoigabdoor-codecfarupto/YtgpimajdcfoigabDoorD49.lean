import Derived.Test.YtgpimajdcfoigabDoorD48
import Derived.Test.YtgpimajdcfoigabDoorD32
import Derived.Test.YtgpimajdcfoigabDoorD25
import Derived.Test.YtgpimajdcfoigabDoorD17
import Derived.Test.YtgpimajdcfoigabDoorD33
import Derived.BigQuiet
import Derived.Laws.AppendOwnNone
import Derived.Maps.AppendAt

/- codec.Decode, Whole, Shortest: of any bytes. -/
namespace Go.Proofs.YtgpimajdcfoigabDoor
open Go.RowKit
set_option linter.unusedVariables false
set_option linter.unusedSimpArgs false
/-- a fault has a number -/
def Nz {α : Type} (r : Res α) : Prop := ∀ x, r = .error x → x.2 ≠ 0
theorem Nz.bind {α β : Type} {r : Res α} {K : α → Res β} (h : Nz r) (hk : ∀ a, Nz (K a)) : Nz (bindR r K) := by
  cases r with
  | ok a => exact hk a
  | error x => exact fun y hy => by cases hy; exact h x rfl
theorem Nz.okk {α : Type} (a : α) : Nz (.ok a : Res α) := fun x h => by cases h
theorem Nz.err {α : Type} {x : Int × Int} (h : x.2 ≠ 0) : Nz (.error x : Res α) := fun y hy => by cases hy; exact h
theorem nz_short (n : Nat) (sz : Int) : (shortC n sz).2 ≠ 0 := by unfold shortC; split <;> simp
theorem nz_num (l : List Nat) (p fin : Nat) (sz : Int) (w : Nat) : Nz (rnum l p fin sz w) := by
  unfold rnum
  split
  · exact Nz.okk _
  · exact Nz.err (nz_short _ _)
theorem nz_bytes (l : List Nat) (p fin : Nat) (sz : Int) (w : Nat) : Nz (rbytes l p fin sz w) := by
  unfold rbytes
  split
  · exact Nz.okk _
  · exact Nz.err (nz_short _ _)
theorem nz_val (l : List Nat) (D : Nat → Nat → Nat → Nat → Nat → Int → Res (T × Nat)) (f : Nat) (hD : f ≠ 0 → ∀ k c place p fin sz, Nz (D k c place p fin sz)) (p fin : Nat) (sz : Int) : Nz (rvalG l D f p fin sz) := by
  rw [rvalG_b]
  refine (nz_num _ _ _ _ _).bind fun c => ?_
  split
  · exact Nz.err (by simp)
  · split
    · exact Nz.err (by simp)
    · exact hD (by assumption) _ _ _ _ _ _
theorem nz_many {R : Nat → Res (T × Nat)} (hR : ∀ p, Nz (R p)) : ∀ n p, Nz (rmany R n p)
  | 0, p => by rw [rmany]; exact Nz.okk _
  | n + 1, p => by
    rw [rmany_b]
    exact (hR p).bind fun xq => (nz_many hR n xq.2).bind fun ys => Nz.okk _
theorem nz_span {α : Type} (l : List Nat) (w least p fin : Nat) (sz : Int) (inner : Nat → Nat → Nat → Int → Res (α × Nat)) (hi : ∀ c q fin sz, Nz (inner c q fin sz)) : Nz (rspan l w least p fin sz inner) := by
  rw [rspan_b]
  refine (nz_num _ _ _ _ _).bind fun size => ?_
  split
  · exact Nz.err (by simp)
  split
  · exact Nz.err (nz_short _ _)
  refine (nz_num _ _ _ _ _).bind fun count => (hi _ _ _ _).bind fun xq => ?_
  split
  · exact Nz.err (by simp)
  · exact Nz.okk _
theorem nz_dat (B : Nat → ByteArray → Int) (W : List T → Bool) (l : List Nat) : ∀ f, f ≠ 0 → ∀ k c place p fin sz, Nz (rdat B W l f k c place p fin sz)
  | 0 => fun h => absurd rfl h
  | f + 1 => fun _ k c place p fin sz => by
    have ih := nz_dat B W l f
    have iv := nz_val l (rdat B W l f) f ih
    rw [rdat_b]
    split
    · exact (iv _ _ _).bind fun dq => (iv _ _ _).bind fun vq => Nz.okk _
    split
    · exact Nz.okk _
    split
    · exact (nz_bytes _ _ _ _ _).bind fun s => Nz.okk _
    split
    · refine Nz.bind ?_ fun _ => Nz.okk _
      rw [rtext_b]
      refine (nz_num _ _ _ _ _).bind fun n => (nz_bytes _ _ _ _ _).bind fun s => ?_
      split
      · exact Nz.err (by simp)
      · exact Nz.okk _
    split
    · refine Nz.bind ?_ fun _ => Nz.okk _
      rw [relems_b]
      refine (nz_span _ _ _ _ _ _ _ fun c q fin sz => ?_).bind fun xq => ?_
      · split
        · exact Nz.err (by simp)
        split
        · exact Nz.err (by simp)
        exact nz_many (fun p => iv _ _ _) _ _
      · split
        · exact Nz.err (by simp)
        · exact Nz.okk _
    split
    · refine Nz.bind ?_ fun _ => Nz.okk _
      rw [rarr_b]
      refine nz_span _ _ _ _ _ _ _ fun c q fin sz => ?_
      unfold rarrI
      refine (nz_num _ _ _ _ _).bind fun c => ?_
      split
      · refine (nz_many (fun p => ?_) _ _).bind fun _ => Nz.okk _
        split
        · exact Nz.err (by simp)
        · exact ih (by assumption) _ _ _ _ _ _
      · exact Nz.err (by simp)
    · refine Nz.bind ?_ fun _ => Nz.okk _
      rw [rnumber_b]
      refine (nz_num _ _ _ _ _).bind fun m => ?_
      split
      · exact Nz.okk _
      · split
        · exact Nz.okk _
        · exact Nz.err (by simp)
theorem nz_dec (B : Nat → ByteArray → Int) (W : List T → Bool) (l : List Nat) (p : Nat) : Nz (rdec B W l p) := by
  have h := nz_val l (rdat B W l 32) 32 (nz_dat B W l 32) p l.length (-1)
  intro x hx
  unfold rdec rval at hx
  cases hr : rvalG l (rdat B W l 32) 32 p l.length (-1) with
  | error y => rw [hr] at hx; cases hx; exact h x hr
  | ok vq =>
    rw [hr] at hx
    obtain ⟨v, q⟩ := vq
    simp only at hx
    split at hx
    · cases hx; simp
    · cases hx
/-- Decode at a place that is there -/
theorem decode_any (a : Option Addr) (n cap p : Nat) (l : List Nat) (w : World) (hB : Bts w a n cap l) (hp : p ≤ n) : Calls Tryd.prog 9 #[.slice a n cap, .int .i64 (p : Int)] w (DecOut (rdec badB twiceW l p) p n w) := by
  refine decode_of a n cap p l w hB hp ?_
  refine val_of 32 _ a n cap p n (-1) l _ (hB.src p) (decW_boxes w a n cap p).2.2.2 hp (Nat.le_refl _) ?_
  intro c k h1 h2 h3
  refine dat_all 32 h3 c k ?_ h2
  have h4 := rnum_lt l hB.rd.2.1 h1
  simpa using h4
theorem Rd.below2 {w w' : World} {a : Option Addr} {n : Nat} {l : List Nat} (h : Rd w a n l) (hb : Below w.heap.size w w') : Rd w' a n l := h.below hb
theorem Bts.below2 {w w' : World} {a : Option Addr} {n cap : Nat} {l : List Nat} (h : Bts w a n cap l) (hb : Below w.heap.size w w') : Bts w' a n cap l :=
  ⟨h.rd.below hb, h.room, h.small, fun h0 x hx => Nat.lt_of_lt_of_le (h.apart h0 x hx) hb.size, h.tab.below hb, tabs_below h.utf hb, Nat.le_trans h.pos hb.size⟩
theorem whole_any (a : Option Addr) (n cap : Nat) (l : List Nat) (w : World) (hB : Bts w a n cap l) : Calls Tryd.prog 11 #[.slice a n cap] w (WholeOut (rwhole l) w) :=
  whole_of a n cap l w hB.rd.1 hB.small (nz_dec _ _ _ _) (fun W1 hW => decode_any a n cap 0 l W1 (hB.below2 hW) (Nat.zero_le _))
theorem nz_whole (l : List Nat) : Nz (rwhole l) := by
  intro x hx
  unfold rwhole at hx
  cases hr : rdec badB twiceW l 0 with
  | error y => rw [hr] at hx; cases hx; exact nz_dec _ _ _ _ x hr
  | ok vq =>
    rw [hr] at hx
    obtain ⟨v, q⟩ := vq
    simp only at hx
    split at hx
    · cases hx; simp
    · cases hx
theorem rwhole_ok {l : List Nat} {t : T} (h : rwhole l = .ok t) : rdec badB twiceW l 0 = .ok (t, l.length) := by
  unfold rwhole at h
  cases hr : rdec badB twiceW l 0 with
  | error y => rw [hr] at h; cases h
  | ok vq =>
    rw [hr] at h
    obtain ⟨v, q⟩ := vq
    simp only at h
    split at h
    · cases h
    · cases h
      have := (rdec_far badB twiceW l hr).2.1
      congr 2
      omega
theorem shortest_any (a : Option Addr) (n cap : Nat) (l : List Nat) (w : World) (hB : Bts w a n cap l) (hn : 0 < n) :
    Calls Tryd.prog 12 #[.slice a n cap] w fun e w' => ∃ b : Bool, e = .returned (.bool b) ∧ Hid (b = true ↔ shortP l) ∧ Below w.heap.size w w' :=
  shortest_of a n cap l w hB hn (nz_whole l) (fun t ht => by
    have h := rdec_rg badB twiceW l hB.rd.2.1 (Nat.zero_le _) (rwhole_ok ht)
    omega) (whole_any a n cap l w hB)
end Go.Proofs.YtgpimajdcfoigabDoor


/- longshoreref02's Great. -/
namespace Go.Proofs.YtgpimajdcfoigabDoor
open Go.RowKit
set_option linter.unusedVariables false
set_option linter.unusedSimpArgs false

end Go.Proofs.YtgpimajdcfoigabDoor


/- CodecCuts: the walk. -/
namespace Go.Proofs.YtgpimajdcfoigabDoor
open Go.RowKit
set_option linter.unusedVariables false
set_option linter.unusedSimpArgs false
theorem rd_take2 {w : World} {a : Option Addr} {n m : Nat} {l : List Nat} (h : Rd w a n l) (hm : m ≤ n) : Rd w a m (l.take m) := by
  refine ⟨by rw [List.length_take, h.1]; omega, fun c hc => h.2.1 c (List.mem_of_mem_take hc), fun h0 => ?_⟩
  obtain ⟨b, off, ha, hlt, hc⟩ := h.2.2 (by omega)
  refine ⟨b, off, ha, hlt, fun j hj => ?_⟩
  rw [hc j (by omega)]
  simp [List.getD_eq_getElem?_getD, List.getElem?_take, hj]
/-- what is written is read -/
theorem enc_dec (v : V) (hg : Gd badB twiceW v.t 32) (hl : T.len v.t ≤ 1048576) : rdec badB twiceW (T.enc v.t) 0 = .ok (v.t, (T.enc v.t).length) := by
  have he := enc_len badB twiceW v.t 32 hg
  have hb : T.body v.t + 16 < 4294967296 := by have := hl; unfold T.len at this; omega
  unfold rdec
  rw [val_back badB twiceW v 32 0 (T.enc v.t).length (-1) (T.enc v.t) hg hb (by simp) (by omega)]
  simp only
  rw [if_neg (by omega)]
  simp
theorem cut_dec (v : V) (hg : Gd badB twiceW v.t 32) (hl : T.len v.t ≤ 1048576) (m : Nat) (hm : m < T.len v.t) : rdec badB twiceW ((T.enc v.t).take m) 0 = .error ((m : Int), 10) ∧ rwhole ((T.enc v.t).take m) = .error ((m : Int), 10) := by
  have he := enc_len badB twiceW v.t 32 hg
  have h1 : rdec badB twiceW ((T.enc v.t).take m) 0 = .error ((m : Int), 10) := by
    have := rdec_cut badB twiceW ((T.enc v.t).take m) ((T.enc v.t).drop m) v.t (fun h => by
      have := congrArg List.length h
      simp at this
      omega) (by rw [List.take_append_drop]; exact enc_dec v hg hl)
    rw [this, List.length_take]
    congr 2
    omega
  exact ⟨h1, by unfold rwhole; rw [h1]⟩
theorem wf64 {k : Int} (h : (Lit.int .i64 k).wf = true) : -9223372036854775808 ≤ k ∧ k ≤ 9223372036854775807 := by
  simpa [Lit.wf, IntKind.min, IntKind.max, IntKind.signed, IntKind.bits] using h
end Go.Proofs.YtgpimajdcfoigabDoor


/- codec.Decode at a place that is not there. -/
namespace Go.Proofs.YtgpimajdcfoigabDoor
open Go.RowKit
set_option linter.unusedVariables false
set_option linter.unusedSimpArgs false
set_option maxRecDepth 100000 in
set_option maxHeartbeats 1000000 in
theorem decode_arg (a : Option Addr) (n cap : Nat) (at_ : Int) (w : World) (h : at_ < 0 ∨ (n : Int) < at_) :
    Calls Tryd.prog 9 #[.slice a n cap, .int .i64 at_] w fun e w' => e = .returned (.tuple #[.agg #[.int .i64 0, .int .u64 0, .string ⟨#[]⟩, .slice none 0 0, .int .i64 0], .int .i64 0, .int .i64 1]) ∧ Below w.heap.size w w' := by
  have HB : Hid (Below w.heap.size w (((w.alloc (.cells #[.int .i64 0, .int .u64 0, .string ⟨#[]⟩, .slice none 0 0, .int .i64 0] 25)).alloc (.cells #[.int .i64 0] 3)).alloc (.cells #[.int .i64 1] 29))) := bel1 (bel2 (Below.refl _ _) (Nat.le_refl _) _ _) (by simp; omega) _
  rcases h with h | h
  · go_enter_defers Tryd.func9, Tryd.ntmps9
    go_wp2
    refine ⟨.tuple #[.agg #[.int .i64 0, .int .u64 0, .string ⟨#[]⟩, .slice none 0 0, .int .i64 0], .int .i64 0, .int .i64 1], ?_, rfl, HB.out⟩
    simp [results, Tryd.results9, go_sem]
  · have h0 : ¬ at_ < 0 := by omega
    go_enter_defers Tryd.func9, Tryd.ntmps9
    go_wp2
    refine ⟨.tuple #[.agg #[.int .i64 0, .int .u64 0, .string ⟨#[]⟩, .slice none 0 0, .int .i64 0], .int .i64 0, .int .i64 1], ?_, rfl, HB.out⟩
    simp [results, Tryd.results9, go_sem]
end Go.Proofs.YtgpimajdcfoigabDoor


/- CodecAgain: the walk. -/
namespace Go.Proofs.YtgpimajdcfoigabDoor
open Go.RowKit
set_option linter.unusedVariables false
set_option linter.unusedSimpArgs false
theorem cut_bytes (b off n cap i j : Nat) (hij : i < j) (hj : j ≤ n) (hnc : n ≤ cap) (w : World) :
    (Instr.slice 28 (.slice (some ⟨b, off, none⟩) n cap) (some (.int .i64 (i : Int))) (some (.int .i64 (j : Int))) none).run Tryd.prog w = .ok (.slice (some ⟨b, off + i, none⟩) (j - i) (cap - i)) w := by
  obtain ⟨i0, hi, hzz⟩ := Option.map_eq_some_iff.1 Tryd.info5
  simp only [Prod.mk.injEq] at hzz
  obtain ⟨hz0, hz1, hz2⟩ := hzz
  have h1 : ((i : Int) ≤ (j : Int)) := by omega
  have h2 : ((j : Int) ≤ (cap : Int)) := by omega
  have hij' : i ≤ j := by omega
  have hj' : j ≤ cap := by omega
  have hne : ¬ cap = i := by omega
  have e1 : (⟨b, off, none⟩ : Addr).add i = ⟨b, off + i, none⟩ := by by_cases h : i = 0 <;> simp [Addr.add, h]
  simp [Instr.slice, run_underlying Tryd.underlying28, Instr.sliceBounds, Instr.sliceBound, asIntOf, sizeOf, typeInfo, hi, hz1, hij', hj', go_sem]
  first | (rw [if_neg hne, e1]) | simp [hne, e1] | (split <;> simp_all)
theorem rd_cut {w : World} {b off n : Nat} {l : List Nat} (h : Rd w (some ⟨b, off, none⟩) n l) (p q : Nat) (hpq : p < q) (hq : q ≤ n) : Rd w (some ⟨b, off + p, none⟩) (q - p) ((l.drop p).take (q - p)) := by
  refine ⟨by rw [List.length_take, List.length_drop, h.1]; omega, fun c hc => h.2.1 c (List.mem_of_mem_drop (List.mem_of_mem_take hc)), fun _ => ?_⟩
  obtain ⟨b', off', e, hlt, hc⟩ := h.2.2 (by omega)
  cases e
  refine ⟨b, off + p, rfl, hlt, fun j hj => ?_⟩
  rw [show off + p + j = off + (p + j) by omega, hc (p + j) (by omega)]
  simp [List.getD_eq_getElem?_getD, List.getElem?_drop, List.getElem?_take, hj]
theorem Lies.keep2 {n m : Nat} {W : World} {v : V} (h : Lies n W v) (hnm : n ≤ m) : Lies m W v := LiesIn.keep h (fun _ _ _ => rfl) (fun b hb => by show b < m; have : b < n := hb; omega)
theorem eqT_same (x : T) : eqT x x = true := by
  have := neg_ord x x
  unfold eqT
  simp
  omega
/-- what was read, by itself -/
theorem lone_dec (l : List Nat) (p q : Nat) (t : T) (hp : p ≤ l.length) (h : rdec badB twiceW l p = .ok (t, q)) : rdec badB twiceW ((l.drop p).take (q - p)) 0 = .ok (t, ((l.drop p).take (q - p)).length) := by
  obtain ⟨h1, h2, h3, _⟩ := rdec_far badB twiceW l h
  have e1 : l = l.take p ++ ((l.drop p).take (q - p) ++ l.drop q) := by
    have : l.drop q = (l.drop p).drop (q - p) := by rw [List.drop_drop]; congr 1; omega
    rw [this, List.take_append_drop, List.take_append_drop]
  have e2 : (l.take p).length = p := by rw [List.length_take]; omega
  have e3 : ((l.drop p).take (q - p)).length = q - p := by rw [List.length_take, List.length_drop]; omega
  refine rdec_lone badB twiceW (l.take p) _ (l.drop q) t ?_
  rw [← e1, e2, e3, h]
  congr 2
  omega
end Go.Proofs.YtgpimajdcfoigabDoor


/- CodecBack: the walk. -/
namespace Go.Proofs.YtgpimajdcfoigabDoor
open Go.RowKit
set_option linter.unusedVariables false
set_option linter.unusedSimpArgs false
/-- an append of bytes that came in, or were made -/
theorem wpList_app {w : World} {ops : Array Oper} {rest : List Oper} {o : Oper} {a : Act} {Q : Exit → Act → World → Prop} (hgd : o.guard = none) (s x : Operand)
    (ho : o.op = .call { callee := .builtin .append, args := #[s, x], argTypes := #[28, 28] })
    (base : Nat) (v : Value) (xs ys : List Nat) (hs : a.eval s = v) (hown : w.ownsRow base 5 1 v xs.length (xs.map bV)) (sa : Option Addr) (m c : Nat) (hx : a.eval x = .slice sa m c) (hrd : Rd w sa m ys) (hn : sa = none → m = 0 ∧ c = 0)
    (hsz : xs.length + m ≤ 100000000) (hbase : base ≤ w.heap.size)
    (hK : ∀ v' w', w'.ownsRow base 5 1 v' (xs ++ ys).length ((xs ++ ys).map bV) → w.grownBy w' v.ownBlock → wpList Tryd.prog ops Q rest (a.put o.dst v') w') : wpList Tryd.prog ops Q (o :: rest) a w := by
  obtain ⟨i0, hi0, hzz⟩ := Option.map_eq_some_iff.1 Tryd.info5
  simp only [Prod.mk.injEq] at hzz
  obtain ⟨hz0, hz1, hz2⟩ := hzz
  cases sa with
  | none =>
    obtain ⟨rfl, rfl⟩ := hn rfl
    have hy : ys = [] := List.eq_nil_of_length_eq_zero hrd.1
    subst hy
    refine wpList_append_own_none hgd s x 28 ho base 5 i0 1 Tryd.underlying28 hi0 v xs.length (xs.map bV) hs hown hx (hK v w (by rw [List.append_nil]; exact hown) (World.grownBy.refl _ _))
  | some ad =>
    have hly := hrd.1
    have hnews : ∀ j u, (ys.map bV)[j]? = some u → w.cell? (ad.add j) = some u := fun j u hu => by
      have hj : j < ys.length := by
        have := (List.getElem?_eq_some_iff.1 hu).1
        simpa using this
      obtain ⟨b, off, e, _, hc⟩ := hrd.2.2 (by omega)
      cases e
      have e1 : (⟨b, off, none⟩ : Addr).add j = ⟨b, off + j, none⟩ := by by_cases h : j = 0 <;> simp [Addr.add, h]
      rw [e1, hc j (by omega)]
      rw [List.getElem?_map, List.getElem?_eq_getElem hj] at hu
      simp only [Option.map_some, Option.some.injEq] at hu
      rw [← hu]
      simp [bV, List.getD_eq_getElem?_getD, List.getElem?_eq_getElem hj]
    refine wpList_append_own_at _ hgd s x 28 ho base 5 i0 _ 1 1 Tryd.underlying28 hi0 hz0 hz1 hz2 rfl (by decide) v xs.length (xs.map bV) hs hown ad m c (ys.map bV) hx (by simp; omega) hnews (fun u hu => by
      obtain ⟨y, _, rfl⟩ := List.mem_map.1 hu
      rfl) (by unfold maxLen; omega) (by omega) hbase ?_
    intro v' w' h1 h2 _ _
    refine hK v' w' ?_ h2
    rw [List.length_append, List.map_append, hly]
    exact h1
theorem own_rd {w : World} {base : Nat} {v : Value} {l : List Nat} (h : w.ownsRow base 5 1 v l.length (l.map bV)) (hl : ∀ c ∈ l, c < 256) (h0 : 0 < l.length) : ∃ g cap, v = .slice (some ⟨g, 0, none⟩) l.length cap ∧ l.length ≤ cap ∧ g < w.heap.size ∧ Rd w (some ⟨g, 0, none⟩) l.length l := by
  rcases h.2 with ⟨_, h1⟩ | ⟨g, cap, cur, e, hb, hh, hle, _⟩
  · omega
  · subst e
    refine ⟨g, cap, rfl, hle, (Array.getElem?_eq_some_iff.1 hh).1, rfl, hl, fun _ => ⟨g, 0, rfl, (Array.getElem?_eq_some_iff.1 hh).1, fun j hj => ?_⟩⟩
    rw [Nat.zero_add, World.ownsRow.cellAt h j (by omega), List.getElem?_map, List.getElem?_eq_getElem hj]
    simp [bV, List.getD_eq_getElem?_getD, List.getElem?_eq_getElem hj]
theorem back_dec (v : V) (hg : Gd badB twiceW v.t 32) (hl : T.len v.t ≤ 1048576) (ahead behind : List Nat) : rdec badB twiceW ((ahead ++ T.enc v.t) ++ behind) ahead.length = .ok (v.t, ahead.length + (T.enc v.t).length) := by
  have h := rdec_mv badB twiceW ahead (T.enc v.t) behind 0 (Nat.zero_le _)
  obtain ⟨⟨t', q'⟩, h1, h2, h3⟩ := h.1 _ (enc_dec v hg hl)
  simp only at h2 h3
  rw [Nat.zero_add] at h1
  rw [List.append_assoc, h1, ← h2, h3]
  congr 2
  omega
end Go.Proofs.YtgpimajdcfoigabDoor
