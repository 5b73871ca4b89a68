import Derived.Test.YtgpimajdcfoigabDoorD25
import Derived.Test.YtgpimajdcfoigabDoorD30
import Derived.Laws.IdiomStrings
import Derived.Test.YtgpimajdcfoigabDoorD05
import Derived.Test.YtgpimajdcfoigabDoorD18

/- codec.Whole, Shortest. -/
namespace Go.Proofs.YtgpimajdcfoigabDoor
open Go.RowKit
set_option linter.unusedVariables false
set_option linter.unusedSimpArgs false
theorem mkS_list (l : List Nat) : (mkS l).toList = l.map UInt8.ofNat := by
  rw [ByteArray.toList_eq]
  simp [mkS]
theorem mkS_inj {l m : List Nat} (hl : ∀ c ∈ l, c < 256) (hm : ∀ c ∈ m, c < 256) (h : l.map UInt8.ofNat = m.map UInt8.ofNat) : l = m := by
  have e : ∀ k : List Nat, (∀ c ∈ k, c < 256) → (k.map UInt8.ofNat).map UInt8.toNat = k := fun k hk => by
    rw [List.map_map]
    conv => rhs; rw [← List.map_id k]
    refine List.map_congr_left fun c hc => ?_
    have := hk c hc
    simp
    omega
  rw [← e l hl, ← e m hm, h]
theorem mkS_beq (l m : List Nat) (hl : ∀ c ∈ l, c < 256) (hm : ∀ c ∈ m, c < 256) : ((mkS l).toList == (mkS m).toList) = decide (l = m) := by
  rw [mkS_list, mkS_list, Bool.eq_iff_iff]
  simp only [beq_iff_eq, decide_eq_true_eq]
  exact ⟨mkS_inj hl hm, fun h => by rw [h]⟩
/-- bytes as a text -/
theorem conv8 {w : World} {a : Option Addr} {n : Nat} {l : List Nat} (h : Rd w a n l) (hn : 0 < n) (cap : Nat) : (convert 28 9 (.slice a n cap)).run Tryd.prog w = .ok (.string (mkS l)) w := by
  obtain ⟨b, off, rfl, hlt, hc⟩ := h.2.2 hn
  have hr := run_convert_bytes_back (P := Tryd.prog) w 28 9 5 ⟨b, off, none⟩ cap (l.map UInt8.ofNat) Tryd.underlying28 Tryd.underlying5 Tryd.underlying9 (fun j hj => by
    rw [List.length_map] at hj
    have e1 : (⟨b, off, none⟩ : Addr).add j = ⟨b, off + j, none⟩ := by by_cases h : j = 0 <;> simp [Addr.add, h]
    rw [e1, hc j (by rw [← h.1]; exact hj)]
    have : l[j] < 256 := h.2.1 _ (List.getElem_mem hj)
    simp [List.getD_eq_getElem?_getD, List.getElem?_eq_getElem hj]
    omega)
  rw [List.length_map, h.1] at hr
  rw [hr]
  rfl
theorem bytesEqual_any (a a' : Option Addr) (n n' cap cap' : Nat) (l l' : List Nat) (w : World) (h : Rd w a n l) (h' : Rd w a' n' l') (hn : 0 < n) (hn' : 0 < n') :
    Calls Tryd.prog 21 #[.slice a n cap, .slice a' n' cap'] w fun e w' => e = .returned (.bool (decide (l = l'))) ∧ w = w' := by
  have c1 := conv8 h hn cap
  have c2 := conv8 h' hn' cap'
  have HB := hide (mkS_beq l l' h.2.1 h'.2.1)
  clear h h'
  go_enter Tryd.func21, Tryd.ntmps21
  go_wp2
  go_ret
  refine ⟨?_, rfl⟩
  rw [← HB.out]
  rfl
theorem bel5 {B b : Nat} {w W : World} (h : Below B w W) (hb : B ≤ b) (u0 u1 u2 u3 u4 : Value) : Below B w (((((W.setCell ⟨b, 0, none⟩ u0).setCell ⟨b, 1, none⟩ u1).setCell ⟨b, 2, none⟩ u2).setCell ⟨b, 3, none⟩ u3).setCell ⟨b, 4, none⟩ u4) :=
  ((((h.setCell (p := ⟨b, 0, none⟩) hb u0).setCell (p := ⟨b, 1, none⟩) hb u1).setCell (p := ⟨b, 2, none⟩) hb u2).setCell (p := ⟨b, 3, none⟩) hb u3).setCell (p := ⟨b, 4, none⟩) hb u4
theorem five_far {W : World} {b b' : Nat} (h : b' ≠ b) (u0 u1 u2 u3 u4 : Value) : (((((W.setCell ⟨b, 0, none⟩ u0).setCell ⟨b, 1, none⟩ u1).setCell ⟨b, 2, none⟩ u2).setCell ⟨b, 3, none⟩ u3).setCell ⟨b, 4, none⟩ u4).heap[b']? = W.heap[b']? := by
  rw [heap_far h, heap_far h, heap_far h, heap_far h, heap_far h]
theorem five_size (W : World) (b : Nat) (u0 u1 u2 u3 u4 : Value) : (((((W.setCell ⟨b, 0, none⟩ u0).setCell ⟨b, 1, none⟩ u1).setCell ⟨b, 2, none⟩ u2).setCell ⟨b, 3, none⟩ u3).setCell ⟨b, 4, none⟩ u4).heap.size = W.heap.size := by simp
/-- Whole -/
def rwhole (l : List Nat) : Res T := match rdec badB twiceW l 0 with
  | .error x => .error x
  | .ok (v, q) => if q < l.length then .error ((q : Int), 35) else .ok v
def WholeOut (r : Res T) (w : World) (e : Ending) (w' : World) : Prop :=
  match r with
  | .error x => e = .returned (.tuple #[.agg #[.int .i64 0, .int .u64 0, .string ⟨#[]⟩, .slice none 0 0, .int .i64 0], .int .i64 x.1, .int .i64 x.2]) ∧ Below w.heap.size w w'
  | .ok t => (∃ y : V, e = .returned (.tuple #[.agg #[.int .i64 y.k, .int .u64 y.n, .string y.s, .slice y.a y.l.length y.c, .int .i64 y.e], .int .i64 0, .int .i64 0]) ∧ Hid (y.t = t ∧ LiesIn (fun b => w.heap.size ≤ b ∧ b < w'.heap.size) w' y)) ∧ Below w.heap.size w w'
theorem rdec_ne {l : List Nat} {p : Nat} {x : Int × Int} (h : rdec badB twiceW l p = .error x) : True := trivial
set_option maxRecDepth 100000 in
set_option maxHeartbeats 6000000 in
theorem whole_of (a : Option Addr) (n cap : Nat) (l : List Nat) (w : World) (hln : l.length = n) (hsm : n ≤ 281474976710656) (hne : ∀ x, rdec badB twiceW l 0 = .error x → x.2 ≠ 0) (hD : ∀ W1, Below w.heap.size w W1 → Calls Tryd.prog 9 #[.slice a n cap, .int .i64 0] W1 (DecOut (rdec badB twiceW l 0) 0 n W1)) :
    Calls Tryd.prog 11 #[.slice a n cap] w (WholeOut (rwhole l) w) := by
  have HD := hide hD
  clear hD
  have hbx := bel1 (Below.refl w.heap.size w) (Nat.le_refl _) (Obj.cells #[.int .i64 0, .int .u64 0, .string ⟨#[]⟩, .slice none 0 0, .int .i64 0] 25)
  unfold rwhole
  rw [hln]
  clear hln
  cases hrd : rdec badB twiceW l 0 with
  | error x =>
    have hx2 : (x.2 == 0) = false := by rw [beq_eq_false_iff_ne]; exact hne x hrd
    rw [hrd] at HD
    have HD2 : Hid (∀ W1, Below w.heap.size w W1 → Calls Tryd.prog 9 #[.slice a n cap, .int .i64 0] W1 fun e w' => e = .returned (.tuple #[.agg #[.int .i64 0, .int .u64 0, .string ⟨#[]⟩, .slice none 0 0, .int .i64 0], .int .i64 x.1, .int .i64 x.2]) ∧ Below W1.heap.size W1 w') := HD.out
    clear HD hrd hne
    simp only
    go_enter Tryd.func11, Tryd.ntmps11
    go_wp2_with fail
    refine Calls.mono (HD2.out _ hbx) ?_
    rintro e1 w1 ⟨rfl, hb1⟩
    have hq := (hb1.block w.heap.size (by simp)).trans (World.alloc_heap_new w (Obj.cells #[.int .i64 0, .int .u64 0, .string ⟨#[]⟩, .slice none 0 0, .int .i64 0] 25))
    have k0 := cells_at hq 0
    have k1 := cells_at hq 1
    have k2 := cells_at hq 2
    have k3 := cells_at hq 3
    have k4 := cells_at hq 4
    have z0 := free_at hq
    simp only [List.getElem?_toArray, List.getElem?_cons_zero, List.getElem?_cons_succ] at k0 k1 k2 k3 k4
    have hb2 := belOn hbx (by simp) hb1
    have hz1 : w.heap.size < w1.heap.size := by have := hb1.size; simp at this; omega
    clear hq hb1
    go_wp2
    refine bodyPost_ret (v := .tuple #[.agg #[.int .i64 0, .int .u64 0, .string ⟨#[]⟩, .slice none 0 0, .int .i64 0], .int .i64 x.1, .int .i64 x.2]) ?_ rfl ⟨rfl, ?_⟩
    · simp [results, Tryd.results11, go_sem, k0, k1, k2, k3, k4, hz1]
    · exact (bel5 hb2 (Nat.le_refl _) _ _ _ _ _).alloc (by rw [five_size]; omega) _
  | ok tq =>
    obtain ⟨t, q⟩ := tq
    rw [hrd] at HD
    have HD2 : Hid (∀ W1, Below w.heap.size w W1 → Calls Tryd.prog 9 #[.slice a n cap, .int .i64 0] W1 fun e w' => (∃ y : V, e = .returned (.tuple #[.agg #[.int .i64 y.k, .int .u64 y.n, .string y.s, .slice y.a y.l.length y.c, .int .i64 y.e], .int .i64 (q : Int), .int .i64 0]) ∧ Hid (y.t = t ∧ LiesIn (fun b => W1.heap.size ≤ b ∧ b < w'.heap.size) w' y ∧ 0 ≤ q ∧ q ≤ n)) ∧ Below W1.heap.size W1 w') := HD.out
    clear HD hrd hne
    simp only
    by_cases hqn : q < n
    · rw [if_pos hqn]
      have hqn' : (q : Int) < (n : Int) := by omega
      go_enter Tryd.func11, Tryd.ntmps11
      go_wp2_with fail
      refine Calls.mono (HD2.out _ hbx) ?_
      rintro e1 w1 ⟨⟨y, rfl, HY⟩, hb1⟩
      have hq := (hb1.block w.heap.size (by simp)).trans (World.alloc_heap_new w (Obj.cells #[.int .i64 0, .int .u64 0, .string ⟨#[]⟩, .slice none 0 0, .int .i64 0] 25))
      have k0 := cells_at hq 0
      have k1 := cells_at hq 1
      have k2 := cells_at hq 2
      have k3 := cells_at hq 3
      have k4 := cells_at hq 4
      have z0 := free_at hq
      simp only [List.getElem?_toArray, List.getElem?_cons_zero, List.getElem?_cons_succ] at k0 k1 k2 k3 k4
      have hb2 := belOn hbx (by simp) hb1
      have hz1 : w.heap.size < w1.heap.size := by have := hb1.size; simp at this; omega
      clear hq hb1
      go_wp2
      refine bodyPost_ret (v := .tuple #[.agg #[.int .i64 0, .int .u64 0, .string ⟨#[]⟩, .slice none 0 0, .int .i64 0], .int .i64 (q : Int), .int .i64 35]) ?_ rfl ⟨rfl, ?_⟩
      · simp [results, Tryd.results11, go_sem, k0, k1, k2, k3, k4, hz1]
      · exact (bel5 hb2 (Nat.le_refl _) _ _ _ _ _).alloc (by rw [five_size]; omega) _
    · rw [if_neg hqn]
      have hqn' : ¬ (q : Int) < (n : Int) := by omega
      go_enter Tryd.func11, Tryd.ntmps11
      go_wp2_with fail
      refine Calls.mono (HD2.out _ hbx) ?_
      rintro e1 w1 ⟨⟨y, rfl, HY⟩, hb1⟩
      have hq := (hb1.block w.heap.size (by simp)).trans (World.alloc_heap_new w (Obj.cells #[.int .i64 0, .int .u64 0, .string ⟨#[]⟩, .slice none 0 0, .int .i64 0] 25))
      have k0 := cells_at hq 0
      have k1 := cells_at hq 1
      have k2 := cells_at hq 2
      have k3 := cells_at hq 3
      have k4 := cells_at hq 4
      have z0 := free_at hq
      simp only [List.getElem?_toArray, List.getElem?_cons_zero, List.getElem?_cons_succ] at k0 k1 k2 k3 k4
      have hb2 := belOn hbx (by simp) hb1
      have hz1 : w.heap.size < w1.heap.size := by have := hb1.size; simp at this; omega
      clear hq hb1
      go_wp2
      obtain ⟨g1, g2, _, _⟩ := HY.out
      refine bodyPost_ret (v := .tuple #[.agg #[.int .i64 y.k, .int .u64 y.n, .string y.s, .slice y.a y.l.length y.c, .int .i64 y.e], .int .i64 0, .int .i64 0]) ?_ rfl ⟨⟨y, rfl, g1, g2.keep (fun b hb o => ?_) (fun b hb => ?_)⟩, ?_⟩
      · simp [results, Tryd.results11, go_sem, k0, k1, k2, k3, k4, hz1]
      · simp only [World.size_alloc] at hb
        have hbn : b ≠ w.heap.size := by omega
        refine (World.cell?_alloc_past _ _ _ (by rw [five_size]; exact hb.2)).trans (World.cell?_of_block (five_far hbn _ _ _ _ _))
      · simp only [World.size_alloc] at hb ⊢
        rw [five_size]
        omega
      · exact (bel5 hb2 (Nat.le_refl _) _ _ _ _ _).alloc (by rw [five_size]; omega) _
end Go.Proofs.YtgpimajdcfoigabDoor


/- What is written are bytes: no program. Two values have the same bytes just if they are the same; no bytes are a beginning of another's: no program. -/
namespace Go.Proofs.YtgpimajdcfoigabDoor
set_option linter.unusedVariables false
set_option linter.unusedSimpArgs false
theorem flat_lt' {l : List V} {f : V → List Nat} (h : ∀ x ∈ l, ∀ c ∈ f x, c < 256) : ∀ c ∈ (l.map f).flatten, c < 256 := by
  intro c hc
  obtain ⟨k, hk, hck⟩ := List.mem_flatten.1 hc
  obtain ⟨x, hx, rfl⟩ := List.mem_map.1 hk
  exact h x hx c hck
theorem app_lt {x y : List Nat} (hx : ∀ c ∈ x, c < 256) (hy : ∀ c ∈ y, c < 256) : ∀ c ∈ x ++ y, c < 256 := fun c hc => (List.mem_append.1 hc).elim (hx c) (hy c)
theorem cons_lt {a : Nat} {y : List Nat} (ha : a < 256) (hy : ∀ c ∈ y, c < 256) : ∀ c ∈ a :: y, c < 256 := fun c hc => (List.mem_cons.1 hc).elim (fun e => by rw [e]; exact ha) (hy c)
theorem pick_lt' (k : Nat) (b : Bool) : pickC k b < 256 := by
  by_cases h : k < 25
  · exact pick_lt k h b
  · have h1 : codeS[k]? = none := List.getElem?_eq_none (by simp [codeS]; omega)
    have h2 : codeL[k]? = none := List.getElem?_eq_none (by simp [codeL]; omega)
    unfold pickC
    rw [List.getD_eq_getElem?_getD, List.getD_eq_getElem?_getD, h1, h2]
    cases b <;> simp
theorem code_lt (t : T) : T.code t < 256 := by
  unfold T.code codeG
  split
  · split <;> omega
  split
  · omega
  split
  · omega
  split
  · omega
  · exact pick_lt' _ _
theorem data_lt : ∀ t : T, ∀ c0, ∀ c ∈ T.data t c0, c < 256 := by
  refine V.ind ?_
  intro k n s a cc e l ih c0
  rw [data_of]
  have henc : ∀ c ∈ encs l, c < 256 := flat_lt' (fun x hx => cons_lt (code_lt x) (ih x hx _))
  have hdat : ∀ q, ∀ c ∈ datas q l, c < 256 := fun q => flat_lt' (fun x hx => ih x hx q)
  have hac : T.acode (V.of k n s a cc e l) < 256 := pick_lt' _ _
  split
  · simp
  split
  · exact app_lt (digs_lt _ _) (txt_lt s)
  split
  · exact app_lt (digs_lt _ _) (txt_lt s)
  split
  · exact txt_lt s
  split
  · exact app_lt (digs_lt _ _) (app_lt (digs_lt _ _) (cons_lt hac (hdat _)))
  split
  · exact app_lt (digs_lt _ _) (app_lt (digs_lt _ _) (cons_lt hac (hdat _)))
  split
  · exact app_lt (digs_lt _ _) (app_lt (digs_lt _ _) henc)
  split
  · exact app_lt (digs_lt _ _) (app_lt (digs_lt _ _) henc)
  split
  · exact henc
  · exact digs_lt _ _
theorem enc_lt (t : T) : ∀ c ∈ T.enc t, c < 256 := cons_lt (code_lt t) (data_lt t _)
end Go.Proofs.YtgpimajdcfoigabDoor
namespace Go.Proofs.YtgpimajdcfoigabDoor
set_option linter.unusedVariables false
set_option linter.unusedSimpArgs false
theorem toList_inj {s s' : ByteArray} (h : s.toList = s'.toList) : s = s' := by
  rw [ByteArray.toList_eq, ByteArray.toList_eq] at h
  cases s
  cases s'
  simp only at h
  rw [Array.toList_inj.1 h]
theorem ords_nil {l m : List T} (ih : ∀ x ∈ l, ∀ y, T.ord x y = 0 → (∃ b : V, y = b.t) → x = y) (hm : ∀ y ∈ m, ∃ b : V, y = b.t) (h : T.ords l m = 0) : l = m := by
  induction l generalizing m with
  | nil => cases m with
    | nil => rfl
    | cons y m => simp [T.ords] at h
  | cons x l ihl => cases m with
    | nil => simp [T.ords] at h
    | cons y m =>
      rw [T.ords, lex_zero] at h
      rw [ih x (by simp) y h.1 (hm y (by simp)), ihl (fun z hz => ih z (by simp [hz])) (fun z hz => hm z (by simp [hz])) h.2]
theorem ord_eq : ∀ v : V, ∀ w : V, T.ord v.t w.t = 0 → v.t = w.t := by
  refine V.ind ?_
  intro k n s a c e l ih w h
  obtain ⟨k', n', s', a', c', e', l', rfl⟩ := V.ex w
  rw [V.t_of, V.t_of, T.of, T.of, T.ord_of, V.l_of] at h
  simp only [lex_zero, cmpZ_zero, cmpB_zero, V.k_of, V.n_of, V.s_of, V.e_of] at h
  obtain ⟨h1, h2, h3, h4, h5⟩ := h
  rw [V.t_of, V.t_of, h1, h2, toList_inj h3, h5]
  have : V.ts l = V.ts l' := by
    refine ords_nil (fun x hx y hxy hy => ?_) (fun y hy => ?_) h4
    · obtain ⟨z, hz, rfl⟩ := t_mem hx
      obtain ⟨b, rfl⟩ := hy
      exact ih z hz b hxy
    · obtain ⟨z, hz, rfl⟩ := t_mem hy
      exact ⟨z, rfl⟩
  rw [this]
theorem eqT_iff (v w : V) : eqT v.t w.t = true ↔ v.t = w.t := by
  unfold eqT
  rw [decide_eq_true_eq]
  refine ⟨ord_eq v w, fun h => ?_⟩
  rw [h]
  have := neg_ord w.t w.t
  omega
theorem pre_same (B : Nat → ByteArray → Int) (W : List T → Bool) (v w : V) (hv : Gd B W v.t 32) (hw : Gd B W w.t 32) (bv : T.body v.t + 16 < 4294967296) (bw : T.body w.t + 16 < 4294967296) (h : T.enc v.t <+: T.enc w.t) : v.t = w.t := by
  have h1 := val_back B W v 32 0 (T.enc w.t).length (-1) (T.enc w.t) hv bv (by simpa using h) (by simpa using h.length_le)
  have h2 := val_back B W w 32 0 (T.enc w.t).length (-1) (T.enc w.t) hw bw (by simp) (by simp)
  rw [h1] at h2
  simp only [Except.ok.injEq, Prod.mk.injEq] at h2
  exact h2.1
theorem apart_take (B : Nat → ByteArray → Int) (W : List T → Bool) (v w : V) (hv : Gd B W v.t 32) (hw : Gd B W w.t 32) (bv : T.body v.t + 16 < 4294967296) (bw : T.body w.t + 16 < 4294967296) :
    ((T.enc v.t).take (min (T.enc v.t).length (T.enc w.t).length) = (T.enc w.t).take (min (T.enc v.t).length (T.enc w.t).length)) ↔ v.t = w.t := by
  constructor
  · intro h
    rcases Nat.le_total (T.enc v.t).length (T.enc w.t).length with hle | hle
    · rw [Nat.min_eq_left hle, List.take_length] at h
      exact pre_same B W v w hv hw bv bw (List.prefix_iff_eq_take.2 h)
    · rw [Nat.min_eq_right hle, List.take_length] at h
      exact (pre_same B W w v hw hv bw bv (List.prefix_iff_eq_take.2 h.symm)).symm
  · intro h
    rw [h]
theorem apart_eq (B : Nat → ByteArray → Int) (W : List T → Bool) (v w : V) (hv : Gd B W v.t 32) (hw : Gd B W w.t 32) (bv : T.body v.t + 16 < 4294967296) (bw : T.body w.t + 16 < 4294967296) : T.enc v.t = T.enc w.t ↔ v.t = w.t :=
  ⟨fun h => pre_same B W v w hv hw bv bw (by rw [h]; exact List.prefix_rfl), fun h => by rw [h]⟩
end Go.Proofs.YtgpimajdcfoigabDoor
