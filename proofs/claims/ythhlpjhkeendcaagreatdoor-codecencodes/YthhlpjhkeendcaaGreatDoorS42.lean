/- EJ, EK, EN, EW -/
import Derived.Test.YthhlpjhkeendcaaGreatDoorS41
import Derived.Test.YthhlpjhkeendcaaGreatDoorS33
import Derived.Test.YthhlpjhkeendcaaGreatDoorS25
import Derived.Test.YthhlpjhkeendcaaGreatDoorS37
import Derived.Laws.IdiomStrings
import Derived.BigQuiet
namespace Go.Proofs.YthhlpjhkeendcaaGreatDoor
set_option linter.unusedVariables false
set_option linter.unusedSimpArgs false
namespace E
open Go.RowKit Go.Deep
def REnc (v : V) (w w' : World) (r : Value) : Prop := (encE v ≠ 0 ∧ r = .tuple #[.slice none 0 0, .int .i64 (encE v)] ∧ Below w.heap.size w w') ∨ (encE v = 0 ∧ (∃ u, r = .tuple #[u, .int .i64 0] ∧ Rb w' u (T.enc v.t) ∧ At w.heap.size u) ∧ Below w.heap.size w w')
set_option maxRecDepth 100000 in
set_option maxHeartbeats 4000000 in
theorem refenc_any (hsp : SpellOk) (v : V) (n₀ : Nat) (w : World) (hn : n₀ ≤ w.heap.size) (hx : Lies n₀ w v) (hbd : chkE v = 0 → T.body v.t ≤ 1000000000) :
    Calls Tryz.prog 6 #[v.val] w fun e w' => ∃ r, e = .returned r ∧ REnc v w w' r := by
  have hgd : chkE v = 0 → Gd badB twiceW v.t 32 := (check_iff n₀ w v hx).1
  have HCk : Hid (∀ w1, Below w.heap.size w w1 → Calls Tryz.prog 19 #[.agg #[.int .i64 v.k, .int .u64 v.n, .string v.s, .slice v.a v.l.length v.c, .int .i64 v.e]] w1 fun e w' => e = .returned (.int .i64 (chkE v)) ∧ Below w1.heap.size w1 w') := fun w1 hb => by
    have := refcheck_any hsp v n₀ w1 (Nat.le_trans hn hb.size) (hx.keep hb hn)
    rwa [V.val_eq] at this
  have HSh : Hid (chkE v = 0 → ∀ w1, Below w.heap.size w w1 → Calls Tryz.prog 20 #[.agg #[.int .i64 v.k, .int .u64 v.n, .string v.s, .slice v.a v.l.length v.c, .int .i64 v.e]] w1 fun e w' => ∃ r, e = .returned r ∧ FmP w1 w' (T.code v.t) (T.data v.t (T.code v.t)) r) := fun hc w1 hb => by
    have := (enc_ok v 32 (hgd hc) (hbd hc)).2 n₀ w1 (Nat.le_trans hn hb.size) (hx.keep hb hn)
    rwa [V.val_eq] at this
  have HLn : Hid (chkE v = 0 → 1 + (T.data v.t (T.code v.t)).length = T.len v.t ∧ T.code v.t < 256) := fun hc => by
    have h1 := data_len badB twiceW v.t 32 (T.code v.t) (hgd hc) (.inl rfl)
    obtain ⟨k', n', s', a', c', e', l', hxe⟩ := V.ex v.t
    have hgx := hgd hc
    rw [hxe] at hgx
    obtain ⟨_, ho', _⟩ := (Gd_of badB twiceW k' n' s' a' c' e' l' 32).1 hgx
    refine ⟨?_, (kind_code (t := v.t) (.inl rfl) (by rw [hxe, V.k_of]; exact ho'.k0) (by rw [hxe, V.k_of]; exact ho'.k1)).2⟩
    unfold T.len
    omega
  have HBl : Hid (chkE v = 0 → T.len v.t ≤ 1000000017) := fun hc => by
    have h1 := hbd hc
    obtain ⟨k', n', s', a', c', e', l', hxe⟩ := V.ex v.t
    have hgx := hgd hc
    rw [hxe] at hgx
    obtain ⟨_, ho', _⟩ := (Gd_of badB twiceW k' n' s' a' c' e' l' 32).1 hgx
    have h2 := (fits_lay (t := v.t) (c := T.code v.t) (.inl rfl) (by rw [hxe, V.k_of]; exact ho'.k0) (by rw [hxe, V.k_of]; exact ho'.k1)).2
    show T.len v.t ≤ _
    unfold T.len
    omega
  have HEn : Hid (encE v = if chkE v ≠ 0 then chkE v else if 1048576 < T.len v.t then 2 else 0) := rfl
  rw [V.val_eq]
  obtain ⟨V0, hV0⟩ : ∃ V0, w.alloc (.cells #[.int .i64 v.k, .int .u64 v.n, .string v.s, .slice v.a v.l.length v.c, .int .i64 v.e] 25) = V0 := ⟨_, rfl⟩
  have b0 : V0.heap[w.heap.size]? = some (.cells #[.int .i64 v.k, .int .u64 v.n, .string v.s, .slice v.a v.l.length v.c, .int .i64 v.e] 25 (0, 0)) := hV0 ▸ heap_lst w _
  have HB0 : Hid (Below w.heap.size w V0) := hV0 ▸ bel1 (Below.refl _ _) (Nat.le_refl _) _
  have HC : Hid (∀ W, Below V0.heap.size V0 W → W.cell? ⟨w.heap.size, 0, none⟩ = some (.int .i64 v.k) ∧ W.cell? ⟨w.heap.size, 1, none⟩ = some (.int .u64 v.n) ∧ W.cell? ⟨w.heap.size, 2, none⟩ = some (.string v.s) ∧ W.cell? ⟨w.heap.size, 3, none⟩ = some (.slice v.a v.l.length v.c) ∧ W.cell? ⟨w.heap.size, 4, none⟩ = some (.int .i64 v.e) ∧ w.heap.size < W.heap.size) := fun W hb => by
    have hl := (Array.getElem?_eq_some_iff.1 b0).1
    have e := (hb.block _ hl).trans b0
    exact ⟨by simp [World.cell?, e], by simp [World.cell?, e], by simp [World.cell?, e], by simp [World.cell?, e], by simp [World.cell?, e], Nat.lt_of_lt_of_le hl hb.size⟩
  have HV0 := hide hV0
  obtain ⟨E, hE⟩ : ∃ E, chkE v = E := ⟨_, rfl⟩
  rw [hE] at HCk HSh HLn HBl HEn
  clear hV0 b0 hx hbd hgd hE
  go_enter Tryz.func6, Tryz.ntmps6
  go_wp2_with (first | (rw [HV0.out]; refine Shut.out ?_))
  unfold Shut
  obtain ⟨c0, c1, c2, c3, c4, cl⟩ := HC.out V0 (Below.refl _ _)
  go_wp2_with (first | (go_at_call 19; refine (HCk.out V0 HB0.out).mono ?_; rintro e1 w1 ⟨rfl, hb1⟩; refine Shut.out ?_))
  unfold Shut
  have HB1 := hide (HB0.out.trans (hb1.mono HB0.out.size))
  have Hb1 := hide hb1
  clear c0 c1 c2 c3 c4 cl hb1 HCk
  by_cases hz : E = 0
  · subst hz
    obtain ⟨c0, c1, c2, c3, c4, cl⟩ := HC.out w1 Hb1.out
    obtain ⟨hln, hcd⟩ := HLn.out rfl
    have hbl := HBl.out rfl
    obtain ⟨C, hC⟩ : ∃ C, T.code v.t = C := ⟨_, rfl⟩
    obtain ⟨D, hD⟩ : ∃ D, T.data v.t C = D := ⟨_, rfl⟩
    have HEc : Hid (T.enc v.t = C :: D) := by show _ = _; unfold T.enc; rw [hC, hD]
    have HS1 := hide (HSh.out rfl w1 HB1.out)
    rw [hC, hD] at HS1 hln
    rw [hC] at hcd
    have hwc : IntKind.u8.wrap (C : Int) = (C : Int) := by rw [IntKind.wrap_u8]; omega
    obtain ⟨M, hM⟩ : ∃ M, T.len v.t = M := ⟨_, rfl⟩
    rw [hM] at hln hbl HEn
    have hwl : IntKind.i64.wrap (1 + (D.length : Int)) = (M : Int) := by rw [IntKind.wrap_i64]; omega
    have HLn2 := hide hln
    clear hC hD hM HSh HLn HBl hln
    go_wp2_with (first | (go_at_call 20; refine HS1.out.mono ?_; rintro e2 w2 ⟨r2, rfl, u2, rfl, hr2, hb2, ha2⟩; refine Shut.out ?_))
    unfold Shut
    obtain ⟨ua, uc, rfl⟩ := hr2.sl
    obtain ⟨V1, hV1⟩ : ∃ V1, w2.alloc (.cells #[.int .i64 (C : Int), .slice ua D.length uc] 49) = V1 := ⟨_, rfl⟩
    have hbV : Below w2.heap.size w2 V1 := hV1 ▸ bel1 (Below.refl _ _) (Nat.le_refl _) _
    have bV : V1.heap[w2.heap.size]? = some (.cells #[.int .i64 (C : Int), .slice ua D.length uc] 49 (0, 0)) := hV1 ▸ heap_lst w2 _
    have d0 : V1.cell? ⟨w2.heap.size, 0, none⟩ = some (.int .i64 (C : Int)) := by simp [World.cell?, bV]
    have d1 : V1.cell? ⟨w2.heap.size, 1, none⟩ = some (.slice ua D.length uc) := by simp [World.cell?, bV]
    have dl : w2.heap.size < V1.heap.size := (Array.getElem?_eq_some_iff.1 bV).1
    have hbA : Below w.heap.size w V1 := (HB1.out.trans (hb2.mono HB1.out.size)).trans (hbV.mono (Nat.le_trans HB1.out.size hb2.size))
    have HBA := hide hbA
    have HV1 := hide hV1
    have HRV := hide (hr2.below hbV)
    clear c0 c1 c2 c3 c4 cl HS1 hV1 hbV bV hr2 hb2 ha2 hbA
    go_wp2_with (first | (rw [HV1.out]; refine Shut.out ?_))
    unfold Shut
    by_cases hbig : 1048576 < M
    · have hd : decide (1048576 < (M : Int)) = true := by simp; omega
      have hen : encE v = 2 := by rw [HEn.out, if_neg (by simp), if_pos hbig]
      have HEn2 := hide hen
      clear hen
      go_wp2
      go_ret2
      exact ⟨_, rfl, .inl ⟨by rw [HEn2.out]; decide, by rw [HEn2.out]; rfl, HBA.out⟩⟩
    · have hd : decide (1048576 < (M : Int)) = false := by simp; omega
      have hen : encE v = 0 := by rw [HEn.out, if_neg (by simp), if_neg hbig]
      have HEn2 := hide hen
      obtain ⟨W2, hW2⟩ : ∃ W2, V1.alloc (.cells #[.int .u8 (C : Int)] 5) = W2 := ⟨_, rfl⟩
      have hbW : Below V1.heap.size V1 W2 := hW2 ▸ bel1 (Below.refl _ _) (Nat.le_refl _) _
      have f1 : W2.cell? ⟨w2.heap.size, 1, none⟩ = some (.slice ua D.length uc) := (hbW.cell (p := ⟨w2.heap.size, 1, none⟩) dl).trans d1
      have fl : w2.heap.size < W2.heap.size := Nat.lt_of_lt_of_le dl hbW.size
      have HB2 : Hid (Below w.heap.size w W2) := HBA.out.trans (hbW.mono HBA.out.size)
      have HRd2 : Hid (Rb W2 (.slice ua D.length uc) D) := HRV.out.below hbW
      have HO2 : Hid (Ob w.heap.size W2 (.slice (some ⟨V1.heap.size, 0, none⟩) 1 1) [C]) := hW2 ▸ one_ob w.heap.size V1 C HBA.out.size hcd
      have HW2 := hide hW2
      clear hen hbW hW2
      go_wp2_with (first | (rw [HW2.out]; refine Shut.out ?_))
      unfold Shut
      go_wp2_with (first | (at_builtin; go_loud (refine wpList_app _ rfl (.tmp 21) (.tmp 23) rfl w.heap.size _ [C] rfl HO2.out _ D rfl HRd2.out (by have := HLn2.out; simp only [List.length_cons, List.length_nil]; omega) (by have := HB2.out.size; omega) ?_; intro v3 w3 r1 r2; refine Shut.out ?_)))
      unfold Shut
      have HO3 := hide r1
      have HB3 : Hid (Below w.heap.size w w3) := HB2.out.grown r2 HB2.out.size (fun g hg => (HO2.out.lt g hg).1)
      clear r1 r2
      go_wp2
      go_ret2
      exact ⟨_, rfl, .inr ⟨HEn2.out, ⟨v3, rfl, by rw [HEc.out]; exact HO3.out.rb, HO3.out.at⟩, HB3.out⟩⟩
  · have hzb : (E == 0) = false := by rw [beq_eq_false_iff_ne]; exact hz
    have hen : encE v = E := by rw [HEn.out, if_pos hz]
    have HEn2 := hide hen
    have HZ := hide hz
    clear hen hz
    go_wp2
    go_ret2
    exact ⟨_, rfl, .inl ⟨by rw [HEn2.out]; exact HZ.out, by rw [HEn2.out]; rfl, HB1.out⟩⟩
end E
namespace E
open Go.RowKit Go.Deep
def T.sz : T → Nat := V.para (fun (p : Pl) (bs : List (V × Nat)) => 1 + p.s.size + (bs.map Prod.snd).sum) 0
theorem sz_of (k n : Int) (s : ByteArray) (a : Option Addr) (c : Nat) (e : Int) (l : List V) : T.sz (V.of k n s a c e l) = 1 + s.size + (l.map fun x : V => T.sz x).sum := by
  unfold T.sz
  rw [V.para_of, List.map_map]
  rfl
theorem head_le (c : Nat) : headC c ≤ 16 := by
  unfold headC nwid
  repeat' split
  all_goals omega
theorem sum_mul (g : V → Nat) (l : List V) (m : Nat) : (l.map fun x => m * g x).sum = m * (l.map g).sum := by
  induction l with
  | nil => simp
  | cons x l ih => rw [List.map_cons, List.map_cons, List.sum_cons, List.sum_cons, ih, Nat.mul_add]
theorem body_sz : ∀ t : V, T.body t + 17 ≤ 34 * T.sz t := by
  refine V.ind ?_
  intro k n s a c e l ih
  rw [body_of, sz_of]
  have h0 := sum_le (fun x : V => T.body x + 17) (fun x : V => 34 * T.sz x) l ih
  rw [sum_mul (fun x : V => T.sz x) l 34] at h0
  have hq : (l.map T.sz).sum = (l.map fun x : V => T.sz x).sum := rfl
  try rw [hq] at h0
  have h1 : (l.map fun x : V => 17 + T.body x).sum = (l.map fun x : V => T.body x).sum + l.length * 17 := sum_plus l (fun x : V => T.body x) 17
  have h2 : (l.map fun x : V => T.body x + 17).sum = (l.map fun x : V => 17 + T.body x).sum := by congr 1; exact List.map_congr_left fun x _ => Nat.add_comm _ _
  unfold bodyG
  split
  · show s.size + 17 ≤ _
    omega
  · split
    · rw [List.map_map, List.length_map]
      have h3 : (l.map (Prod.snd ∘ fun x : V => (x, T.body x))).sum = (l.map fun x : V => T.body x).sum := rfl
      rw [h3]
      have h4 : l.length * headC (acodeG e (l.map fun x : V => (x, T.body x))) ≤ l.length * 16 := Nat.mul_le_mul_left _ (head_le _)
      show 1 + ((l.map fun x : V => T.body x).sum + l.length * headC (acodeG e (l.map fun x : V => (x, T.body x)))) + 17 ≤ _
      omega
    · rw [List.map_map]
      have h3 := sum_le (fun x : V => 1 + headC (codeG x.k x.n x.l.length (T.body x)) + T.body x) (fun x : V => 17 + T.body x) l (fun x _ => by have := head_le (codeG x.k x.n x.l.length (T.body x)); omega)
      refine Nat.le_trans (Nat.add_le_add_right h3 17) ?_
      omega
theorem sz_wt : ∀ t : V, T.sz t.t ≤ 64 * T.wt t.t := by
  refine V.ind ?_
  intro k n s a c e l ih
  rw [V.t_of, T.wt_of]
  unfold T.of
  rw [sz_of, V.ts_map, List.map_map]
  have h0 := sum_le ((fun x : V => T.sz x) ∘ V.t) (fun x : V => 64 * T.wt x.t) l ih
  rw [sum_mul (fun x : V => T.wt x.t) l 64] at h0
  have h1 : T.wts (l.map V.t) = (l.map fun x : V => T.wt x.t).sum := by rw [wts_map, List.map_map]; rfl
  rw [h1]
  omega
theorem body_wt (v : V) (h : T.wt v.t ≤ 100000) : T.body v.t ≤ 1000000000 := by
  have h1 := body_sz v.t
  have h2 := sz_wt v
  omega
end E
namespace E
open Go.RowKit Go.Deep
def eN (v : V) : Nat := if encE v = 0 then T.len v.t else 0
def eL (v : V) : List Nat := if encE v = 0 then T.enc v.t else []
theorem chk_same {x y : V} (h : x.t = y.t) : chkE x = chkE y := check_same h 1
theorem encE_same {x y : V} (h : x.t = y.t) : encE x = encE y := by unfold encE; rw [chk_same h, h]
theorem eN_same {x y : V} (h : x.t = y.t) : eN x = eN y := by unfold eN; rw [encE_same h, h]
theorem eL_same {x y : V} (h : x.t = y.t) : eL x = eL y := by unfold eL; rw [encE_same h, h]
theorem eL_lt (v : V) : ∀ c ∈ eL v, c < 256 := by
  unfold eL
  split
  · exact enc_lt v.t
  · simp
def Own1 (w : World) (A : Option Addr) (n lo hi : Nat) : Prop := 0 < n → ∃ g cur, A = some ⟨g, 0, none⟩ ∧ lo ≤ g ∧ g < hi ∧ w.heap[g]? = some (.cells cur 5 (0, 0)) ∧ cur.size = n
theorem Own1.block {w w' : World} {A : Option Addr} {n lo hi : Nat} (h : Own1 w A n lo hi) (hb : ∀ k, lo ≤ k → k < hi → w'.heap[k]? = w.heap[k]?) : Own1 w' A n lo hi := fun h0 => by
  obtain ⟨g, cur, h1, h2, h3, h4, h5⟩ := h h0
  exact ⟨g, cur, h1, h2, h3, (hb g h2 h3).trans h4, h5⟩
def Far (A : Option Addr) (B : Nat) : Prop := ∀ b off, A = some ⟨b, off, none⟩ → B ≤ b
theorem conv_nil0 (w : World) (a : Option Addr) (cap : Nat) : (convert 28 9 (.slice a 0 cap)).run Tryz.prog w = .ok (.string (mkS [])) w := by
  cases a with
  | none => kernel_rfl
  | some x =>
    have hr := run_convert_bytes_back (P := Tryz.prog) w 28 9 5 x cap [] Tryz.underlying28 Tryz.underlying5 Tryz.underlying9 (fun j hj => absurd hj (by simp))
    exact hr
theorem conv_any0 {w : World} {a : Option Addr} {n : Nat} {l : List Nat} (h : Rd w a n l) (cap : Nat) : (convert 28 9 (.slice a n cap)).run Tryz.prog w = .ok (.string (mkS l)) w := by
  by_cases hn : 0 < n
  · exact conv8 h hn cap
  · obtain rfl : n = 0 := by omega
    obtain rfl : l = [] := List.eq_nil_of_length_eq_zero h.1
    exact conv_nil0 w a cap
theorem Rd.keep {w w' : World} {a : Option Addr} {n : Nat} {l : List Nat} (h : Rd w a n l) (hs : w.heap.size ≤ w'.heap.size) (hb : ∀ b off, a = some ⟨b, off, none⟩ → b < w.heap.size → w'.heap[b]? = w.heap[b]?) : Rd w' a n l := by
  refine ⟨h.1, h.2.1, fun h0 => ?_⟩
  obtain ⟨b, off, ha, hlt, hc⟩ := h.2.2 h0
  exact ⟨b, off, ha, by omega, fun j hj => (World.cell?_of_block (a := ⟨b, off + j, none⟩) (hb b off ha hlt)).trans (hc j hj)⟩
theorem encode_one (v x : V) (hvx : x.t = v.t) (n₀ : Nat) (w : World) (hn : n₀ ≤ w.heap.size) (hl : Lies n₀ w x) (hT : SzTab w) (hU : Lib.Utf8Tabs 1 2 w) (hw : T.wt v.t ≤ 100000) :
    Calls Tryz.prog 8 #[x.val] w fun e w' => ∃ A, e = .returned (.tuple #[.slice A (eN v) (eN v), .int .i64 (encE v)]) ∧ Hid (Rd w' A (eN v) (eL v) ∧ Own1 w' A (eN v) w.heap.size w'.heap.size ∧ eN v ≤ 1048576) ∧ Below w.heap.size w w' := by
  rw [← eN_same hvx, ← eL_same hvx, ← encE_same hvx]
  refine (encode_any x n₀ w hn hl hT hU (by rw [hvx]; omega)).mono ?_
  rintro e w' (⟨hz, rfl, hb⟩ | ⟨hz, g, rfl, HG, hb⟩)
  · have e1 : eN x = 0 := if_neg hz
    have e2 : eL x = [] := if_neg hz
    rw [e1, e2]
    exact ⟨none, rfl, ⟨⟨rfl, by simp, fun h => absurd h (by omega)⟩, fun h => absurd h (by omega), by omega⟩, hb⟩
  · obtain ⟨h1, h2, h3, h4, h5⟩ := HG.out
    have e1 : eN x = T.len x.t := if_pos hz
    have e2 : eL x = T.enc x.t := if_pos hz
    rw [e1, e2, hz]
    have hr := h2.rd (enc_lt x.t)
    rw [h3] at hr
    refine ⟨_, rfl, ⟨hr, fun h0 => ?_, h5⟩, hb⟩
    rcases h2.2 with ⟨h', _⟩ | ⟨g', cap', cur, h', _, hg, _, _, hcs, htk⟩
    · simp at h'
    · simp only [Value.slice.injEq, Option.some.injEq, Addr.mk.injEq, and_true, true_and] at h'
      obtain ⟨rfl, rfl⟩ := h'
      exact ⟨g, cur, rfl, h1, h2.lt, hg, by simpa using hcs⟩
theorem refenc_one (hsp : SpellOk) (v x : V) (hvx : x.t = v.t) (n₀ : Nat) (w : World) (hn : n₀ ≤ w.heap.size) (hx : Lies n₀ w x) (hw : T.wt v.t ≤ 100000) :
    Calls Tryz.prog 6 #[x.val] w fun e w' => ∃ A c, e = .returned (.tuple #[.slice A (eN v) c, .int .i64 (encE v)]) ∧ Hid (Rd w' A (eN v) (eL v) ∧ Far A w.heap.size) ∧ Below w.heap.size w w' := by
  rw [← eN_same hvx, ← eL_same hvx, ← encE_same hvx]
  have hbd : T.body x.t ≤ 1000000000 := by
    have := body_wt v hw
    rw [hvx]; exact this
  refine (refenc_any hsp x n₀ w hn hx (fun _ => hbd)).mono ?_
  rintro e w' ⟨r, rfl, (⟨hz, rfl, hb⟩ | ⟨hz, ⟨u, rfl, hr, ha⟩, hb⟩)⟩
  · have e1 : eN x = 0 := if_neg hz
    have e2 : eL x = [] := if_neg hz
    rw [e1, e2]
    exact ⟨none, 0, rfl, ⟨⟨rfl, by simp, fun h => absurd h (by omega)⟩, fun b off h => by cases h⟩, hb⟩
  · obtain ⟨A, cap, rfl, h1, h2, h3⟩ := hr
    have e2 : eL x = T.enc x.t := if_pos hz
    have e1 : eN x = (T.enc x.t).length := by
      unfold eN
      rw [if_pos hz]
      have hc0 : chkE x = 0 := by
        unfold encE at hz
        by_cases h : chkE x = 0
        · exact h
        · rw [if_pos h] at hz; exact absurd hz h
      have hg := (check_iff n₀ w x hx).1 hc0
      exact (enc_len badB twiceW x.t 32 hg).symm
    rw [e1, e2, hz]
    exact ⟨A, cap, rfl, ⟨h3, fun b off h => by subst h; exact ha b rfl⟩, hb⟩
theorem length_one (v x : V) (hvx : x.t = v.t) (n₀ : Nat) (w : World) (hn : n₀ ≤ w.heap.size) (hl : Lies n₀ w x) (hT : SzTab w) (hU : Lib.Utf8Tabs 1 2 w) (hw : T.wt v.t ≤ 100000) :
    Calls Tryz.prog 9 #[x.val] w fun e w' => e = .returned (.tuple #[.int .i64 ((eN v : Nat) : Int), .int .i64 (encE v)]) ∧ Below w.heap.size w w' := by
  rw [← eN_same hvx, ← encE_same hvx]
  refine (length_any x n₀ w hn hl hT hU (by rw [hvx]; omega)).mono ?_
  rintro e w' ⟨rfl, hb⟩
  refine ⟨?_, hb⟩
  unfold eN
  split <;> simp
def m4 (a b c d : Nat) (j : Nat) : Nat := if j = 0 then a else if j = 1 then b else if j = 2 then c else if j = 3 then d else 0
def a4 (a b c d : Option Addr) (j : Nat) : Option Addr := if j = 0 then a else if j = 1 then b else if j = 2 then c else if j = 3 then d else none
def g4 (a b c d : Option Addr) (j : Nat) : Nat := ((a4 a b c d j).map Addr.block).getD 0
theorem four_of {w : World} {a b c d : Option Addr} {n0 n1 n2 n3 s0 s1 s2 s3 s4 : Nat} (h0 : Own1 w a n0 s0 s1) (h1 : Own1 w b n1 s1 s2) (h2 : Own1 w c n2 s2 s3) (h3 : Own1 w d n3 s3 s4) (q1 : s0 ≤ s1) (q2 : s1 ≤ s2) (q3 : s2 ≤ s3) (q4 : s3 ≤ s4) :
    ∀ j, j < 4 → 0 < m4 n0 n1 n2 n3 j → ∃ cur, a4 a b c d j = some ⟨g4 a b c d j, 0, none⟩ ∧ (m4 s0 s1 s2 s3 j ≤ g4 a b c d j ∧ g4 a b c d j < m4 s1 s2 s3 s4 j) ∧ w.heap[g4 a b c d j]? = some (.cells cur 5 (0, 0)) ∧ cur.size = m4 n0 n1 n2 n3 j := by
  intro j hj hm
  rcases (show j = 0 ∨ j = 1 ∨ j = 2 ∨ j = 3 by omega) with rfl | rfl | rfl | rfl
  · obtain ⟨g, cur, e, e1, e2, e3, e4⟩ := h0 hm
    subst e
    exact ⟨cur, rfl, ⟨e1, e2⟩, e3, e4⟩
  · obtain ⟨g, cur, e, e1, e2, e3, e4⟩ := h1 hm
    subst e
    exact ⟨cur, rfl, ⟨e1, e2⟩, e3, e4⟩
  · obtain ⟨g, cur, e, e1, e2, e3, e4⟩ := h2 hm
    subst e
    exact ⟨cur, rfl, ⟨e1, e2⟩, e3, e4⟩
  · obtain ⟨g, cur, e, e1, e2, e3, e4⟩ := h3 hm
    subst e
    exact ⟨cur, rfl, ⟨e1, e2⟩, e3, e4⟩
set_option maxRecDepth 100000 in
theorem owned_four (pb n0 n1 n2 n3 s0 s1 s2 s3 s4 : Nat) (a b c d : Option Addr) (v : Value) (w : World) (hbk : BB.Book w pb 38 v)
    (hown : w.ownsRow pb 28 1 v 4 [.slice a n0 n0, .slice b n1 n1, .slice c n2 n2, .slice d n3 n3])
    (h0 : Own1 w a n0 s0 s1) (h1 : Own1 w b n1 s1 s2) (h2 : Own1 w c n2 s2 s3) (h3 : Own1 w d n3 s3 s4) (q1 : s0 ≤ s1) (q2 : s1 ≤ s2) (q3 : s2 ≤ s3) (q4 : s3 ≤ s4) (hp : s4 ≤ pb)
    (b0 : n0 ≤ 1048576) (b1 : n1 ≤ 1048576) (b2 : n2 ≤ 1048576) (b3 : n3 ≤ 1048576) :
    Calls Tryz.prog 11 #[.pointer (some ⟨pb, 0, none⟩)] w fun e w' => e = .returned (.bool true) ∧ Turns s0 s4 w w' := by
  have hf := four_of h0 h1 h2 h3 q1 q2 q3 q4
  have hlo : ∀ j, j < 4 → s0 ≤ m4 s0 s1 s2 s3 j ∧ m4 s1 s2 s3 s4 j ≤ s4 := by
    intro j hj
    rcases (show j = 0 ∨ j = 1 ∨ j = 2 ∨ j = 3 by omega) with rfl | rfl | rfl | rfl <;> simp [m4] <;> omega
  obtain ⟨gl, capl, rfl, hgb, hgl⟩ := BB.own_shape hown (by omega)
  have hneg := BB.own_ne_book hown hbk (by decide)
  have hcap : 4 ≤ capl := by
    rcases hown.2 with ⟨h', _⟩ | ⟨g', cap', cur, h', _, hg, hnc, _⟩
    · simp at h'
    · simp only [Value.slice.injEq] at h'
      omega
  have hin : ∀ k, BB.InN 4 (m4 n0 n1 n2 n3) (g4 a b c d) k → s0 ≤ k ∧ k < s4 := by
    rintro k ⟨j, hj, hm, rfl⟩
    obtain ⟨cur, e1, e2, e3, e4⟩ := hf j hj hm
    have := hlo j hj
    omega
  refine (BB.owned_any pb gl capl 4 (m4 n0 n1 n2 n3) (a4 a b c d) (g4 a b c d) w hbk hcap ?_ hgl ⟨fun h => ?_, fun h => ?_⟩ ?_ (fun j hj hm => (hf j hj hm).elim fun _ h => h.1) (by omega) (by omega) ?_ ?_).mono ?_
  · intro j hj
    have := hown.cellAt j (by omega)
    rw [this]
    rcases (show j = 0 ∨ j = 1 ∨ j = 2 ∨ j = 3 by omega) with rfl | rfl | rfl | rfl <;> rfl
  · have := hin _ h; omega
  · have := hin _ h; omega
  · intro x y hx hy mx my hxy
    obtain ⟨_, e1, e2, e3, e4⟩ := hf x hx mx
    obtain ⟨_, f1, f2, f3, f4⟩ := hf y hy my
    rw [hxy] at e2
    rcases (show x = 0 ∨ x = 1 ∨ x = 2 ∨ x = 3 by omega) with rfl | rfl | rfl | rfl <;> rcases (show y = 0 ∨ y = 1 ∨ y = 2 ∨ y = 3 by omega) with rfl | rfl | rfl | rfl <;> simp [m4] at e2 f2 <;> omega
  · intro j hj
    rcases (show j = 0 ∨ j = 1 ∨ j = 2 ∨ j = 3 by omega) with rfl | rfl | rfl | rfl <;> simp [m4] <;> omega
  · intro j hj hm
    obtain ⟨cur, e1, e2, e3, e4⟩ := hf j hj hm
    exact ⟨cur, e3, e4, fun q hq hor => by omega⟩
  · rintro e w' ⟨rfl, k1, k2, k3, k4, k5⟩
    exact ⟨rfl, k1, k2, k3, k4, fun k hk hn => k5 k hk (fun h => hn (hin k h))⟩
end E
namespace E
open Go.RowKit Go.Deep
theorem pair_row (W : World) (b : Nat) (v u : V) (h : W.heap[b]? = some (.cells #[.int .i64 v.k, .int .u64 v.n, .string v.s, .slice v.a v.l.length v.c, .int .i64 v.e, .int .i64 u.k, .int .u64 u.n, .string u.s, .slice u.a u.l.length u.c, .int .i64 u.e] 25)) : Row W b 0 [v, u] := by
  intro i hi
  have : i = 0 ∨ i = 1 := by simp at hi; omega
  rcases this with rfl | rfl <;> simp [World.cell?, h]
theorem wts_two (v u : V) : T.wts (V.ts [v, u]) = T.wt v.t + T.wt u.t := by simp [V.ts, T.wts]
structure Four (W : World) (n p q lx : Nat) (v u x y : V) : Prop where
  bv : BoxV W n v
  bu : BoxV W (n + 1) u
  bx : BoxV W p x
  bY : BoxV W q y
  hx : Lent W x lx p
  hy : Lent W y (p + 1) q
theorem Four.keep {W W' : World} {n p q lx : Nat} {v u x y : V} (h : Four W n p q lx v u x y) (h1 : n + 1 < q) (h2 : p < q) (hb : ∀ k, k < q + 1 → W'.heap[k]? = W.heap[k]?) : Four W' n p q lx v u x y := by
  obtain ⟨a, b, c, d, e, f⟩ := h
  exact ⟨(hb _ (by omega)).trans a, (hb _ (by omega)).trans b, (hb _ (by omega)).trans c, (hb _ (by omega)).trans d, e.keep (fun b o q1 q2 q3 => (hb b (by omega)).trans q3), f.keep (fun b o q1 q2 q3 => (hb b (by omega)).trans q3)⟩
theorem lies_of_lent {W : World} {x : V} {lo hi : Nat} (h : Lent W x lo hi) (hs : hi ≤ W.heap.size) : Lies W.heap.size W x := h.lies.keep (fun _ _ _ => rfl) (fun b h => by show b < W.heap.size; have := h.2; omega)
theorem turns_below {lo hi B : Nat} {w w' : World} (h : Turns lo hi w w') (hB : B ≤ lo) (hs : B ≤ w.heap.size) : Below B w w' := h.below (by omega) (by omega)
theorem wt_turn : ∀ v : V, T.wt (T.turn v.t) = T.wt v.t := by
  refine V.ind ?_
  intro k n s a c e l ih
  have : ∀ m : List V, (∀ x ∈ m, T.wt (T.turn x.t) = T.wt x.t) → T.wts ((V.ts m).map T.turn) = T.wts (V.ts m) := by
    intro m
    induction m with
    | nil => intro _; rfl
    | cons x m ihm =>
      intro hm
      have h1 := hm x (by simp)
      have h2 := ihm (fun y hy => hm y (by simp [hy]))
      simp only [V.ts, List.map_cons, T.wts] at h2 ⊢
      omega
  rw [V.t_of, T.turn_of, T.wt_of, T.wt_of, this l ih]
theorem Rd.own {w w' : World} {a : Option Addr} {n lo hi : Nat} {l : List Nat} (h : Rd w a n l) (ho : Own1 w a n lo hi) (hs : w.heap.size ≤ w'.heap.size) (hb : ∀ k, lo ≤ k → k < w.heap.size → w'.heap[k]? = w.heap[k]?) : Rd w' a n l := by
  by_cases h0 : 0 < n
  · obtain ⟨g, cur, rfl, h1, h2, h3, h4⟩ := ho h0
    exact Rd.keep h hs (fun b off e hl => by cases e; exact hb g h1 hl)
  · exact ⟨h.1, h.2.1, fun h' => absurd h' h0⟩
set_option maxRecDepth 100000 in
set_option maxHeartbeats 8000000 in
theorem encodes_walk0 (hsp : SpellOk) (v u : V) (w : World) (hv : Lies w.heap.size w v) (hu : Lies w.heap.size w u) (hT : SzTab w) (hU : Lib.Utf8Tabs 1 2 w) :
    Calls Tryz.prog 3 #[v.val, u.val] w fun e w' => e = .returned (.bool true) ∧ Below w.heap.size w w' := by
  have HTB : Hid (∀ W1, Below w.heap.size w W1 → SzTab W1 ∧ Lib.Utf8Tabs 1 2 W1) := fun W1 hW => ⟨hT.below hW, tabs_below hU hW⟩
  have HLV : Hid (∀ W1, Below w.heap.size w W1 → Lies w.heap.size W1 v ∧ Lies w.heap.size W1 u) := fun W1 hW => ⟨hv.keep hW (Nat.le_refl _), hu.keep hW (Nat.le_refl _)⟩
  have HAW : Hid (∀ W1, Below w.heap.size w W1 → Calls Tryz.prog 4 #[] W1 fun e w' => e = .returned (.bool true) ∧ Below W1.heap.size W1 w') := fun W1 hW => awake_any W1 (hT.below hW) (tabs_below hU hW)
  have HSP := hide hsp
  obtain ⟨W0, hW0⟩ : ∃ W0, (w.alloc (Obj.cells #[.int .i64 v.k, .int .u64 v.n, .string v.s, .slice v.a v.l.length v.c, .int .i64 v.e] 25)).alloc (Obj.cells #[.int .i64 u.k, .int .u64 u.n, .string u.s, .slice u.a u.l.length u.c, .int .i64 u.e] 25) = W0 := ⟨_, rfl⟩
  have hb0 : Below w.heap.size w W0 := by rw [← hW0]; exact bel2 (Below.refl _ _) (Nat.le_refl _) _ _
  have xv : BoxV W0 w.heap.size v := by rw [← hW0]; exact heap_past (World.alloc_heap_new _ _) _
  have xu : BoxV W0 (w.heap.size + 1) u := by rw [← hW0]; exact heap_at1 _ _ _
  have hz0 : W0.heap.size = w.heap.size + 2 := by rw [← hW0]; simp
  have HXV := hide xv
  have HXU := hide xu
  have HW0 := hide hW0
  clear hW0 hv hu hT hU xv xu hsp
  rw [V.val_eq, V.val_eq]
  go_enter Tryz.func3, Tryz.ntmps3
  go_wp2_with fail
  rw [HW0.out]
  refine Calls.mono (HAW.out _ hb0) ?_
  rintro e1 w1 ⟨rfl, hb1⟩
  have hs1 := hb1.size
  have hbw1 : Below w.heap.size w w1 := belOn hb0 (by omega) hb1
  obtain ⟨c0, c1, c2, c3, c4⟩ := (HXV.out.below hb1 (by omega)).cells
  obtain ⟨d0, d1, d2, d3, d4⟩ := (HXU.out.below hb1 (by omega)).cells
  have hrow := pair_row (w1.alloc (Obj.cells #[.int .i64 v.k, .int .u64 v.n, .string v.s, .slice v.a v.l.length v.c, .int .i64 v.e, .int .i64 u.k, .int .u64 u.n, .string u.s, .slice u.a u.l.length u.c, .int .i64 u.e] 25)) w1.heap.size v u (World.alloc_heap_new _ _)
  have hba := bel1 hbw1 hbw1.size (Obj.cells #[.int .i64 v.k, .int .u64 v.n, .string v.s, .slice v.a v.l.length v.c, .int .i64 v.e, .int .i64 u.k, .int .u64 u.n, .string u.s, .slice u.a u.l.length u.c, .int .i64 u.e] 25)
  have hba1 := bel1 (Below.refl w1.heap.size w1) (Nat.le_refl _) (Obj.cells #[.int .i64 v.k, .int .u64 v.n, .string v.s, .slice v.a v.l.length v.c, .int .i64 v.e, .int .i64 u.k, .int .u64 u.n, .string u.s, .slice u.a u.l.length u.c, .int .i64 u.e] 25)
  have hga := greatall_any w1.heap.size 0 2 w.heap.size [v, u] _ (by have := hba.size; omega) hrow (by simp) (fun x hx => by
    simp only [List.mem_cons, List.not_mem_nil, or_false] at hx
    rcases hx with rfl | rfl
    · exact (HLV.out _ hba).1
    · exact (HLV.out _ hba).2) (by simp) (by omega)
  rw [wts_two] at hga
  have HGA := hide hga
  have HBA := hide hba
  have HBA1 := hide hba1
  clear hrow hga hba hba1
  go_wp2_with fail
  refine Calls.mono HGA.out ?_
  rintro e2 w2 (⟨rfl, hb2⟩ | ⟨rfl, hwt, hb2⟩)
  · go_wp2
    go_ret
    exact ⟨rfl, belOn HBA.out (by simp; omega) hb2⟩
  have hwv : T.wt v.t ≤ 100000 := by omega
  have hwu : T.wt u.t ≤ 100000 := by omega
  have hbW2 : Below W0.heap.size W0 w2 := (hb1.trans (HBA1.out.mono hs1)).trans (hb2.mono (by simp; omega))
  have hbw2 : Below w.heap.size w w2 := belOn HBA.out (by simp; omega) hb2
  have hs2 := hbW2.size
  clear c0 c1 c2 c3 c4 d0 d1 d2 d3 d4 hb2 hb1 hbw1 hwt HBA HBA1 HGA
  obtain ⟨c0, c1, c2, c3, c4⟩ := (HXV.out.below hbW2 (by omega)).cells
  go_wp2_with fail
  have q := refenc_one HSP.out v v rfl w.heap.size w2 (by omega) (HLV.out _ hbw2).1 hwv
  rw [V.val_eq] at q
  refine q.mono ?_
  clear q c0 c1 c2 c3 c4
  rintro e3 w3 ⟨A7, c7, rfl, HR3, hb3⟩
  have hs3 := hb3.size
  have hbW3 : Below W0.heap.size W0 w3 := belOn hbW2 hs2 hb3
  have hbw3 : Below w.heap.size w w3 := belOn hbw2 (by omega) hb3
  obtain ⟨d0, d1, d2, d3, d4⟩ := (HXU.out.below hbW3 (by omega)).cells
  go_wp2_with fail
  have q := refenc_one HSP.out u u rfl w.heap.size w3 (by omega) (HLV.out _ hbw3).2 hwu
  rw [V.val_eq] at q
  refine q.mono ?_
  clear q d0 d1 d2 d3 d4
  rintro e4 w4 ⟨A9, c9, rfl, HR4, hb4⟩
  have hs4 := hb4.size
  have hbW4 : Below W0.heap.size W0 w4 := belOn hbW3 (by omega) hb4
  have hbw4 : Below w.heap.size w w4 := belOn hbw3 (by omega) hb4
  have HD7 : Hid (Rd w4 A7 (eN v) (eL v)) := Rd.below HR3.out.1 hb4
  have HD9 : Hid (Rd w4 A9 (eN u) (eL u)) := HR4.out.1
  clear HR3 HR4 hb3 hbW3 hbw3
  obtain ⟨c0, c1, c2, c3, c4⟩ := (HXV.out.below hbW4 (by omega)).cells
  go_wp2_with fail
  have q := lent_any v hwv w.heap.size w4 (by omega) (HLV.out _ hbw4).1
  rw [V.val_eq] at q
  refine q.mono ?_
  clear q c0 c1 c2 c3 c4
  rintro e w5 ⟨x, rfl, HX, hb5⟩
  have hs5 := hb5.size
  have hbW5 : Below W0.heap.size W0 w5 := belOn hbW4 (by omega) hb5
  have hbw5 : Below w.heap.size w w5 := belOn hbw4 (by omega) hb5
  obtain ⟨W5, hW5⟩ : ∃ W5, w5.alloc (Obj.cells #[.int .i64 x.k, .int .u64 x.n, .string x.s, .slice x.a x.l.length x.c, .int .i64 x.e] 25) = W5 := ⟨_, rfl⟩
  have hb55 : Below w5.heap.size w5 W5 := by rw [← hW5]; exact bel1 (Below.refl _ _) (Nat.le_refl _) _
  have xx : BoxV W5 w5.heap.size x := by rw [← hW5]; exact BoxV.new w5 x
  have hs55 : W5.heap.size = w5.heap.size + 1 := by rw [← hW5]; simp
  have HW5 := hide hW5
  have HXX := hide xx
  clear hW5 xx
  have hbW55 : Below W0.heap.size W0 W5 := belOn hbW5 (by omega) hb55
  have hbw55 : Below w.heap.size w W5 := belOn hbw5 (by omega) hb55
  have hb455 : Below w4.heap.size w4 W5 := belOn hb5 (by omega) hb55
  obtain ⟨hxt, hxl⟩ := HX.out
  have HXT := hide hxt
  have HXL5 := hide (hxl.keep (w := W5) (fun b o q1 q2 q3 => (hb55.block b q2).trans q3))
  clear hxt hxl HX hb5 hbw5 hbW4 hbw4 hb4
  obtain ⟨d0, d1, d2, d3, d4⟩ := (HXU.out.below hbW5 (by omega)).cells
  have hlt5 : w.heap.size + 1 < w5.heap.size := by omega
  go_wp2_with fail
  rw [HW5.out]
  clear HW5 d0 d1 d2 d3 d4 hlt5 hbW5
  have q := lent_any u hwu w.heap.size W5 (by omega) (HLV.out _ hbw55).2
  rw [V.val_eq] at q
  refine q.mono ?_
  clear q
  rintro e w6 ⟨y, rfl, HY, hb6⟩
  have hs6 := hb6.size
  have hbW6 : Below W0.heap.size W0 w6 := belOn hbW55 (by omega) hb6
  have hbw6 : Below w.heap.size w w6 := belOn hbw55 (by omega) hb6
  obtain ⟨W6, hW6⟩ : ∃ W6, w6.alloc (Obj.cells #[.int .i64 y.k, .int .u64 y.n, .string y.s, .slice y.a y.l.length y.c, .int .i64 y.e] 25) = W6 := ⟨_, rfl⟩
  have hb66 : Below w6.heap.size w6 W6 := by rw [← hW6]; exact bel1 (Below.refl _ _) (Nat.le_refl _) _
  have hs66 : W6.heap.size = w6.heap.size + 1 := by rw [← hW6]; simp
  have hb56 : Below W5.heap.size W5 W6 := belOn hb6 (by omega) hb66
  obtain ⟨hyt, hyl⟩ := HY.out
  have HYT := hide hyt
  have HF : Hid (Four W6 w.heap.size w5.heap.size w6.heap.size w4.heap.size v u x y) := by
    refine ⟨HXV.out.below (belOn hbW55 (by omega) hb56) (by omega), HXU.out.below (belOn hbW55 (by omega) hb56) (by omega), HXX.out.below hb56 (by omega), ?_, HXL5.out.keep (fun b o q1 q2 q3 => (hb56.block b (by omega)).trans q3), ?_⟩
    · rw [← hW6]; exact BoxV.new w6 y
    · rw [← hs55]; exact hyl.keep (fun b o q1 q2 q3 => (hb66.block b q2).trans q3)
  have hbw66 : Below w.heap.size w W6 := belOn hbw6 (by omega) hb66
  have HD76 : Hid (Rd W6 A7 (eN v) (eL v)) := Rd.below HD7.out (belOn hb455 (by omega) hb56)
  have HD96 : Hid (Rd W6 A9 (eN u) (eL u)) := Rd.below HD9.out (belOn hb455 (by omega) hb56)
  have HW6 := hide hW6
  have h56 : w.heap.size + 1 < w6.heap.size := by omega
  have h57 : w5.heap.size < w6.heap.size := by omega
  obtain ⟨a0, a1, a2, a3, a4⟩ := (HXX.out.below hb6 (by omega)).cells
  clear hyt hyl HY hbW6 hbw6 hb66 hW6 hb56 hbW55 hbw55 hb455 HXX HXL5 HD7 HD9 HXV HXU hb0 hb6 hb55
  go_wp2_with fail
  rw [HW6.out]
  clear HW6 a0 a1 a2 a3 a4
  have HEX : Hid (∀ W1, Below W6.heap.size W6 W1 → Calls Tryz.prog 8 #[.agg #[.int .i64 x.k, .int .u64 x.n, .string x.s, .slice x.a x.l.length x.c, .int .i64 x.e]] W1 fun e w' => ∃ A, e = .returned (.tuple #[.slice A (eN v) (eN v), .int .i64 (encE v)]) ∧ Hid (Rd w' A (eN v) (eL v) ∧ Own1 w' A (eN v) W1.heap.size w'.heap.size ∧ eN v ≤ 1048576) ∧ Below W1.heap.size W1 w') := fun W1 hW => by
    have hw1 := belOn hbw66 (by omega) hW
    have hf := HF.out.keep (W' := W1) h56 h57 (fun k hk => hW.block k (by omega))
    have := encode_one v x HXT.out W1.heap.size W1 (Nat.le_refl _) (lies_of_lent hf.hx (by have := hW.size; omega)) (HTB.out _ hw1).1 (HTB.out _ hw1).2 hwv
    rw [V.val_eq] at this
    exact this
  have HEY : Hid (∀ W1, Below W6.heap.size W6 W1 → Calls Tryz.prog 8 #[.agg #[.int .i64 y.k, .int .u64 y.n, .string y.s, .slice y.a y.l.length y.c, .int .i64 y.e]] W1 fun e w' => ∃ A, e = .returned (.tuple #[.slice A (eN u) (eN u), .int .i64 (encE u)]) ∧ Hid (Rd w' A (eN u) (eL u) ∧ Own1 w' A (eN u) W1.heap.size w'.heap.size ∧ eN u ≤ 1048576) ∧ Below W1.heap.size W1 w') := fun W1 hW => by
    have hw1 := belOn hbw66 (by omega) hW
    have hf := HF.out.keep (W' := W1) h56 h57 (fun k hk => hW.block k (by omega))
    have := encode_one u y HYT.out W1.heap.size W1 (Nat.le_refl _) (lies_of_lent hf.hy (by have := hW.size; omega)) (HTB.out _ hw1).1 (HTB.out _ hw1).2 hwu
    rw [V.val_eq] at this
    exact this
  have HLX : Hid (∀ W1, Below W6.heap.size W6 W1 → Calls Tryz.prog 9 #[.agg #[.int .i64 x.k, .int .u64 x.n, .string x.s, .slice x.a x.l.length x.c, .int .i64 x.e]] W1 fun e w' => e = .returned (.tuple #[.int .i64 ((eN v : Nat) : Int), .int .i64 (encE v)]) ∧ Below W1.heap.size W1 w') := fun W1 hW => by
    have hw1 := belOn hbw66 (by omega) hW
    have hf := HF.out.keep (W' := W1) h56 h57 (fun k hk => hW.block k (by omega))
    have := length_one v x HXT.out W1.heap.size W1 (Nat.le_refl _) (lies_of_lent hf.hx (by have := hW.size; omega)) (HTB.out _ hw1).1 (HTB.out _ hw1).2 hwv
    rw [V.val_eq] at this
    exact this
  have HLY : Hid (∀ W1, Below W6.heap.size W6 W1 → Calls Tryz.prog 9 #[.agg #[.int .i64 y.k, .int .u64 y.n, .string y.s, .slice y.a y.l.length y.c, .int .i64 y.e]] W1 fun e w' => e = .returned (.tuple #[.int .i64 ((eN u : Nat) : Int), .int .i64 (encE u)]) ∧ Below W1.heap.size W1 w') := fun W1 hW => by
    have hw1 := belOn hbw66 (by omega) hW
    have hf := HF.out.keep (W' := W1) h56 h57 (fun k hk => hW.block k (by omega))
    have := length_one u y HYT.out W1.heap.size W1 (Nat.le_refl _) (lies_of_lent hf.hy (by have := hW.size; omega)) (HTB.out _ hw1).1 (HTB.out _ hw1).2 hwu
    rw [V.val_eq] at this
    exact this
  have HCX : Hid (∀ W1, Below W6.heap.size W6 W1 → BoxC W1 w5.heap.size x ∧ BoxC W1 w6.heap.size y) := fun W1 hW => by
    have hf := HF.out.keep (W' := W1) h56 h57 (fun k hk => hW.block k (by omega))
    exact ⟨hf.bx.cells, hf.bY.cells⟩
  refine Calls.mono (HEX.out _ (Below.refl _ _)) ?_
  rintro e w7 ⟨A13, rfl, H13, hb7⟩
  have hs7 := hb7.size
  obtain ⟨⟨c0, c1, c2, c3, c4⟩, _⟩ := HCX.out _ hb7
  go_wp2_with fail
  refine Calls.mono (HEX.out _ hb7) ?_
  clear c0 c1 c2 c3 c4
  rintro e w8 ⟨A15, rfl, H15, hb8⟩
  have hs8 := hb8.size
  have hb68 : Below W6.heap.size W6 w8 := belOn hb7 (by omega) hb8
  obtain ⟨_, ⟨c0, c1, c2, c3, c4⟩⟩ := HCX.out _ hb68
  go_wp2_with fail
  refine Calls.mono (HEY.out _ hb68) ?_
  clear c0 c1 c2 c3 c4
  rintro e w9 ⟨A17, rfl, H17, hb9⟩
  have hs9 := hb9.size
  have hb69 : Below W6.heap.size W6 w9 := belOn hb68 (by omega) hb9
  obtain ⟨⟨c0, c1, c2, c3, c4⟩, _⟩ := HCX.out _ hb69
  go_wp2_with fail
  refine Calls.mono (HEX.out _ hb69) ?_
  clear c0 c1 c2 c3 c4
  rintro e w10 ⟨A19, rfl, H19, hb10⟩
  have hs10 := hb10.size
  have hb610 : Below W6.heap.size W6 w10 := belOn hb69 (by omega) hb10
  obtain ⟨⟨c0, c1, c2, c3, c4⟩, _⟩ := HCX.out _ hb610
  go_wp2_with fail
  refine Calls.mono (HLX.out _ hb610) ?_
  clear c0 c1 c2 c3 c4
  rintro e w11 ⟨rfl, hb11⟩
  have hs11 := hb11.size
  have hb611 : Below W6.heap.size W6 w11 := belOn hb610 (by omega) hb11
  obtain ⟨_, ⟨c0, c1, c2, c3, c4⟩⟩ := HCX.out _ hb611
  go_wp2_with fail
  refine Calls.mono (HLY.out _ hb611) ?_
  clear c0 c1 c2 c3 c4
  rintro e w12 ⟨rfl, hb12⟩
  have hs12 := hb12.size
  have hb612 : Below W6.heap.size W6 w12 := belOn hb611 (by omega) hb12
  have hb1012 : Below w10.heap.size w10 w12 := belOn hb11 (by omega) hb12
  have hb912 : Below w9.heap.size w9 w12 := belOn hb10 (by omega) hb1012
  have hb812 : Below w8.heap.size w8 w12 := belOn hb9 (by omega) hb912
  have hb712 : Below w7.heap.size w7 w12 := belOn hb8 (by omega) hb812
  have HO0 : Hid (Own1 w12 A13 (eN v) W6.heap.size w7.heap.size) := H13.out.2.1.block (fun k _ hk => hb712.block k hk)
  have HO1 : Hid (Own1 w12 A15 (eN v) w7.heap.size w8.heap.size) := H15.out.2.1.block (fun k _ hk => hb812.block k hk)
  have HO2 : Hid (Own1 w12 A17 (eN u) w8.heap.size w9.heap.size) := H17.out.2.1.block (fun k _ hk => hb912.block k hk)
  have HO3 : Hid (Own1 w12 A19 (eN v) w9.heap.size w10.heap.size) := H19.out.2.1.block (fun k _ hk => hb1012.block k hk)
  have HNV : Hid (eN v ≤ 1048576 ∧ eN u ≤ 1048576) := ⟨H13.out.2.2, H17.out.2.2⟩
  have k1 : (convert 28 9 (.slice A13 (eN v) (eN v))).run Tryz.prog w12 = .ok (.string (mkS (eL v))) w12 := conv_any0 (Rd.below H13.out.1 hb712) _
  have k2 : (convert 28 9 (.slice A15 (eN v) (eN v))).run Tryz.prog w12 = .ok (.string (mkS (eL v))) w12 := conv_any0 (Rd.below H15.out.1 hb812) _
  have k3 : (convert 28 9 (.slice A17 (eN u) (eN u))).run Tryz.prog w12 = .ok (.string (mkS (eL u))) w12 := conv_any0 (Rd.below H17.out.1 hb912) _
  have k4 : (convert 28 9 (.slice A19 (eN v) (eN v))).run Tryz.prog w12 = .ok (.string (mkS (eL v))) w12 := conv_any0 (Rd.below H19.out.1 hb1012) _
  have k5 : (convert 28 9 (.slice A7 (eN v) c7)).run Tryz.prog w12 = .ok (.string (mkS (eL v))) w12 := conv_any0 (Rd.below HD76.out hb612) _
  have k6 : (convert 28 9 (.slice A9 (eN u) c9)).run Tryz.prog w12 = .ok (.string (mkS (eL u))) w12 := conv_any0 (Rd.below HD96.out hb612) _
  generalize mkS (eL v) = Sv at k1 k2 k4 k5
  generalize mkS (eL u) = Su at k3 k6
  clear H13 H15 H17 H19 HD76 HD96 hb7 hb8 hb9 hb10 hb11 hb12 hb68 hb69 hb610 hb611 hb712 hb812 hb912 hb1012 HEX HEY HLX HLY HCX
  go_wp2_with fail
  -- the book
  obtain ⟨Wb, hWb⟩ : ∃ Wb, w12.alloc (Obj.cells #[.slice none 0 0] 38) = Wb := ⟨_, rfl⟩
  have hbb : Below w12.heap.size w12 Wb := by rw [← hWb]; exact bel1 (Below.refl _ _) (Nat.le_refl _) _
  have hsb : Wb.heap.size = w12.heap.size + 1 := by rw [← hWb]; simp
  have HBk : Hid (BB.Book Wb w12.heap.size 38 (.slice none 0 0)) := by rw [← hWb]; exact World.alloc_heap_new _ _
  rw [hWb]
  clear hWb k1 k2 k3 k4 k5 k6
  refine (BB.take_any w12.heap.size w12.heap.size 0 _ [] A13 (eN v) (eN v) Wb HBk.out (World.ownsRow_nil _ _ _ _) (Nat.le_refl _) (by omega) (by omega)).mono ?_
  rintro e w13 ⟨rfl, v13, hk13, ho13, hb13⟩
  have hs13 := hb13.size
  have HK13 := hide hk13
  have HO13 := hide ho13
  clear hk13 ho13
  go_wp2_with fail
  refine (BB.take_any w12.heap.size w12.heap.size 1 _ _ A15 (eN v) (eN v) w13 HK13.out HO13.out (Nat.le_refl _) (by omega) (by omega)).mono ?_
  rintro e w14 ⟨rfl, v14, hk14, ho14, hb14⟩
  have hs14 := hb14.size
  have HK14 := hide hk14
  have HO14 := hide ho14
  clear hk14 ho14
  go_wp2_with fail
  refine (BB.take_any w12.heap.size w12.heap.size 2 _ _ A17 (eN u) (eN u) w14 HK14.out HO14.out (Nat.le_refl _) (by omega) (by omega)).mono ?_
  rintro e w15 ⟨rfl, v15, hk15, ho15, hb15⟩
  have hs15 := hb15.size
  have HK15 := hide hk15
  have HO15 := hide ho15
  clear hk15 ho15
  go_wp2_with fail
  refine (BB.take_any w12.heap.size w12.heap.size 3 _ _ A19 (eN v) (eN v) w15 HK15.out HO15.out (Nat.le_refl _) (by omega) (by omega)).mono ?_
  rintro e w16 ⟨rfl, v16, hk16, ho16, hb16⟩
  have hs16 := hb16.size
  have HK16 := hide hk16
  have HO16 := hide ho16
  clear hk16 ho16
  have hb1216 : Below w12.heap.size w12 w16 := (((hbb.trans hb13).trans hb14).trans hb15).trans hb16
  clear hb13 hb14 hb15 hb16 hbb HK13 HO13 HK14 HO14 HK15 HO15
  go_wp2_with fail
  have q := owned_four w12.heap.size (eN v) (eN v) (eN u) (eN v) W6.heap.size w7.heap.size w8.heap.size w9.heap.size w10.heap.size A13 A15 A17 A19 v16 w16 HK16.out HO16.out
    (HO0.out.block (fun k _ hk => hb1216.block k (by omega))) (HO1.out.block (fun k _ hk => hb1216.block k (by omega))) (HO2.out.block (fun k _ hk => hb1216.block k (by omega))) (HO3.out.block (fun k _ hk => hb1216.block k (by omega)))
    (by omega) (by omega) (by omega) (by omega) (by omega) HNV.out.1 HNV.out.1 HNV.out.2 HNV.out.1
  refine q.mono ?_
  clear q
  rintro e w17 ⟨rfl, ht17⟩
  have hs17 := ht17.size
  have HF17 : Hid (Four w17 w.heap.size w5.heap.size w6.heap.size w4.heap.size v u x y) :=
    HF.out.keep h56 h57 (fun k hk => ((ht17.block k (by omega) (by omega)).trans (hb1216.block k (by omega))).trans (hb612.block k (by omega)))
  have hbw17 : Below w.heap.size w w17 := ((hbw66.trans (hb612.mono (by omega))).trans (hb1216.mono (by omega))).trans (ht17.below (by omega) (by omega))
  clear HF ht17 hb1216 hb612 hbw66 HO0 HO1 HO2 HO3 HK16 HO16 HBk HNV
  obtain ⟨c0, c1, c2, c3, c4⟩ := HF17.out.bv.cells
  go_wp2_with fail
  have q := turned_any v hwv w.heap.size w17 (by omega) (HLV.out _ hbw17).1
  rw [V.val_eq] at q
  refine q.mono ?_
  clear q c0 c1 c2 c3 c4
  rintro e w18 ⟨t, rfl, HTT, hb18⟩
  have hs18 := hb18.size
  have hbw18 : Below w.heap.size w w18 := belOn hbw17 (by omega) hb18
  have hf18 := HF17.out.keep (W' := w18) h56 h57 (fun k hk => hb18.block k (by omega))
  obtain ⟨y0, y1, y2, y3, y4⟩ := hf18.bx.cells
  have hX18 : w5.heap.size < w18.heap.size := by omega
  go_wp2_with fail
  clear y0 y1 y2 y3 y4 hX18
  obtain ⟨W18, hW18⟩ : ∃ W18, w18.alloc (Obj.cells #[.int .i64 t.k, .int .u64 t.n, .string t.s, .slice t.a t.l.length t.c, .int .i64 t.e] 25) = W18 := ⟨_, rfl⟩
  have hb1818 : Below w18.heap.size w18 W18 := by rw [← hW18]; exact bel1 (Below.refl _ _) (Nat.le_refl _) _
  have tt : BoxV W18 w18.heap.size t := by rw [← hW18]; exact BoxV.new w18 t
  have hs1818 : W18.heap.size = w18.heap.size + 1 := by rw [← hW18]; simp
  rw [hW18]
  clear hW18
  have hf1 := hf18.keep (W' := W18) h56 h57 (fun k hk => hb1818.block k (by omega))
  have hbw1 : Below w.heap.size w W18 := belOn hbw18 (by omega) hb1818
  obtain ⟨htt, htl⟩ := HTT.out
  have HTL : Hid (LiesIn (fun b => w17.heap.size ≤ b ∧ b < w18.heap.size) W18 t) := htl.keep (fun b hb o => hb1818.cell (p := ⟨b, o, none⟩) hb.2) (fun _ h => h)
  have htx : t.t = T.turn x.t := by rw [htt, HXT.out]
  have hwt : T.wt t.t ≤ 100000 := by rw [htt, wt_turn]; exact hwv
  clear htl HTT hb18 hbw18 hf18 hb1818
  have q := over_any x t w4.heap.size w5.heap.size (fun b => w17.heap.size ≤ b ∧ b < w18.heap.size) W18 hf1.hx (by omega) HTL.out (fun b hb => ⟨by have := hb.2; omega, by have := hb.1; omega⟩) htx
  refine q.mono ?_
  clear q
  rintro e w19 ⟨rfl, HL19, ht19⟩
  have hs19 := ht19.size
  have xb9 := ht19.box hf1.bv (by omega)
  have ub9 := ht19.box hf1.bu (by omega)
  have xx9 := ht19.box hf1.bx (by omega)
  have yy9 := ht19.box hf1.bY (by omega)
  have tt9 := ht19.box tt (by omega)
  have fy := xx9.blk.free 1
  obtain ⟨y0, y1, y2, y3, y4⟩ := xx9.cells
  obtain ⟨t0, t1, t2, t3, t4⟩ := tt9.cells
  go_wp2_with fail
  clear y0 y1 y2 y3 y4 t0 t1 t2 t3 t4 fy
  obtain ⟨l', hll, hlt', hLz⟩ := HL19.out
  have okz := hLz.ok
  have okt := HTL.out.acc
  have htk : t.k = x.k := by
    have := congrArg V.k htx
    rw [V.t_acc t, V.t_acc x, T.turn_of] at this
    simpa [T.of, V.k_of] using this
  have hts : t.s = x.s := by
    have := congrArg V.s htx
    rw [V.t_acc t, V.t_acc x, T.turn_of] at this
    simpa [T.of, V.s_of] using this
  have hte : t.e = x.e := by
    have := congrArg V.e htx
    rw [V.t_acc t, V.t_acc x, T.turn_of] at this
    simpa [T.of, V.e_of] using this
  have hzt : (V.of x.k t.n x.s x.a x.c x.e l').t = t.t := by
    rw [V.t_of, V.t_acc t, htk, hts, hte, hlt']
  have hLz1 : Lent w19 (V.of x.k t.n x.s x.a x.c x.e l') w4.heap.size w5.heap.size := hLz.other ⟨okz.k, okt.n, okz.s, okz.e, okz.l, okz.c⟩
  clear hLz okz okt htk hts hte
  obtain ⟨W19, hW19⟩ : ∃ W19, w19.setCell ⟨w5.heap.size, 1, none⟩ (.int .u64 t.n) = W19 := ⟨_, rfl⟩
  have hs1919 : W19.heap.size = w19.heap.size := by rw [← hW19]; simp [World.setCell]
  have hset : ∀ i, i ≠ w5.heap.size → W19.heap[i]? = w19.heap[i]? := fun i hi => by rw [← hW19]; exact Below.heap_setCell _ _ _ _ hi
  have HZ : Hid (Lent W19 (V.of x.k t.n x.s x.a x.c x.e l') w4.heap.size w5.heap.size) := hLz1.keep (fun b o q1 q2 q3 => (hset b (by omega)).trans q3)
  have zz : BoxV W19 w5.heap.size (V.of x.k t.n x.s x.a x.c x.e l') := by rw [← hW19]; exact xx9.num t.n hll
  have hbw19 : Below w.heap.size w W19 := by
    rw [← hW19]
    exact (hbw1.trans (ht19.below (by omega) (by omega))).setCell (p := ⟨w5.heap.size, 1, none⟩) (by show w.heap.size ≤ w5.heap.size; omega) _
  try rw [hW19]
  have ub19 : BoxV W19 (w.heap.size + 1) u := (hset _ (by omega)).trans ub9
  have yy19 : BoxV W19 w6.heap.size y := (hset _ (by omega)).trans yy9
  have tt19 : BoxV W19 w18.heap.size t := (hset _ (by omega)).trans tt9
  have HLY : Hid (Lent W19 y (w5.heap.size + 1) w6.heap.size) := hf1.hy.keep (fun b o q1 q2 q3 => ((hset b (by omega)).trans (ht19.block b (by omega) (by omega))).trans q3)
  have HT19 : Hid (LiesIn (fun b => w17.heap.size ≤ b ∧ b < w18.heap.size) W19 t) := HTL.out.keep (fun b hb o => World.cell?_of_block ((hset b (by have := hb.1; omega)).trans (ht19.block b (by have := hb.2; omega) (by have := hb.1; omega)))) (fun _ h => h)
  clear xb9 ub9 xx9 yy9 tt9 tt hf1 HTL HL19 ht19 hset hW19 hLz1 hbw1
  have q := refenc_one HSP.out t t rfl W19.heap.size W19 (Nat.le_refl _) (LiesIn.keep HT19.out (fun _ _ _ => rfl) (fun b h => by show b < W19.heap.size; have := h.2; omega)) hwt
  rw [V.val_eq] at q
  refine q.mono ?_
  clear q
  rintro e w20 ⟨A28, c28, rfl, HR28, hb20⟩
  have hs20 := hb20.size
  have hbw20 : Below w.heap.size w w20 := belOn hbw19 (by omega) hb20
  obtain ⟨y0, y1, y2, y3, y4⟩ := (zz.below hb20 (by omega)).cells
  rw [V.k_of] at y0
  rw [V.n_of] at y1
  rw [V.s_of] at y2
  rw [V.a_of, V.c_of, V.l_of, hll] at y3
  rw [V.e_of] at y4
  go_wp2_with fail
  have hz20 : Lent w20 (V.of x.k t.n x.s x.a x.c x.e l') w4.heap.size w5.heap.size := HZ.out.keep (fun b o q1 q2 q3 => (hb20.block b (by omega)).trans q3)
  have q := encode_one t (V.of x.k t.n x.s x.a x.c x.e l') hzt w20.heap.size w20 (Nat.le_refl _) (lies_of_lent hz20 (by omega)) (HTB.out _ hbw20).1 (HTB.out _ hbw20).2 hwt
  rw [V.val_of, hll] at q
  refine q.mono ?_
  clear q y0 y1 y2 y3 y4 hz20
  rintro e w21 ⟨A30, rfl, H30, hb21⟩
  have hs21 := hb21.size
  have hb1921 : Below W19.heap.size W19 w21 := belOn hb20 (by omega) hb21
  have hbw21 : Below w.heap.size w w21 := belOn hbw20 (by omega) hb21
  have zz21 := zz.below hb1921 (by omega)
  have tt21 := tt19.below hb1921 (by omega)
  have ub21 := ub19.below hb1921 (by omega)
  have yy21 := yy19.below hb1921 (by omega)
  obtain ⟨y0, y1, y2, y3, y4⟩ := zz21.cells
  rw [V.k_of] at y0
  rw [V.n_of] at y1
  rw [V.s_of] at y2
  rw [V.a_of, V.c_of, V.l_of, hll] at y3
  rw [V.e_of] at y4
  obtain ⟨t0, t1, t2, t3, t4⟩ := tt21.cells
  go_wp2_with fail
  have hl21 : Lent w21 (V.of x.k t.n x.s x.a x.c x.e l') w4.heap.size w5.heap.size := HZ.out.keep (fun b o q1 q2 q3 => (hb1921.block b (by omega)).trans q3)
  have hT21 : LiesIn (fun b => w17.heap.size ≤ b ∧ b < w18.heap.size) w21 t := HT19.out.keep (fun b hb o => hb1921.cell (p := ⟨b, o, none⟩) (by show b < W19.heap.size; have := hb.2; omega)) (fun _ h => h)
  have q := asLent_any (V.of x.k t.n x.s x.a x.c x.e l') t w4.heap.size w5.heap.size (fun b => w17.heap.size ≤ b ∧ b < w18.heap.size) w21 hl21 (by omega) hT21 (fun b hb => ⟨by have := hb.2; omega, by have := hb.1; omega⟩) hzt
  rw [V.val_of, V.val_eq, hll] at q
  refine q.mono ?_
  clear q t0 t1 t2 t3 t4 y0 y1 y2 y3 y4
  rintro e w22 ⟨rfl, ht22⟩
  have hs22 := ht22.size
  have hbw22 : Below w.heap.size w w22 := hbw21.trans (ht22.below (by omega) (by omega))
  have ub22 := ht22.box ub21 (by omega)
  have yy22 := ht22.box yy21 (by omega)
  have hy22 : Lent w22 y (w5.heap.size + 1) w6.heap.size := HLY.out.keep (fun b o q1 q2 q3 => ((ht22.block b (by omega) (by omega)).trans (hb1921.block b (by omega))).trans q3)
  obtain ⟨y0, y1, y2, y3, y4⟩ := yy22.cells
  obtain ⟨d0, d1, d2, d3, d4⟩ := ub22.cells
  go_wp2_with fail
  have q := asLent_any y u (w5.heap.size + 1) w6.heap.size (fun b => b < w.heap.size) w22 hy22 (by omega) (HLV.out _ hbw22).2 (fun b hb => ⟨by omega, by omega⟩) HYT.out
  rw [V.val_eq, V.val_eq] at q
  refine q.mono ?_
  clear q y0 y1 y2 y3 y4 d0 d1 d2 d3 d4
  rintro e w23 ⟨rfl, ht23⟩
  have hs23 := ht23.size
  have HBF : Hid (Below w.heap.size w w23) := hbw22.trans (ht23.below (by omega) (by omega))
  have hkeep : ∀ k, W19.heap.size ≤ k → k < w21.heap.size → w23.heap[k]? = w21.heap[k]? := fun k h1 h2 => (ht23.block k (by omega) (by omega)).trans (ht22.block k (by omega) (by omega))
  have k1 : (convert 28 9 (.slice A30 (eN t) (eN t))).run Tryz.prog w23 = .ok (.string (mkS (eL t))) w23 := conv_any0 (Rd.own H30.out.1 H30.out.2.1 (by omega) (fun k h1 h2 => hkeep k (by omega) h2)) _
  have k2 : (convert 28 9 (.slice A28 (eN t) c28)).run Tryz.prog w23 = .ok (.string (mkS (eL t))) w23 := conv_any0 (Rd.keep (Rd.below HR28.out.1 hb21) (by omega) (fun b off e hl => hkeep b (HR28.out.2 b off e) hl)) _
  generalize mkS (eL t) = St at k1 k2
  clear hkeep ht23 ht22 hl21 hT21 hy22 zz21 tt21 ub21 yy21 ub22 yy22 H30 HR28 hb20 hb21 hb1921 zz ub19 yy19 tt19
  go_wp2
  go_ret
  exact ⟨by simp, HBF.out⟩
theorem encodes_walk (v u : V) (w : World) (hv : Lies w.heap.size w v) (hu : Lies w.heap.size w u) (hT : SzTab w) (hU : Lib.Utf8Tabs 1 2 w) :
    Calls Tryz.prog 3 #[v.val, u.val] w fun e w' => e = .returned (.bool true) ∧ Below w.heap.size w w' := encodes_walk0 spelled_any v u w hv hu hT hU
end E
end Go.Proofs.YthhlpjhkeendcaaGreatDoor
