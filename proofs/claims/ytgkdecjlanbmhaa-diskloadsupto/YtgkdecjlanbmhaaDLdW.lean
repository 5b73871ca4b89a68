
/- DiskLoads: the walk. -/
import Derived.Test.YtgkdecjlanbmhaaDLdB
import Derived.BigQuiet
import Derived.Deep.RegionHeld3
import Derived.Test.YtgkdecjlanbmhaaJXo
namespace Go.Proofs.Ytgkdecjlanbmhaa
open Go.RowKit Go.Maps Go.MuLone
set_option linter.unusedVariables false
set_option linter.unusedSimpArgs false
theorem kx_slice (f : Lf) (a : Option Addr) (n c : Nat) (h : f.2.2.2 = .slice a n c) : KX.enc f = [.string f.1, .slice a n c, .int .i64 f.2.2.1] := by
  show lEnc f = _
  unfold lEnc
  rw [h]
def bhS : ByteArray := ⟨#[98, 101, 104, 105, 110, 100]⟩
/-- what the document's Load answered -/
def AnsR (B : Nat) (n k : Int) (L : List Lf) (p : Option Addr) (w : World) : Prop := (k ≠ 0 ∧ p = none) ∨ (k = 0 ∧ ∃ lv W, p = some ⟨B, 0, none⟩ ∧ XD w B B lv (dxl n (L.map inF)) W ∧ (W.map (·.1)).Perm (L.map inF))
/-- what the program's Load answered -/
def AnsD (B : Nat) (n k : Int) (L : List Lf) (p : Option Addr) (w : World) : Prop := (k ≠ 0 ∧ p = none) ∨ (k = 0 ∧ ∃ d F, p = some ⟨d, 0, none⟩ ∧ DD (fun q => B ≤ q) w d (dxl n (L.map inF)) F ∧ F.Perm (L.map inF))
theorem wy_frozX {w : World} {B g off n cap : Nat} {W : List Lf} (h : Wy KX w B (.slice (some ⟨g, off, none⟩) n cap) W) (o : Nat) : w.frozen? ⟨g, o, none⟩ = false := by
  obtain ⟨cur, h1⟩ := h.typ (k := g) rfl
  exact frozen_of h1 o
theorem lt_cmpB : ∀ x y : List UInt8, x < y → 0 ≤ cmpB y x
  | [], [], h => absurd h (List.lt_irrefl _)
  | [], b :: y, _ => by show (0 : Int) ≤ 1; omega
  | a :: x, [], h => by cases h
  | a :: x, b :: y, h => by
    show 0 ≤ (if b < a then (-1 : Int) else if a < b then 1 else cmpB y x)
    rcases List.cons_lt_cons_iff.1 h with h1 | ⟨rfl, h2⟩
    · rw [if_neg (by exact UInt8.lt_asymm h1), if_pos h1]; omega
    · rw [if_neg (UInt8.lt_irrefl _), if_neg (UInt8.lt_irrefl _)]
      exact lt_cmpB x y h2
theorem srt_rd {w : World} {B r : Nat} {lv : Value} {x : Dx} {W U : List Fo} (h : RD w B r lv x W) (he : U.map (·.1) = W.map (·.1)) : SrtF U := fun i j hi hj hij => by
  have hl : U.length = W.length := by have := congrArg List.length he; simpa using this
  have h1 := h.srt
  rw [List.pairwise_map] at h1
  have h2 := List.pairwise_iff_getElem.1 h1 i j (by omega) (by omega) hij
  have e : ∀ q (hq : q < U.length), U[q].1 = W[q].1 := fun q hq => by
    have h3 : (U.map (·.1))[q]? = (W.map (·.1))[q]? := by rw [he]
    rw [List.getElem?_map, List.getElem?_map, List.getElem?_eq_getElem hq, List.getElem?_eq_getElem (by omega)] at h3
    exact Option.some.inj h3
  show 0 ≤ cmpB U[j].1.1.toList U[i].1.1.toList
  rw [e i hi, e j hj]
  exact lt_cmpB _ _ h2
theorem baS {w : World} {B n c : Nat} {a : Option Addr} {W : List Value} (h : Wy BX w B (.slice a n c) W) (h0 : 0 < n) : ∃ g off, a = some ⟨g, off, none⟩ := by
  rcases h with ⟨e, _⟩ | ⟨g, off, cap, cur, e, _⟩
  · simp only [Value.slice.injEq] at e
    omega
  · simp only [Value.slice.injEq] at e
    exact ⟨g, off, e.1⟩
set_option maxHeartbeats 16000000 in
set_option maxRecDepth 100000 in
theorem loads_walk (w : World) (a : Option Addr) (c : Nat) (L : List Lf) (hL : LR w (.slice a L.length c) L) (n : Int) (hs : LSm L) (hz : usd (L.map inF) + L.length ≤ 1048576) :
    Calls Try.prog 4 #[.slice a L.length c, .int .i64 n] w fun e w' => e = .returned (.bool true) ∧ Below w.heap.size w w' := by
  obtain ⟨k, hk⟩ := LdK.ex n L
  have HAW := hide (awake_any w)
  have HL := hide hL
  have HS := hide hs
  have HZ := hide hz
  have HK := hide hk
  clear hL hs hz hk
  go_enter Try.func4, Try.ntmps4
  go_wp2_with fail
  refine HAW.out.mono ?_
  rintro e w1 ⟨rfl, hb1⟩
  have HB1 := hide hb1
  clear hb1 HAW
  go_wp2_with fail
  refine (load_rk w1 _ L (HL.out.below HB1.out) n k HK.out HS.out).mono ?_
  rintro e w2 ⟨hb2, h2⟩
  have h3 : ∃ p, e = .returned (.tuple #[.pointer p, .int .i64 k]) ∧ AnsR w1.heap.size n k L p w2 := by
    rcases h2 with ⟨h, rfl⟩ | ⟨rfl, lv, W, rfl, h⟩
    · exact ⟨none, rfl, .inl ⟨h, rfl⟩⟩
    · exact ⟨_, rfl, .inr ⟨rfl, lv, W, rfl, h⟩⟩
  obtain ⟨p, rfl, h3⟩ := h3
  have HB2 := hide (HB1.out.trans (hb2.mono HB1.out.size))
  have HAR := hide h3
  clear hb2 h2 h3
  go_wp2_with fail
  go_loopw [8, 9, 10] (fun ov bv iv wr => ∃ (j : Nat) (M : List Lf), j ≤ L.length ∧ iv = .int .i64 (j : Int) ∧ Hid (L1 w2.heap.size wr L j ov bv M) ∧ Hid (Below w2.heap.size w2 wr)) (fun _ _ iv _ => L.length - (intOf iv).toNat)
  case atStart => exact ⟨0, [], Nat.zero_le _, rfl, L1.nil _ _ _, Below.refl _ _⟩
  case round =>
    obtain ⟨j, M, hj, rfl, HM, HB⟩ := hrel
    obtain ⟨oa, oc, eo⟩ := HM.out.row.shape
    rw [HM.out.len] at eo
    subst eo
    obtain ⟨ba, bc, eb⟩ := HM.out.byt.shape
    rw [List.length_map, HM.out.len] at eb
    subst eb
    have HLw := hide ((HL.out.below HB2.out).below HB.out)
    have HBA : Hid (w2.heap.size ≤ wr.heap.size) := HB.out.size
    by_cases hjl : j < L.length
    · obtain ⟨g, off, cap, a1, c1, e, hg, r0, r1, r2, he2⟩ := HLw.out.el j hjl
      simp only [Value.slice.injEq] at e
      obtain ⟨rfl, _, rfl⟩ := e
      have hdj := HLw.out.dat L[j] (List.getElem_mem hjl)
      have hkj := HS.out.1 L[j] (List.getElem_mem hjl)
      have hji : (j : Int) < (L.length : Int) := by omega
      have hjb : j ≤ 1000000000000 := by have := HS.out.2.1; omega
      obtain ⟨f, hf⟩ : ∃ f, L[j] = f := ⟨_, rfl⟩
      have HF := hide hf
      have HJL := hide hjl
      rw [hf] at r0 r1 r2 he2 hdj hkj
      obtain ⟨s, l, z, ov⟩ := f
      dsimp only at r0 r1 r2 he2 hdj hkj
      subst he2
      obtain ⟨wa, hwa⟩ : ∃ wa, wr.alloc (.cells #[.string s, .slice a1 l.length c1, .int .i64 z] 44) = wa := ⟨_, rfl⟩
      have hba : Below wr.heap.size wr wa := by rw [← hwa]; exact bel1 (Below.refl _ _) (Nat.le_refl _) _
      have hOa : wa.heap[wr.heap.size]? = some (.cells #[.string s, .slice a1 l.length c1, .int .i64 z] 44 (0, 0)) := by rw [← hwa]; exact heap_new _ _
      have hza : wa.heap.size = wr.heap.size + 1 := by rw [← hwa]; simp
      have hrd : Rd wa a1 l.length l := by
        obtain ⟨a', c', e', _, _, hrd⟩ := hdj.below hba
        simp only [Value.slice.injEq, true_and] at e'
        obtain ⟨rfl, rfl⟩ := e'
        exact hrd
      have HLB := hide (lentBytes_any a1 l.length c1 l wa hrd hkj.2)
      have ra1 : wa.cell? ⟨g, off + j * 3 + 1, none⟩ = some (.slice a1 l.length c1) := (hba.cell (p := ⟨g, off + j * 3 + 1, none⟩) hg).trans r1
      have HBa := hide hba
      have HOa := hide hOa
      have HZa := hide hza
      have HWa := hide hwa
      have HJB := hide hjb
      clear hf hdj hkj hba hOa hza hwa hrd
      go_wp2_with fail
      rw [HWa.out]
      go_wp2_with fail
      refine HLB.out.mono ?_
      rintro e w5 ⟨rfl, hrow, hb5⟩
      have hO5 := (hb5.block wr.heap.size (by rw [HZa.out]; exact Nat.lt_succ_self _)).trans HOa.out
      have p0 : w5.cell? ⟨wr.heap.size, 0, none⟩ = some (.string s) := cellOf hO5 0 _ rfl
      have p2 : w5.cell? ⟨wr.heap.size, 2, none⟩ = some (.int .i64 z) := cellOf hO5 2 _ rfl
      have p3 := cellOf hO5 1 _ rfl
      have p1 := frozen_of hO5 1
      obtain ⟨gL, hgL⟩ : ∃ gL, gL = wa.heap.size := ⟨_, rfl⟩
      rw [← hgL] at hrow ⊢
      have hO6 : (w5.setCell ⟨wr.heap.size, 1, none⟩ (.slice (some ⟨gL, 0, none⟩) l.length (l.length + 9))).heap[wr.heap.size]? = some (.cells #[.string s, .slice (some ⟨gL, 0, none⟩) l.length (l.length + 9), .int .i64 z] 44 (0, 0)) := blk_set hO5 1 _
      have HB6 : Hid (Below wr.heap.size wr (w5.setCell ⟨wr.heap.size, 1, none⟩ (.slice (some ⟨gL, 0, none⟩) l.length (l.length + 9)))) := (HBa.out.trans (hb5.mono (by have := HZa.out; omega))).setCell (Nat.le_refl _) _
      have HR6 : Hid ((w5.setCell ⟨wr.heap.size, 1, none⟩ (.slice (some ⟨gL, 0, none⟩) l.length (l.length + 9))).rowIs gL 5 (l.length + 9) (fun i => bW ((l ++ lnM).getD i 0))) := rowIs_keep hrow (blk_set_other _ _ _ _ (fun e => by have e2 : gL = wr.heap.size := e; have := HZa.out; omega))
      have HZS : Hid ((w5.setCell ⟨wr.heap.size, 1, none⟩ (.slice (some ⟨gL, 0, none⟩) l.length (l.length + 9))).heap.size = w5.heap.size) := by show _ = _; simp
      have HGL : Hid (wr.heap.size ≤ gL ∧ gL < w5.heap.size) := ⟨by have := HZa.out; omega, by obtain ⟨cs, h1, _⟩ := hrow; exact (Array.getElem?_eq_some_iff.1 h1).1⟩
      have HO6 := hide hO6
      obtain ⟨f, hff⟩ : ∃ f : Lf, f = (s, l, z, .slice (some ⟨gL, 0, none⟩) l.length (l.length + 9)) := ⟨_, rfl⟩
      have HFF := hide hff
      clear hO5 hb5 HLB r0 r1 r2 ra1 hO6 hrow hgL hff
      go_wp2_with ((at_builtin; go_loud (refine wpList_append_way kxOk _ rfl (.tmp 45) (.tmp 47) rfl w2.heap.size (.slice oa j oc) M (s, l, z, .slice (some ⟨gL, 0, none⟩) l.length (l.length + 9)) rfl ((HM.out.row.at fun q e => HB6.out.block q (HM.out.row.lt e).2).at fun q e => Below.heap_alloc _ _ _ (Nat.lt_of_lt_of_le (HM.out.row.lt e).2 HB6.out.size)) _ 1 rfl (heap_newN HZS.out _ _) (Nat.le_trans (Nat.le_trans HBA.out HB6.out.size) (by simp)) (by show (List.length _ + 1) * 48 ≤ _; rw [HM.out.len]; have := HJB.out; omega) ?_); intro v7 w7 hw7 hg7 hs7; have HW7 := hide hw7; have HG7 := hide hg7; clear hw7 hg7 hs7; refine Shut.out ?_))
      have HB6a : Hid (Below wr.heap.size wr ((w5.setCell ⟨wr.heap.size, 1, none⟩ (.slice (some ⟨gL, 0, none⟩) l.length (l.length + 9))).alloc (.cells #[.string s, .slice (some ⟨gL, 0, none⟩) l.length (l.length + 9), .int .i64 z] 44))) := bel1 HB6.out HB6.out.size _
      obtain ⟨w6a, hw6a⟩ : ∃ w6a, w6a = ((w5.setCell ⟨wr.heap.size, 1, none⟩ (.slice (some ⟨gL, 0, none⟩) l.length (l.length + 9))).alloc (.cells #[.string s, .slice (some ⟨gL, 0, none⟩) l.length (l.length + 9), .int .i64 z] 44)) := ⟨_, rfl⟩
      have hz6a : w6a.heap.size = w5.heap.size + 1 := by rw [hw6a]; simp
      have hO6a : w6a.heap[wr.heap.size]? = some (.cells #[.string s, .slice (some ⟨gL, 0, none⟩) l.length (l.length + 9), .int .i64 z] 44 (0, 0)) := by
        rw [hw6a]
        exact (Below.heap_alloc _ _ _ (by rw [HZS.out]; have := HGL.out; omega)).trans HO6.out
      have hR6a : w6a.rowIs gL 5 (l.length + 9) (fun i => bW ((l ++ lnM).getD i 0)) := rowIs_keep HR6.out (by
        rw [hw6a]
        exact Below.heap_alloc _ _ _ (by rw [HZS.out]; exact HGL.out.2))
      rw [← hw6a] at HG7 HB6a
      have HLF : Hid (LentV wr.heap.size w6a (s, l, z, .slice (some ⟨gL, 0, none⟩) l.length (l.length + 9))) := ⟨gL, rfl, hR6a, HGL.out.1, by rw [hz6a]; have := HGL.out.2; omega⟩
      have hw6r : Wy KX w6a w2.heap.size (.slice oa j oc) M := HM.out.row.at fun q e => HB6a.out.block q (HM.out.row.lt e).2
      have hw6b : Wy BX w6a w2.heap.size (.slice ba j bc) (M.map (·.2.2.2)) := HM.out.byt.at fun q e => HB6a.out.block q (HM.out.byt.lt e).2
      have HB7 : Hid (Wy BX w7 w2.heap.size (.slice ba j bc) (M.map (·.2.2.2))) := hw6b.at fun q e => HG7.out.block q (hw6b.lt e).2 (fun e2 => xb_apart hw6r hw6b e2.symm e)
      have t1 : w7.cell? ⟨wr.heap.size, 1, none⟩ = some (.slice (some ⟨gL, 0, none⟩) l.length (l.length + 9)) := by
        have h1 := (HG7.out.block wr.heap.size (by rw [hz6a]; have := HGL.out; omega) (fun e2 => by have := (HM.out.row.lt e2.symm).2; omega)).trans hO6a
        exact cellOf h1 1 _ rfl
      have HZ7 : Hid (w2.heap.size ≤ w7.heap.size) := Nat.le_trans HBA.out (Nat.le_trans HB6a.out.size HG7.out.size)
      obtain ⟨oa7, oc7, e7⟩ := HW7.out.shape
      rw [List.length_append, HM.out.len, List.length_singleton] at e7
      subst e7
      clear hw6r hw6b hO6a hR6a hz6a hw6a p0 p1 p2 p3
      unfold Shut
      go_wp2_with ((at_builtin; go_loud (refine wpList_append_way bxOk _ rfl (.tmp 49) (.tmp 52) rfl w2.heap.size (.slice ba j bc) (M.map (·.2.2.2)) (.slice (some ⟨gL, 0, none⟩) l.length (l.length + 9)) rfl (HB7.out.at fun q e => Below.heap_alloc _ _ _ (HB7.out.lt e).2) _ 1 rfl (heap_new _ _) (Nat.le_trans HZ7.out (by simp)) (by show (List.length _ + 1) * 24 ≤ _; rw [List.length_map, HM.out.len]; have := HJB.out; omega) ?_); intro v9 w9 hw9 hg9 hs9; have HW9 := hide hw9; have HG9 := hide hg9; clear hw9 hg9 hs9))
      have HL9 := HM.out.push (f := (s, l, z, .slice (some ⟨gL, 0, none⟩) l.length (l.length + 9))) HJL.out (by rw [HF.out]) (by rw [HF.out]) (by rw [HF.out]) HB6a.out HLF.out HBA.out HW7.out HG7.out (bel1 (Below.refl _ _) (Nat.le_refl _) (.cells #[.slice (some ⟨gL, 0, none⟩) l.length (l.length + 9)] 34)) HW9.out HG9.out (fun q e => xb_apart HW7.out HB7.out e)
      have hBz : Below w2.heap.size wr w9 := by
        have h1 : Below w2.heap.size wr w7 := (HB6a.out.mono HBA.out).grown HG7.out (Nat.le_trans HBA.out HB6a.out.size) (fun q hq => (HM.out.row.lt hq).1)
        exact (bel1 h1 HZ7.out _).grown HG9.out (Nat.le_trans HZ7.out (by simp)) (fun q hq => (HB7.out.lt hq).1)
      exact ⟨⟨j + 1, _, by omega, by go_num, HL9, HB.out.trans hBz⟩, by simp [intOf]; omega⟩
    · have hje : j = L.length := by omega
      subst hje
      have HAPP : Hid ((M.length + 1) * 48 ≤ 140737488355328) := by show _ ≤ _; rw [HM.out.len]; have := HS.out.2.1; omega
      have hz0 : (L.length : Int) ≤ 1000000000000 := by have := HS.out.2.1; omega
      go_wp2_with ((at_builtin; go_loud (refine wpList_append_way kxOk _ rfl (.tmp 54) (.tmp 56) rfl w2.heap.size (.slice oa L.length oc) M (⟨#[98, 101, 104, 105, 110, 100]⟩, [], 0, .slice none 0 0) rfl (HM.out.row.at fun q e => Below.heap_alloc _ _ _ (HM.out.row.lt e).2) _ 1 rfl (heap_new _ _) (Nat.le_trans HBA.out (by simp)) HAPP.out ?_); intro v4 w4 hw4 hg4 hs4; have HW4 := hide hw4; have HG4 := hide hg4; clear hw4 hg4 hs4; refine Shut.out ?_))
      have hra : Wy KX (wr.alloc (.cells #[.string ⟨#[98, 101, 104, 105, 110, 100]⟩, .slice none 0 0, .int .i64 0] 44)) w2.heap.size (.slice oa L.length oc) M := HM.out.row.at fun q e => Below.heap_alloc _ _ _ (HM.out.row.lt e).2
      have hba : Below wr.heap.size wr (wr.alloc (.cells #[.string ⟨#[98, 101, 104, 105, 110, 100]⟩, .slice none 0 0, .int .i64 0] 44)) := bel1 (Below.refl _ _) (Nat.le_refl _) _
      have HB4 : Hid (Below w2.heap.size w2 w4) := HB.out.trans ((hba.mono HBA.out).grown HG4.out (Nat.le_trans HBA.out (by simp)) (fun q hq => (hra.lt hq).1))
      have HL4 : Hid (∀ f ∈ M, LentV w2.heap.size w4 f) := fun f hf => by
        have h1 := HM.out.lnt f hf
        have h2 : LentV w2.heap.size (wr.alloc (.cells #[.string ⟨#[98, 101, 104, 105, 110, 100]⟩, .slice none 0 0, .int .i64 0] 44)) f := h1.keep hba.size (fun g e => hba.block g (h1.lt e).2)
        exact h2.keep HG4.out.size (fun g e => HG4.out.block g (h2.lt e).2 (fun e2 => h2.nx hra e e2.symm))
      have HX4 : Hid (Wy BX w4 w2.heap.size (.slice ba L.length bc) (M.map (·.2.2.2))) := by
        have h1 := HM.out.byt.at (w' := (wr.alloc (.cells #[.string ⟨#[98, 101, 104, 105, 110, 100]⟩, .slice none 0 0, .int .i64 0] 44))) fun q e => hba.block q (HM.out.byt.lt e).2
        exact h1.at fun q e => HG4.out.block q (h1.lt e).2 (fun e2 => xb_apart hra h1 e2.symm e)
      have h4 := HW4.out
      rcases h4 with ⟨_, e4⟩ | ⟨g4, off4, cap4, cur4, e4, _, hc4, hm4, _⟩
      · simp at e4
      rw [List.length_append, HM.out.len, List.length_singleton] at e4 hc4
      subst e4
      have HLR := hide (lr_of HW4.out HL4.out HM.out.len (fun f hf c hc => by
        obtain ⟨i, hi, rfl⟩ := List.getElem_of_mem hf
        have hiL : i < L.length := by rw [← HM.out.len]; exact hi
        rw [(HM.out.sm i hiL hi).2.1] at hc
        exact HL.out.lt256 _ (List.getElem_mem hiL) c hc))
      have HKM : Hid (LdK n M k) := HK.out.congr HM.out.len (fun i h h2 => HM.out.sm i h h2)
      have HIN : Hid (M.map inF = L.map inF) := inF_congr HM.out.len (fun i h h2 => HM.out.sm i h h2)
      have HSM : Hid (LSm M) := ⟨fun f hf => by
        obtain ⟨i, hi, rfl⟩ := List.getElem_of_mem hf
        have hiL : i < L.length := by rw [← HM.out.len]; exact hi
        have h5 := HS.out.1 _ (List.getElem_mem hiL)
        rw [(HM.out.sm i hiL hi).1, (HM.out.sm i hiL hi).2.1]
        exact h5, by rw [HM.out.len]; exact HS.out.2.1, by rw [HIN.out]; exact HS.out.2.2⟩
      have HDL := hide (load_dk w4 _ M HLR.out n k HKM.out HSM.out)
      have hsl : (L.length : Int) ≤ (cap4 : Int) := by omega
      clear hra hba
      unfold Shut
      go_wp2_with fail
      refine HDL.out.mono ?_
      rintro e w5 ⟨hb5, h5⟩
      have h6 : ∃ q, e = .returned (.tuple #[.pointer q, .int .i64 k]) ∧ AnsD w4.heap.size n k L q w5 := by
        rcases h5 with ⟨h, rfl⟩ | ⟨rfl, dd, F, rfl, h7, h8⟩
        · exact ⟨none, rfl, .inl ⟨h, rfl⟩⟩
        · rw [HIN.out] at h7 h8
          exact ⟨_, rfl, .inr ⟨rfl, dd, F, rfl, h7, h8⟩⟩
      obtain ⟨pd, rfl, h6⟩ := h6
      have HAD := hide h6
      have HB5 := hide hb5
      have hlast : w4.cell? ⟨g4, off4 + L.length * 3, none⟩ = some (.string ⟨#[98, 101, 104, 105, 110, 100]⟩) := by
        have h9 := wy_cellX HW4.out L.length 0 (by rw [List.length_append, HM.out.len]; exact Nat.lt_succ_self _) (by decide) (v := .string ⟨#[98, 101, 104, 105, 110, 100]⟩) (by
          rw [List.getElem_append_right (by rw [HM.out.len]; exact Nat.le_refl _)]
          simp [HM.out.len, lEnc])
        simpa using h9
      have hg4 := (wy_ltX HW4.out)
      have hlast5 : w5.cell? ⟨g4, off4 + L.length * 3, none⟩ = some (.string ⟨#[98, 101, 104, 105, 110, 100]⟩) := (HB5.out.cell (p := ⟨g4, off4 + L.length * 3, none⟩) hg4.2.1).trans hlast
      have HS5 : Hid (Wy KX w5 w2.heap.size (.slice (some ⟨g4, off4, none⟩) (L.length + 1) cap4) (M ++ [(⟨#[98, 101, 104, 105, 110, 100]⟩, [], 0, .slice none 0 0)]) ∧ Wy BX w5 w2.heap.size (.slice ba L.length bc) (M.map (·.2.2.2)) ∧ (∀ f ∈ M, LentV w2.heap.size w5 f)) := ⟨HW4.out.at fun q e => HB5.out.block q (HW4.out.lt e).2, HX4.out.at fun q e => HB5.out.block q (HX4.out.lt e).2, fun f hf => (HL4.out f hf).keep HB5.out.size (fun g e => HB5.out.block g ((HL4.out f hf).lt e).2)⟩
      have HB25 : Hid (Below w2.heap.size w2 w5) := HB4.out.trans (HB5.out.mono HB4.out.size)
      have hix : (L.length : Int) < (L.length : Int) + 1 := by omega
      clear h5 h6 hb5 hlast hg4 HDL
      go_wp2_with fail
      go_loopw [14, 15] (fun gv iv wr => ∃ (j : Nat) (X : List Lf), j ≤ L.length ∧ gv = .bool true ∧ iv = .int .i64 (j : Int) ∧ Hid (Wy KX wr w2.heap.size (.slice (some ⟨g4, off4, none⟩) (L.length + 1) cap4) X ∧ X.length = L.length + 1 ∧ ∀ q, j ≤ q → X[q]? = (M ++ [(⟨#[98, 101, 104, 105, 110, 100]⟩, [], 0, .slice none 0 0)])[q]?) ∧ Hid (Wy BX wr w2.heap.size (.slice ba L.length bc) (M.map (·.2.2.2))) ∧ Hid (∀ q (h : q < M.length), j ≤ q → LentV w2.heap.size wr M[q]) ∧ Hid (Kp (fun q => w2.heap.size ≤ q ∧ q < w4.heap.size) w5 wr)) (fun _ iv _ => L.length - (intOf iv).toNat)
      case atStart => exact ⟨0, _, Nat.zero_le _, by first | rfl | simp, rfl, ⟨HS5.out.1, by rw [List.length_append, HM.out.len]; rfl, fun q _ => rfl⟩, HS5.out.2.1, fun q h _ => HS5.out.2.2 _ (List.getElem_mem h), Kp.refl _ _⟩
      case round =>
        obtain ⟨j, X, hj, rfl, rfl, HX, HY, HV, HKP⟩ := hrel
        have HBW : Hid (Below w2.heap.size w2 wr) := HB25.out.trans (kp_below HKP.out (fun q hq h => by omega) HB25.out.size)
        by_cases hjl : j < L.length
        · have hjM : j < M.length := by rw [HM.out.len]; exact hjl
          have hjX : j < X.length := by rw [HX.out.2.1]; omega
          have hXj : X[j] = M[j] := by
            have h1 := HX.out.2.2 j (Nat.le_refl _)
            rw [List.getElem?_eq_getElem hjX, List.getElem?_append_left hjM, List.getElem?_eq_getElem hjM] at h1
            exact Option.some.inj h1
          obtain ⟨e1, e2, e3⟩ := HM.out.sm j hjl hjM
          have hlv := HV.out j hjM (Nat.le_refl _)
          obtain ⟨g, off, cap, a1, c1, e, hg, r0, r1, r2, he2⟩ := ((HL.out.below HB2.out).below HBW.out).el j hjl
          have hdj := ((HL.out.below HB2.out).below HBW.out).dat L[j] (List.getElem_mem hjl)
          have h256 := HL.out.lt256 _ (List.getElem_mem hjl)
          have hkj := HS.out.1 L[j] (List.getElem_mem hjl)
          have hg2 : g < w2.heap.size := by
            obtain ⟨g', off', cap', _, _, e', hg', _⟩ := (HL.out.below HB2.out).el j hjl
            rw [e] at e'
            simp only [Value.slice.injEq, Option.some.injEq, Addr.mk.injEq, and_true] at e'
            omega
          simp only [Value.slice.injEq] at e
          obtain ⟨rfl, _, rfl⟩ := e
          obtain ⟨gb, ob, rfl⟩ := baS HY.out (by omega)
          have hyj := wy_cellB HY.out j (by rw [List.length_map]; exact hjM)
          rw [List.getElem_map] at hyj
          have hx0 := wy_cellX HX.out.1 j 0 hjX (by decide) (v := .string X[j].1) rfl
          have hx2 := wy_cellX HX.out.1 j 2 hjX (by decide) (v := .int .i64 X[j].2.2.1) rfl
          rw [hXj, e1] at hx0
          rw [hXj, e3] at hx2
          obtain ⟨mj, hmj⟩ : ∃ mj, M[j] = mj := ⟨_, rfl⟩
          obtain ⟨f, hf⟩ : ∃ f, L[j] = f := ⟨_, rfl⟩
          rw [hmj] at e1 e2 e3 hlv hyj
          rw [hf] at e1 e2 e3 r0 r1 r2 he2 hdj h256 hkj hx0 hx2
          have HMJ := hide hmj
          have HG44 : Hid (w2.heap.size ≤ g4 ∧ g4 < w4.heap.size) := ⟨(wy_ltX HW4.out).1, (wy_ltX HW4.out).2.1⟩
          have HGL4 : Hid (∀ gL, M[j].2.2.2.ownBlock = some gL → w2.heap.size ≤ gL ∧ gL < w4.heap.size) := fun gL e => (HL4.out M[j] (List.getElem_mem hjM)).lt e
          have HXJ := hide (hXj.trans hmj)
          obtain ⟨s, l, z, ov⟩ := f
          obtain ⟨s', l', z', ov'⟩ := mj
          dsimp only at e1 e2 e3 r0 r1 r2 he2 hdj h256 hkj hlv hyj hx0 hx2
          subst he2
          obtain rfl := e1
          obtain rfl := e2
          obtain rfl := e3
          obtain ⟨gL, eL, hrow, hgB, hgL⟩ := hlv
          dsimp only at eL hrow
          subst eL
          have hrd : Rd wr a1 l'.length l' := by
            obtain ⟨a', c', e', _, _, hrd⟩ := hdj
            simp only [Value.slice.injEq, true_and] at e'
            obtain ⟨rfl, rfl⟩ := e'
            exact hrd
          have HAS : Hid (∀ V, Below wr.heap.size wr V → Calls Try.prog 17 #[.slice (some ⟨gL, 0, none⟩) l'.length (l'.length + 9), .slice a1 l'.length c1] V fun e w' => e = .returned (.bool true) ∧ Kp (fun q => q = gL) V w') := fun V hV => asLent_kp gL l'.length c1 a1 l' V (rowIs_keep hrow (hV.block _ hgL)) (by
            have h1 := hdj.below hV
            obtain ⟨a', c', e', _, _, hrd⟩ := h1
            simp only [Value.slice.injEq, true_and] at e'
            obtain ⟨rfl, rfl⟩ := e'
            exact hrd) hkj.2 h256
          have hx := wy_ltX HX.out.1
          have hgx : g4 ≠ gL := fun e => by
            have h1 : LentV w2.heap.size wr (s', l', z', .slice (some ⟨gL, 0, none⟩) l'.length (l'.length + 9)) := ⟨gL, rfl, hrow, hgB, hgL⟩
            exact h1.nx HX.out.1 (g := gL) rfl (by rw [e]; rfl)
          have hgy : gb ≠ gL := fun e => by
            have h1 : LentV w2.heap.size wr (s', l', z', .slice (some ⟨gL, 0, none⟩) l'.length (l'.length + 9)) := ⟨gL, rfl, hrow, hgB, hgL⟩
            exact h1.nb HY.out (g := gL) rfl (by rw [e]; rfl)
          have hgg : g ≠ gL := by omega
          have hgbl : gb < wr.heap.size := (HY.out.lt (k := gb) rfl).2
          have HKC : Hid (∀ V w', Below wr.heap.size wr V → Kp (fun q => q = gL) V w' → (∀ b o, b ≠ gL → b < wr.heap.size → w'.cell? ⟨b, o, none⟩ = wr.cell? ⟨b, o, none⟩)) := fun V w' hV hk b o hb hlt => by
            have h1 : w'.heap[b]? = wr.heap[b]? := (hk.block (Nat.lt_of_lt_of_le hlt hV.size) hb).trans (hV.block b hlt)
            simp [World.cell?, h1]
          have HCS := hide (And.intro hx0 (And.intro hx2 (And.intro r0 (And.intro r1 (And.intro r2 hyj)))))
          have HNE := hide (And.intro hgx (And.intro hgy (And.intro hgg (And.intro hgbl (And.intro hx.2.1 (And.intro hg hgL))))))
          have hji : (j : Int) < (L.length : Int) := by omega
          have hji1 : (j : Int) < (L.length : Int) + 1 := by omega
          have hss := str_eq s' s'
          have y1 : wr.cell? ⟨gb, ob + j, none⟩ = some (.slice (some ⟨gL, 0, none⟩) l'.length (l'.length + 9)) := hyj
          clear hXj hmj hf hdj hkj h256 hrow hgB hgL hrd hx hgx hgy hgg hgbl hx0 hx2 r0 r2 hyj
          go_wp2_with fail
          go_region_held (fun V => V.cell? ⟨gb, ob + j, none⟩ = some (.slice (some ⟨gL, 0, none⟩) l'.length (l'.length + 9)) ∧ V.cell? ⟨g, off + j * 3 + 1, none⟩ = some (.slice a1 l'.length c1)) (first | go_keep | exact HC2.out) ((go_at_call 17; refine Calls.mono (HAS.out _ (by first | exact Below.refl _ _ | exact (Below.refl _ _).drew | exact (Below.refl _ _).drew.drew)) ?_; rintro e2 w6 ⟨rfl, hk6⟩; have HC2 : Hid (w6.cell? ⟨gb, ob + j, none⟩ = some (.slice (some ⟨gL, 0, none⟩) l'.length (l'.length + 9)) ∧ w6.cell? ⟨g, off + j * 3 + 1, none⟩ = some (.slice a1 l'.length c1)) := ⟨(HKC.out _ _ (by first | exact Below.refl _ _ | exact (Below.refl _ _).drew | exact (Below.refl _ _).drew.drew) hk6 _ _ HNE.out.2.1 HNE.out.2.2.2.1).trans HCS.out.2.2.2.2.2, (HKC.out _ _ (by first | exact Below.refl _ _ | exact (Below.refl _ _).drew | exact (Below.refl _ _).drew.drew) hk6 _ _ HNE.out.2.2.1 HNE.out.2.2.2.2.2.1).trans HCS.out.2.2.2.1⟩; have HK6 : Hid (Kp (fun q => q = gL) wr w6) := (Kp.ofBelow (by first | exact Below.refl _ _ | exact (Below.refl _ _).drew | exact (Below.refl _ _).drew.drew)).trans hk6; clear hk6))
          have kc : ∀ b o, b ≠ gL → b < wr.heap.size → w6.cell? ⟨b, o, none⟩ = wr.cell? ⟨b, o, none⟩ := fun b o hb hlt => by
            have h1 := HK6.out.block hlt hb
            simp [World.cell?, h1]
          have z0 : w6.cell? ⟨g4, off4 + j * 3, none⟩ = some (.string s') := (kc _ _ HNE.out.1 HNE.out.2.2.2.2.1).trans (by simpa using HCS.out.1)
          have z2 : w6.cell? ⟨g4, off4 + j * 3 + 2, none⟩ = some (.int .i64 z') := (kc _ _ HNE.out.1 HNE.out.2.2.2.2.1).trans (by simpa [Nat.add_assoc] using HCS.out.2.1)
          have z1 : w6.cell? ⟨g4, off4 + j * 3 + 1, none⟩ = some (.slice (some ⟨gL, 0, none⟩) l'.length (l'.length + 9)) := (kc _ _ HNE.out.1 HNE.out.2.2.2.2.1).trans (by
            have h9 := wy_cellX HX.out.1 j 1 (by rw [HX.out.2.1]; omega) (by decide) (v := .slice (some ⟨gL, 0, none⟩) l'.length (l'.length + 9)) (by rw [HXJ.out]; rfl)
            simpa [Nat.add_assoc] using h9)
          have x0 : w6.cell? ⟨g, off + j * 3, none⟩ = some (.string s') := (kc _ _ HNE.out.2.2.1 HNE.out.2.2.2.2.2.1).trans HCS.out.2.2.1
          have x2 : w6.cell? ⟨g, off + j * 3 + 2, none⟩ = some (.int .i64 z') := (kc _ _ HNE.out.2.2.1 HNE.out.2.2.2.2.2.1).trans HCS.out.2.2.2.2.1
          have HX6 : Hid (Wy KX w6 w2.heap.size (.slice (some ⟨g4, off4, none⟩) (L.length + 1) cap4) X) := HX.out.1.at fun q e => HK6.out.block (HX.out.1.lt e).2 (fun e2 => by
            have h5 : g4 = q := Option.some.inj e
            exact HNE.out.1 (h5.trans e2))
          have f0 := wy_frozX HX6.out (off4 + j * 3)
          have f1 := wy_frozX HX6.out (off4 + j * 3 + 1)
          have f2 := wy_frozX HX6.out (off4 + j * 3 + 2)
          clear kc y1 r1
          go_wp2_with fail
          go_quiet (fail)
          go_wp2_with fail
          have hjX2 : j < X.length := by rw [HX.out.2.1]; omega
          have hjM2 : j < M.length := by rw [HM.out.len]; exact hjl
          have hgl := HGL4.out gL (by rw [HMJ.out]; rfl)
          have hx7 : Wy KX (w6.drewN nq) w2.heap.size (.slice (some ⟨g4, off4, none⟩) (L.length + 1) cap4) X := HX6.out.at fun q e => (below_drewN (Below.refl w6.heap.size w6) nq).block q (HX6.out.lt e).2
          have hy6 : Wy BX w6 w2.heap.size (.slice (some ⟨gb, ob, none⟩) L.length bc) (M.map (·.2.2.2)) := HY.out.at fun q e => HK6.out.block (HY.out.lt e).2 (fun e2 => by
            have h5 : gb = q := Option.some.inj e
            exact HNE.out.2.1 (h5.trans e2))
          have hy7 : Wy BX (w6.drewN nq) w2.heap.size (.slice (some ⟨gb, ob, none⟩) L.length bc) (M.map (·.2.2.2)) := hy6.at fun q e => (below_drewN (Below.refl w6.heap.size w6) nq).block q (hy6.lt e).2
          have hgbx : gb ≠ g4 := fun e => xb_apart hx7 hy7 (g := g4) rfl (by rw [e]; rfl)
          have s1 := wy_setX hx7 j hjX2 (⟨#[]⟩, l', z', .slice (some ⟨gL, 0, none⟩) l'.length (l'.length + 9)) 0 (.string ⟨#[]⟩) (by decide) (by rw [HXJ.out]; rfl)
          have s2 := wy_setX s1 j (by rw [List.length_set]; exact hjX2) (⟨#[]⟩, l', z', .slice none 0 0) 1 (.slice none 0 0) (by decide) (by rw [List.getElem_set_self]; rfl)
          have s3 := wy_setX s2 j (by rw [List.length_set, List.length_set]; exact hjX2) (⟨#[]⟩, l', 0, .slice none 0 0) 2 (.int .i64 0) (by decide) (by rw [List.getElem_set_self]; rfl)
          have hoth : ∀ q, q ≠ g4 → ((((w6.drewN nq).setCell ⟨g4, off4 + j * 3 + 0, none⟩ (.string ⟨#[]⟩)).setCell ⟨g4, off4 + j * 3 + 1, none⟩ (.slice none 0 0)).setCell ⟨g4, off4 + j * 3 + 2, none⟩ (.int .i64 0)).heap[q]? = (w6.drewN nq).heap[q]? := fun q hq => by
            rw [blk_set_other _ _ _ _ hq, blk_set_other _ _ _ _ hq, blk_set_other _ _ _ _ hq]
          have hkz : Kp (fun q => w2.heap.size ≤ q ∧ q < w4.heap.size) w5 ((((w6.drewN nq).setCell ⟨g4, off4 + j * 3 + 0, none⟩ (.string ⟨#[]⟩)).setCell ⟨g4, off4 + j * 3 + 1, none⟩ (.slice none 0 0)).setCell ⟨g4, off4 + j * 3 + 2, none⟩ (.int .i64 0)) :=
            (((((HKP.out.trans (HK6.out.mono (fun q hq => by rw [hq]; exact hgl))).trans (Kp.ofBelow (below_drewN (Below.refl w6.heap.size w6) nq))).setCell HG44.out _).setCell HG44.out _).setCell HG44.out _)
          have hvz : ∀ q (h : q < M.length), j + 1 ≤ q → LentV w2.heap.size ((((w6.drewN nq).setCell ⟨g4, off4 + j * 3 + 0, none⟩ (.string ⟨#[]⟩)).setCell ⟨g4, off4 + j * 3 + 1, none⟩ (.slice none 0 0)).setCell ⟨g4, off4 + j * 3 + 2, none⟩ (.int .i64 0)) M[q] := fun q h hq => by
            have h1 := HV.out q h (by omega)
            have h2 : LentV w2.heap.size w6 M[q] := h1.keep HK6.out.size (fun gq e => HK6.out.block (h1.lt e).2 (fun e2 => by
              have h3 := List.pairwise_iff_getElem.1 HM.out.apt j q hjM2 h (by omega) gL (by rw [HMJ.out]; rfl)
              exact h3 (by rw [e, e2])))
            have h4 : LentV w2.heap.size (w6.drewN nq) M[q] := h2.keep (below_drewN (Below.refl w6.heap.size w6) nq).size (fun gq e => (below_drewN (Below.refl w6.heap.size w6) nq).block gq (h2.lt e).2)
            exact h4.keep (by simp) (fun gq e => hoth gq (fun e2 => h4.nx hx7 e (by rw [e2]; rfl)))
          exact ⟨⟨j + 1, _, by omega, by first | rfl | simp, by go_num, ⟨s3, by simp [HX.out.2.1], fun q hq => by
            rw [List.getElem?_set_ne (by omega), List.getElem?_set_ne (by omega), List.getElem?_set_ne (by omega)]
            exact HX.out.2.2 q (by omega)⟩, hy7.at fun q e => hoth q (fun e2 => hgbx (by
              have h5 : gb = q := Option.some.inj e
              exact h5.trans e2)), hvz, hkz⟩, by simp [intOf]; omega⟩
        · have hje2 : j = L.length := by omega
          subst hje2
          rcases HAD.out with ⟨hk0, rfl⟩ | ⟨hk0, dd, F, rfl, hDD, hFP⟩
          · rcases HAR.out with ⟨_, rfl⟩ | ⟨hk1, _⟩
            case inr => exact absurd hk1 hk0
            go_wp2_with fail
            go_ret
            exact ⟨rfl, HB2.out.trans (HBW.out.mono HB2.out.size)⟩
          · rcases HAR.out with ⟨hk1, _⟩ | ⟨_, lv, W, rfl, hXD, hWP⟩
            case inl => exact absurd hk0 hk1
            go_wp2_with fail
            have hDD2 : DD (fun q => w4.heap.size ≤ q) wr dd (dxl n (L.map inF)) F := by
              obtain ⟨⟨m, E, hE, hdk⟩, hl, ho⟩ := hDD
              exact ⟨⟨m, E, hE, (hdk.lts.keep (fun q hq => HKP.out.block hq.2 (fun h => by omega))).up (fun q hq => hq.1)⟩, hl, ho⟩
            refine (up_any _ wr dd _ F hDD2).mono ?_
            rintro e w6 ⟨rfl, hbe⟩
            have hDD6 : DD (Sn (fun q => w4.heap.size ≤ q) wr) w6 dd (dxl n (L.map inF)) F := ⟨hbe.1, hDD2.lk, hDD2.ok⟩
            have hb6 : Below w4.heap.size wr w6 := kp_below hbe.2 (fun q hq h => by omega) (Nat.le_trans HB5.out.size HKP.out.size)
            have HFA := hide (files_any _ w6 dd _ F hDD6 (by
              have h1 := hFP.length_eq
              rw [List.length_map] at h1
              have := HS.out.2.1
              omega))
            have HB6 := hide hb6
            have HFP := hide hFP
            have HXD := hide hXD
            have HWP := hide hWP
            clear hDD hDD2 hDD6 hb6 hbe hFP hXD hWP
            go_wp2_with fail
            refine HFA.out.mono ?_
            rintro e w7 ⟨v7, W7, rfl, hw7, hp7, hs7, ht7, _, hk7⟩
            have hb7 : Below w4.heap.size w6 w7 := kp_below hk7 (fun q hq h => by
              rcases h with h | h
              · omega
              · have h9 := HB5.out.size
                have h8 := HKP.out.size
                omega) (Nat.le_trans (Nat.le_trans HB5.out.size HKP.out.size) HB6.out.size)
            have hb27 : Below w2.heap.size w2 w7 := HBW.out.trans ((HB6.out.trans hb7).mono HB4.out.size)
            have HFR := hide (files_r (HXD.out.rd.below hb27) (fun o ho => by have := (HXD.out.size o ho).2; omega) (by have := HXD.out.few; omega))
            have HB27 := hide hb27
            have H7 := hide (And.intro hw7 (And.intro hp7 (And.intro hs7 ht7)))
            obtain ⟨va7, vc7, rfl⟩ := hw7.shape
            clear hw7 hp7 hs7 ht7 hk7 hb7 hb27 HFA
            go_wp2_with fail
            refine HFR.out.mono ?_
            rintro e w8 ⟨v8, U, rfl, hw8, he8, ht8, hb8⟩
            have hww : W7.map (·.1) = U.map (·.1) := srt_eq H7.out.2.2.1 (srt_rd HXD.out.rd he8) (by
              rw [he8]
              exact H7.out.2.1.trans (HFP.out.trans HWP.out.symm)) (by
              have h9 := HXD.out.rd.nodup
              exact (((H7.out.2.1.trans (HFP.out.trans HWP.out.symm)).map (·.1)).nodup_iff).2 h9)
            have HSM2 := hide (same_yes w8 _ _ _ v8 W7 U (H7.out.1.at fun q e => hb8.block q (H7.out.1.lt e).2) hw8 hww (H7.out.2.2.2.below hb8) ht8)
            have HB8 := hide hb8
            obtain ⟨va8, vc8, rfl⟩ := hw8.shape
            clear hw8 he8 ht8 hb8 hww HFR
            go_wp2_with fail
            refine HSM2.out.mono ?_
            rintro e w9 ⟨rfl, hb9⟩
            have HB9 := hide hb9
            clear hb9 HSM2
            go_wp2_with fail
            go_ret
            refine ⟨by first | rfl | simp [dxl, dx0], ?_⟩
            have h1 := HB27.out.trans (HB8.out.mono HB27.out.size)
            have h2 := h1.trans (HB9.out.mono h1.size)
            exact HB2.out.trans (h2.mono HB2.out.size)
end Go.Proofs.Ytgkdecjlanbmhaa
