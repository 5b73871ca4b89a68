/- E7, E8, E9, EA -/
import Derived.Test.YthhlpjhkeendcaaGreatDoorS39
import Derived.Test.YthhlpjhkeendcaaGreatDoorS15
import Derived.Deep.WholeRow
namespace Go.Proofs.YthhlpjhkeendcaaGreatDoor
set_option linter.unusedVariables false
set_option linter.unusedSimpArgs false
namespace E
open Go.RowKit Go.Deep
theorem Tryz.infoFm : (Tryz.prog.info? 49).map (·.size) = some 2 := by kernel_rfl
def FmP (w w' : World) (c : Nat) (l : List Nat) (r : Value) : Prop := ∃ u, r = .agg #[.int .i64 (c : Int), u] ∧ Rb w' u l ∧ Below w.heap.size w w' ∧ At w.heap.size u
def ShOk (x : V) : Prop := ∀ n₀ w, n₀ ≤ w.heap.size → Lies n₀ w x → Calls Tryz.prog 20 #[x.val] w fun e w' => ∃ r, e = .returned r ∧ FmP w w' (T.code x.t) (T.data x.t (T.code x.t)) r
theorem Rb.sl {w : World} {v : Value} {l : List Nat} (h : Rb w v l) : ∃ a cap, v = .slice a l.length cap := by
  obtain ⟨a, cap, e, _⟩ := h
  exact ⟨a, cap, e⟩
theorem encs_take (l : List V) (j : Nat) (h : j < l.length) : encs (V.ts (l.take (j + 1))) = encs (V.ts (l.take j)) ++ [T.code l[j].t] ++ T.data l[j].t (T.code l[j].t) := by
  rw [encs_snoc l j h]
  unfold T.enc
  simp
set_option maxRecDepth 100000 in
set_option maxHeartbeats 4000000 in
theorem elements_any (a : Option Addr) (c n₀ : Nat) (l : List V) (w : World) (hn : n₀ ≤ w.heap.size) (hrow : 0 < l.length → ∃ b o, a = some ⟨b, o, none⟩ ∧ b < n₀ ∧ Row w b o l) (hl : ∀ x ∈ l, Lies n₀ w x) (ih : ∀ x ∈ l, ShOk x) (hcd : ∀ x ∈ l, T.code x.t < 256)
    (hc : l.length ≤ c) (hll : l.length ≤ 2199023255552) (hB : (encs (V.ts l)).length ≤ 1099511627776) :
    Calls Tryz.prog 45 #[.slice a l.length c] w fun e w' => ∃ u, e = .returned u ∧ Hid (Rb w' u (encs (V.ts l)) ∧ At w.heap.size u) ∧ Below w.heap.size w w' := by
  have HR := hide hrow
  have HL := hide hl
  have IH := hide ih
  have HCd := hide hcd
  have HBd := hide hB
  clear hrow hl ih hcd hB
  go_enter Tryz.func45, Tryz.ntmps45
  go_wp2
  go_loopw [3, 4] (fun vl i wr => ∃ j : Nat, i = .int .i64 j ∧ j ≤ l.length ∧ Hid (Ob w.heap.size wr vl (encs (V.ts (l.take j)))) ∧ Below w.heap.size w wr) (fun _ i _ => l.length - (intOf i).toNat)
  case atStart => exact ⟨0, rfl, Nat.zero_le _, Ob.nil _ _, Below.refl _ _⟩
  case round =>
    obtain ⟨j, rfl, hj, HO, hb⟩ := hrel
    have HB := hide hb
    clear hb
    by_cases hjl : j < l.length
    · obtain ⟨b, o, rfl, hlt, hr⟩ := HR.out (by omega)
      obtain ⟨x0, x1, x2, x3, x4⟩ := (hr.below HB.out (by omega)) j hjl
      obtain ⟨x, hx⟩ : ∃ x, l[j] = x := ⟨_, rfl⟩
      have hm : x ∈ l := hx ▸ List.getElem_mem hjl
      have hsh := IH.out x hm n₀ wr (Nat.le_trans hn HB.out.size) ((HL.out x hm).keep HB.out hn)
      rw [V.val_eq] at hsh
      have HSh := hide hsh
      have HTk := hide (encs_take l j hjl)
      have HLe := hide (Nat.le_trans (encs_le l (j + 1)) HBd.out)
      have hcx := HCd.out x hm
      rw [hx] at x0 x1 x2 x3 x4
      rw [hx] at HTk
      obtain ⟨C, hC⟩ : ∃ C, T.code x.t = C := ⟨_, rfl⟩
      obtain ⟨D, hD⟩ : ∃ D, T.data x.t C = D := ⟨_, rfl⟩
      rw [hC, hD] at HSh
      rw [hC, hD] at HTk
      rw [hC] at hcx
      obtain ⟨E, hE⟩ : ∃ E, encs (V.ts (l.take j)) = E := ⟨_, rfl⟩
      rw [hE] at HO HTk
      rw [HTk.out] at HLe
      have hbr : b < wr.heap.size := Nat.lt_of_lt_of_le hlt (Nat.le_trans hn HB.out.size)
      have hwc : IntKind.u8.wrap (C : Int) = (C : Int) := by rw [IntKind.wrap_u8]; omega
      clear hsh hr hx hm hC hD hE
      go_wp2_with (first | (go_at_call 20; refine HSh.out.mono ?_; rintro e1 w1 ⟨r, rfl, u, rfl, hrb, hb1, hat⟩; refine Shut.out ?_))
      unfold Shut
      obtain ⟨ua, ucap, rfl⟩ := hrb.sl
      have HAt := hide hat
      have HS1 : Hid (wr.heap.size ≤ w1.heap.size) := hb1.size
      clear hat
      have HRb := hide hrb
      have HB1 := hide (HB.out.trans (hb1.mono HB.out.size))
      have HO1 := hide (HO.out.below hb1)
      clear hrb hb1 x0 x1 x2 x3 x4 HSh
      obtain ⟨V1, hV1⟩ : ∃ V1, w1.alloc (.cells #[.int .i64 (C : Int), .slice ua D.length ucap] 49) = V1 := ⟨_, rfl⟩
      have hbV : Below w1.heap.size w1 V1 := hV1 ▸ bel1 (Below.refl _ _) (Nat.le_refl _) _
      have bV : V1.heap[w1.heap.size]? = some (.cells #[.int .i64 (C : Int), .slice ua D.length ucap] 49 (0, 0)) := hV1 ▸ heap_lst w1 _
      have d0 : V1.cell? ⟨w1.heap.size, 0, none⟩ = some (.int .i64 (C : Int)) := by simp [World.cell?, bV]
      have d1 : V1.cell? ⟨w1.heap.size, 1, none⟩ = some (.slice ua D.length ucap) := by simp [World.cell?, bV]
      have dl : w1.heap.size < V1.heap.size := (Array.getElem?_eq_some_iff.1 bV).1
      have HV1 := hide hV1
      have HBV := hide hbV
      have HBl := hide bV
      clear hV1 hbV bV
      obtain ⟨W2, hW2⟩ : ∃ W2, V1.alloc (.cells #[.int .u8 (C : Int)] 5) = W2 := ⟨_, rfl⟩
      have hbW : Below V1.heap.size V1 W2 := hW2 ▸ bel1 (Below.refl _ _) (Nat.le_refl _) _
      have HR2 : Hid (Rb W2 (.slice (some ⟨V1.heap.size, 0, none⟩) 1 1) [C]) := hW2 ▸ one_rb V1 C hcx
      have HO2 : Hid (Ob w.heap.size W2 u3 E) := (HO1.out.below HBV.out).below hbW
      have HB2 : Hid (Below w.heap.size w W2) := (HB1.out.trans (HBV.out.mono HB1.out.size)).trans (hbW.mono (Nat.le_trans HB1.out.size HBV.out.size))
      have HBl2 : Hid (W2.heap[w1.heap.size]? = some (.cells #[.int .i64 (C : Int), .slice ua D.length ucap] 49 (0, 0))) := (hbW.block _ dl).trans HBl.out
      have HRd2 : Hid (Rb W2 (.slice ua D.length ucap) D) := (HRb.out.below HBV.out).below hbW
      have dl2 : w1.heap.size < W2.heap.size := Nat.lt_of_lt_of_le dl hbW.size
      have HW2 := hide hW2
      have HN0 : Hid (w.heap.size ≤ w1.heap.size) := HB1.out.size
      clear hbW hW2 HO1 HRb
      go_wp2_with (first | (rw [HV1.out]; refine Shut.out ?_))
      unfold Shut
      go_wp2_with (first | (rw [HW2.out]; refine Shut.out ?_))
      unfold Shut
      go_wp2_with (first | (at_builtin; go_loud (refine wpList_app _ rfl (.tmp 17) (.tmp 21) rfl w.heap.size _ E rfl HO2.out _ [C] rfl HR2.out (by have := HLe.out; simp only [List.length_append, List.length_cons, List.length_nil] at *; omega) (by have := HB2.out.size; omega) ?_; intro v3 w3 r1 r2; refine Shut.out ?_)))
      unfold Shut
      have HO3 : Hid (Ob w.heap.size w3 v3 (E ++ [C])) := r1
      have HB3 : Hid (Below w.heap.size w w3) := HB2.out.grown r2 HB2.out.size (fun g hg => (HO2.out.lt g hg).1)
      have hnb : ∀ k, wr.heap.size ≤ k → some k ≠ u3.ownBlock := fun k hk e => by have := (HO.out.lt k e.symm).2; omega
      have HBl3 : Hid (w3.heap[w1.heap.size]? = some (.cells #[.int .i64 (C : Int), .slice ua D.length ucap] 49 (0, 0))) := (r2.block _ dl2 (hnb _ HS1.out)).trans HBl2.out
      have HRd3 : Hid (Rb w3 (.slice ua D.length ucap) D) := by
        obtain ⟨a', cap', e', h1, h2, h3, h4, h5⟩ := HRd2.out
        cases e'
        refine ⟨_, _, rfl, h1, h2, h3, h4, fun h0 => ?_⟩
        obtain ⟨q, off, ha, hq, hcell⟩ := h5 h0
        subst ha
        have hqb := hnb q (HAt.out q rfl)
        exact ⟨q, off, rfl, Nat.lt_of_lt_of_le hq r2.size, fun i hi => (World.cell?_of_block (a := ⟨q, off + i, none⟩) (r2.block q hq hqb)).trans (hcell i hi)⟩
      have e0 : w3.cell? ⟨w1.heap.size, 0, none⟩ = some (.int .i64 (C : Int)) := by simp [World.cell?, HBl3.out]
      have e1 : w3.cell? ⟨w1.heap.size, 1, none⟩ = some (.slice ua D.length ucap) := by simp [World.cell?, HBl3.out]
      have el : w1.heap.size < w3.heap.size := (Array.getElem?_eq_some_iff.1 HBl3.out).1
      clear r1 r2 hnb d0 d1 dl dl2 HBl HBl2 HRd2 HR2 HB2
      go_wp2_with (first | (at_builtin; go_loud (refine wpList_app _ rfl (.tmp 23) (.tmp 25) rfl w.heap.size _ (E ++ [C]) rfl HO3.out _ D rfl HRd3.out (by have := HLe.out; simp only [List.length_append, List.length_cons, List.length_nil] at *; omega) (by have := HB3.out.size; omega) ?_; intro v4 w4 r1 r2; refine Shut.out ?_)))
      unfold Shut
      have HO4 : Hid (Ob w.heap.size w4 v4 (encs (V.ts (l.take (j + 1))))) := by rw [HTk.out]; exact r1
      have HB4 : Hid (Below w.heap.size w w4) := HB3.out.grown r2 HB3.out.size (fun g hg => (HO3.out.lt g hg).1)
      clear r1 r2 HO3 HB3 HRd3 e0 e1
      go_wp2
      go_roundw
      case rel => exact ⟨j + 1, by go_num, by omega, HO4, HB4.out⟩
      case measure => simp [intOf]; omega
    · obtain rfl : j = l.length := by omega
      rw [List.take_length] at HO
      go_wp2
      go_ret
      exact ⟨_, rfl, ⟨HO.out.rb, HO.out.at⟩, HB.out⟩
end E
namespace E
open Go.RowKit Go.Deep
theorem TwoB.mono {B B' : Nat} {w w' : World} {l : List Nat} {ok : Bool} {v : Value} (h : TwoB B w w' l ok v) (hb : B' ≤ B) : TwoB B' w w' l ok v := by
  obtain ⟨u, h1, h2, h3, h4⟩ := h
  exact ⟨u, h1, h2, h3, h4.mono hb⟩
def rD (c : Nat) (k : Int) (N : Nat) (s : ByteArray) (len : Nat) (inn : List Nat) : List Nat × Bool :=
  if c = 160 ∨ c = 161 ∨ c = 163 then (digs s.size 1 ++ txt s, decide (s.size ≤ 255))
  else if c = 176 ∨ c = 177 ∨ c = 179 then (digs s.size 4 ++ txt s, true)
  else if c = 192 ∨ c = 193 ∨ c = 224 then (spanB 1 len inn, decide (len ≤ 255) && decide (1 + inn.length ≤ 255))
  else if c = 208 ∨ c = 209 ∨ c = 240 then (spanB 4 len inn, true)
  else if c = 0 then (inn, true)
  else if c = 65 then ([], decide (N = 1))
  else if c = 66 ∨ c = 67 ∨ c = 68 then ([], decide (N = 0))
  else if c = 69 then ([], decide (len = 0))
  else if c = 148 ∨ c = 152 then (txt s, true)
  else (digs N (widC c).toNat, numOk k N (widC c).toNat)
theorem data_any (B c : Nat) (v : V) (inn : List Nat) (ia : Option Addr) (ic : Nat) (w : World) (hc : c ∈ allC) (hBw : B ≤ w.heap.size) (hr : Rb w (.slice ia inn.length ic) inn) (hat : At B (.slice ia inn.length ic)) (hk : 0 ≤ v.k ∧ v.k ≤ 24) (N : Nat) (hN : v.n = (N : Int)) (hNl : N < 18446744073709551616) (hs : v.s.size ≤ 1099511627776) (hl : v.l.length ≤ 1099511627776) (hi : inn.length ≤ 1099511627776) :
    Calls Tryz.prog 34 #[.int .i64 (c : Int), .agg #[.int .i64 v.k, .int .u64 v.n, .string v.s, .slice v.a v.l.length v.c, .int .i64 v.e], .slice ia inn.length ic] w fun e w' => ∃ u, e = .returned u ∧ TwoB B w w' (rD c v.k N v.s v.l.length inn).1 (rD c v.k N v.s v.l.length inn).2 u := by
  simp only [allC, List.mem_cons, List.not_mem_nil, or_false] at hc
  rcases hc with rfl | rfl | rfl | rfl | rfl | rfl | rfl | rfl | rfl | rfl | rfl | rfl | rfl | rfl | rfl | rfl | rfl | rfl | rfl | rfl | rfl | rfl | rfl | rfl | rfl | rfl | rfl | rfl | rfl | rfl | rfl | rfl | rfl | rfl | rfl | rfl | rfl | rfl | rfl | rfl
  · exact (data_fixed 64 v inn ia ic w (by decide) _ _ (fun w1 => fixed_num 64 0 v w1 (by decide) (by decide) (by decide) hk N hN hNl)).mono fun e w' ⟨u, h1, h2⟩ => ⟨u, h1, TwoB.mono h2 hBw⟩
  · exact (data_fixed 65 v inn ia ic w (by decide) _ _ (fun w1 => fixed_one 65 v w1 rfl)).mono fun e w' ⟨u, h1, h2⟩ => ⟨u, h1, by have h3 := TwoB.mono h2 hBw; rw [hN, show decide ((N : Int) = 1) = decide (N = 1) from decide_eq_decide.2 (by omega)] at h3; exact h3⟩
  · exact (data_fixed 66 v inn ia ic w (by decide) _ _ (fun w1 => fixed_zero 66 v w1 (by decide))).mono fun e w' ⟨u, h1, h2⟩ => ⟨u, h1, by have h3 := TwoB.mono h2 hBw; rw [hN, show decide ((N : Int) = 0) = decide (N = 0) from decide_eq_decide.2 (by omega)] at h3; exact h3⟩
  · exact (data_fixed 86 v inn ia ic w (by decide) _ _ (fun w1 => fixed_num 86 1 v w1 (by decide) (by decide) (by decide) hk N hN hNl)).mono fun e w' ⟨u, h1, h2⟩ => ⟨u, h1, TwoB.mono h2 hBw⟩
  · exact (data_fixed 80 v inn ia ic w (by decide) _ _ (fun w1 => fixed_num 80 1 v w1 (by decide) (by decide) (by decide) hk N hN hNl)).mono fun e w' ⟨u, h1, h2⟩ => ⟨u, h1, TwoB.mono h2 hBw⟩
  · exact (data_fixed 96 v inn ia ic w (by decide) _ _ (fun w1 => fixed_num 96 2 v w1 (by decide) (by decide) (by decide) hk N hN hNl)).mono fun e w' ⟨u, h1, h2⟩ => ⟨u, h1, TwoB.mono h2 hBw⟩
  · exact (data_fixed 67 v inn ia ic w (by decide) _ _ (fun w1 => fixed_zero 67 v w1 (by decide))).mono fun e w' ⟨u, h1, h2⟩ => ⟨u, h1, by have h3 := TwoB.mono h2 hBw; rw [hN, show decide ((N : Int) = 0) = decide (N = 0) from decide_eq_decide.2 (by omega)] at h3; exact h3⟩
  · exact (data_fixed 82 v inn ia ic w (by decide) _ _ (fun w1 => fixed_num 82 1 v w1 (by decide) (by decide) (by decide) hk N hN hNl)).mono fun e w' ⟨u, h1, h2⟩ => ⟨u, h1, TwoB.mono h2 hBw⟩
  · exact (data_fixed 112 v inn ia ic w (by decide) _ _ (fun w1 => fixed_num 112 4 v w1 (by decide) (by decide) (by decide) hk N hN hNl)).mono fun e w' ⟨u, h1, h2⟩ => ⟨u, h1, TwoB.mono h2 hBw⟩
  · exact (data_fixed 68 v inn ia ic w (by decide) _ _ (fun w1 => fixed_zero 68 v w1 (by decide))).mono fun e w' ⟨u, h1, h2⟩ => ⟨u, h1, by have h3 := TwoB.mono h2 hBw; rw [hN, show decide ((N : Int) = 0) = decide (N = 0) from decide_eq_decide.2 (by omega)] at h3; exact h3⟩
  · exact (data_fixed 83 v inn ia ic w (by decide) _ _ (fun w1 => fixed_num 83 1 v w1 (by decide) (by decide) (by decide) hk N hN hNl)).mono fun e w' ⟨u, h1, h2⟩ => ⟨u, h1, TwoB.mono h2 hBw⟩
  · exact (data_fixed 128 v inn ia ic w (by decide) _ _ (fun w1 => fixed_num 128 8 v w1 (by decide) (by decide) (by decide) hk N hN hNl)).mono fun e w' ⟨u, h1, h2⟩ => ⟨u, h1, TwoB.mono h2 hBw⟩
  · exact (data_fixed 81 v inn ia ic w (by decide) _ _ (fun w1 => fixed_num 81 1 v w1 (by decide) (by decide) (by decide) hk N hN hNl)).mono fun e w' ⟨u, h1, h2⟩ => ⟨u, h1, TwoB.mono h2 hBw⟩
  · exact (data_fixed 97 v inn ia ic w (by decide) _ _ (fun w1 => fixed_num 97 2 v w1 (by decide) (by decide) (by decide) hk N hN hNl)).mono fun e w' ⟨u, h1, h2⟩ => ⟨u, h1, TwoB.mono h2 hBw⟩
  · exact (data_fixed 84 v inn ia ic w (by decide) _ _ (fun w1 => fixed_num 84 1 v w1 (by decide) (by decide) (by decide) hk N hN hNl)).mono fun e w' ⟨u, h1, h2⟩ => ⟨u, h1, TwoB.mono h2 hBw⟩
  · exact (data_fixed 113 v inn ia ic w (by decide) _ _ (fun w1 => fixed_num 113 4 v w1 (by decide) (by decide) (by decide) hk N hN hNl)).mono fun e w' ⟨u, h1, h2⟩ => ⟨u, h1, TwoB.mono h2 hBw⟩
  · exact (data_fixed 85 v inn ia ic w (by decide) _ _ (fun w1 => fixed_num 85 1 v w1 (by decide) (by decide) (by decide) hk N hN hNl)).mono fun e w' ⟨u, h1, h2⟩ => ⟨u, h1, TwoB.mono h2 hBw⟩
  · exact (data_fixed 129 v inn ia ic w (by decide) _ _ (fun w1 => fixed_num 129 8 v w1 (by decide) (by decide) (by decide) hk N hN hNl)).mono fun e w' ⟨u, h1, h2⟩ => ⟨u, h1, TwoB.mono h2 hBw⟩
  · exact (data_fixed 114 v inn ia ic w (by decide) _ _ (fun w1 => fixed_num 114 4 v w1 (by decide) (by decide) (by decide) hk N hN hNl)).mono fun e w' ⟨u, h1, h2⟩ => ⟨u, h1, TwoB.mono h2 hBw⟩
  · exact (data_fixed 130 v inn ia ic w (by decide) _ _ (fun w1 => fixed_num 130 8 v w1 (by decide) (by decide) (by decide) hk N hN hNl)).mono fun e w' ⟨u, h1, h2⟩ => ⟨u, h1, TwoB.mono h2 hBw⟩
  · exact (data_fixed 116 v inn ia ic w (by decide) _ _ (fun w1 => fixed_num 116 4 v w1 (by decide) (by decide) (by decide) hk N hN hNl)).mono fun e w' ⟨u, h1, h2⟩ => ⟨u, h1, TwoB.mono h2 hBw⟩
  · exact (data_fixed 132 v inn ia ic w (by decide) _ _ (fun w1 => fixed_num 132 8 v w1 (by decide) (by decide) (by decide) hk N hN hNl)).mono fun e w' ⟨u, h1, h2⟩ => ⟨u, h1, TwoB.mono h2 hBw⟩
  · exact (data_fixed 148 v inn ia ic w (by decide) _ _ (fun w1 => fixed_text 148 v w1 (by decide))).mono fun e w' ⟨u, h1, h2⟩ => ⟨u, h1, TwoB.mono h2 hBw⟩
  · exact (data_fixed 115 v inn ia ic w (by decide) _ _ (fun w1 => fixed_num 115 4 v w1 (by decide) (by decide) (by decide) hk N hN hNl)).mono fun e w' ⟨u, h1, h2⟩ => ⟨u, h1, TwoB.mono h2 hBw⟩
  · exact (data_fixed 131 v inn ia ic w (by decide) _ _ (fun w1 => fixed_num 131 8 v w1 (by decide) (by decide) (by decide) hk N hN hNl)).mono fun e w' ⟨u, h1, h2⟩ => ⟨u, h1, TwoB.mono h2 hBw⟩
  · exact (data_fixed 152 v inn ia ic w (by decide) _ _ (fun w1 => fixed_text 152 v w1 (by decide))).mono fun e w' ⟨u, h1, h2⟩ => ⟨u, h1, TwoB.mono h2 hBw⟩
  · exact (data_text1 160 v inn ia ic w (by decide) hs).mono fun e w' ⟨u, h1, h2⟩ => ⟨u, h1, TwoB.mono h2 hBw⟩
  · exact (data_text4 176 v inn ia ic w (by decide) hs).mono fun e w' ⟨u, h1, h2⟩ => ⟨u, h1, TwoB.mono h2 hBw⟩
  · exact (data_text1 161 v inn ia ic w (by decide) hs).mono fun e w' ⟨u, h1, h2⟩ => ⟨u, h1, TwoB.mono h2 hBw⟩
  · exact (data_text4 177 v inn ia ic w (by decide) hs).mono fun e w' ⟨u, h1, h2⟩ => ⟨u, h1, TwoB.mono h2 hBw⟩
  · exact (data_text1 163 v inn ia ic w (by decide) hs).mono fun e w' ⟨u, h1, h2⟩ => ⟨u, h1, TwoB.mono h2 hBw⟩
  · exact (data_text4 179 v inn ia ic w (by decide) hs).mono fun e w' ⟨u, h1, h2⟩ => ⟨u, h1, TwoB.mono h2 hBw⟩
  · exact (data_fixed 69 v inn ia ic w (by decide) _ _ (fun w1 => fixed_list 69 v w1 rfl)).mono fun e w' ⟨u, h1, h2⟩ => ⟨u, h1, TwoB.mono h2 hBw⟩
  · exact (data_span 192 1 v inn ia ic w hr (by decide) (by decide) hl hi).mono fun e w' ⟨u, h1, h2⟩ => ⟨u, h1, TwoB.mono h2 hBw⟩
  · exact (data_span 208 4 v inn ia ic w hr (by decide) (by decide) hl hi).mono fun e w' ⟨u, h1, h2⟩ => ⟨u, h1, TwoB.mono h2 hBw⟩
  · exact (data_span 193 1 v inn ia ic w hr (by decide) (by decide) hl hi).mono fun e w' ⟨u, h1, h2⟩ => ⟨u, h1, TwoB.mono h2 hBw⟩
  · exact (data_span 209 4 v inn ia ic w hr (by decide) (by decide) hl hi).mono fun e w' ⟨u, h1, h2⟩ => ⟨u, h1, TwoB.mono h2 hBw⟩
  · exact (data_span 224 1 v inn ia ic w hr (by decide) (by decide) hl hi).mono fun e w' ⟨u, h1, h2⟩ => ⟨u, h1, TwoB.mono h2 hBw⟩
  · exact (data_span 240 4 v inn ia ic w hr (by decide) (by decide) hl hi).mono fun e w' ⟨u, h1, h2⟩ => ⟨u, h1, TwoB.mono h2 hBw⟩
  · exact data_none B v inn ia ic w hr hat 0 rfl
end E
namespace E
open Go.RowKit Go.Deep
abbrev Bst : Type := Option (Nat × List Nat)
def stepP (p : List Nat × Bool) (best : Bst) (c : Nat) : Bst :=
  if p.2 && (match best with | none => true | some q => decide (p.1.length < q.2.length)) then some (c, p.1) else best
theorem stepP_no (D : List Nat) (b : Bst) (c : Nat) : stepP (D, false) b c = b := rfl
theorem stepP_none (D : List Nat) (c : Nat) : stepP (D, true) none c = some (c, D) := rfl
theorem stepP_lt (D l : List Nat) (c d : Nat) (h : D.length < l.length) : stepP (D, true) (some (d, l)) c = some (c, D) := by
  unfold stepP
  simp [h]
theorem stepP_ge (D l : List Nat) (c d : Nat) (h : ¬ D.length < l.length) : stepP (D, true) (some (d, l)) c = some (d, l) := by
  unfold stepP
  simp [h]
def stepF (f : Nat → List Nat × Bool) (best : Bst) (c : Nat) : Bst := stepP (f c) best c
def bestF (f : Nat → List Nat × Bool) (cs : List Nat) : Bst := cs.foldl (stepF f) none
theorem bestF_snoc (f : Nat → List Nat × Bool) (cs : List Nat) (j : Nat) (h : j < cs.length) : bestF f (cs.take (j + 1)) = stepF f (bestF f (cs.take j)) cs[j] := by
  unfold bestF
  rw [List.take_succ_eq_append_getElem h, List.foldl_append]
  rfl
def Bst.code : Bst → Int
  | none => -1
  | some p => (p.1 : Int)
def Bst.data : Bst → List Nat
  | none => []
  | some p => p.2
theorem row_run {P : Program} {e : Operand → Value} (W : World) (op : Oper) (ty : TypeId) (x : Operand) (ho : op.op = .load ty x) (b : Nat) (cells : Array Value) (t : TypeId) (fr : Nat × Nat) (hx : e x = .pointer (some ⟨b, 0, none⟩)) (hb : W.heap[b]? = some (.cells cells t fr)) (d : TypeDesc) (hu : P.underlying ty = some d) (hd : d.isRow = true) (hi : (P.info? ty).map (·.size) = some cells.size) :
    (execOp e op).run P W = .ok (.value (.agg cells)) W := by
  have hr : W.rangeAt b 0 cells.toList := fun j v hv => by
    rw [Nat.zero_add]
    simp [World.cell?, hb]
    simpa using hv
  have := run_loadVar_mid (P := P) W b 0 ty cells.toList d hr hu hd (by rw [hi, Array.length_toList])
  rw [Array.toArray_toList] at this
  unfold execOp
  simp only [ho, hx, Instr.loadAt, Instr.sureAddr, Sem.run_bind, Sem.run_pure, Result.andThen_ok, this]
theorem Tryz.infoV5 : (Tryz.prog.info? 25).map (·.size) = some 5 := by kernel_rfl
theorem fm_one (c : Int) (a : Option Addr) (n cap : Nat) : (#[.int .i64 c, .slice a n cap] : Array Value).all (·.oneCell') = true := by kernel_rfl
def FB (w : World) (g : Nat) (c : Int) (u : Value) : Prop := w.heap[g]? = some (.cells #[.int .i64 c, u] 49 (0, 0))
theorem FB.cells {w : World} {g : Nat} {c : Int} {u : Value} (h : FB w g c u) : w.cell? ⟨g, 0, none⟩ = some (.int .i64 c) ∧ w.cell? ⟨g, 1, none⟩ = some u ∧ g < w.heap.size := by
  unfold FB at h
  exact ⟨by simp [World.cell?, h], by simp [World.cell?, h], (Array.getElem?_eq_some_iff.1 h).1⟩
theorem setRow_other (w : World) {b k : Nat} (cs : Array Value) (h : k ≠ b) : (w.setRow b cs).heap[k]? = w.heap[k]? := by
  simp [World.setRow, Array.getElem?_modify, Ne.symm h]
theorem setRow_same {w : World} {b : Nat} {old : Array Value} {t : TypeId} {fr : Nat × Nat} (h : w.heap[b]? = some (.cells old t fr)) (c : Array Value) : (w.setRow b c).heap[b]? = some (.cells c t fr) := by
  simp only [World.setRow]
  rw [Array.getElem?_modify, if_pos rfl, h]
  rfl
theorem setRow_size (w : World) (b : Nat) (cs : Array Value) : (w.setRow b cs).heap.size = w.heap.size := by simp [World.setRow]
theorem FB.ne {w : World} {g : Nat} {c : Int} {n cap : Nat} {a : Option Addr} (h : FB w g c (.slice a n cap)) {q off : Nat} {x : Int} (hq : w.cell? ⟨q, off, none⟩ = some (.int .u8 x)) : q ≠ g := by
  rintro rfl
  unfold FB at h
  rw [World.cell?, h] at hq
  match off, hq with
  | 0, hq => simp at hq
  | 1, hq => simp at hq
  | n + 2, hq => simp at hq
theorem Rb.put {w : World} {v : Value} {l : List Nat} (h : Rb w v l) {g : Nat} {c : Int} {n cap : Nat} {a : Option Addr} (hf : FB w g c (.slice a n cap)) (cs : Array Value) : Rb (w.setRow g cs) v l := by
  obtain ⟨a', cap', e, h1, h2, h3, h4, h5⟩ := h
  refine ⟨a', cap', e, h1, h2, h3, h4, fun h0 => ?_⟩
  obtain ⟨q, off, ha, hq, hc⟩ := h5 h0
  have hne : q ≠ g := hf.ne (hc 0 h0)
  exact ⟨q, off, ha, by rw [setRow_size]; exact hq, fun j hj => (World.cell?_of_block (a := ⟨q, off + j, none⟩) (setRow_other w cs hne)).trans (hc j hj)⟩
theorem bel_put {B : Nat} {w w' : World} (h : Below B w w') {b : Nat} (hb : B ≤ b) (c : Array Value) : Below B w (w'.setRow b c) :=
  ⟨h.os, h.tape, h.output, by rw [setRow_size]; exact h.size, fun q hq => (setRow_other _ _ (by omega)).trans (h.block q hq)⟩
def WiOk (x : V) (inn : List Nat) : Prop := ∀ n₀ w, n₀ ≤ w.heap.size → Lies n₀ w x → Calls Tryz.prog 33 #[x.val] w fun e w' => ∃ u, e = .returned u ∧ Hid (Rb w' u inn ∧ At w.heap.size u) ∧ Below w.heap.size w w'
structure ShI (w wr : World) (v : V) (gC : Nat) (inn : List Nat) (ia : Option Addr) (ic : Nat) (cs : List Nat) (bs : Bst) (ua : Option Addr) (uc : Nat) : Prop where
  bx : wr.heap[w.heap.size]? = some (.cells #[.int .i64 v.k, .int .u64 v.n, .string v.s, .slice v.a v.l.length v.c, .int .i64 v.e] 25 (0, 0))
  rs : FB wr (w.heap.size + 1) 0 (.slice none 0 0)
  bt : FB wr (w.heap.size + 2) bs.code (.slice ua bs.data.length uc)
  it : Its wr gC cs
  ri : Rb wr (.slice ia inn.length ic) inn
  ai : At w.heap.size (.slice ia inn.length ic)
  ru : Rb wr (.slice ua bs.data.length uc) bs.data
  au : At w.heap.size (.slice ua bs.data.length uc)
  be : Below w.heap.size w wr
theorem ShI.below {w wr w1 : World} {v : V} {gC : Nat} {inn : List Nat} {ia : Option Addr} {ic : Nat} {cs : List Nat} {bs : Bst} {ua : Option Addr} {uc : Nat} (h : ShI w wr v gC inn ia ic cs bs ua uc) (hb : Below wr.heap.size wr w1) : ShI w w1 v gC inn ia ic cs bs ua uc :=
  ⟨(hb.block _ (Array.getElem?_eq_some_iff.1 h.bx).1).trans h.bx, (hb.block _ h.rs.cells.2.2).trans h.rs, (hb.block _ h.bt.cells.2.2).trans h.bt, (hb.block _ (Array.getElem?_eq_some_iff.1 h.it).1).trans h.it, h.ri.below hb, h.ai, h.ru.below hb, h.au, h.be.trans (hb.mono h.be.size)⟩
theorem ShI.put {w wr : World} {v : V} {gC : Nat} {inn : List Nat} {ia : Option Addr} {ic : Nat} {cs : List Nat} {bs : Bst} {ua : Option Addr} {uc : Nat} (h : ShI w wr v gC inn ia ic cs bs ua uc) (hg : gC = w.heap.size + 3) (c : Nat) (l : List Nat) (xa : Option Addr) (xc : Nat) (hr : Rb wr (.slice xa l.length xc) l) (ha : At w.heap.size (.slice xa l.length xc)) : ShI w (wr.setRow (w.heap.size + 2) #[.int .i64 (c : Int), .slice xa l.length xc]) v gC inn ia ic cs (some (c, l)) xa xc :=
  ⟨(setRow_other _ _ (by omega)).trans h.bx, (setRow_other _ _ (by omega)).trans h.rs, setRow_same h.bt _, (setRow_other _ _ (by omega)).trans h.it, h.ri.put h.bt _, h.ai, hr.put h.bt _, ha, bel_put h.be (by omega) _⟩
theorem code_all (k : Int) (hk : 0 ≤ k ∧ k ≤ 24) : ∀ c ∈ codesK k, c ∈ allC := by
  rcases (by omega : k = 0 ∨ k = 1 ∨ k = 2 ∨ k = 3 ∨ k = 4 ∨ k = 5 ∨ k = 6 ∨ k = 7 ∨ k = 8 ∨ k = 9 ∨ k = 10 ∨ k = 11 ∨ k = 12 ∨ k = 13 ∨ k = 14 ∨ k = 15 ∨ k = 16 ∨ k = 17 ∨ k = 18 ∨ k = 19 ∨ k = 20 ∨ k = 21 ∨ k = 22 ∨ k = 23 ∨ k = 24) with rfl | rfl | rfl | rfl | rfl | rfl | rfl | rfl | rfl | rfl | rfl | rfl | rfl | rfl | rfl | rfl | rfl | rfl | rfl | rfl | rfl | rfl | rfl | rfl | rfl <;> decide
theorem code_len (k : Int) (hk : 0 ≤ k ∧ k ≤ 24) : (codesK k).length ≤ 3 := by
  rcases (by omega : k = 0 ∨ k = 1 ∨ k = 2 ∨ k = 3 ∨ k = 4 ∨ k = 5 ∨ k = 6 ∨ k = 7 ∨ k = 8 ∨ k = 9 ∨ k = 10 ∨ k = 11 ∨ k = 12 ∨ k = 13 ∨ k = 14 ∨ k = 15 ∨ k = 16 ∨ k = 17 ∨ k = 18 ∨ k = 19 ∨ k = 20 ∨ k = 21 ∨ k = 22 ∨ k = 23 ∨ k = 24) with rfl | rfl | rfl | rfl | rfl | rfl | rfl | rfl | rfl | rfl | rfl | rfl | rfl | rfl | rfl | rfl | rfl | rfl | rfl | rfl | rfl | rfl | rfl | rfl | rfl <;> decide
set_option maxRecDepth 100000 in
set_option maxHeartbeats 8000000 in
theorem shortest_best (v : V) (inn : List Nat) (n₀ : Nat) (w : World) (hn : n₀ ≤ w.heap.size) (hx : Lies n₀ w v) (hW : WiOk v inn) (hk : 0 ≤ v.k ∧ v.k ≤ 24) (N : Nat) (hN : v.n = (N : Int)) (hNl : N < 18446744073709551616) (hs : v.s.size ≤ 1099511627776) (hl : v.l.length ≤ 1099511627776) (hi : inn.length ≤ 1099511627776) (f : Nat → List Nat × Bool) (hf : f = fun c => rD c v.k N v.s v.l.length inn) :
    Calls Tryz.prog 20 #[v.val] w fun e w' => ∃ r, e = .returned r ∧ ∃ u, r = .agg #[.int .i64 (Bst.code (bestF f (codesK v.k))), u] ∧ Rb w' u (Bst.data (bestF f (codesK v.k))) ∧ Below w.heap.size w w' ∧ At w.heap.size u := by
  have HDa : Hid (∀ (w1 : World) (c : Nat) (ia : Option Addr) (ic : Nat), c ∈ allC → w.heap.size ≤ w1.heap.size → Rb w1 (.slice ia inn.length ic) inn → At w.heap.size (.slice ia inn.length ic) → Calls Tryz.prog 34 #[.int .i64 (c : Int), .agg #[.int .i64 v.k, .int .u64 v.n, .string v.s, .slice v.a v.l.length v.c, .int .i64 v.e], .slice ia inn.length ic] w1 fun e w' => ∃ u, e = .returned u ∧ TwoB w.heap.size w1 w' (f c).1 (f c).2 u) := fun w1 c ia ic hc hb hr hat => by
    rw [hf]
    exact data_any w.heap.size c v inn ia ic w1 hc hb hr hat hk N hN hNl hs hl hi
  obtain ⟨V3, hV3⟩ : ∃ V3, ((w.alloc (.cells #[.int .i64 v.k, .int .u64 v.n, .string v.s, .slice v.a v.l.length v.c, .int .i64 v.e] 25)).alloc (.cells #[.int .i64 0, .slice none 0 0] 49)).alloc (.cells #[.int .i64 (-1), .slice none 0 0] 49) = V3 := ⟨_, rfl⟩
  have b0 : V3.heap[w.heap.size]? = some (.cells #[.int .i64 v.k, .int .u64 v.n, .string v.s, .slice v.a v.l.length v.c, .int .i64 v.e] 25 (0, 0)) := by
    rw [← hV3]
    have h1 := heap_lst w (.cells #[.int .i64 v.k, .int .u64 v.n, .string v.s, .slice v.a v.l.length v.c, .int .i64 v.e] 25)
    have l1 : w.heap.size < (w.alloc (.cells #[.int .i64 v.k, .int .u64 v.n, .string v.s, .slice v.a v.l.length v.c, .int .i64 v.e] 25)).heap.size := (Array.getElem?_eq_some_iff.1 h1).1
    have h2 := (Below.heap_alloc _ (.cells #[.int .i64 0, .slice none 0 0] 49) _ l1).trans h1
    exact (Below.heap_alloc _ _ _ (Array.getElem?_eq_some_iff.1 h2).1).trans h2
  have b1 : FB V3 (w.heap.size + 1) 0 (.slice none 0 0) := by
    unfold FB
    rw [← hV3]
    have h1 := heap_lst (w.alloc (.cells #[.int .i64 v.k, .int .u64 v.n, .string v.s, .slice v.a v.l.length v.c, .int .i64 v.e] 25)) (.cells #[.int .i64 0, .slice none 0 0] 49)
    rw [show (w.alloc (.cells #[.int .i64 v.k, .int .u64 v.n, .string v.s, .slice v.a v.l.length v.c, .int .i64 v.e] 25)).heap.size = w.heap.size + 1 by simp] at h1
    exact (Below.heap_alloc _ _ _ (Array.getElem?_eq_some_iff.1 h1).1).trans h1
  have b2 : FB V3 (w.heap.size + 2) (-1) (.slice none 0 0) := by
    unfold FB
    rw [← hV3]
    have h1 := heap_lst ((w.alloc (.cells #[.int .i64 v.k, .int .u64 v.n, .string v.s, .slice v.a v.l.length v.c, .int .i64 v.e] 25)).alloc (.cells #[.int .i64 0, .slice none 0 0] 49)) (.cells #[.int .i64 (-1), .slice none 0 0] 49)
    rwa [show ((w.alloc (.cells #[.int .i64 v.k, .int .u64 v.n, .string v.s, .slice v.a v.l.length v.c, .int .i64 v.e] 25)).alloc (.cells #[.int .i64 0, .slice none 0 0] 49)).heap.size = w.heap.size + 2 by simp] at h1
  have HB3 : Hid (Below w.heap.size w V3) := hV3 ▸ bel1 (bel1 (bel1 (Below.refl _ _) (Nat.le_refl _) _) (by simp) _) (by simp; omega) _
  have z3 : V3.heap.size = w.heap.size + 3 := by rw [← hV3]; simp
  have HC0 : Hid (∀ W, Below V3.heap.size V3 W → W.heap[w.heap.size]? = some (.cells #[.int .i64 v.k, .int .u64 v.n, .string v.s, .slice v.a v.l.length v.c, .int .i64 v.e] 25 (0, 0)) ∧ FB W (w.heap.size + 1) 0 (.slice none 0 0) ∧ FB W (w.heap.size + 2) (-1) (.slice none 0 0)) := fun W hb => ⟨(hb.block _ (by omega)).trans b0, (hb.block _ (by omega)).trans b1, (hb.block _ (by omega)).trans b2⟩
  have HCo : Hid (∀ w1, Calls Tryz.prog 32 #[.int .i64 v.k] w1 fun e w' => e = .returned (.slice (some ⟨w1.heap.size, 0, none⟩) (codesK v.k).length (codesK v.k).length) ∧ Hid (Its w' w1.heap.size (codesK v.k)) ∧ Below w1.heap.size w1 w') := fun w1 => codes_any v.k w1 hk
  have HWi : Hid (∀ w1, Below w.heap.size w w1 → Calls Tryz.prog 33 #[.agg #[.int .i64 v.k, .int .u64 v.n, .string v.s, .slice v.a v.l.length v.c, .int .i64 v.e]] w1 fun e w' => ∃ u, e = .returned u ∧ Hid (Rb w' u inn ∧ At w1.heap.size u) ∧ Below w1.heap.size w1 w') := fun w1 hb => by
    have := hW n₀ w1 (Nat.le_trans hn hb.size) (hx.keep hb hn)
    rwa [V.val_eq] at this
  have HAl := hide (code_all v.k hk)
  have hcl3 := code_len v.k hk
  have HV3 := hide hV3
  rw [V.val_eq]
  clear hV3 b0 b1 b2 hW hx hf hN hs hl hi
  go_enter Tryz.func20, Tryz.ntmps20
  go_wp2_with (first | (rw [HV3.out]; refine Shut.out ?_))
  unfold Shut
  obtain ⟨q0, q1, q2⟩ := HC0.out V3 (Below.refl _ _)
  have c0 : V3.cell? ⟨w.heap.size, 0, none⟩ = some (.int .i64 v.k) := by simp [World.cell?, q0]
  have cl : w.heap.size < V3.heap.size := by omega
  clear q0 q1 q2
  go_wp2_with (first | (go_at_call 32; refine (HCo.out _).mono ?_; rintro e4 w4 ⟨rfl, hit, hb4⟩; refine Shut.out ?_))
  unfold Shut
  obtain ⟨q0, q1, q2⟩ := HC0.out w4 hb4
  have c0 : w4.cell? ⟨w.heap.size, 0, none⟩ = some (.int .i64 v.k) := by simp [World.cell?, q0]
  have c1 : w4.cell? ⟨w.heap.size, 1, none⟩ = some (.int .u64 v.n) := by simp [World.cell?, q0]
  have c2 : w4.cell? ⟨w.heap.size, 2, none⟩ = some (.string v.s) := by simp [World.cell?, q0]
  have c3 : w4.cell? ⟨w.heap.size, 3, none⟩ = some (.slice v.a v.l.length v.c) := by simp [World.cell?, q0]
  have c4 : w4.cell? ⟨w.heap.size, 4, none⟩ = some (.int .i64 v.e) := by simp [World.cell?, q0]
  have cl : w.heap.size < w4.heap.size := by have := hb4.size; omega
  have HB4 : Hid (Below w.heap.size w w4) := HB3.out.trans (hb4.mono HB3.out.size)
  have Hb4 := hide hb4
  have Hit := hide hit.out
  obtain ⟨gC, hgC⟩ : ∃ gC, gC = w.heap.size + 3 := ⟨_, rfl⟩
  rw [z3, ← hgC] at Hit
  rw [← hgC]
  have HgC := hide hgC
  clear hgC
  clear q0 q1 q2 hit hb4
  go_wp2_with (first | (go_at_call 33; refine (HWi.out w4 HB4.out).mono ?_; rintro e5 w5 ⟨u5, rfl, hri, hb5⟩; refine Shut.out ?_))
  unfold Shut
  obtain ⟨hri1, hri2⟩ := hri.out
  obtain ⟨ia, ic, rfl⟩ := hri1.sl
  have HB5 : Hid (Below w.heap.size w w5) := HB4.out.trans (hb5.mono HB4.out.size)
  have HI5 : Hid (ShI w w5 v gC inn ia ic (codesK v.k) none none 0) := by
    obtain ⟨q0, q1, q2⟩ := HC0.out w5 (Hb4.out.trans (hb5.mono Hb4.out.size))
    refine ⟨q0, q1, q2, (hb5.block _ (Array.getElem?_eq_some_iff.1 Hit.out).1).trans Hit.out, hri1, hri2.mono HB4.out.size, Rb.nil _, At.nil _ _ _, HB5.out⟩
  clear c0 c1 c2 c3 c4 cl hri hri1 hri2 hb5 Hb4 Hit HB4 HB3 HC0 HWi HCo HV3 z3
  obtain ⟨cs, hcs⟩ : ∃ cs, codesK v.k = cs := ⟨_, rfl⟩
  rw [hcs] at HI5 HAl hcl3
  rw [hcs]
  have HCs := hide hcs
  clear hcs
  go_wp2
  go_loopw [6] (fun i wr => ∃ (j : Nat) (ua : Option Addr) (uc : Nat), i = .int .i64 j ∧ j ≤ cs.length ∧ Hid (ShI w wr v gC inn ia ic cs (bestF f (cs.take j)) ua uc)) (fun i _ => cs.length + 1 - (intOf i).toNat)
  case atStart => exact ⟨0, none, 0, rfl, Nat.zero_le _, HI5⟩
  case round =>
    clear HI5 HB5
    obtain ⟨j, ua, uc, rfl, hj, HS⟩ := hrel
    obtain ⟨bs, hbs⟩ : ∃ bs, bestF f (cs.take j) = bs := ⟨_, rfl⟩
    rw [hbs] at HS
    have HBs := hide hbs
    clear hbs
    by_cases hjl : j < cs.length
    · obtain ⟨c, hc⟩ : ∃ c, cs[j] = c := ⟨_, rfl⟩
      have hjb : (j : Int) ≤ 3 := by omega
      have HSt := hide (bestF_snoc f cs j hjl)
      rw [HBs.out, hc] at HSt
      have hca := HAl.out c (hc ▸ List.getElem_mem hjl)
      have hIt := HS.out.it
      have hcc : wr.cell? ⟨gC, j, none⟩ = some (.int .i64 (c : Int)) := by
        unfold Its at hIt
        simp [World.cell?, hIt, hjl, hc]
      have hgl : gC < wr.heap.size := (Array.getElem?_eq_some_iff.1 hIt).1
      have HDc := hide (HDa.out wr.drew c ia ic hca HS.out.be.size (HS.out.ri.below (bel_drewN wr 1)) HS.out.ai)
      have HS0 : Hid (wr.drew.cell? ⟨gC, j, none⟩ = some (.int .i64 (c : Int)) ∧ wr.drew.heap[w.heap.size]? = some (.cells #[.int .i64 v.k, .int .u64 v.n, .string v.s, .slice v.a v.l.length v.c, .int .i64 v.e] 25 (0, 0))) := ⟨hcc, HS.out.bx⟩
      have HKp : Hid (∀ w1, Below wr.drew.heap.size wr.drew w1 → (w1.cell? ⟨gC, j, none⟩ = some (.int .i64 (c : Int)) ∧ w1.heap[w.heap.size]? = some (.cells #[.int .i64 v.k, .int .u64 v.n, .string v.s, .slice v.a v.l.length v.c, .int .i64 v.e] 25 (0, 0))) ∧ ShI w w1 v gC inn ia ic cs bs ua uc) := fun w1 hb => by
        have h2 : Below wr.heap.size wr w1 := (bel_drewN wr 1).trans hb
        exact ⟨⟨(hb.cell (p := ⟨gC, j, none⟩) hgl).trans hcc, (HS.out.below h2).bx⟩, HS.out.below h2⟩
      clear hca hIt
      go_wp2
      refine wp_region_held_drew (S := fun W => W.cell? ⟨gC, j, none⟩ = some (.int .i64 (c : Int)) ∧ W.heap[w.heap.size]? = some (.cells #[.int .i64 v.k, .int .u64 v.n, .string v.s, .slice v.a v.l.length v.c, .int .i64 v.e] 25 (0, 0))) (by kernel_rfl) HS0.out (fun hHeld => ?_)
      refine take_do (i := 0) (d := 22) (v := ?_) rfl rfl (by kernel_rfl) (by kernel_rfl) (by kernel_rfl) (fun _ _ _ h => h) rfl ?_ (by assumption) ?_
      rotate_left
      · intro W hSw
        try dsimp only at hSw
        go_simp
        try with_reducible rfl
      try simp only [List.setIfInBounds_toArray, List.set_cons_zero, List.set_cons_succ]
      refine take_do (i := 1) (d := 23) (v := ?_) rfl rfl (by kernel_rfl) (by kernel_rfl) (by kernel_rfl) (fun _ _ _ h => h) rfl ?_ (by assumption) ?_
      rotate_left
      · intro W hSw
        try dsimp only at hSw
        go_simp
        try with_reducible rfl
      try simp only [List.setIfInBounds_toArray, List.set_cons_zero, List.set_cons_succ]
      refine take_do (i := 2) (d := 24) (v := ?_) rfl rfl (by kernel_rfl) (by kernel_rfl) (by kernel_rfl) (fun _ _ _ h => h) rfl ?_ (by assumption) ?_
      rotate_left
      · intro W hSw
        try dsimp only at hSw
        go_simp
        try with_reducible rfl
      try simp only [List.setIfInBounds_toArray, List.set_cons_zero, List.set_cons_succ]
      refine take_do (i := 3) (d := 25) (v := ?_) rfl rfl (by kernel_rfl) (by kernel_rfl) (by kernel_rfl) (fun _ _ _ h => h) rfl ?_ (by assumption) ?_
      rotate_left
      · intro W hSw
        try dsimp only at hSw
        go_simp
        try with_reducible rfl
      try simp only [List.setIfInBounds_toArray, List.set_cons_zero, List.set_cons_succ]
      refine take_do (i := 4) (d := 26) (v := .agg #[.int .i64 v.k, .int .u64 v.n, .string v.s, .slice v.a v.l.length v.c, .int .i64 v.e]) rfl rfl (by kernel_rfl) (by kernel_rfl) (by kernel_rfl) (fun _ _ _ h => h) rfl ?_ (by assumption) ?_
      · intro W hSw
        exact row_run W _ 25 (.tmp 1) rfl w.heap.size #[.int .i64 v.k, .int .u64 v.n, .string v.s, .slice v.a v.l.length v.c, .int .i64 v.e] 25 (0, 0) rfl hSw.2 _ Tryz.underlying25 rfl Tryz.infoV5
      try simp only [List.setIfInBounds_toArray, List.set_cons_zero, List.set_cons_succ]
      refine take_do (i := 5) (d := 27) (v := ?_) rfl rfl (by kernel_rfl) (by kernel_rfl) (by kernel_rfl) (fun _ _ _ h => h) rfl ?_ (by assumption) ?_
      rotate_left
      · intro W hSw
        try dsimp only at hSw
        go_simp
        try with_reducible rfl
      try simp only [List.setIfInBounds_toArray, List.set_cons_zero, List.set_cons_succ]
      refine wpAnyH_ready (rs := [6]) (by kernel_rfl) (by simp) ?_
      refine AllReadyH.cons rfl (fun K hK => ?_) AllReadyH.nil
      go_simp
      go_wp2_with (go_at_call 34; refine (HDc.out).mono ?_; rintro e6 w6 ⟨r6, rfl, u6, rfl, hr6, hb6, ha6⟩)
      refine hK.out _ _ (HKp.out w6 hb6).1 (fun hHeld => ?_)
      clear hK K
      try simp only [Act.put, List.setIfInBounds_toArray, List.set_cons_zero, List.set_cons_succ]
      refine take_do (i := 7) (d := 21) (v := ?_) rfl rfl (by kernel_rfl) (by kernel_rfl) (by kernel_rfl) (fun _ _ _ h => h) rfl ?_ (by assumption) ?_
      rotate_left
      · intro W hSw
        try dsimp only at hSw
        go_simp
        try with_reducible rfl
      try simp only [List.setIfInBounds_toArray, List.set_cons_zero, List.set_cons_succ]
      refine take_do (i := 8) (d := 29) (v := ?_) rfl rfl (by kernel_rfl) (by kernel_rfl) (by kernel_rfl) (fun _ _ _ h => h) rfl ?_ (by assumption) ?_
      rotate_left
      · intro W hSw
        try dsimp only at hSw
        go_simp
        try with_reducible rfl
      try simp only [List.setIfInBounds_toArray, List.set_cons_zero, List.set_cons_succ]
      refine take_do (i := 9) (d := 30) (v := ?_) rfl rfl (by kernel_rfl) (by kernel_rfl) (by kernel_rfl) (fun _ _ _ h => h) rfl ?_ (by assumption) ?_
      rotate_left
      · intro W hSw
        try dsimp only at hSw
        go_simp
        try with_reducible rfl
      try simp only [List.setIfInBounds_toArray, List.set_cons_zero, List.set_cons_succ]
      refine take_do (i := 10) (d := 7) (v := ?_) rfl rfl (by kernel_rfl) (by kernel_rfl) (by kernel_rfl) (fun _ _ _ h => h) rfl ?_ (by assumption) ?_
      rotate_left
      · intro W hSw
        try dsimp only at hSw
        go_simp
        try with_reducible rfl
      try simp only [List.setIfInBounds_toArray, List.set_cons_zero, List.set_cons_succ]
      refine take_do (i := 11) (d := 8) (v := ?_) rfl rfl (by kernel_rfl) (by kernel_rfl) (by kernel_rfl) (fun _ _ _ h => h) rfl ?_ (by assumption) ?_
      rotate_left
      · intro W hSw
        try dsimp only at hSw
        go_simp
        try with_reducible rfl
      try simp only [List.setIfInBounds_toArray, List.set_cons_zero, List.set_cons_succ]
      refine wpAnyH_done (by kernel_rfl) ?_ _
      have HS6 := hide (HKp.out w6 hb6).2
      have hcc6 := (HKp.out w6 hb6).1.1
      have hgl6 : gC < w6.heap.size := (Array.getElem?_eq_some_iff.1 HS6.out.it).1
      obtain ⟨⟨D, ok⟩, hp⟩ : ∃ p, f c = p := ⟨_, rfl⟩
      unfold stepF at HSt
      rw [hp] at hr6 HSt
      rw [hp]
      simp only at hr6
      try simp only
      obtain ⟨xa, xc, rfl⟩ := hr6.sl
      have HR6 := hide hr6
      have HA6 := hide ha6
      have HBt := hide HS6.out.bt
      obtain ⟨e0, e1, el⟩ := HS6.out.bt.cells
      clear hp hr6 ha6 hb6 HKp HDc HS0 HS hcc hgl hHeld
      cases ok with
      | false =>
        go_wp2
        go_roundw
        case rel => exact ⟨j + 1, ua, uc, by go_num, by omega, by rw [HSt.out, stepP_no]; exact HS6⟩
        case measure => simp [intOf]; omega
      | true =>
        cases bs with
        | none =>
          have e0' : w6.cell? ⟨w.heap.size + 1 + 1, 0, none⟩ = some (.int .i64 (-1)) := e0
          have e1' : w6.cell? ⟨w.heap.size + 1 + 1, 1, none⟩ = some (.slice ua 0 uc) := e1
          have el' : w.heap.size + 1 + 1 < w6.heap.size := el
          clear e0 e1 el
          go_wp2_with (first | (go_loud (refine wpList_store_row rfl 49 (.tmp 3) (.tmp 50) rfl (w.heap.size + 2) #[.int .i64 (c : Int), .slice xa D.length xc] rfl rfl 49 _ HBt.out Tryz.infoFm rfl (fm_one _ _ _ _) ?_; refine Shut.out ?_)))
          unfold Shut
          have HS7 := hide (HS6.out.put HgC.out c D xa xc HR6.out HA6.out)
          go_wp2
          go_roundw
          case rel => exact ⟨j + 1, xa, xc, by go_num, by omega, by rw [HSt.out, stepP_none]; exact HS7⟩
          case measure => simp [intOf]; omega
        | some p =>
          obtain ⟨pc, pl⟩ := p
          have e0' : w6.cell? ⟨w.heap.size + 1 + 1, 0, none⟩ = some (.int .i64 (pc : Int)) := e0
          have e1' : w6.cell? ⟨w.heap.size + 1 + 1, 1, none⟩ = some (.slice ua pl.length uc) := e1
          have el' : w.heap.size + 1 + 1 < w6.heap.size := el
          have hp0 : decide ((pc : Int) < 0) = false := by simp
          clear e0 e1 el
          by_cases hlt : D.length < pl.length
          · have hd : decide ((D.length : Int) < (pl.length : Int)) = true := by simp; omega
            go_wp2_with (first | (go_loud (refine wpList_store_row rfl 49 (.tmp 3) (.tmp 50) rfl (w.heap.size + 2) #[.int .i64 (c : Int), .slice xa D.length xc] rfl rfl 49 _ HBt.out Tryz.infoFm rfl (fm_one _ _ _ _) ?_; refine Shut.out ?_)))
            unfold Shut
            have HS7 := hide (HS6.out.put HgC.out c D xa xc HR6.out HA6.out)
            go_wp2
            go_roundw
            case rel => exact ⟨j + 1, xa, xc, by go_num, by omega, by rw [HSt.out, stepP_lt D pl c pc hlt]; exact HS7⟩
            case measure => simp [intOf]; omega
          · have hd : decide ((D.length : Int) < (pl.length : Int)) = false := by simp; omega
            go_wp2
            go_roundw
            case rel => exact ⟨j + 1, ua, uc, by go_num, by omega, by rw [HSt.out, stepP_ge D pl c pc hlt]; exact HS6⟩
            case measure => simp [intOf]; omega
    · have hje : j = cs.length := by omega
      subst hje
      have HBe : Hid (bestF f cs = bs) := by show _ = _; rw [← HBs.out, List.take_length]
      obtain ⟨e0, e1, el⟩ := HS.out.bt.cells
      have e0' : wr.cell? ⟨w.heap.size + 1 + 1, 0, none⟩ = some (.int .i64 bs.code) := e0
      have e1' : wr.cell? ⟨w.heap.size + 1 + 1, 1, none⟩ = some (.slice ua bs.data.length uc) := e1
      have el' : w.heap.size + 1 + 1 < wr.heap.size := el
      have HRs := hide HS.out.rs
      clear e0 e1 el
      go_wp2_with (first | (refine wpList_store_row rfl 49 (.tmp 2) (.tmp 51) rfl (w.heap.size + 1) #[.int .i64 bs.code, .slice ua bs.data.length uc] rfl rfl 49 _ HRs.out Tryz.infoFm rfl (fm_one _ _ _ _) ?_))
      exact bodyPost_ret (v := .agg #[.int .i64 bs.code, .slice ua bs.data.length uc]) (results_cell_row Tryz.results20 _ _ (w.heap.size + 1) 49 #[.int .i64 bs.code, .slice ua bs.data.length uc] (0, 0) _ rfl (setRow_same HRs.out _) Tryz.underlying49 rfl Tryz.infoFm) rfl ⟨_, rfl, _, by rw [HCs.out, HBe.out], by rw [HCs.out, HBe.out]; exact HS.out.ru.put HRs.out _, bel_put HS.out.be (by omega) _, HS.out.au⟩
end E
namespace E
open Go.RowKit Go.Deep
theorem one_ob (B : Nat) (w : World) (c : Nat) (hB : B ≤ w.heap.size) (hc : c < 256) : Ob B (w.alloc (.cells #[.int .u8 (c : Int)] 5)) (.slice (some ⟨w.heap.size, 0, none⟩) 1 1) [c] :=
  ⟨⟨rfl, .inr ⟨w.heap.size, 1, #[.int .u8 (c : Int)], rfl, hB, heap_lst w _, Nat.le_refl _, by unfold maxLen; omega, rfl, rfl⟩⟩, by simpa using hc⟩
set_option maxRecDepth 100000 in
set_option maxHeartbeats 4000000 in
theorem within_none (v : V) (w : World) (hk : ((v.k == 21) = false ∧ (v.k == 22) = false) ∧ (v.k == 24) = false ∧ (v.k == 23) = false) :
    Calls Tryz.prog 33 #[v.val] w fun e w' => ∃ u, e = .returned u ∧ Hid (Rb w' u [] ∧ At w.heap.size u) ∧ Below w.heap.size w w' := by
  obtain ⟨⟨n1, n2⟩, n3, n4⟩ := hk
  rw [V.val_eq]
  obtain ⟨V0, hV0⟩ : ∃ V0, w.alloc (.cells #[.int .i64 v.k, .int .u64 v.n, .string v.s, .slice v.a v.l.length v.c, .int .i64 v.e] 25) = V0 := ⟨_, rfl⟩
  have b0 : V0.heap[w.heap.size]? = some (.cells #[.int .i64 v.k, .int .u64 v.n, .string v.s, .slice v.a v.l.length v.c, .int .i64 v.e] 25 (0, 0)) := hV0 ▸ heap_lst w _
  have HB0 : Hid (Below w.heap.size w V0) := hV0 ▸ bel1 (Below.refl _ _) (Nat.le_refl _) _
  have c0 : V0.cell? ⟨w.heap.size, 0, none⟩ = some (.int .i64 v.k) := by simp [World.cell?, b0]
  have c1 : V0.cell? ⟨w.heap.size, 1, none⟩ = some (.int .u64 v.n) := by simp [World.cell?, b0]
  have c2 : V0.cell? ⟨w.heap.size, 2, none⟩ = some (.string v.s) := by simp [World.cell?, b0]
  have c3 : V0.cell? ⟨w.heap.size, 3, none⟩ = some (.slice v.a v.l.length v.c) := by simp [World.cell?, b0]
  have c4 : V0.cell? ⟨w.heap.size, 4, none⟩ = some (.int .i64 v.e) := by simp [World.cell?, b0]
  have cl : w.heap.size < V0.heap.size := (Array.getElem?_eq_some_iff.1 b0).1
  have HV0 := hide hV0
  clear hV0 b0
  go_enter Tryz.func33, Tryz.ntmps33
  go_wp2_with (first | (rw [HV0.out]; refine Shut.out ?_))
  unfold Shut
  go_wp2
  go_ret
  exact ⟨_, rfl, ⟨Rb.nil _, At.nil _ _ _⟩, HB0.out⟩
set_option maxRecDepth 100000 in
set_option maxHeartbeats 4000000 in
theorem within_list (v : V) (w : World) (inn : List Nat) (hk : v.k = 21 ∨ v.k = 22 ∨ v.k = 24) (hE : ∀ w1, Below w.heap.size w w1 → Calls Tryz.prog 45 #[.slice v.a v.l.length v.c] w1 fun e w' => ∃ u, e = .returned u ∧ Hid (Rb w' u inn ∧ At w1.heap.size u) ∧ Below w1.heap.size w1 w') :
    Calls Tryz.prog 33 #[v.val] w fun e w' => ∃ u, e = .returned u ∧ Hid (Rb w' u inn ∧ At w.heap.size u) ∧ Below w.heap.size w w' := by
  have HE := hide hE
  clear hE
  rw [V.val_eq]
  obtain ⟨V0, hV0⟩ : ∃ V0, w.alloc (.cells #[.int .i64 v.k, .int .u64 v.n, .string v.s, .slice v.a v.l.length v.c, .int .i64 v.e] 25) = V0 := ⟨_, rfl⟩
  have b0 : V0.heap[w.heap.size]? = some (.cells #[.int .i64 v.k, .int .u64 v.n, .string v.s, .slice v.a v.l.length v.c, .int .i64 v.e] 25 (0, 0)) := hV0 ▸ heap_lst w _
  have HB0 : Hid (Below w.heap.size w V0) := hV0 ▸ bel1 (Below.refl _ _) (Nat.le_refl _) _
  have c0 : V0.cell? ⟨w.heap.size, 0, none⟩ = some (.int .i64 v.k) := by simp [World.cell?, b0]
  have c1 : V0.cell? ⟨w.heap.size, 1, none⟩ = some (.int .u64 v.n) := by simp [World.cell?, b0]
  have c2 : V0.cell? ⟨w.heap.size, 2, none⟩ = some (.string v.s) := by simp [World.cell?, b0]
  have c3 : V0.cell? ⟨w.heap.size, 3, none⟩ = some (.slice v.a v.l.length v.c) := by simp [World.cell?, b0]
  have c4 : V0.cell? ⟨w.heap.size, 4, none⟩ = some (.int .i64 v.e) := by simp [World.cell?, b0]
  have cl : w.heap.size < V0.heap.size := (Array.getElem?_eq_some_iff.1 b0).1
  have HV0 := hide hV0
  clear hV0 b0
  rcases hk with hk | hk | hk
  all_goals
    rw [hk] at c0
    clear hk
    go_enter Tryz.func33, Tryz.ntmps33
    go_wp2_with (first | (rw [HV0.out]; refine Shut.out ?_))
    unfold Shut
    go_wp2_with (first | (go_at_call 45; refine (HE.out V0 HB0.out).mono ?_; rintro e1 w1 ⟨u1, rfl, hr1, hb1⟩; refine Shut.out ?_))
    unfold Shut
    have HB1 := hide (HB0.out.trans (hb1.mono HB0.out.size))
    clear hb1
    go_wp2
    go_ret
    exact ⟨_, rfl, ⟨hr1.out.1, hr1.out.2.mono HB0.out.size⟩, HB1.out⟩
set_option maxRecDepth 100000 in
set_option maxHeartbeats 4000000 in
theorem within_arr (v : V) (w : World) (c : Nat) (l : List Nat) (hk : v.k = 23) (hc : c < 256) (hl : l.length ≤ 1099511627776) (hU : ∀ w1, Below w.heap.size w w1 → Calls Tryz.prog 46 #[.agg #[.int .i64 v.k, .int .u64 v.n, .string v.s, .slice v.a v.l.length v.c, .int .i64 v.e]] w1 fun e w' => ∃ r, e = .returned r ∧ FmP w1 w' c l r) :
    Calls Tryz.prog 33 #[v.val] w fun e w' => ∃ u, e = .returned u ∧ Hid (Rb w' u (c :: l) ∧ At w.heap.size u) ∧ Below w.heap.size w w' := by
  have HU := hide hU
  clear hU
  rw [V.val_eq]
  obtain ⟨V0, hV0⟩ : ∃ V0, w.alloc (.cells #[.int .i64 v.k, .int .u64 v.n, .string v.s, .slice v.a v.l.length v.c, .int .i64 v.e] 25) = V0 := ⟨_, rfl⟩
  have b0 : V0.heap[w.heap.size]? = some (.cells #[.int .i64 v.k, .int .u64 v.n, .string v.s, .slice v.a v.l.length v.c, .int .i64 v.e] 25 (0, 0)) := hV0 ▸ heap_lst w _
  have HB0 : Hid (Below w.heap.size w V0) := hV0 ▸ bel1 (Below.refl _ _) (Nat.le_refl _) _
  have c0 : V0.cell? ⟨w.heap.size, 0, none⟩ = some (.int .i64 v.k) := by simp [World.cell?, b0]
  have c1 : V0.cell? ⟨w.heap.size, 1, none⟩ = some (.int .u64 v.n) := by simp [World.cell?, b0]
  have c2 : V0.cell? ⟨w.heap.size, 2, none⟩ = some (.string v.s) := by simp [World.cell?, b0]
  have c3 : V0.cell? ⟨w.heap.size, 3, none⟩ = some (.slice v.a v.l.length v.c) := by simp [World.cell?, b0]
  have c4 : V0.cell? ⟨w.heap.size, 4, none⟩ = some (.int .i64 v.e) := by simp [World.cell?, b0]
  have cl : w.heap.size < V0.heap.size := (Array.getElem?_eq_some_iff.1 b0).1
  have HV0 := hide hV0
  clear hV0 b0
  have HU2 : Hid (Calls Tryz.prog 46 #[.agg #[.int .i64 23, .int .u64 v.n, .string v.s, .slice v.a v.l.length v.c, .int .i64 v.e]] V0 fun e w' => ∃ r, e = .returned r ∧ FmP V0 w' c l r) := by
    have h := HU.out V0 HB0.out
    rw [hk] at h
    exact h
  rw [hk] at c0
  clear hk HU
  go_enter Tryz.func33, Tryz.ntmps33
  go_wp2_with (first | (rw [HV0.out]; refine Shut.out ?_))
  unfold Shut
  go_wp2_with (first | (go_at_call 46; refine HU2.out.mono ?_; rintro e1 w1 ⟨r1, rfl, u1, rfl, hr1, hb1, ha1⟩; refine Shut.out ?_))
  unfold Shut
  obtain ⟨ua, uc, rfl⟩ := hr1.sl
  have hwc : IntKind.u8.wrap (c : Int) = (c : Int) := by rw [IntKind.wrap_u8]; omega
  obtain ⟨V1, hV1⟩ : ∃ V1, w1.alloc (.cells #[.int .i64 (c : Int), .slice ua l.length uc] 49) = V1 := ⟨_, rfl⟩
  have hbV : Below w1.heap.size w1 V1 := hV1 ▸ bel1 (Below.refl _ _) (Nat.le_refl _) _
  have bV : V1.heap[w1.heap.size]? = some (.cells #[.int .i64 (c : Int), .slice ua l.length uc] 49 (0, 0)) := hV1 ▸ heap_lst w1 _
  have d0 : V1.cell? ⟨w1.heap.size, 0, none⟩ = some (.int .i64 (c : Int)) := by simp [World.cell?, bV]
  have d1 : V1.cell? ⟨w1.heap.size, 1, none⟩ = some (.slice ua l.length uc) := by simp [World.cell?, bV]
  have dl : w1.heap.size < V1.heap.size := (Array.getElem?_eq_some_iff.1 bV).1
  obtain ⟨W2, hW2⟩ : ∃ W2, V1.alloc (.cells #[.int .u8 (c : Int)] 5) = W2 := ⟨_, rfl⟩
  have hbW : Below V1.heap.size V1 W2 := hW2 ▸ bel1 (Below.refl _ _) (Nat.le_refl _) _
  have f1 : W2.cell? ⟨w1.heap.size, 1, none⟩ = some (.slice ua l.length uc) := (hbW.cell (p := ⟨w1.heap.size, 1, none⟩) dl).trans d1
  have fl : w1.heap.size < W2.heap.size := Nat.lt_of_lt_of_le dl hbW.size
  have hbA : Below w.heap.size w V1 := (HB0.out.trans (hb1.mono HB0.out.size)).trans (hbV.mono (Nat.le_trans HB0.out.size hb1.size))
  have HB2 : Hid (Below w.heap.size w W2) := hbA.trans (hbW.mono hbA.size)
  have HRd2 : Hid (Rb W2 (.slice ua l.length uc) l) := (hr1.below hbV).below hbW
  have HO2 : Hid (Ob w.heap.size W2 (.slice (some ⟨V1.heap.size, 0, none⟩) 1 1) [c]) := hW2 ▸ one_ob w.heap.size V1 c hbA.size hc
  have HV1 := hide hV1
  have HW2 := hide hW2
  clear hV1 hW2 hbV hbW hbA bV hr1 hb1 ha1 c0 c1 c2 c3 c4 cl HU2
  go_wp2_with (first | (rw [HV1.out]; refine Shut.out ?_))
  unfold Shut
  go_wp2_with (first | (rw [HW2.out]; refine Shut.out ?_))
  unfold Shut
  go_wp2_with (first | (at_builtin; go_loud (refine wpList_app _ rfl (.tmp 20) (.tmp 22) rfl w.heap.size _ [c] rfl HO2.out _ l rfl HRd2.out (by simp only [List.length_cons, List.length_nil]; omega) (by have := HB2.out.size; omega) ?_; intro v3 w3 r1 r2; refine Shut.out ?_)))
  unfold Shut
  have HO3 := hide r1
  have HB3 : Hid (Below w.heap.size w w3) := HB2.out.grown r2 HB2.out.size (fun g hg => (HO2.out.lt g hg).1)
  clear r1 r2
  go_wp2
  go_ret
  exact ⟨_, rfl, ⟨HO3.out.rb, HO3.out.at⟩, HB3.out⟩
end E
end Go.Proofs.YthhlpjhkeendcaaGreatDoor
