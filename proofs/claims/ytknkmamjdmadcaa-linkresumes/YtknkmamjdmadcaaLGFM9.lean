import Derived.Test.YtknkmamjdmadcaaLGVM9
import Derived.Test.YtknkmamjdmadcaaLOwnMM9

/- Stage 14: owned.Fault of any fault; any state's words. -/
namespace Go.Proofs.Ytknkmamjdmadcaa
open Go.RowKit Go.Maps
set_option linter.unusedVariables false
set_option linter.unusedSimpArgs false

def wL (x : U.V) : List Value := [.int .i64 x.k, .int .u64 x.n, .string x.s, .slice x.a x.l.length x.c, .int .i64 x.e]
theorem wA_wL (x : U.V) : wA x = ⟨wL x⟩ := rfl
def fL (c t : ByteArray) (x : U.V) : List Value := [.string c, .string t] ++ wL x
/-- a state's own words -/
structure Sw where
  k : Int
  se : Int
  ofs : Int
  co : ByteArray
  tx : ByteArray
  inf : U.V
  fa : Bool
  el : Bool
  an : U.V
  tn : ByteArray
  ia : Option Addr
  il : Nat
  ic : Nat
def Sw.L (s : Sw) : List Value := [.int .i64 s.k, .int .i64 s.se, .int .i64 s.ofs] ++ fL s.co s.tx s.inf ++ ([.bool s.fa, .bool s.el] ++ wL s.an ++ [.string s.tn, .slice s.ia s.il s.ic])
def Sw.A (s : Sw) : Array Value := ⟨s.L⟩
theorem Sw.len (s : Sw) : s.L.length = 19 := rfl
theorem Sw.one (s : Sw) : s.A.all (·.oneCell') = true := by kernel_rfl
theorem Sw.ones (s : Sw) : ∀ u ∈ s.L, u.oneCell' = true := fun u hu => by
  have := s.one
  rw [Array.all_eq_true'] at this
  exact this u (by simpa [Sw.A] using hu)
theorem fL_one (c t : ByteArray) (x : U.V) : (⟨fL c t x⟩ : Array Value).all (·.oneCell') = true := by kernel_rfl
theorem wL_one (x : U.V) : (⟨wL x⟩ : Array Value).all (·.oneCell') = true := by kernel_rfl
theorem Try.infoFa : (Try.prog.info? 50).map (·.size) = some 7 := by kernel_rfl
theorem Try.infoVa : (Try.prog.info? 48).map (·.size) = some 5 := by kernel_rfl
theorem there_of {w : World} {N o n : Nat} {cs : Array Value} {t : TypeId} (h : w.heap[N]? = some (.cells cs t (0, 0))) (hn : o + n ≤ cs.size) : w.there N o n := fun j hj => by
  have hlt : o + j < cs.size := by omega
  refine ⟨?_, by simp [World.frozen?, h]⟩
  rw [cellOf h _ _ (Array.getElem?_eq_getElem hlt)]
  rfl
theorem range_at {W : World} {b : Nat} {cs : List Value} {t : TypeId} {fr : Nat × Nat} (h : W.heap[b]? = some (.cells ⟨cs⟩ t fr)) (pre mid post : List Value) (e : cs = pre ++ mid ++ post) : W.rangeAt b pre.length mid := fun j v hv => by
  refine cellOf h _ _ ?_
  have hj : j < mid.length := (List.getElem?_eq_some_iff.1 hv).1
  rw [List.getElem?_toArray, e, List.getElem?_append_left (by simp; omega), List.getElem?_append_right (by omega), Nat.add_sub_cancel_left]
  exact hv
set_option maxRecDepth 100000 in
set_option maxHeartbeats 1000000 in
theorem ownFault (c t : ByteArray) (x : U.V) (n₀ : Nat) (w : World) (hn : n₀ ≤ w.heap.size) (hx : U.Lies n₀ w x) :
    Calls Try.prog 50 #[.agg ⟨fL c t x⟩] w fun e w' => ∃ y : U.V, e = .returned (.agg ⟨fL c t y⟩) ∧ Hid (U.LiesIn (New w w') w' y) ∧ Below w.heap.size w w' := by
  obtain ⟨V, hV⟩ : ∃ V, (w.alloc (.cells ⟨fL c t x⟩ 50)).alloc (.cells fl0 50) = V := ⟨_, rfl⟩
  have h0 : V.heap[w.heap.size]? = some (.cells ⟨fL c t x⟩ 50 (0, 0)) := hV ▸ heap_past (heap_alloc_last w _) _
  have h1 : V.heap[w.heap.size + 1]? = some (.cells fl0 50 (0, 0)) := hV ▸ heap_last1 w _ _
  have hb : Below w.heap.size w V := hV ▸ bel1 (bel1 (Below.refl _ _) (Nat.le_refl _) _) (by simp) _
  have hVs : V.heap.size = w.heap.size + 2 := by rw [← hV]; simp
  have HV : Hid ((w.alloc (.cells ⟨fL c t x⟩ 50)).alloc (.cells #[.string ⟨#[]⟩, .string ⟨#[]⟩, .int .i64 0, .int .u64 0, .string ⟨#[]⟩, .slice none 0 0, .int .i64 0] 50) = V) := hV
  have HR : Hid (V.rangeAt w.heap.size 2 (wL x)) := range_at h0 [.string c, .string t] (wL x) [] (by simp [fL])
  have HW := hide (ownValue x n₀ V (Nat.le_trans hn hb.size) (hx.keep hb hn))
  have H0 := hide h0
  have H1 := hide h1
  have HB := hide hb
  have HVs := hide hVs
  clear hV h0 h1 hb hx hVs
  go_enter Try.func50, Try.ntmps50
  go_wp2_with (first | rw [HV.out] | (refine wpList_load_mid rfl 48 (.tmp 3) rfl w.heap.size 2 rfl (wL x) _ HR.out Try.underlying48 rfl Try.infoVa ?_) | (go_at_call 51; refine HW.out.mono ?_; rintro e1 w1 ⟨y, rfl, hy, hb1⟩; refine Shut.out ?_))
  unfold Shut
  have k0 := (hb1.block _ (by have := HVs.out; omega)).trans H0.out
  have k1 := (hb1.block _ (by have := HVs.out; omega)).trans H1.out
  obtain ⟨w2, hw2⟩ : ∃ w2, w1.setCells w.heap.size 2 (wL y) = w2 := ⟨_, rfl⟩
  have k2 : w2.heap[w.heap.size]? = some (.cells ⟨fL c t y⟩ 50 (0, 0)) := by
    rw [← hw2]
    exact setCells_at w.heap.size (wL y) 2 w1 [.string c, .string t] (wL x) [] (by simpa [fL] using k0) rfl rfl |>.trans (by simp [fL])
  have k3 : w2.heap[w.heap.size + 1]? = some (.cells fl0 50 (0, 0)) := by
    rw [← hw2, setCells_other _ _ (by omega)]
    exact k1
  have HY : Hid (U.LiesIn (fun b => w.heap.size + 2 ≤ b ∧ b < w2.heap.size) w2 y) := by
    have hs : w2.heap.size = w1.heap.size := by rw [← hw2, setCells_size]
    refine lies_keep hy.out (fun q hq => ?_) (fun q hq => ⟨?_, ?_⟩)
    · have h9 : V.heap.size ≤ q := hq.1
      rw [← hw2, setCells_other _ _ (by have := HVs.out; omega)]
    · have h9 : V.heap.size ≤ q := hq.1
      have := HVs.out
      omega
    · rw [hs]
      exact hq.2
  have HB2 : Hid (Below w.heap.size w w2) := by rw [← hw2]; exact setCells_below (Nat.le_refl _) _ _ _ (HB.out.trans (hb1.mono HB.out.size))
  have HT : Hid (w1.there w.heap.size 2 (⟨wL y⟩ : Array Value).size) := there_of k0 (by show 2 + 5 ≤ 7; omega)
  have HW2 := hide hw2
  have K2 := hide k2
  have K3 := hide k3
  clear hw2 k0 k1 k2 k3 hy hb1 HW HR H0 H1 HB
  rw [wA_wL]
  go_wp2_with (first | (refine wpList_store_mid rfl 48 (.tmp 6) (.tmp 5) rfl w.heap.size 2 ⟨wL y⟩ rfl rfl HT.out Try.infoVa (wL_one y) ?_; rw [HW2.out]; refine Shut.out ?_))
  unfold Shut
  clear HW2 HT HV
  go_wp2_with (first | (refine wpList_load_row rfl 50 (.tmp 1) rfl w.heap.size rfl 50 ⟨fL c t y⟩ (0, 0) _ K2.out Try.underlying50 rfl Try.infoFa ?_) | (refine wpList_store_row rfl 50 (.tmp 2) (.tmp 7) rfl (w.heap.size + 1) ⟨fL c t y⟩ rfl rfl 50 _ K3.out Try.infoFa rfl (fL_one c t y) ?_))
  refine bodyPost_ret (v := .agg ⟨fL c t y⟩) (results_cell_row Try.results50 _ _ (w.heap.size + 1) 50 ⟨fL c t y⟩ (0, 0) _ rfl (setRow_same K3.out _) Try.underlying50 rfl Try.infoFa) rfl ⟨y, rfl, ?_, bel_setRow HB2.out (by omega) _⟩
  refine lies_keep HY.out (fun q hq => setRow_other _ _ _ _ (by omega)) (fun q hq => ⟨by omega, by rw [setRow_size]; exact hq.2⟩)
end Go.Proofs.Ytknkmamjdmadcaa
