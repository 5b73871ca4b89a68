
/- Stage 18: what stands between the points, the document's; patterns and topics. -/
import Derived.Test.YtmanfakdbmlfeaaDoorRRef1
namespace Go.Proofs.YtmanfakdbmlfeaaDoor
open Go.RowKit Go.Maps
set_option linter.unusedVariables false
set_option linter.unusedSimpArgs false
theorem ext_at (s : ByteArray) (f j : Nat) : (s.extract f s.size).data.toList[j]? = s.data.toList[f + j]? := by
  rw [ext_data]
  have e : s.data.toList.length = s.size := Array.length_toList
  by_cases h : j < s.size - f
  · rw [List.getElem?_take_of_lt h, List.getElem?_drop]
  · rw [List.getElem?_eq_none (by rw [List.length_take, List.length_drop]; omega), List.getElem?_eq_none (by omega)]
theorem get_some (s : ByteArray) (k : Nat) (h : k < s.size) : s.data.toList[k]? = some s[k] := by
  rw [List.getElem?_eq_getElem (by rw [Array.length_toList]; exact h)]
  rfl
theorem ext_ext (s : ByteArray) (f a b : Nat) (hf : f ≤ s.size) : (s.extract f s.size).extract a b = s.extract (f + a) (min (f + b) s.size) := by
  rw [← bOf_data ((s.extract f s.size).extract a b), ← bOf_data (s.extract (f + a) (min (f + b) s.size))]
  congr 1
  rw [ext_data, ext_data, ext_data, List.drop_take, List.drop_drop, List.take_take]
  congr 1
  omega
theorem pcs_from {s : ByteArray} {f k : Nat} (hfk : f ≤ k) (hk : k < s.size) (hd : s[k].toNat = 46) (hn : ∀ j (h : j < s.size), f ≤ j → j < k → s[j].toNat ≠ 46) : pcs (s.extract f s.size) = s.extract f k :: pcs (s.extract (k + 1) s.size) := by
  have h46 : s[k] = 46 := UInt8.toNat_inj.1 hd
  rw [pcs_hit (s.extract f s.size) (k - f) (by rw [ext_at, show f + (k - f) = k by omega, get_some s k hk, h46]) (fun j c hj hc => by
    rw [ext_at, get_some s (f + j) (by omega)] at hc
    cases hc
    intro e
    exact hn (f + j) (by omega) (by omega) (by omega) (by rw [e]; rfl))]
  have e1 : (s.extract f s.size).extract 0 (k - f) = s.extract f k := by
    rw [ext_ext s f 0 (k - f) (by omega)]
    congr 1
    omega
  have e2 : (s.extract f s.size).size = s.size - f := by rw [ByteArray.size_extract]; omega
  have e3 : (s.extract f s.size).extract (k - f + 1) (s.extract f s.size).size = s.extract (k + 1) s.size := by
    rw [e2, ext_ext s f _ _ (by omega)]
    congr 1 <;> omega
  rw [e1, e3]
theorem pcs_last {s : ByteArray} {f : Nat} (hn : ∀ j (h : j < s.size), f ≤ j → s[j].toNat ≠ 46) : pcs (s.extract f s.size) = [s.extract f s.size] := by
  refine pcs_none _ fun c hc e => ?_
  obtain ⟨j, hj, hjc⟩ := List.mem_iff_getElem.1 hc
  have h1 : (s.extract f s.size).data.toList[j]? = some c := by rw [List.getElem?_eq_getElem hj, hjc]
  rw [ext_at] at h1
  have hlt := (List.getElem?_eq_some_iff.1 h1).1
  rw [Array.length_toList] at hlt
  have hlt' : f + j < s.size := hlt
  rw [get_some s (f + j) hlt'] at h1
  cases h1
  exact hn (f + j) hlt' (by omega) (by rw [e]; rfl)
theorem ext_all (s : ByteArray) : s.extract 0 s.size = s := by
  rw [← bOf_data (s.extract 0 s.size), ← bOf_data s]
  congr 1
  rw [bOf_data, ext_data]
  have e : s.data.toList.length = s.size := Array.length_toList
  rw [List.drop_zero, List.take_of_length_le (by omega)]
set_option maxHeartbeats 4000000 in
theorem parts_any (s : ByteArray) (hs : s.size ≤ 100000000) (w : World) : Calls Tryd.prog 27 #[.string s] w fun e w' => ∃ v, e = .returned v ∧ Wy SK w' w.heap.size v (pcs s) ∧ Below w.heap.size w w' := by
  have HE : Hid (s.extract 0 s.size = s) := ext_all s
  have HPL := hide (pcs_len s)
  go_enter Tryd.func27, Tryd.ntmps27
  go_wp2
  go_loopw [3, 4, 5] (fun v f i wr => ∃ (k fr : Nat) (done : List ByteArray), k ≤ s.size ∧ fr ≤ k ∧ f = .int .i64 fr ∧ i = .int .i64 k ∧ Wy SK wr w.heap.size v done ∧ Below w.heap.size w wr ∧ Hid (done ++ pcs (s.extract fr s.size) = pcs s) ∧ Hid (∀ j (h : j < s.size), fr ≤ j → j < k → s[j].toNat ≠ 46)) (fun _ _ i _ => s.size - (intOf i).toNat)
  case atStart => exact ⟨0, 0, [], Nat.zero_le _, Nat.le_refl _, rfl, rfl, .inl ⟨rfl, rfl⟩, Below.refl _ _, by rw [HE.out]; rfl, fun j h h1 h2 => by omega⟩
  case round =>
    obtain ⟨k, fr, done, hk, hfk, rfl, rfl, hwy, hb, HD, HN⟩ := hrel
    obtain ⟨va, vc, rfl⟩ := hwy.shape
    have HWy := hide hwy
    have HB := hide hb
    have HLn : Hid (done.length ≤ 100000001) := by
      show done.length ≤ 100000001
      have h1 := HD.out
      have h2 := HPL.out
      rw [← h1, List.length_append] at h2
      omega
    have hz : w.heap.size ≤ wr.heap.size := hb.size
    clear hwy hb
    by_cases hkn : k < s.size
    · have hg := get_at s k hkn
      have hlt : s[k].toNat < 256 := UInt8.toNat_lt _
      by_cases hd : s[k].toNat = 46
      · have b46 : ((s[k].toNat : Int) == 46) = true := by rw [beq_iff_eq]; omega
        have HD2 : Hid ((done ++ [s.extract fr k]) ++ pcs (s.extract (k + 1) s.size) = pcs s) := by
          have := HD.out
          rw [pcs_from hfk hkn hd HN.out] at this
          show _ = _
          rw [← this]
          simp
        clear hd
        have HWA : Hid (Wy SK (wr.alloc (.cells #[.string (s.extract fr k)] 9)) w.heap.size (.slice va done.length vc) done) := HWy.out.at fun q e => Below.heap_alloc _ _ _ (HWy.out.lt e).2
        have HBA : Hid (w.heap.size ≤ (wr.alloc (.cells #[.string (s.extract fr k)] 9)).heap.size) := by show _ ≤ (wr.alloc _).heap.size; simp; omega
        go_wp2_with (at_builtin; refine wpList_append_way skOk _ rfl (.tmp 16) (.tmp 21) rfl w.heap.size (.slice va done.length vc) done (s.extract fr k) rfl HWA.out wr.heap.size 1 rfl (heap_new _ _) HBA.out (by have := HLn.out; omega) ?_; intro v' w7 hw7 hg7 hs7; have HW7 := hide hw7; have HG7 := hide hg7; clear hw7 hg7 hs7)
        have HB7 : Hid (Below w.heap.size w w7) := (bel1 HB.out HB.out.size _).grown HG7.out HBA.out (fun q hq => (HWy.out.lt hq).1)
        go_wp2
        go_roundw
        case rel => exact ⟨k + 1, k + 1, done ++ [s.extract fr k], by omega, Nat.le_refl _, by go_num, by go_num, HW7.out, HB7.out, HD2.out, fun j h h1 h2 => by omega⟩
        case measure => simp [intOf]; omega
      · have b46 : ((s[k].toNat : Int) == 46) = false := by rw [beq_eq_false_iff_ne]; omega
        have HN2 : Hid (∀ j (h : j < s.size), fr ≤ j → j < k + 1 → s[j].toNat ≠ 46) := fun j h h1 h2 => by
          by_cases e : j = k
          · subst e; exact hd
          · exact HN.out j h h1 (by omega)
        clear hd
        go_wp2
        go_roundw
        case rel => exact ⟨k + 1, fr, done, by omega, by omega, rfl, by go_num, HWy.out, HB.out, HD.out, HN2.out⟩
        case measure => simp [intOf]; omega
    · have HD2 : Hid (done ++ [s.extract fr s.size] = pcs s) := by
        have := HD.out
        rw [pcs_last (fun j h h1 => HN.out j h h1 (by omega))] at this
        exact this
      have hfs : fr ≤ s.size := by omega
      have HWA : Hid (Wy SK (wr.alloc (.cells #[.string (s.extract fr s.size)] 9)) w.heap.size (.slice va done.length vc) done) := HWy.out.at fun q e => Below.heap_alloc _ _ _ (HWy.out.lt e).2
      have HBA : Hid (w.heap.size ≤ (wr.alloc (.cells #[.string (s.extract fr s.size)] 9)).heap.size) := by show _ ≤ (wr.alloc _).heap.size; simp; omega
      go_wp2_with (at_builtin; refine wpList_append_way skOk _ rfl (.tmp 25) (.tmp 29) rfl w.heap.size (.slice va done.length vc) done (s.extract fr s.size) rfl HWA.out wr.heap.size 1 rfl (heap_new _ _) HBA.out (by have := HLn.out; omega) ?_; intro v' w7 hw7 hg7 hs7; have HW7 := hide hw7; have HG7 := hide hg7; clear hw7 hg7 hs7)
      have HB7 : Hid (Below w.heap.size w w7) := (bel1 HB.out HB.out.size _).grown HG7.out HBA.out (fun q hq => (HWy.out.lt hq).1)
      go_wp2
      go_ret
      exact ⟨_, rfl, by rw [← HD2.out]; exact HW7.out, HB7.out⟩
end Go.Proofs.YtmanfakdbmlfeaaDoor
