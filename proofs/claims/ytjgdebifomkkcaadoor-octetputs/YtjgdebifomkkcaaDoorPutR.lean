/- The document's Put; marked; Take. -/
import Derived.Test.YtjgdebifomkkcaaDoorApp
import Derived.Test.YtjgdebifomkkcaaDoorLent
namespace Go.Proofs.YtjgdebifomkkcaaDoor
open Go.RowKit
set_option linter.unusedVariables false

theorem refput_no (N : Int) (x : Int) (w : World) (h : x < 1 ∨ 8 < x) :
    Calls Tryd.prog 10 #[.int .u64 N, .int .i64 x] w fun e w' => e = .returned (.slice none 0 0) ∧ w = w' := by
  rcases h with h | h
  · go_enter Tryd.func10, Tryd.ntmps10
    go_wp2
    go_ret
    exact ⟨rfl, rfl⟩
  · have h1 : ¬ x < 1 := by omega
    go_enter Tryd.func10, Tryd.ntmps10
    go_wp2
    go_ret
    exact ⟨rfl, rfl⟩
/-- the bytes of a number, the highest first -/
def digs (N k : Nat) : List Nat := (List.range k).map (fun i => dig N (k - 1 - i))
theorem digs_length (N k : Nat) : (digs N k).length = k := by simp [digs]
theorem digs_lt (N k : Nat) : ∀ c ∈ digs N k, c < 256 := by
  intro c hc
  obtain ⟨i, _, rfl⟩ := List.mem_map.1 hc
  exact Nat.mod_lt _ (by omega)
theorem digs_getD (N k i : Nat) (h : i < k) : (digs N k).getD i 0 = dig N (k - 1 - i) := by simp [digs, List.getD_eq_getElem?_getD, h]
theorem Rd.of_digs {w : World} {b k : Nat} {t : TypeId} {N : Nat} (h : w.rowIs b t k (fun i => .int .u8 ((dig N (k - 1 - i) : Nat) : Int))) : Rd w (some ⟨b, 0, none⟩) k (digs N k) := by
  refine ⟨digs_length N k, digs_lt N k, fun _ => ⟨b, 0, rfl, h.lt, fun j hj => ?_⟩⟩
  rw [Nat.zero_add, h.cell hj, digs_getD N k j hj]
theorem cell_new1 (w : World) (v : Value) (t : TypeId) : (w.alloc (.cells #[v] t)).cell? ⟨w.heap.size, 0, none⟩ = some v := by
  rw [World.cell?_alloc_at _ _ _ _ rfl]; rfl
theorem Rd.of_ownv {w : World} {base n : Nat} {v : Value} {t : TypeId} {l : List Nat} (h : w.ownsRow base t 1 v n (l.map byteV)) (h0 : 0 < n) (hb : ∀ c ∈ l, c < 256) : ∃ g cap, v = .slice (some ⟨g, 0, none⟩) n cap ∧ base ≤ g ∧ g < w.heap.size ∧ Rd w (some ⟨g, 0, none⟩) n l := by
  have hl : l.length = n := by have := h.1; simpa using this
  rcases h.2 with ⟨_, hz⟩ | ⟨g, cap, cur, rfl, hbg, hg, hrest⟩
  · omega
  · refine ⟨g, cap, rfl, hbg, (Array.getElem?_eq_some_iff.1 hg).1, hl, hb, fun _ => ⟨g, 0, rfl, (h.lt g rfl).2, fun j hj => ?_⟩⟩
    rw [Nat.zero_add, h.cellAt j (by omega), List.getElem?_map, List.getElem?_eq_getElem (by omega)]
    simp [byteV, List.getD_eq_getElem?_getD, List.getElem?_eq_getElem (show j < l.length by omega)]
theorem map_takeB (l : List Nat) (k : Nat) (h : k < l.length) : (l.take (k + 1)).map byteV = (l.take k).map byteV ++ [byteV (l.getD k 0)] := by
  rw [take_snocN l k h, List.map_append]
  rfl

set_option maxRecDepth 100000 in
set_option maxHeartbeats 2000000 in
theorem refput_yes (N n : Nat) (w : World) (hN : N < 18446744073709551616) (h1 : 1 ≤ n) (h8 : n ≤ 8) :
    Calls Tryd.prog 10 #[.int .u64 (N : Int), .int .i64 (n : Int)] w fun e w' => ∃ g cap, e = .returned (.slice (some ⟨g, 0, none⟩) n cap) ∧ w.heap.size ≤ g ∧ g < w'.heap.size ∧ Rd w' (some ⟨g, 0, none⟩) n (digs N n) ∧ Below w.heap.size w w' := by
  obtain ⟨i0, hi, hz0, hz1, hz2⟩ := info_parts Tryd.info5
  have HI := hide hi
  have HZ0 := hide hz0
  have HZ1 := hide hz1
  have HZ2 := hide hz2
  clear hi hz0 hz1 hz2
  go_enter Tryd.func10, Tryd.ntmps10
  go_wp2
  go_loopw [5, 6] (fun vl i wr => ∃ z : Int, ∃ j : Nat, i = .int .i64 z ∧ z + j + 1 = n ∧ -1 ≤ z ∧ wr.ownsRow w.heap.size 5 1 vl j (((digs N n).take j).map byteV) ∧ Below w.heap.size w wr) (fun _ i _ => (intOf i + 1).toNat)
  case atStart => exact ⟨_, 0, rfl, by omega, by omega, World.ownsRow_nil _ _ _ _, Below.refl _ _⟩
  case round =>
    obtain ⟨z, j, rfl, hz, hzm, hown, hbw⟩ := hrel
    have HO := hide hown
    clear hown
    by_cases hz0 : 0 ≤ z
    · obtain ⟨p, rfl⟩ := Int.eq_ofNat_of_zero_le hz0
      have HTK := hide (map_takeB (digs N n) j (by rw [digs_length]; omega))
      have HDG : Hid ((digs N n).getD j 0 = dig N p) := by show _ = _; rw [digs_getD N n j (by omega)]; congr 1; omega
      go_wp2
      go_loop [7, 8] (fun m i => ∃ q : Nat, q ≤ p ∧ i = .int .i64 q ∧ m = .int .u64 ((N / 256 ^ q : Nat) : Int)) (fun _ i => p - (intOf i).toNat)
      case atStart => exact ⟨0, Nat.zero_le _, rfl, by simp⟩
      case round =>
        obtain ⟨q, hq, rfl, rfl⟩ := hrel
        by_cases hqp : q < p
        · have HDS := hide (div_step N q)
          have hM : N / 256 ^ q < 18446744073709551616 := Nat.lt_of_le_of_lt (Nat.div_le_self _ _) hN
          generalize N / 256 ^ q = M at *
          go_wp2
          go_round
          case rel => exact ⟨q + 1, by omega, by go_num, by rw [← HDS.out]; go_num⟩
          case measure => simp [intOf]; omega
        · have hqp' : q = p := by omega
          subst hqp'
          have HDD : Hid (dig N q = N / 256 ^ q % 256) := rfl
          have hM : N / 256 ^ q < 18446744073709551616 := Nat.lt_of_le_of_lt (Nat.div_le_self _ _) hN
          generalize N / 256 ^ q = M at *
          have hmm : (M : Int) % 256 = ((M % 256 : Nat) : Int) := by omega
          have hm2 : M % 256 ≤ 255 := by omega
          generalize M % 256 = X at *
          go_wp2_with (at_builtin; refine wpList_append_new _ rfl (.tmp 30) (.tmp 34) 24 rfl w.heap.size 5 i0 (.int .u8 0) 1 Tryd.underlying24 HI.out HZ0.out HZ1.out HZ2.out rfl _ j _ rfl (HO.out.alloc _) ⟨wr.heap.size, 0, none⟩ 1 (byteV X) rfl (cell_new1 _ _ _) rfl (by unfold maxLen; omega) (by omega) (by have := hbw.size; simp; omega) ?_; intro vl' w3 r1 r2 r3; have HR1 := hide r1; have HB3 := hide ((hbw.alloc hbw.size _).grown r2 (by have := hbw.size; simp; omega) (fun g hg => (HO.out.lt g hg).1)); clear r1 r2 r3)
          go_roundw
          case rel => exact ⟨_, j + 1, rfl, by omega, by omega, by rw [HTK.out, HDG.out, HDD.out]; exact HR1.out, HB3.out⟩
          case measure => simp [intOf]
    · have hjn : j = n := by omega
      subst hjn
      have HO2 : Hid (wr.ownsRow w.heap.size 5 1 u5 j ((digs N j).map byteV)) := by
        have := HO.out
        rw [List.take_of_length_le (by rw [digs_length]; omega)] at this
        exact this
      obtain ⟨g, cg, rfl, hg1, hg2, hrd⟩ := Rd.of_ownv HO2.out (by omega) (digs_lt N j)
      have HRD := hide hrd
      clear hrd HO HO2
      go_wp2
      go_ret
      first | exact ⟨g, cg, rfl, hg1, hg2, HRD.out, hbw⟩ | exact ⟨g, ⟨cg, rfl⟩, hg1, hg2, HRD.out, hbw⟩

set_option maxHeartbeats 1000000 in
/-- marked says yes of bytes that are all alike -/
theorem marked_eq (a : Option Addr) (n cap mk : Nat) (w : World) (hr : Rd w a n (List.replicate n mk)) (hn : n ≤ 250) (hm : mk ≤ 200) :
    Calls Tryd.prog 28 #[.slice a n cap, .int .i64 (mk : Int)] w fun e w' => e = .returned (.bool true) ∧ w = w' := by
  have HR := hide hr
  clear hr
  go_enter Tryd.func28, Tryd.ntmps28
  go_wp2
  go_loop [5] (fun i => ∃ k : Nat, k ≤ n ∧ i = .int .i64 k) (fun i => n - (intOf i).toNat)
  case atStart => exact ⟨0, Nat.zero_le _, rfl⟩
  case round =>
    obtain ⟨k, hk, rfl⟩ := hrel
    by_cases hkn : k < n
    · obtain ⟨b, off, rfl, hlt, hc0⟩ := HR.out.2.2 (by omega)
      have hc := hc0 k hkn
      have e1 : (List.replicate n mk).getD k 0 = mk := by simp [List.getD_eq_getElem?_getD, hkn]
      rw [e1] at hc
      have hd : (k : Int) / 251 = 0 := by omega
      clear hc0 e1
      go_wp2
      go_round
      case rel => exact ⟨k + 1, by omega, by go_num⟩
      case measure => simp [intOf]; omega
    · go_wp2
      go_ret
      exact ⟨rfl, rfl⟩
end Go.Proofs.YtjgdebifomkkcaaDoor
