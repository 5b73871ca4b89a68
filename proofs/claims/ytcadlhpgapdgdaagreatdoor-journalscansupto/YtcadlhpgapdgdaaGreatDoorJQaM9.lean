import Derived.Test.YtcadlhpgapdgdaaGreatDoorJOneM9
import Derived.Test.YtcadlhpgapdgdaaGreatDoorJFirstM9

/- Stage 20: the document's numbers: Get, Step, SumOf. -/
namespace Go.Proofs.YtcadlhpgapdgdaaGreatDoor
open Go.RowKit
set_option linter.unusedVariables false
set_option linter.unusedSimpArgs false
theorem refget_short (a : Option Addr) (n cap : Nat) (i x : Int) (w : World) (h1 : 1 ≤ x) (h8 : x ≤ 8) (h0 : 0 ≤ i) (hi : i ≤ n) (hn : n ≤ 281474976710656) (hs : n - i < x) :
    Calls Tryz.prog 82 #[.slice a n cap, .int .i64 i, .int .i64 x] w fun e w' => e = .returned (.tuple #[.int .u64 0, .int .i64 10]) ∧ w = w' := by
  go_enter Tryz.func82, Tryz.ntmps82
  go_wp2
  go_ret2
  exact ⟨rfl, rfl⟩
set_option maxHeartbeats 1000000 in
theorem refget_yes (a : Option Addr) (n cap i k : Nat) (l : List Nat) (w : World) (h1 : 1 ≤ k) (h8 : k ≤ 8) (hik : i + k ≤ n) (hn : n ≤ 281474976710656) (hrd : Rd w a n l) :
    Calls Tryz.prog 82 #[.slice a n cap, .int .i64 (i : Int), .int .i64 (k : Int)] w fun e w' => e = .returned (.tuple #[.int .u64 ((getN ((l.drop i).take k) : Nat) : Int), .int .i64 0]) ∧ w = w' := by
  obtain ⟨b, off, rfl, hlt, hc⟩ := hrd.2.2 (by omega)
  have hlen := hrd.1
  have HB : Hid (∀ c ∈ (l.drop i).take k, c < 256) := fun c hc => hrd.2.1 c (List.mem_of_mem_drop (List.mem_of_mem_take hc))
  have HC : Hid (∀ j, j < k → w.cell? ⟨b, off + (i + j), none⟩ = some (.int .u8 ((((l.drop i).take k).getD j 0 : Nat) : Int))) := fun j hj => by
    have := hc (i + j) (by omega)
    rw [this]
    simp [List.getD_eq_getElem?_getD, List.getElem?_drop, hj]
  have hlen2 : ((l.drop i).take k).length = k := by simp; omega
  clear hc hrd hlen
  generalize (l.drop i).take k = t at *
  go_enter Tryz.func82, Tryz.ntmps82
  go_wp2
  go_loop [8, 9] (fun m p => ∃ j : Nat, j ≤ k ∧ p = .int .i64 ((i + j : Nat) : Int) ∧ m = .int .u64 ((getN (t.take j) : Nat) : Int)) (fun _ p => i + k - (intOf p).toNat)
  case atStart => exact ⟨0, Nat.zero_le _, by simp, rfl⟩
  case round =>
    obtain ⟨j, hj, rfl, rfl⟩ := hrel
    by_cases hjk : j < k
    · have hc := HC.out j hjk
      have hm : getN (t.take j) < 72057594037927936 := by
        have h1 := getN_lt (t.take j) (fun c hc => HB.out c (List.mem_of_mem_take hc))
        have h2 : 256 ^ (t.take j).length ≤ 256 ^ 7 := Nat.pow_le_pow_right (by omega) (by rw [List.length_take]; omega)
        have h3 : (256 : Nat) ^ 7 = 72057594037927936 := by decide
        omega
      have hcl : t.getD j 0 < 256 := by
        rw [List.getD_eq_getElem?_getD, List.getElem?_eq_getElem (by omega)]
        exact HB.out _ (List.getElem_mem _)
      have HS : Hid (getN (t.take (j + 1)) = getN (t.take j) * 256 + t.getD j 0) := by
        rw [take_snocN _ _ (by omega), getN_snoc]; exact rfl
      generalize getN (t.take j) = m at *
      generalize t.getD j 0 = y at *
      have hij : i + j < i + k := by omega
      have hin : i + j < n := by omega
      generalize hp : i + j = p at *
      have HP := hide hp
      clear hp
      go_wp2
      go_round
      case rel => exact ⟨j + 1, by omega, by have := HP.out; go_num, by rw [HS.out]; go_num⟩
      case measure => simp [intOf]; omega
    · have hjk' : j = k := by omega
      subst hjk'
      have HF : Hid (t.take j = t) := List.take_of_length_le (by omega)
      go_wp2
      go_ret2
      rw [HF.out]
      exact ⟨rfl, rfl⟩

theorem bsN_succ (k x : Nat) : Oc.bsN (k + 1) x = Oc.bs (Oc.bsN k x) := by rw [Oc.bsN_add]; rfl
set_option maxHeartbeats 1000000 in
theorem step_any (R c : Nat) (w : World) (hR : R < 4294967296) (hc : c < 256) :
    Calls Tryz.prog 122 #[.int .u32 (R : Int), .int .u8 (c : Int)] w fun e w' => e = .returned (.int .u32 ((Oc.stp R c : Nat) : Int)) ∧ w = w' := by
  rw [Oc.stp_eq]
  have hx : R ^^^ c < 4294967296 := Nat.xor_lt_two_pow (n := 32) hR (by omega)
  have e1 := Go.u32_xor_nat R c hR (by omega)
  generalize R ^^^ c = x at *
  go_enter Tryz.func122, Tryz.ntmps122
  go_wp2
  go_loop [5, 6] (fun r i => ∃ k : Nat, k ≤ 8 ∧ i = .int .i64 k ∧ r = .int .u32 ((Oc.bsN k x : Nat) : Int)) (fun _ i => 8 - (intOf i).toNat)
  case atStart => exact ⟨0, by omega, rfl, rfl⟩
  case round =>
    obtain ⟨k, hk, rfl, rfl⟩ := hrel
    by_cases hk8 : k < 8
    · have hy := Oc.bsN_lt k x hx
      have HS := hide (bsN_succ k x)
      generalize Oc.bsN k x = y at *
      by_cases ho : y % 2 = 1
      · have HB : Hid (Oc.bs y = y / 2 ^^^ Oc.poly) := by show _ = _; unfold Oc.bs; rw [if_pos ho]
        have ho' : ((y : Int) % 2 == 1) = true := by simp; omega
        have e3 : bits .xor .u32 ((y : Int) / 2) 3988292384 = ((y / 2 ^^^ Oc.poly : Nat) : Int) := by
          rw [show (y : Int) / 2 = ((y / 2 : Nat) : Int) by omega]
          exact Go.u32_xor_nat (y / 2) 3988292384 (by omega) (by decide)
        clear ho
        go_wp2
        go_round
        case rel => exact ⟨k + 1, by omega, by go_num, by rw [HS.out, HB.out]⟩
        case measure => simp [intOf]; omega
      · have HB : Hid (Oc.bs y = y / 2) := by show _ = _; unfold Oc.bs; rw [if_neg ho]
        have ho' : ((y : Int) % 2 == 1) = false := by simp; omega
        clear ho
        go_wp2
        go_round
        case rel => exact ⟨k + 1, by omega, by go_num, by rw [HS.out, HB.out]; go_num⟩
        case measure => simp [intOf]; omega
    · have hk' : k = 8 := by omega
      subst hk'
      go_wp2
      go_ret
      exact ⟨rfl, rfl⟩

set_option maxHeartbeats 1000000 in
theorem refsumOf_any (a : Option Addr) (n cap : Nat) (l : List Nat) (w : World) (hn : n ≤ 140737488355328) (hrd : Rd w a n l) :
    Calls Tryz.prog 83 #[.slice a n cap] w fun e w' => e = .returned (.int .u32 ((sumN l : Nat) : Int)) ∧ w = w' := by
  have HR := hide hrd
  have HLN : Hid (l.length = n) := hrd.1
  have HLT : Hid (∀ k, ∀ c ∈ l.take k, c < 256) := fun k c hc => hrd.2.1 c (List.mem_of_mem_take hc)
  clear hrd
  go_enter Tryz.func83, Tryz.ntmps83
  go_wp2
  go_loop [3, 4] (fun r i => ∃ k : Nat, k ≤ n ∧ i = .int .i64 k ∧ r = .int .u32 ((Oc.crc 4294967295 (l.take k) : Nat) : Int)) (fun _ i => n - (intOf i).toNat)
  case atStart => exact ⟨0, Nat.zero_le _, rfl, rfl⟩
  case round =>
    obtain ⟨k, hk, rfl, rfl⟩ := hrel
    by_cases hkn : k < n
    · obtain ⟨b, off, rfl, hblt, hc0⟩ := HR.out.2.2 (by omega)
      have hc := hc0 k hkn
      have hcl := HR.out.lt k hkn
      have hq : Oc.crc 4294967295 (l.take k) < 4294967296 := Oc.crc_lt _ _ (by omega) (HLT.out k)
      have HS2 : Hid (Oc.crc 4294967295 (l.take (k + 1)) = Oc.stp (Oc.crc 4294967295 (l.take k)) (l.getD k 0)) := by rw [take_snocN _ _ (by rw [HLN.out]; exact hkn), Oc.crc_snoc]; exact rfl
      generalize l.getD k 0 = y at *
      generalize Oc.crc 4294967295 (l.take k) = q at *
      clear hc0
      have HC := hide (step_any q y w hq hcl)
      go_wp2_with (go_at_call 122; refine HC.out.mono ?_; rintro e w1 ⟨rfl, rfl⟩)
      go_round
      case rel => exact ⟨k + 1, by omega, by go_num, by rw [HS2.out]⟩
      case measure => simp [intOf]; omega
    · have hkn' : k = n := by omega
      subst hkn'
      have HF : Hid (l.take k = l) := List.take_of_length_le (by rw [HLN.out]; omega)
      have hq : Oc.crc 4294967295 l < 4294967296 := Oc.crc_lt _ _ (by omega) (by have := HLT.out k; rwa [HF.out] at this)
      go_wp2
      go_ret
      rw [HF.out]
      unfold sumN
      generalize Oc.crc 4294967295 l = q at *
      refine ⟨ret_intJ ?_, rfl⟩
      rw [Nat.xor_comm]
      exact Go.u32_xor_nat q 4294967295 hq (by omega)
end Go.Proofs.YtcadlhpgapdgdaaGreatDoor


/- Stage 20: the document's Head. -/
namespace Go.Proofs.YtcadlhpgapdgdaaGreatDoor
open Go.RowKit
set_option linter.unusedVariables false
set_option linter.unusedSimpArgs false
/-- what the document's Head answers of bytes that begin at its place -/
def hdQ (b : List Nat) : Int := if b.length < 8 ∨ getN (b.take 4) < 5 ∨ sst b 4 = false then -1 else (getN (b.take 4) : Int)
theorem refget4 (a : Option Addr) (n cap i : Nat) (z : Int) (l : List Nat) (w : World) (hz : z = (i : Int)) (hik : i + 4 ≤ n) (hn : n ≤ 281474976710656) (hrd : Rd w a n l) :
    Calls Tryz.prog 82 #[.slice a n cap, .int .i64 z, .int .i64 4] w fun e w' => e = .returned (.tuple #[.int .u64 ((getN ((l.drop i).take 4) : Nat) : Int), .int .i64 0]) ∧ w' = w := by
  subst hz
  refine (refget_yes a n cap i 4 l w (by decide) (by decide) hik hn hrd).mono ?_
  rintro e w' ⟨rfl, rfl⟩
  exact ⟨rfl, rfl⟩
set_option maxHeartbeats 1000000 in
theorem head_any (b off n cap k : Nat) (l : List Nat) (w : World) (hn : n ≤ 140737488355328) (hc : n ≤ cap) (hk : k ≤ n) (hrd : Rd w (some ⟨b, off, none⟩) n l) :
    Calls Tryz.prog 41 #[.slice (some ⟨b, off, none⟩) n cap, .int .i64 (k : Int)] w fun e w' => e = .returned (.int .i64 (hdQ (l.drop k))) ∧ w = w' := by
  have hlen := hrd.1
  by_cases h8 : n < k + 8
  · have HQ : Hid (hdQ (l.drop k) = -1) := if_pos (.inl (by rw [List.length_drop]; omega))
    clear hrd hlen
    go_enter Tryz.func41, Tryz.ntmps41
    go_wp2
    go_ret
    rw [HQ.out]
    exact ⟨rfl, rfl⟩
  · have hr2 : Rd w (some ⟨b, off + k, none⟩) 4 ((l.drop k).take 4) := by
      have h1 := hrd.drop hk
      exact h1.take (by omega)
    have HG1 := hide (refget4 (some ⟨b, off, none⟩) n cap k (k : Int) l w rfl (by omega) (by omega) hrd)
    have HG2 := hide (refget4 (some ⟨b, off, none⟩) n cap (k + 4) ((k : Int) + 4) l w (by omega) (by omega) (by omega) hrd)
    have HS := hide (refsumOf_any (some ⟨b, off + k, none⟩) 4 (cap - k) ((l.drop k).take 4) w (by decide) hr2)
    have hs32 := sumN_lt (l := (l.drop k).take 4) hr2.2.1
    have hg32 := getN_lt4 (l := (l.drop k).take 4) hr2.2.1 (by rw [List.length_take]; omega)
    have HQ : Hid (hdQ (l.drop k) = if getN ((l.drop (k + 4)).take 4) ≠ sumN ((l.drop k).take 4) ∨ getN ((l.drop k).take 4) < 5 then -1 else (getN ((l.drop k).take 4) : Int)) := by
      show _ = _
      unfold hdQ sst
      rw [List.drop_drop]
      have h4 : (4 + 4 ≤ (l.drop k).length) := by rw [List.length_drop]; omega
      have h5 : ¬ ((l.drop k).length < 8) := by omega
      simp only [h4, h5, decide_true, Bool.true_and, decide_eq_false_iff_not, false_or]
      by_cases ha : getN ((l.drop k).take 4) < 5 <;> by_cases hb : getN ((l.drop (k + 4)).take 4) = sumN ((l.drop k).take 4) <;> simp [ha, hb]
    generalize getN ((l.drop k).take 4) = N at *
    generalize getN ((l.drop (k + 4)).take 4) = M at *
    generalize sumN ((l.drop k).take 4) = Sm at *
    clear hrd hlen hr2
    rw [HQ.out]
    clear HQ
    have hb1 : (0 : Int) ≤ (k : Int) ∧ (8 : Int) ≤ (n : Int) - (k : Int) := by omega
    by_cases hM : M = Sm
    · by_cases hN : N < 5
      · rw [if_pos (.inr hN)]
        have hq : ((Sm : Int) != (M : Int)) = false := by rw [hM]; simp
        clear hM h8
        go_enter Tryz.func41, Tryz.ntmps41
        go_wp2_with fail
        refine HG1.out.mono ?_
        rintro e w1 ⟨rfl, rfl⟩
        go_wp2_with fail
        refine HG2.out.mono ?_
        rintro e w2 ⟨rfl, rfl⟩
        go_wp2_with fail
        refine HS.out.mono ?_
        rintro e w3 ⟨rfl, rfl⟩
        go_wp2
        go_ret
        exact ⟨rfl, rfl⟩
      · rw [if_neg (by omega)]
        have hq : ((Sm : Int) != (M : Int)) = false := by rw [hM]; simp
        clear hM h8
        go_enter Tryz.func41, Tryz.ntmps41
        go_wp2_with fail
        refine HG1.out.mono ?_
        rintro e w1 ⟨rfl, rfl⟩
        go_wp2_with fail
        refine HG2.out.mono ?_
        rintro e w2 ⟨rfl, rfl⟩
        go_wp2_with fail
        refine HS.out.mono ?_
        rintro e w3 ⟨rfl, rfl⟩
        go_wp2
        go_ret
        exact ⟨ret_intJ (by omega), rfl⟩
    · rw [if_pos (.inl hM)]
      have hq : ((Sm : Int) != (M : Int)) = true := by simp; omega
      clear hM h8
      go_enter Tryz.func41, Tryz.ntmps41
      go_wp2_with fail
      refine HG1.out.mono ?_
      rintro e w1 ⟨rfl, rfl⟩
      go_wp2_with fail
      refine HG2.out.mono ?_
      rintro e w2 ⟨rfl, rfl⟩
      go_wp2_with fail
      refine HS.out.mono ?_
      rintro e w3 ⟨rfl, rfl⟩
      go_wp2
      go_ret
      exact ⟨rfl, rfl⟩
end Go.Proofs.YtcadlhpgapdgdaaGreatDoor


/- Stage 20: the document's add. -/
namespace Go.Proofs.YtcadlhpgapdgdaaGreatDoor
open Go.RowKit
set_option linter.unusedVariables false
set_option linter.unusedSimpArgs false
theorem Rb.oneQ {W : World} {A : Nat} {x : Nat} {t : TypeId} {f : Nat × Nat} (h : W.heap[A]? = some (.cells #[.int .u8 (x : Int)] t f)) (hx : x < 256) : Rb W (.slice (some ⟨A, 0, none⟩) 1 1) [x] :=
  ⟨_, _, rfl, fun e => by simp at e, by simp, rfl, by simpa using hx, fun _ => ⟨A, 0, rfl, (Array.getElem?_eq_some_iff.1 h).1, fun j hj => by
    have : j = 0 := by simp at hj; omega
    subst this
    exact cellOf h 0 _ rfl⟩⟩
set_option maxHeartbeats 1000000 in
theorem add20_any (B : Nat) (v : Value) (l : List Nat) (a : Option Addr) (n cap : Nat) (m : List Nat) (w : World) (hv : Ob B w v l) (hB : B ≤ w.heap.size) (hrd : Rd w a n m) (ha : ∀ g off, a = some ⟨g, off, none⟩ → g < B) (hn : l.length + n ≤ 140737488355328) :
    Calls Tryz.prog 123 #[v, .slice a n cap] w fun e w' => ∃ v', e = .returned v' ∧ Ob B w' v' (l ++ m) ∧ Below B w w' := by
  have HR := hide hrd
  have HA := hide ha
  have HV := hide hv
  have HLN : Hid (m.length = n) := hrd.1
  obtain ⟨va, vc, rfl, _⟩ := hv.slice
  clear hrd ha hv
  go_enter Tryz.func123, Tryz.ntmps123
  go_wp2
  go_loopw [0, 5] (fun vk i wr => ∃ k : Nat, k ≤ n ∧ i = .int .i64 (k : Int) ∧ Hid (Ob B wr vk (l ++ m.take k)) ∧ Hid (Below B w wr)) (fun _ i _ => n - (intOf i).toNat)
  case atStart => exact ⟨0, Nat.zero_le _, rfl, hide (by simpa using HV.out), Below.refl _ _⟩
  case round =>
    obtain ⟨k, hk, rfl, HO, HB⟩ := hrel
    obtain ⟨ak, ck, rfl, hck⟩ := HO.out.slice
    have hll : (l ++ m.take k).length = l.length + k := by rw [List.length_append, List.length_take, HLN.out]; omega
    have HLL := hide hll
    rw [hll] at HO hck ⊢
    by_cases hkn : k < n
    · obtain ⟨b, off, rfl, hbl, hc0⟩ := HR.out.2.2 (by omega)
      have hcell := (HB.out.cell (p := ⟨b, off + k, none⟩) (HA.out _ _ rfl)).trans (hc0 k hkn)
      have hcl : m.getD k 0 < 256 := HR.out.lt k hkn
      have HS : Hid (l ++ m.take (k + 1) = (l ++ m.take k) ++ [m.getD k 0]) := by show _ = _; rw [take_snocN _ _ (by rw [HLN.out]; exact hkn), List.append_assoc]
      generalize m.getD k 0 = x at *
      clear hc0 hll
      have hBr : B ≤ wr.heap.size := Nat.le_trans hB HB.out.size
      have HRB : Hid (Rb (wr.alloc (.cells #[.int .u8 (x : Int)] 5)) (.slice (some ⟨wr.heap.size, 0, none⟩) 1 1) [x]) := Rb.oneQ (heap_new _ _) hcl
      have HO1 : Hid (Ob B (wr.alloc (.cells #[.int .u8 (x : Int)] 5)) (.slice ak (l.length + k) ck) (l ++ m.take k)) := HO.out.below (bel1 (Below.refl _ _) (Nat.le_refl _) _)
      have HB1 : Hid (Below B w (wr.alloc (.cells #[.int .u8 (x : Int)] 5))) := bel1 HB.out hBr _
      go_wp2_with (at_builtin; go_loud (refine wpList_app _ rfl (.tmp 12) (.tmp 17) rfl B (.slice ak (l.length + k) ck) (l ++ m.take k) rfl HO1.out (.slice (some ⟨wr.heap.size, 0, none⟩) 1 1) [x] rfl HRB.out (by rw [HLL.out]; simp; omega) (by simp; omega) ?_; intro v' w3 r1 r2 r3; have HN := hide r1; have HG := hide r2; clear r1 r2 r3))
      exact ⟨⟨k + 1, by omega, by go_num, hide (by rw [HS.out]; exact HN.out), HB1.out.grown HG.out (by simp; omega) (fun q hq => (HO1.out.lt q hq).1)⟩, by simp [intOf]; omega⟩
    · have hkn' : k = n := by omega
      subst hkn'
      have HF : Hid (m.take k = m) := List.take_of_length_le (by rw [HLN.out]; omega)
      rw [HF.out] at HO
      go_wp2
      go_ret
      exact ⟨_, rfl, HO.out, HB.out⟩
end Go.Proofs.YtcadlhpgapdgdaaGreatDoor
