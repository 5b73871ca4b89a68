/- OctetSums: the walk. -/
import Derived.Test.YtjgdebifomkkcabDoorSumsP
import Derived.Test.YtjgdebifomkkcabDoorLive
namespace Go.Proofs.YtjgdebifomkkcabDoor
open Go.RowKit
set_option linter.unusedVariables false

theorem Tryd.infoS : (Tryd.prog.info? 27).map (fun i => (i.zero, i.size, i.bytes)) = some (some (.slice none 0 0), 1, 24) := by kernel_rfl

set_option maxRecDepth 100000 in
set_option maxHeartbeats 2000000 in
theorem sums_some (pb po n cap : Nat) (ls : List (List Nat)) (w : World) (hn : n ≤ 5864062014805) (hn0 : 0 < n) (hl : ls.length = n) (hlt : pb < w.heap.size)
    (hp : ∀ k, k < n → ∃ x c, w.cell? ⟨pb, po + k, none⟩ = some (.slice x (Nn ls k) c) ∧ Nn ls k ≤ 140737488355328 ∧ Rd w x (Nn ls k) (ls.getD k [])) (hT : Lib.Utf8Tabs 0 1 w) :
    Calls Tryd.prog 5 #[.slice (some ⟨pb, po, none⟩) n cap] w fun e w' => e = .returned (.bool true) ∧ Below w.heap.size w w' := by
  have HT := hide hT
  have HP := hide hp
  have HB : Hid (∀ i, i < n → ∀ c ∈ ls.getD i [], c < 256) := fun i hi => by
    obtain ⟨_, _, _, _, h⟩ := hp i hi
    exact h.2.1
  clear hT hp
  obtain ⟨i0, hi, hz0, hz1, hz2⟩ := info_parts Tryd.infoS
  have HI := hide hi
  have HZ0 := hide hz0
  have HZ1 := hide hz1
  have HZ2 := hide hz2
  clear hi hz0 hz1 hz2
  go_enter Tryd.func5, Tryd.ntmps5
  go_wp2_with fail
  refine (live_any w HT.out).mono ?_
  rintro e w1 ⟨rfl, hb1⟩
  go_wp2
  go_loopw [4, 5, 6] (fun vl va i wr => ∃ k : Nat, k ≤ n ∧ i = .int .i64 k ∧ ∃ G : Nat → Nat, wr.ownsRow w1.heap.size 27 1 vl k ((List.range k).map (elL ls G)) ∧ wr.ownsRow w1.heap.size 27 1 va k ((List.range k).map (elA ls G)) ∧
      Apart vl.ownBlock va.ownBlock ∧ Rows2 wr ls G k ∧ Below w1.heap.size w1 wr) (fun _ _ i _ => n - (intOf i).toNat)
  case atStart => exact ⟨0, Nat.zero_le _, rfl, fun _ => 0, World.ownsRow_nil _ _ _ _, World.ownsRow_nil _ _ _ _, .inl rfl, fun i hi => absurd hi (Nat.not_lt_zero _), Below.refl _ _⟩
  case round =>
    obtain ⟨k, hk, rfl, G, hol, hoa, hap, hrows, hbw⟩ := hrel
    have HOL := hide hol
    have HOA := hide hoa
    have HAP := hide hap
    have HRW := hide hrows
    clear hol hoa hap hrows
    by_cases hkn : k < n
    · obtain ⟨x, c, hcell, hm, hrd⟩ := HP.out k hkn
      have hbx : Below w.heap.size w wr := hb1.trans (hbw.mono hb1.size)
      have hcell' : wr.cell? ⟨pb, po + k, none⟩ = some (.slice x (Nn ls k) c) := (hbx.cell (p := ⟨pb, po + k, none⟩) hlt).trans hcell
      have HR := hide (hrd.below hbx)
      clear hrd hcell
      go_wp2_with (first
        | (go_at_call 15; refine (lent_any _ _ _ (ls.getD k []) wr HR.out hm).mono ?_; rintro e w2 ⟨rfl, hrow, hb2⟩; have HROW := hide hrow; clear hrow; have HOL2 := hide (ownsRow_below HOL.out hb2); have HOA2 := hide (ownsRow_below HOA.out hb2))
        | (at_builtin; refine wpList_append_new _ rfl (.tmp 28) (.tmp 30) 26 rfl w1.heap.size 27 i0 (.slice none 0 0) 24 Tryd.underlying26 HI.out HZ0.out HZ1.out HZ2.out rfl _ k _ rfl (HOL2.out.alloc _) ⟨w2.heap.size, 0, none⟩ 1 (.slice (some ⟨wr.heap.size, 0, none⟩) (Nn ls k) (Nn ls k + 2)) rfl (cell_one_new' _ _ _) rfl (by unfold maxLen; omega) (by omega) (by have := hbw.size; have := hb2.size; simp; omega) ?_; intro vl' w3 r1 r2 r3; have HR1 := hide r1; have HR2 := hide r2; have HR3 := hide r3; have HOA3 := hide (sums_mid HOA2.out HAP.out r2); have hsz3 := r2.size; clear r1 r2 r3)
        | (at_builtin; refine wpList_append_new _ rfl (.tmp 32) (.tmp 34) 26 rfl w1.heap.size 27 i0 (.slice none 0 0) 24 Tryd.underlying26 HI.out HZ0.out HZ1.out HZ2.out rfl _ k _ rfl (HOA3.out.alloc _) ⟨w3.heap.size, 0, none⟩ 1 (.slice (some ⟨wr.heap.size, 0, none⟩) (Nn ls k + 2) (Nn ls k + 2)) rfl (cell_one_new' _ _ _) rfl (by unfold maxLen; omega) (by omega) (by have := hbw.size; have := hb2.size; simp at hsz3 ⊢; omega) ?_; intro va' w4 s1 s2 s3; have HS := hide (sums_step HOL2.out HOA2.out HAP.out (HRW.out.below hb2) HROW.out (Nat.le_trans hbw.size hb2.size) (hbw.trans (hb2.mono hbw.size)) HR1.out HR2.out HR3.out s1 s2 s3); clear s1 s2 s3))
      go_roundw
      case rel => exact ⟨k + 1, by omega, by go_num, _, HS.out.1, HS.out.2.1, HS.out.2.2.1, HS.out.2.2.2.1, HS.out.2.2.2.2⟩
      case measure => simp [intOf]; omega
    · have hkn' : k = n := by omega
      subst hkn'
      rcases HOL.out.2 with ⟨rfl, h0⟩ | ⟨bl, cl, curl, rfl, hrest1⟩
      · omega
      rcases HOA.out.2 with ⟨rfl, h0⟩ | ⟨ba, ca, cura, rfl, hrest2⟩
      · omega
      clear hrest1 hrest2
      have hbx : Below w.heap.size w wr := hb1.trans (hbw.mono hb1.size)
      have hcL : ∀ j, j < k → wr.cell? ⟨bl, 0 + j, none⟩ = some (elL ls G j) := fun j hj => by
        rw [Nat.zero_add, HOL.out.cellAt j (by omega), List.getElem?_map, List.getElem?_range hj]; rfl
      have hcA : ∀ j, j < k → wr.cell? ⟨ba, 0 + j, none⟩ = some (elA ls G j) := fun j hj => by
        rw [Nat.zero_add, HOA.out.cellAt j (by omega), List.getElem?_map, List.getElem?_range hj]; rfl
      have hlb : bl < wr.heap.size := (HOL.out.lt bl rfl).2
      have hla : ba < wr.heap.size := (HOA.out.lt ba rfl).2
      have HSUM := hide (sum_any bl 0 k cl ls wr (by omega) hl (fun _ => hlb) (fun j hj => by
        obtain ⟨_, _, _, hm, _⟩ := HP.out j hj
        exact ⟨_, _, _, hcL j hj, hm, (HRW.out.rd HB.out j hj).1⟩))
      have HCA := hide hcA
      clear hcL hcA
      go_wp2_with fail
      refine HSUM.out.mono ?_
      rintro e w5 ⟨rfl, hb5⟩
      have hby : Below w.heap.size w w5 := hbx.trans (hb5.mono hbx.size)
      have hlt5 : pb < w5.heap.size := Nat.lt_of_lt_of_le hlt hby.size
      have HP5 : Hid (∀ j, j < k → ∃ x c, w5.cell? ⟨pb, po + j, none⟩ = some (.slice x (Nn ls j) c) ∧ Nn ls j ≤ 140737488355328 ∧ Rd w5 x (Nn ls j) (ls.getD j [])) := fun j hj => by
        obtain ⟨x, c, hc, hm, hr⟩ := HP.out j hj
        exact ⟨x, c, (hby.cell (p := ⟨pb, po + j, none⟩) hlt).trans hc, hm, hr.below hby⟩
      have HA5 : Hid (∀ j, j < k → w5.cell? ⟨ba, j, none⟩ = some (elA ls G j)) := fun j hj => by
        have := HCA.out j hj
        rw [Nat.zero_add] at this
        exact (hb5.cell (p := ⟨ba, j, none⟩) hla).trans this
      have HW5 := hide (HRW.out.below hb5)
      clear HCA HSUM
      have HREF := hide (refsum_any pb po k cap ls w5 (by omega) hl (fun j hj => by
        obtain ⟨x, c, hc, hm, hr⟩ := HP5.out j hj
        exact ⟨_, _, _, hc, hm, hr⟩))
      go_wp2_with fail
      refine HREF.out.mono ?_
      rintro e w6 ⟨rfl, rfl⟩
      clear HREF
      generalize (4294967295 ^^^ Oc.crc 4294967295 ls.flatten : Nat) = S
      go_wp2
      go_loopw [11] (fun i wq => ∃ j : Nat, j ≤ k ∧ i = .int .i64 j ∧ ∃ nq, wq = w5.drewN nq) (fun i _ => k - (intOf i).toNat)
      case atStart => exact ⟨0, Nat.zero_le _, rfl, 0, rfl⟩
      case round =>
        obtain ⟨j, hj, rfl, n0, rfl⟩ := hrel
        by_cases hjk : j < k
        · obtain ⟨x, c, hcell0, hm, hr⟩ := HP5.out j hjk
          have hca0 := HA5.out j hjk
          unfold elA at hca0
          have hrd := HW5.out.rd HB.out j hjk
          have hcell : (w5.drewN n0).cell? ⟨pb, po + j, none⟩ = some (.slice x (Nn ls j) c) := hcell0
          have hca : (w5.drewN n0).cell? ⟨ba, j, none⟩ = some (.slice (some ⟨G j, 0, none⟩) (Nn ls j + 2) (Nn ls j + 2)) := hca0
          have HBK : Hid (∀ nq, Calls Tryd.prog 18 #[.slice (some ⟨G j, 0, none⟩) (Nn ls j + 2) (Nn ls j + 2), .slice x (Nn ls j) c] ((w5.drewN n0).drewN nq) fun e w' => e = .returned (.bool true) ∧ ∃ m, w' = ((w5.drewN n0).drewN nq).drewN m) := fun nq => by
            rw [World.drewN_drewN]
            exact back_any (G j) x (Nn ls j) c (ls.getD j []) (w5.drewN (n0 + nq)) (rowIs_below (HW5.out j hjk) (below_draws _)) (hrd.1.below (below_draws _)) (hrd.2.below (below_draws _)) (hr.below (below_draws _)) hm
          have hjk' : (j : Int) < (k : Int) := by omega
          clear hr hrd hcell0 hca0
          generalize hW : w5.drewN n0 = W at *
          have HWq := hide hW
          clear hW
          go_wp2
          go_quiet ((go_at_call 18; exact Calls.quiet_of (HBK.out _)))
          go_wp2
          go_roundw
          case rel => exact ⟨j + 1, by omega, by go_num, n0 + nq, by rw [← HWq.out, World.drewN_drewN]⟩
          case measure => simp [intOf]; omega
        · go_wp2
          go_ret
          exact ⟨rfl, below_drewN hby _⟩
end Go.Proofs.YtjgdebifomkkcabDoor
