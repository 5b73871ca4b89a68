/- OctetJoined: the walk. -/
import Derived.Test.YtjgdebifomkkcabDoorJoinP
import Derived.Test.YtjgdebifomkkcabDoorLive
namespace Go.Proofs.YtjgdebifomkkcabDoor
open Go.RowKit
set_option linter.unusedVariables false
theorem Tryd.infoJ : (Tryd.prog.info? 27).map (fun i => (i.zero, i.size, i.bytes)) = some (some (.slice none 0 0), 1, 24) := by kernel_rfl

set_option maxRecDepth 100000 in
set_option maxHeartbeats 4000000 in
theorem joined_walk (a : Option Addr) (n cap : Nat) (l : List Nat) (ca : Option Addr) (m mc : Nat) (zs : List Int) (w : World) (hr : Rd w a n l) (hc : n ≤ cap) (hcap : cap ≤ 140737488351232) (hnone : a = none → cap = 0) (hi : Ri w ca m zs) (hm : m ≤ 1048576) (hT : Lib.Utf8Tabs 0 1 w) :
    Calls Tryd.prog 6 #[.slice a n cap, .slice ca m mc] w fun e w' => e = .returned (.bool true) ∧ Below w.heap.size w w' := by
  have HT := hide hT
  have HR := hide hr
  have HI := hide hi
  have hln := hr.1
  clear hT hr hi
  obtain ⟨i0, hi0, hz0, hz1, hz2⟩ := info_parts Tryd.infoJ
  have HI0 := hide hi0
  have HZ0 := hide hz0
  have HZ1 := hide hz1
  have HZ2 := hide hz2
  clear hi0 hz0 hz1 hz2
  go_enter Tryd.func6, Tryd.ntmps6
  go_wp2_with fail
  refine (live_any w HT.out).mono ?_
  rintro e w1 ⟨rfl, hb1⟩
  have HRD1 := hide (HR.out.below hb1)
  have HSHAPE : Hid (∀ p : Nat, (a = none ∧ n = 0 ∧ cap = 0) ∨ (∃ ad, a = some ad ∧ n = 0 ∧ cap = 0) ∨ (∃ ad, a = some ad ∧ n = 0 ∧ 0 < cap) ∨ (∃ ab ao, a = some ⟨ab, ao, none⟩ ∧ 0 < n ∧ p < cap) ∨ (∃ ab ao, a = some ⟨ab, ao, none⟩ ∧ 0 < n ∧ cap ≤ p)) := fun p => by
    by_cases h0 : n = 0
    · cases a with
      | none => exact .inl ⟨rfl, h0, hnone rfl⟩
      | some ad =>
        by_cases hc0 : cap = 0
        · exact .inr (.inl ⟨ad, rfl, h0, hc0⟩)
        · exact .inr (.inr (.inl ⟨ad, rfl, h0, by omega⟩))
    · obtain ⟨b, off, ha, _, _⟩ := HR.out.2.2 (by omega)
      by_cases hp : p < cap
      · exact .inr (.inr (.inr (.inl ⟨b, off, ha, by omega, hp⟩)))
      · exact .inr (.inr (.inr (.inr ⟨b, off, ha, by omega, by omega⟩)))
  clear hnone
  go_wp2
  go_loopw [6, 7, 8] (fun vp t i wr => ∃ k p : Nat, k ≤ m ∧ p ≤ n ∧ i = .int .i64 k ∧ t = .int .i64 p ∧ ∃ els ls, wr.ownsRow w1.heap.size 27 1 vp k els ∧ Pieces w1 els ls ∧ ls.flatten = l.take p ∧ Below w1.heap.size w1 wr) (fun _ _ i _ => m - (intOf i).toNat)
  case atStart => exact ⟨0, 0, Nat.zero_le _, Nat.zero_le _, rfl, rfl, [], [], World.ownsRow_nil _ _ _ _, ⟨rfl, fun i hi => absurd hi (Nat.not_lt_zero _)⟩, rfl, Below.refl _ _⟩
  case round =>
    obtain ⟨k, p, hk, hp, rfl, rfl, els, ls, hown, hpc, hfl, hbw⟩ := hrel
    have HO := hide hown
    have HPC := hide hpc
    have HFL := hide hfl
    clear hown hpc hfl
    by_cases hkm : k < m
    · obtain ⟨b, off, rfl, hblt, hc0⟩ := HI.out (by omega)
      have hbx : Below w.heap.size w wr := hb1.trans (hbw.mono hb1.size)
      have hcell := (hbx.cell (p := ⟨b, off + k, none⟩) hblt).trans (hc0 k hkm)
      generalize zs.getD k 0 = z at *
      clear hc0
      have HSH : Hid ((a = none ∧ n = 0 ∧ cap = 0) ∨ (∃ ad, a = some ad ∧ n = 0 ∧ cap = 0) ∨ (∃ ad, a = some ad ∧ n = 0 ∧ 0 < cap) ∨ (∃ ab ao, a = some ⟨ab, ao, none⟩ ∧ 0 < n ∧ p < cap) ∨ (∃ ab ao, a = some ⟨ab, ao, none⟩ ∧ 0 < n ∧ cap ≤ p)) := HSHAPE.out p
      by_cases hz : 0 ≤ z ∧ z ≤ n - p
      · obtain ⟨hz1, hz2⟩ := hz
        obtain ⟨q, rfl⟩ := Int.eq_ofNat_of_zero_le hz1
        have HTM := hide (take_more l p q)
        rcases HSH.out with ⟨rfl, rfl, rfl⟩ | ⟨ad, rfl, rfl, rfl⟩ | ⟨ad, rfl, rfl, hc1⟩ | ⟨ab, ao, rfl, hn1, hc1⟩ | ⟨ab, ao, rfl, hn1, hc1⟩
        all_goals
          go_wp2_with (at_builtin; refine wpList_append_new _ rfl (.tmp 33) (.tmp 40) 26 rfl w1.heap.size 27 i0 (.slice none 0 0) 24 Tryd.underlying26 HI0.out HZ0.out HZ1.out HZ2.out rfl _ k _ rfl (HO.out.alloc _) ⟨wr.heap.size, 0, none⟩ 1 _ rfl (cell_one_new' _ _ _) rfl (by unfold maxLen; omega) (by omega) (by have := hbw.size; simp; omega) ?_; intro vp' w3 r1 r2 r3; have HR1 := hide r1; have HB3 := hide ((hbw.alloc hbw.size _).grown r2 (by have := hbw.size; simp; omega) (fun g hg => (HO.out.lt g hg).1)); clear r1 r2 r3)
          go_roundw
          case rel => exact ⟨k + 1, p + q, by omega, by omega, by go_num, by go_num, _, ls ++ [(l.drop p).take q], HR1.out, HPC.out.snoc (by omega) (HRD1.out.sub (by omega) _ (by intro b' off' h' hq'; first | omega | (cases h'; rfl))), by rw [List.flatten_append, HFL.out, HTM.out]; simp, HB3.out⟩
          case measure => simp [intOf]; omega
      · have HTM := hide (take_more l p 0)
        have hz' : z < 0 ∨ (0 ≤ z ∧ n - p < z) := by omega
        clear hz
        rcases hz' with hz | ⟨hz, hz2⟩
        all_goals
          rcases HSH.out with ⟨rfl, rfl, rfl⟩ | ⟨ad, rfl, rfl, rfl⟩ | ⟨ad, rfl, rfl, hc1⟩ | ⟨ab, ao, rfl, hn1, hc1⟩ | ⟨ab, ao, rfl, hn1, hc1⟩
          all_goals
            go_wp2_with (at_builtin; refine wpList_append_new _ rfl (.tmp 33) (.tmp 40) 26 rfl w1.heap.size 27 i0 (.slice none 0 0) 24 Tryd.underlying26 HI0.out HZ0.out HZ1.out HZ2.out rfl _ k _ rfl (HO.out.alloc _) ⟨wr.heap.size, 0, none⟩ 1 _ rfl (cell_one_new' _ _ _) rfl (by unfold maxLen; omega) (by omega) (by have := hbw.size; simp; omega) ?_; intro vp' w3 r1 r2 r3; have HR1 := hide r1; have HB3 := hide ((hbw.alloc hbw.size _).grown r2 (by have := hbw.size; simp; omega) (fun g hg => (HO.out.lt g hg).1)); clear r1 r2 r3)
            go_roundw
            case rel => exact ⟨k + 1, p, by omega, by omega, by go_num, by go_num, _, ls ++ [(l.drop p).take 0], HR1.out, HPC.out.snoc (by omega) (HRD1.out.sub (by omega) _ (by intro b' off' h' hq'; first | omega | (cases h'; rfl))), by rw [List.flatten_append, HFL.out]; simp, HB3.out⟩
            case measure => simp [intOf]; omega
    · have hkm' : k = m := by omega
      subst hkm'
      have HSH : Hid ((a = none ∧ n = 0 ∧ cap = 0) ∨ (∃ ad, a = some ad ∧ n = 0 ∧ cap = 0) ∨ (∃ ad, a = some ad ∧ n = 0 ∧ 0 < cap) ∨ (∃ ab ao, a = some ⟨ab, ao, none⟩ ∧ 0 < n ∧ p < cap) ∨ (∃ ab ao, a = some ⟨ab, ao, none⟩ ∧ 0 < n ∧ cap ≤ p)) := HSHAPE.out p
      have HFL2 : Hid (∀ q, p + q = l.length → (ls ++ [(l.drop p).take q]).flatten = l) := fun q hq => by
        rw [List.flatten_append, HFL.out]
        have e : l.take p ++ (l.drop p).take q = l := by
          rw [← take_more, List.take_of_length_le (by omega)]
        simpa using e
      rcases HSH.out with ⟨rfl, rfl, rfl⟩ | ⟨ad, rfl, rfl, rfl⟩ | ⟨ad, rfl, rfl, hc1⟩ | ⟨ab, ao, rfl, hn1, hc1⟩ | ⟨ab, ao, rfl, hn1, hc1⟩
      all_goals
        go_wp2_with (at_builtin; refine wpList_append_new _ rfl (.tmp 45) (.tmp 49) 26 rfl w1.heap.size 27 i0 (.slice none 0 0) 24 Tryd.underlying26 HI0.out HZ0.out HZ1.out HZ2.out rfl _ k _ rfl (HO.out.alloc _) ⟨wr.heap.size, 0, none⟩ 1 _ rfl (cell_one_new' _ _ _) rfl (by unfold maxLen; omega) (by omega) (by have := hbw.size; simp; omega) ?_; intro vp' w3 r1 r2 r3; have HR1 := hide r1; have HB3 := hide ((hbw.alloc hbw.size _).grown r2 (by have := hbw.size; simp; omega) (fun g hg => (HO.out.lt g hg).1)); clear r1 r2 r3)
        refine (sum_ownv HR1.out (by omega) (Pieces.below (HPC.out.snoc (by omega) (HRD1.out.sub (i := p) (by omega) _ (by intro b' off' h' hq'; first | omega | (cases h'; rfl)))) (HB3.out)) (by omega)).mono ?_
        rintro e w4 ⟨rfl, hb4⟩
        rw [HFL2.out _ (by omega)]
        have hby := hb1.trans (HB3.out.mono hb1.size)
        have hbz := hby.trans (hb4.mono hby.size)
        have HR4 := hide (HR.out.below hbz)
        go_wp2_with fail
        refine (sum_one _ _ _ l w4 HR4.out (by omega)).mono ?_
        rintro e w5 ⟨rfl, hb5⟩
        generalize (4294967295 ^^^ Oc.crc 4294967295 l : Nat) = S
        go_wp2
        go_ret
        exact ⟨rfl, hbz.trans (hb5.mono hbz.size)⟩
end Go.Proofs.YtjgdebifomkkcabDoor
