/- HRFd, HRFe, HRTb -/
import Derived.Test.YtgldcchleoklcaaGreatDoorP24
namespace Go.Proofs.YtgldcchleoklcaaGreatDoor
open Go.RowKit
set_option linter.unusedVariables false
set_option linter.unusedSimpArgs false
def rs_transfer : List FS := [⟨⟨#[104, 97, 110, 100, 108, 101]⟩, 4, [], true, 0, 0, ⟨#[]⟩⟩, ⟨⟨#[105, 100]⟩, 4, [], false, 0, 0, ⟨#[]⟩⟩, ⟨⟨#[116, 97, 103]⟩, 18, [], false, 0, 0, ⟨#[]⟩⟩, ⟨⟨#[102, 111, 114, 109, 97, 116]⟩, 4, [], false, 0, 0, ⟨#[]⟩⟩, ⟨⟨#[115, 101, 116, 116, 108, 101, 100]⟩, 1, [], false, 0, 0, ⟨#[]⟩⟩, ⟨⟨#[109, 111, 114, 101]⟩, 1, [], false, 1, 0, ⟨#[]⟩⟩, ⟨⟨#[115, 116, 97, 116, 101]⟩, 102, [35, 36, 37, 38, 39, 51, 52], false, 0, 0, ⟨#[]⟩⟩, ⟨⟨#[114, 101, 115, 117, 109, 101]⟩, 1, [], false, 1, 0, ⟨#[]⟩⟩, ⟨⟨#[97, 98, 111, 114, 116, 101, 100]⟩, 1, [], false, 1, 0, ⟨#[]⟩⟩, ⟨⟨#[98, 97, 116, 99, 104, 97, 98, 108, 101]⟩, 1, [], false, 1, 0, ⟨#[]⟩⟩]
set_option maxRecDepth 100000 in
set_option maxHeartbeats 8000000 in
theorem r_transfer (w : World) : Calls Tryz.prog 77 #[] w (RRow rs_transfer w) := by
  obtain ⟨i0, hi0, hzz⟩ := Option.map_eq_some_iff.1 Tryz.infoF
  simp only [Prod.mk.injEq] at hzz
  obtain ⟨hz0', hz1', hz2'⟩ := hzz
  have HI : Hid (i0.zero = _ ∧ i0.size = _ ∧ i0.bytes = _) := ⟨hz0', hz1', hz2'⟩
  have HI0 := hide hi0
  have HR0 : Hid (RTo rs_transfer w.heap.size 0 (.slice none 0 0) w) := RTo.start _ _
  have HB0 : Hid (Below w.heap.size w w) := Below.refl _ _
  clear hz0' hz1' hz2' hi0
  go_enter Tryz.func77, Tryz.ntmps77
  go_wp2_with (first
    | (at_builtin; have HRk := HR9; obtain ⟨fs, hk, hown, hfd⟩ := HRk.out; refine wpList_append_own_at _ rfl (.tmp 42) (.tmp 45) 23 rfl w.heap.size 66 i0 _ 9 120 Tryz.underlying23 HI0.out HI.out.1 HI.out.2.1 HI.out.2.2 rfl (by decide) _ 9 (flat9 fs) rfl (hown.alloc _) ⟨w9.heap.size, 0, none⟩ 1 1 ((⟨⟨#[98, 97, 116, 99, 104, 97, 98, 108, 101]⟩, 1, none, 0, 0, false, leaf 1 0 ⟨#[]⟩⟩ : Fd).cs.toList) rfl rfl (news9 w9 ⟨⟨#[98, 97, 116, 99, 104, 97, 98, 108, 101]⟩, 1, none, 0, 0, false, leaf 1 0 ⟨#[]⟩⟩ _) (one9 _) (by decide) (by decide) (by have := HB9.out.size; simp <;> omega) ?_; intro v' w10 hown' hgrow _ hat; obtain ⟨g', cap', rfl⟩ := ownsRow_succ hown'; obtain ⟨hr10, hb10⟩ := RTo.next (l := rs_transfer) hk hown hfd HB9.out.size (bel1 (Below.refl _ _) (Nat.le_refl _) _) ⟨⟨#[98, 97, 116, 99, 104, 97, 98, 108, 101]⟩, 1, none, 0, 0, false, leaf 1 0 ⟨#[]⟩⟩ (by decide) (⟨rfl, rfl, rfl, rfl, rfl, rfl, fun h => absurd h (by decide)⟩) (fun b o e => by cases e) hgrow hown' hat; have HR10 := hide hr10; have HB10 : Hid (Below w.heap.size w w10) := HB9.out.trans hb10; clear hr10 hb10 hown' hgrow hat hown hfd hk)
    | (at_builtin; have HRk := HR8; obtain ⟨fs, hk, hown, hfd⟩ := HRk.out; refine wpList_append_own_at _ rfl (.tmp 37) (.tmp 40) 23 rfl w.heap.size 66 i0 _ 9 120 Tryz.underlying23 HI0.out HI.out.1 HI.out.2.1 HI.out.2.2 rfl (by decide) _ 8 (flat9 fs) rfl (hown.alloc _) ⟨w8.heap.size, 0, none⟩ 1 1 ((⟨⟨#[97, 98, 111, 114, 116, 101, 100]⟩, 1, none, 0, 0, false, leaf 1 0 ⟨#[]⟩⟩ : Fd).cs.toList) rfl rfl (news9 w8 ⟨⟨#[97, 98, 111, 114, 116, 101, 100]⟩, 1, none, 0, 0, false, leaf 1 0 ⟨#[]⟩⟩ _) (one9 _) (by decide) (by decide) (by have := HB8.out.size; simp <;> omega) ?_; intro v' w9 hown' hgrow _ hat; obtain ⟨g', cap', rfl⟩ := ownsRow_succ hown'; obtain ⟨hr9, hb9⟩ := RTo.next (l := rs_transfer) hk hown hfd HB8.out.size (bel1 (Below.refl _ _) (Nat.le_refl _) _) ⟨⟨#[97, 98, 111, 114, 116, 101, 100]⟩, 1, none, 0, 0, false, leaf 1 0 ⟨#[]⟩⟩ (by decide) (⟨rfl, rfl, rfl, rfl, rfl, rfl, fun h => absurd h (by decide)⟩) (fun b o e => by cases e) hgrow hown' hat; have HR9 := hide hr9; have HB9 : Hid (Below w.heap.size w w9) := HB8.out.trans hb9; clear hr9 hb9 hown' hgrow hat hown hfd hk)
    | (at_builtin; have HRk := HR7; obtain ⟨fs, hk, hown, hfd⟩ := HRk.out; refine wpList_append_own_at _ rfl (.tmp 32) (.tmp 35) 23 rfl w.heap.size 66 i0 _ 9 120 Tryz.underlying23 HI0.out HI.out.1 HI.out.2.1 HI.out.2.2 rfl (by decide) _ 7 (flat9 fs) rfl (hown.alloc _) ⟨w7.heap.size, 0, none⟩ 1 1 ((⟨⟨#[114, 101, 115, 117, 109, 101]⟩, 1, none, 0, 0, false, leaf 1 0 ⟨#[]⟩⟩ : Fd).cs.toList) rfl rfl (news9 w7 ⟨⟨#[114, 101, 115, 117, 109, 101]⟩, 1, none, 0, 0, false, leaf 1 0 ⟨#[]⟩⟩ _) (one9 _) (by decide) (by decide) (by have := HB7.out.size; simp <;> omega) ?_; intro v' w8 hown' hgrow _ hat; obtain ⟨g', cap', rfl⟩ := ownsRow_succ hown'; obtain ⟨hr8, hb8⟩ := RTo.next (l := rs_transfer) hk hown hfd HB7.out.size (bel1 (Below.refl _ _) (Nat.le_refl _) _) ⟨⟨#[114, 101, 115, 117, 109, 101]⟩, 1, none, 0, 0, false, leaf 1 0 ⟨#[]⟩⟩ (by decide) (⟨rfl, rfl, rfl, rfl, rfl, rfl, fun h => absurd h (by decide)⟩) (fun b o e => by cases e) hgrow hown' hat; have HR8 := hide hr8; have HB8 : Hid (Below w.heap.size w w8) := HB7.out.trans hb8; clear hr8 hb8 hown' hgrow hat hown hfd hk)
    | (at_builtin; have HRk := HR6; obtain ⟨fs, hk, hown, hfd⟩ := HRk.out; refine wpList_append_own_at _ rfl (.tmp 27) (.tmp 30) 23 rfl w.heap.size 66 i0 _ 9 120 Tryz.underlying23 HI0.out HI.out.1 HI.out.2.1 HI.out.2.2 rfl (by decide) _ 6 (flat9 fs) rfl ((ownsRow_keep hown (fun g hg => HC6.out.block g (ownsRow_lt hown hg).2)).alloc _) ⟨c6.heap.size, 0, none⟩ 1 1 ((⟨⟨#[115, 116, 97, 116, 101]⟩, 102, (some ⟨w6.heap.size, 0, none⟩), 7, 7, false, leaf 0 0 ⟨#[]⟩⟩ : Fd).cs.toList) rfl rfl (news9 c6 ⟨⟨#[115, 116, 97, 116, 101]⟩, 102, (some ⟨w6.heap.size, 0, none⟩), 7, 7, false, leaf 0 0 ⟨#[]⟩⟩ _) (one9 _) (by decide) (by decide) (by have := HB6.out.size; have := HC6.out.size; simp <;> omega) ?_; intro v' w7 hown' hgrow _ hat; obtain ⟨g', cap', rfl⟩ := ownsRow_succ hown'; obtain ⟨hr7, hb7⟩ := RTo.next (l := rs_transfer) hk hown hfd HB6.out.size (bel1 HC6.out HC6.out.size _) ⟨⟨#[115, 116, 97, 116, 101]⟩, 102, (some ⟨w6.heap.size, 0, none⟩), 7, 7, false, leaf 0 0 ⟨#[]⟩⟩ (by decide) (⟨rfl, rfl, rfl, rfl, rfl, rfl, fun _ => ⟨w6.heap.size, rfl, Nat.le_refl _, by have := HD6.out.1; simp <;> omega, heap_past HD6.out.2 _⟩⟩) (fun b o e => by cases e; exact ⟨Nat.le_refl _, by have := HD6.out.1; simp <;> omega⟩) hgrow hown' hat; have HR7 := hide hr7; have HB7 : Hid (Below w.heap.size w w7) := HB6.out.trans hb7; clear hr7 hb7 hown' hgrow hat hown hfd hk)
    | (go_at_call 110; have HRk := HR6; refine Calls.mono (composite_any _ _ _ _ _) ?_; rintro e c6 ⟨rfl, hc6⟩; have HC6 : Hid (Below w6.heap.size w6 c6) := belOn (bel1 (Below.refl _ _) (Nat.le_refl _) (.cells #[.int .i64 35, .int .i64 36, .int .i64 37, .int .i64 38, .int .i64 39, .int .i64 51, .int .i64 52] 3)) (by simp) hc6; have HD6 : Hid (w6.heap.size < c6.heap.size ∧ Ints c6 w6.heap.size [35, 36, 37, 38, 39, 51, 52]) := ⟨by have := hc6.size; simp at this; omega, (hc6.block w6.heap.size (by simp)).trans (World.alloc_heap_new _ _)⟩; clear hc6)
    | (go_at_call 111; have HRk := HR6; refine Calls.mono (r_states _) ?_; rintro e s6 ⟨rfl, rfl⟩)
    | (at_builtin; have HRk := HR5; obtain ⟨fs, hk, hown, hfd⟩ := HRk.out; refine wpList_append_own_at _ rfl (.tmp 22) (.tmp 25) 23 rfl w.heap.size 66 i0 _ 9 120 Tryz.underlying23 HI0.out HI.out.1 HI.out.2.1 HI.out.2.2 rfl (by decide) _ 5 (flat9 fs) rfl (hown.alloc _) ⟨w5.heap.size, 0, none⟩ 1 1 ((⟨⟨#[109, 111, 114, 101]⟩, 1, none, 0, 0, false, leaf 1 0 ⟨#[]⟩⟩ : Fd).cs.toList) rfl rfl (news9 w5 ⟨⟨#[109, 111, 114, 101]⟩, 1, none, 0, 0, false, leaf 1 0 ⟨#[]⟩⟩ _) (one9 _) (by decide) (by decide) (by have := HB5.out.size; simp <;> omega) ?_; intro v' w6 hown' hgrow _ hat; obtain ⟨g', cap', rfl⟩ := ownsRow_succ hown'; obtain ⟨hr6, hb6⟩ := RTo.next (l := rs_transfer) hk hown hfd HB5.out.size (bel1 (Below.refl _ _) (Nat.le_refl _) _) ⟨⟨#[109, 111, 114, 101]⟩, 1, none, 0, 0, false, leaf 1 0 ⟨#[]⟩⟩ (by decide) (⟨rfl, rfl, rfl, rfl, rfl, rfl, fun h => absurd h (by decide)⟩) (fun b o e => by cases e) hgrow hown' hat; have HR6 := hide hr6; have HB6 : Hid (Below w.heap.size w w6) := HB5.out.trans hb6; clear hr6 hb6 hown' hgrow hat hown hfd hk)
    | (at_builtin; have HRk := HR4; obtain ⟨fs, hk, hown, hfd⟩ := HRk.out; refine wpList_append_own_at _ rfl (.tmp 18) (.tmp 20) 23 rfl w.heap.size 66 i0 _ 9 120 Tryz.underlying23 HI0.out HI.out.1 HI.out.2.1 HI.out.2.2 rfl (by decide) _ 4 (flat9 fs) rfl (hown.alloc _) ⟨w4.heap.size, 0, none⟩ 1 1 ((⟨⟨#[115, 101, 116, 116, 108, 101, 100]⟩, 1, none, 0, 0, false, leaf 0 0 ⟨#[]⟩⟩ : Fd).cs.toList) rfl rfl (news9 w4 ⟨⟨#[115, 101, 116, 116, 108, 101, 100]⟩, 1, none, 0, 0, false, leaf 0 0 ⟨#[]⟩⟩ _) (one9 _) (by decide) (by decide) (by have := HB4.out.size; simp <;> omega) ?_; intro v' w5 hown' hgrow _ hat; obtain ⟨g', cap', rfl⟩ := ownsRow_succ hown'; obtain ⟨hr5, hb5⟩ := RTo.next (l := rs_transfer) hk hown hfd HB4.out.size (bel1 (Below.refl _ _) (Nat.le_refl _) _) ⟨⟨#[115, 101, 116, 116, 108, 101, 100]⟩, 1, none, 0, 0, false, leaf 0 0 ⟨#[]⟩⟩ (by decide) (⟨rfl, rfl, rfl, rfl, rfl, rfl, fun h => absurd h (by decide)⟩) (fun b o e => by cases e) hgrow hown' hat; have HR5 := hide hr5; have HB5 : Hid (Below w.heap.size w w5) := HB4.out.trans hb5; clear hr5 hb5 hown' hgrow hat hown hfd hk)
    | (at_builtin; have HRk := HR3; obtain ⟨fs, hk, hown, hfd⟩ := HRk.out; refine wpList_append_own_at _ rfl (.tmp 14) (.tmp 16) 23 rfl w.heap.size 66 i0 _ 9 120 Tryz.underlying23 HI0.out HI.out.1 HI.out.2.1 HI.out.2.2 rfl (by decide) _ 3 (flat9 fs) rfl (hown.alloc _) ⟨w3.heap.size, 0, none⟩ 1 1 ((⟨⟨#[102, 111, 114, 109, 97, 116]⟩, 4, none, 0, 0, false, leaf 0 0 ⟨#[]⟩⟩ : Fd).cs.toList) rfl rfl (news9 w3 ⟨⟨#[102, 111, 114, 109, 97, 116]⟩, 4, none, 0, 0, false, leaf 0 0 ⟨#[]⟩⟩ _) (one9 _) (by decide) (by decide) (by have := HB3.out.size; simp <;> omega) ?_; intro v' w4 hown' hgrow _ hat; obtain ⟨g', cap', rfl⟩ := ownsRow_succ hown'; obtain ⟨hr4, hb4⟩ := RTo.next (l := rs_transfer) hk hown hfd HB3.out.size (bel1 (Below.refl _ _) (Nat.le_refl _) _) ⟨⟨#[102, 111, 114, 109, 97, 116]⟩, 4, none, 0, 0, false, leaf 0 0 ⟨#[]⟩⟩ (by decide) (⟨rfl, rfl, rfl, rfl, rfl, rfl, fun h => absurd h (by decide)⟩) (fun b o e => by cases e) hgrow hown' hat; have HR4 := hide hr4; have HB4 : Hid (Below w.heap.size w w4) := HB3.out.trans hb4; clear hr4 hb4 hown' hgrow hat hown hfd hk)
    | (at_builtin; have HRk := HR2; obtain ⟨fs, hk, hown, hfd⟩ := HRk.out; refine wpList_append_own_at _ rfl (.tmp 10) (.tmp 12) 23 rfl w.heap.size 66 i0 _ 9 120 Tryz.underlying23 HI0.out HI.out.1 HI.out.2.1 HI.out.2.2 rfl (by decide) _ 2 (flat9 fs) rfl (hown.alloc _) ⟨w2.heap.size, 0, none⟩ 1 1 ((⟨⟨#[116, 97, 103]⟩, 18, none, 0, 0, false, leaf 0 0 ⟨#[]⟩⟩ : Fd).cs.toList) rfl rfl (news9 w2 ⟨⟨#[116, 97, 103]⟩, 18, none, 0, 0, false, leaf 0 0 ⟨#[]⟩⟩ _) (one9 _) (by decide) (by decide) (by have := HB2.out.size; simp <;> omega) ?_; intro v' w3 hown' hgrow _ hat; obtain ⟨g', cap', rfl⟩ := ownsRow_succ hown'; obtain ⟨hr3, hb3⟩ := RTo.next (l := rs_transfer) hk hown hfd HB2.out.size (bel1 (Below.refl _ _) (Nat.le_refl _) _) ⟨⟨#[116, 97, 103]⟩, 18, none, 0, 0, false, leaf 0 0 ⟨#[]⟩⟩ (by decide) (⟨rfl, rfl, rfl, rfl, rfl, rfl, fun h => absurd h (by decide)⟩) (fun b o e => by cases e) hgrow hown' hat; have HR3 := hide hr3; have HB3 : Hid (Below w.heap.size w w3) := HB2.out.trans hb3; clear hr3 hb3 hown' hgrow hat hown hfd hk)
    | (at_builtin; have HRk := HR1; obtain ⟨fs, hk, hown, hfd⟩ := HRk.out; refine wpList_append_own_at _ rfl (.tmp 6) (.tmp 8) 23 rfl w.heap.size 66 i0 _ 9 120 Tryz.underlying23 HI0.out HI.out.1 HI.out.2.1 HI.out.2.2 rfl (by decide) _ 1 (flat9 fs) rfl (hown.alloc _) ⟨w1.heap.size, 0, none⟩ 1 1 ((⟨⟨#[105, 100]⟩, 4, none, 0, 0, false, leaf 0 0 ⟨#[]⟩⟩ : Fd).cs.toList) rfl rfl (news9 w1 ⟨⟨#[105, 100]⟩, 4, none, 0, 0, false, leaf 0 0 ⟨#[]⟩⟩ _) (one9 _) (by decide) (by decide) (by have := HB1.out.size; simp <;> omega) ?_; intro v' w2 hown' hgrow _ hat; obtain ⟨g', cap', rfl⟩ := ownsRow_succ hown'; obtain ⟨hr2, hb2⟩ := RTo.next (l := rs_transfer) hk hown hfd HB1.out.size (bel1 (Below.refl _ _) (Nat.le_refl _) _) ⟨⟨#[105, 100]⟩, 4, none, 0, 0, false, leaf 0 0 ⟨#[]⟩⟩ (by decide) (⟨rfl, rfl, rfl, rfl, rfl, rfl, fun h => absurd h (by decide)⟩) (fun b o e => by cases e) hgrow hown' hat; have HR2 := hide hr2; have HB2 : Hid (Below w.heap.size w w2) := HB1.out.trans hb2; clear hr2 hb2 hown' hgrow hat hown hfd hk)
    | (at_builtin; have HRk := HR0; obtain ⟨fs, hk, hown, hfd⟩ := HRk.out; refine wpList_append_own_at _ rfl (.tmp 2) (.tmp 4) 23 rfl w.heap.size 66 i0 _ 9 120 Tryz.underlying23 HI0.out HI.out.1 HI.out.2.1 HI.out.2.2 rfl (by decide) _ 0 (flat9 fs) rfl (hown.alloc _) ⟨w.heap.size, 0, none⟩ 1 1 ((⟨⟨#[104, 97, 110, 100, 108, 101]⟩, 4, none, 0, 0, true, leaf 0 0 ⟨#[]⟩⟩ : Fd).cs.toList) rfl rfl (news9 w ⟨⟨#[104, 97, 110, 100, 108, 101]⟩, 4, none, 0, 0, true, leaf 0 0 ⟨#[]⟩⟩ _) (one9 _) (by decide) (by decide) (by have := HB0.out.size; simp <;> omega) ?_; intro v' w1 hown' hgrow _ hat; obtain ⟨g', cap', rfl⟩ := ownsRow_succ hown'; obtain ⟨hr1, hb1⟩ := RTo.next (l := rs_transfer) hk hown hfd HB0.out.size (bel1 (Below.refl _ _) (Nat.le_refl _) _) ⟨⟨#[104, 97, 110, 100, 108, 101]⟩, 4, none, 0, 0, true, leaf 0 0 ⟨#[]⟩⟩ (by decide) (⟨rfl, rfl, rfl, rfl, rfl, rfl, fun h => absurd h (by decide)⟩) (fun b o e => by cases e) hgrow hown' hat; have HR1 := hide hr1; have HB1 : Hid (Below w.heap.size w w1) := HB0.out.trans hb1; clear hr1 hb1 hown' hgrow hat hown hfd hk))
  go_ret
  obtain ⟨fs, h1, h2⟩ := RTo.fields (l := rs_transfer) HR10.out
  exact ⟨_, _, fs, rfl, hide h1, h2, HB10.out⟩
def rs_attach : List FS := [⟨⟨#[110, 97, 109, 101]⟩, 19, [], true, 0, 0, ⟨#[]⟩⟩, ⟨⟨#[104, 97, 110, 100, 108, 101]⟩, 4, [], true, 0, 0, ⟨#[]⟩⟩, ⟨⟨#[114, 111, 108, 101]⟩, 1, [], true, 0, 0, ⟨#[]⟩⟩, ⟨⟨#[115, 110, 100, 45, 109, 111, 100, 101]⟩, 2, [], false, 2, 2, ⟨#[]⟩⟩, ⟨⟨#[114, 99, 118, 45, 109, 111, 100, 101]⟩, 2, [], false, 2, 0, ⟨#[]⟩⟩, ⟨⟨#[115, 111, 117, 114, 99, 101]⟩, 102, [40], false, 0, 0, ⟨#[]⟩⟩, ⟨⟨#[116, 97, 114, 103, 101, 116]⟩, 102, [41, 48], false, 0, 0, ⟨#[]⟩⟩, ⟨⟨#[117, 110, 115, 101, 116, 116, 108, 101, 100]⟩, 22, [], false, 0, 0, ⟨#[]⟩⟩, ⟨⟨#[105, 110, 99, 111, 109, 112, 108, 101, 116, 101]⟩, 1, [], false, 1, 0, ⟨#[]⟩⟩, ⟨⟨#[105, 110, 105, 116, 105, 97, 108, 45, 99, 111, 117, 110, 116]⟩, 4, [], false, 0, 0, ⟨#[]⟩⟩, ⟨⟨#[109, 97, 120, 45, 109, 101, 115, 115, 97, 103, 101]⟩, 5, [], false, 0, 0, ⟨#[]⟩⟩, ⟨⟨#[112, 114, 111, 112, 115]⟩, 22, [], false, 0, 0, ⟨#[]⟩⟩]
set_option maxRecDepth 100000 in
set_option maxHeartbeats 8000000 in
theorem r_attach (w : World) : Calls Tryz.prog 75 #[] w (RRow rs_attach w) := by
  obtain ⟨i0, hi0, hzz⟩ := Option.map_eq_some_iff.1 Tryz.infoF
  simp only [Prod.mk.injEq] at hzz
  obtain ⟨hz0', hz1', hz2'⟩ := hzz
  have HI : Hid (i0.zero = _ ∧ i0.size = _ ∧ i0.bytes = _) := ⟨hz0', hz1', hz2'⟩
  have HI0 := hide hi0
  have HR0 : Hid (RTo rs_attach w.heap.size 0 (.slice none 0 0) w) := RTo.start _ _
  have HB0 : Hid (Below w.heap.size w w) := Below.refl _ _
  clear hz0' hz1' hz2' hi0
  go_enter Tryz.func75, Tryz.ntmps75
  go_wp2_with (first
    | (at_builtin; have HRk := HR11; obtain ⟨fs, hk, hown, hfd⟩ := HRk.out; refine wpList_append_own_at _ rfl (.tmp 51) (.tmp 53) 23 rfl w.heap.size 66 i0 _ 9 120 Tryz.underlying23 HI0.out HI.out.1 HI.out.2.1 HI.out.2.2 rfl (by decide) _ 11 (flat9 fs) rfl (hown.alloc _) ⟨w11.heap.size, 0, none⟩ 1 1 ((⟨⟨#[112, 114, 111, 112, 115]⟩, 22, none, 0, 0, false, leaf 0 0 ⟨#[]⟩⟩ : Fd).cs.toList) rfl rfl (news9 w11 ⟨⟨#[112, 114, 111, 112, 115]⟩, 22, none, 0, 0, false, leaf 0 0 ⟨#[]⟩⟩ _) (one9 _) (by decide) (by decide) (by have := HB11.out.size; simp <;> omega) ?_; intro v' w12 hown' hgrow _ hat; obtain ⟨g', cap', rfl⟩ := ownsRow_succ hown'; obtain ⟨hr12, hb12⟩ := RTo.next (l := rs_attach) hk hown hfd HB11.out.size (bel1 (Below.refl _ _) (Nat.le_refl _) _) ⟨⟨#[112, 114, 111, 112, 115]⟩, 22, none, 0, 0, false, leaf 0 0 ⟨#[]⟩⟩ (by decide) (⟨rfl, rfl, rfl, rfl, rfl, rfl, fun h => absurd h (by decide)⟩) (fun b o e => by cases e) hgrow hown' hat; have HR12 := hide hr12; have HB12 : Hid (Below w.heap.size w w12) := HB11.out.trans hb12; clear hr12 hb12 hown' hgrow hat hown hfd hk)
    | (at_builtin; have HRk := HR10; obtain ⟨fs, hk, hown, hfd⟩ := HRk.out; refine wpList_append_own_at _ rfl (.tmp 47) (.tmp 49) 23 rfl w.heap.size 66 i0 _ 9 120 Tryz.underlying23 HI0.out HI.out.1 HI.out.2.1 HI.out.2.2 rfl (by decide) _ 10 (flat9 fs) rfl (hown.alloc _) ⟨w10.heap.size, 0, none⟩ 1 1 ((⟨⟨#[109, 97, 120, 45, 109, 101, 115, 115, 97, 103, 101]⟩, 5, none, 0, 0, false, leaf 0 0 ⟨#[]⟩⟩ : Fd).cs.toList) rfl rfl (news9 w10 ⟨⟨#[109, 97, 120, 45, 109, 101, 115, 115, 97, 103, 101]⟩, 5, none, 0, 0, false, leaf 0 0 ⟨#[]⟩⟩ _) (one9 _) (by decide) (by decide) (by have := HB10.out.size; simp <;> omega) ?_; intro v' w11 hown' hgrow _ hat; obtain ⟨g', cap', rfl⟩ := ownsRow_succ hown'; obtain ⟨hr11, hb11⟩ := RTo.next (l := rs_attach) hk hown hfd HB10.out.size (bel1 (Below.refl _ _) (Nat.le_refl _) _) ⟨⟨#[109, 97, 120, 45, 109, 101, 115, 115, 97, 103, 101]⟩, 5, none, 0, 0, false, leaf 0 0 ⟨#[]⟩⟩ (by decide) (⟨rfl, rfl, rfl, rfl, rfl, rfl, fun h => absurd h (by decide)⟩) (fun b o e => by cases e) hgrow hown' hat; have HR11 := hide hr11; have HB11 : Hid (Below w.heap.size w w11) := HB10.out.trans hb11; clear hr11 hb11 hown' hgrow hat hown hfd hk)
    | (at_builtin; have HRk := HR9; obtain ⟨fs, hk, hown, hfd⟩ := HRk.out; refine wpList_append_own_at _ rfl (.tmp 43) (.tmp 45) 23 rfl w.heap.size 66 i0 _ 9 120 Tryz.underlying23 HI0.out HI.out.1 HI.out.2.1 HI.out.2.2 rfl (by decide) _ 9 (flat9 fs) rfl (hown.alloc _) ⟨w9.heap.size, 0, none⟩ 1 1 ((⟨⟨#[105, 110, 105, 116, 105, 97, 108, 45, 99, 111, 117, 110, 116]⟩, 4, none, 0, 0, false, leaf 0 0 ⟨#[]⟩⟩ : Fd).cs.toList) rfl rfl (news9 w9 ⟨⟨#[105, 110, 105, 116, 105, 97, 108, 45, 99, 111, 117, 110, 116]⟩, 4, none, 0, 0, false, leaf 0 0 ⟨#[]⟩⟩ _) (one9 _) (by decide) (by decide) (by have := HB9.out.size; simp <;> omega) ?_; intro v' w10 hown' hgrow _ hat; obtain ⟨g', cap', rfl⟩ := ownsRow_succ hown'; obtain ⟨hr10, hb10⟩ := RTo.next (l := rs_attach) hk hown hfd HB9.out.size (bel1 (Below.refl _ _) (Nat.le_refl _) _) ⟨⟨#[105, 110, 105, 116, 105, 97, 108, 45, 99, 111, 117, 110, 116]⟩, 4, none, 0, 0, false, leaf 0 0 ⟨#[]⟩⟩ (by decide) (⟨rfl, rfl, rfl, rfl, rfl, rfl, fun h => absurd h (by decide)⟩) (fun b o e => by cases e) hgrow hown' hat; have HR10 := hide hr10; have HB10 : Hid (Below w.heap.size w w10) := HB9.out.trans hb10; clear hr10 hb10 hown' hgrow hat hown hfd hk)
    | (at_builtin; have HRk := HR8; obtain ⟨fs, hk, hown, hfd⟩ := HRk.out; refine wpList_append_own_at _ rfl (.tmp 38) (.tmp 41) 23 rfl w.heap.size 66 i0 _ 9 120 Tryz.underlying23 HI0.out HI.out.1 HI.out.2.1 HI.out.2.2 rfl (by decide) _ 8 (flat9 fs) rfl (hown.alloc _) ⟨w8.heap.size, 0, none⟩ 1 1 ((⟨⟨#[105, 110, 99, 111, 109, 112, 108, 101, 116, 101]⟩, 1, none, 0, 0, false, leaf 1 0 ⟨#[]⟩⟩ : Fd).cs.toList) rfl rfl (news9 w8 ⟨⟨#[105, 110, 99, 111, 109, 112, 108, 101, 116, 101]⟩, 1, none, 0, 0, false, leaf 1 0 ⟨#[]⟩⟩ _) (one9 _) (by decide) (by decide) (by have := HB8.out.size; simp <;> omega) ?_; intro v' w9 hown' hgrow _ hat; obtain ⟨g', cap', rfl⟩ := ownsRow_succ hown'; obtain ⟨hr9, hb9⟩ := RTo.next (l := rs_attach) hk hown hfd HB8.out.size (bel1 (Below.refl _ _) (Nat.le_refl _) _) ⟨⟨#[105, 110, 99, 111, 109, 112, 108, 101, 116, 101]⟩, 1, none, 0, 0, false, leaf 1 0 ⟨#[]⟩⟩ (by decide) (⟨rfl, rfl, rfl, rfl, rfl, rfl, fun h => absurd h (by decide)⟩) (fun b o e => by cases e) hgrow hown' hat; have HR9 := hide hr9; have HB9 : Hid (Below w.heap.size w w9) := HB8.out.trans hb9; clear hr9 hb9 hown' hgrow hat hown hfd hk)
    | (at_builtin; have HRk := HR7; obtain ⟨fs, hk, hown, hfd⟩ := HRk.out; refine wpList_append_own_at _ rfl (.tmp 34) (.tmp 36) 23 rfl w.heap.size 66 i0 _ 9 120 Tryz.underlying23 HI0.out HI.out.1 HI.out.2.1 HI.out.2.2 rfl (by decide) _ 7 (flat9 fs) rfl (hown.alloc _) ⟨w7.heap.size, 0, none⟩ 1 1 ((⟨⟨#[117, 110, 115, 101, 116, 116, 108, 101, 100]⟩, 22, none, 0, 0, false, leaf 0 0 ⟨#[]⟩⟩ : Fd).cs.toList) rfl rfl (news9 w7 ⟨⟨#[117, 110, 115, 101, 116, 116, 108, 101, 100]⟩, 22, none, 0, 0, false, leaf 0 0 ⟨#[]⟩⟩ _) (one9 _) (by decide) (by decide) (by have := HB7.out.size; simp <;> omega) ?_; intro v' w8 hown' hgrow _ hat; obtain ⟨g', cap', rfl⟩ := ownsRow_succ hown'; obtain ⟨hr8, hb8⟩ := RTo.next (l := rs_attach) hk hown hfd HB7.out.size (bel1 (Below.refl _ _) (Nat.le_refl _) _) ⟨⟨#[117, 110, 115, 101, 116, 116, 108, 101, 100]⟩, 22, none, 0, 0, false, leaf 0 0 ⟨#[]⟩⟩ (by decide) (⟨rfl, rfl, rfl, rfl, rfl, rfl, fun h => absurd h (by decide)⟩) (fun b o e => by cases e) hgrow hown' hat; have HR8 := hide hr8; have HB8 : Hid (Below w.heap.size w w8) := HB7.out.trans hb8; clear hr8 hb8 hown' hgrow hat hown hfd hk)
    | (at_builtin; have HRk := HR6; obtain ⟨fs, hk, hown, hfd⟩ := HRk.out; refine wpList_append_own_at _ rfl (.tmp 29) (.tmp 32) 23 rfl w.heap.size 66 i0 _ 9 120 Tryz.underlying23 HI0.out HI.out.1 HI.out.2.1 HI.out.2.2 rfl (by decide) _ 6 (flat9 fs) rfl ((ownsRow_keep hown (fun g hg => HC6.out.block g (ownsRow_lt hown hg).2)).alloc _) ⟨c6.heap.size, 0, none⟩ 1 1 ((⟨⟨#[116, 97, 114, 103, 101, 116]⟩, 102, (some ⟨w6.heap.size, 0, none⟩), 2, 2, false, leaf 0 0 ⟨#[]⟩⟩ : Fd).cs.toList) rfl rfl (news9 c6 ⟨⟨#[116, 97, 114, 103, 101, 116]⟩, 102, (some ⟨w6.heap.size, 0, none⟩), 2, 2, false, leaf 0 0 ⟨#[]⟩⟩ _) (one9 _) (by decide) (by decide) (by have := HB6.out.size; have := HC6.out.size; simp <;> omega) ?_; intro v' w7 hown' hgrow _ hat; obtain ⟨g', cap', rfl⟩ := ownsRow_succ hown'; obtain ⟨hr7, hb7⟩ := RTo.next (l := rs_attach) hk hown hfd HB6.out.size (bel1 HC6.out HC6.out.size _) ⟨⟨#[116, 97, 114, 103, 101, 116]⟩, 102, (some ⟨w6.heap.size, 0, none⟩), 2, 2, false, leaf 0 0 ⟨#[]⟩⟩ (by decide) (⟨rfl, rfl, rfl, rfl, rfl, rfl, fun _ => ⟨w6.heap.size, rfl, Nat.le_refl _, by have := HD6.out.1; simp <;> omega, heap_past HD6.out.2 _⟩⟩) (fun b o e => by cases e; exact ⟨Nat.le_refl _, by have := HD6.out.1; simp <;> omega⟩) hgrow hown' hat; have HR7 := hide hr7; have HB7 : Hid (Below w.heap.size w w7) := HB6.out.trans hb7; clear hr7 hb7 hown' hgrow hat hown hfd hk)
    | (go_at_call 110; have HRk := HR6; refine Calls.mono (composite_any _ _ _ _ _) ?_; rintro e c6 ⟨rfl, hc6⟩; have HC6 : Hid (Below w6.heap.size w6 c6) := belOn (bel1 (Below.refl _ _) (Nat.le_refl _) (.cells #[.int .i64 41, .int .i64 48] 3)) (by simp) hc6; have HD6 : Hid (w6.heap.size < c6.heap.size ∧ Ints c6 w6.heap.size [41, 48]) := ⟨by have := hc6.size; simp at this; omega, (hc6.block w6.heap.size (by simp)).trans (World.alloc_heap_new _ _)⟩; clear hc6)
    | (at_builtin; have HRk := HR5; obtain ⟨fs, hk, hown, hfd⟩ := HRk.out; refine wpList_append_own_at _ rfl (.tmp 24) (.tmp 27) 23 rfl w.heap.size 66 i0 _ 9 120 Tryz.underlying23 HI0.out HI.out.1 HI.out.2.1 HI.out.2.2 rfl (by decide) _ 5 (flat9 fs) rfl ((ownsRow_keep hown (fun g hg => HC5.out.block g (ownsRow_lt hown hg).2)).alloc _) ⟨c5.heap.size, 0, none⟩ 1 1 ((⟨⟨#[115, 111, 117, 114, 99, 101]⟩, 102, (some ⟨w5.heap.size, 0, none⟩), 1, 1, false, leaf 0 0 ⟨#[]⟩⟩ : Fd).cs.toList) rfl rfl (news9 c5 ⟨⟨#[115, 111, 117, 114, 99, 101]⟩, 102, (some ⟨w5.heap.size, 0, none⟩), 1, 1, false, leaf 0 0 ⟨#[]⟩⟩ _) (one9 _) (by decide) (by decide) (by have := HB5.out.size; have := HC5.out.size; simp <;> omega) ?_; intro v' w6 hown' hgrow _ hat; obtain ⟨g', cap', rfl⟩ := ownsRow_succ hown'; obtain ⟨hr6, hb6⟩ := RTo.next (l := rs_attach) hk hown hfd HB5.out.size (bel1 HC5.out HC5.out.size _) ⟨⟨#[115, 111, 117, 114, 99, 101]⟩, 102, (some ⟨w5.heap.size, 0, none⟩), 1, 1, false, leaf 0 0 ⟨#[]⟩⟩ (by decide) (⟨rfl, rfl, rfl, rfl, rfl, rfl, fun _ => ⟨w5.heap.size, rfl, Nat.le_refl _, by have := HD5.out.1; simp <;> omega, heap_past HD5.out.2 _⟩⟩) (fun b o e => by cases e; exact ⟨Nat.le_refl _, by have := HD5.out.1; simp <;> omega⟩) hgrow hown' hat; have HR6 := hide hr6; have HB6 : Hid (Below w.heap.size w w6) := HB5.out.trans hb6; clear hr6 hb6 hown' hgrow hat hown hfd hk)
    | (go_at_call 110; have HRk := HR5; refine Calls.mono (composite_any _ _ _ _ _) ?_; rintro e c5 ⟨rfl, hc5⟩; have HC5 : Hid (Below w5.heap.size w5 c5) := belOn (bel1 (Below.refl _ _) (Nat.le_refl _) (.cells #[.int .i64 40] 3)) (by simp) hc5; have HD5 : Hid (w5.heap.size < c5.heap.size ∧ Ints c5 w5.heap.size [40]) := ⟨by have := hc5.size; simp at this; omega, (hc5.block w5.heap.size (by simp)).trans (World.alloc_heap_new _ _)⟩; clear hc5)
    | (at_builtin; have HRk := HR4; obtain ⟨fs, hk, hown, hfd⟩ := HRk.out; refine wpList_append_own_at _ rfl (.tmp 19) (.tmp 22) 23 rfl w.heap.size 66 i0 _ 9 120 Tryz.underlying23 HI0.out HI.out.1 HI.out.2.1 HI.out.2.2 rfl (by decide) _ 4 (flat9 fs) rfl (hown.alloc _) ⟨w4.heap.size, 0, none⟩ 1 1 ((⟨⟨#[114, 99, 118, 45, 109, 111, 100, 101]⟩, 2, none, 0, 0, false, leaf 2 0 ⟨#[]⟩⟩ : Fd).cs.toList) rfl rfl (news9 w4 ⟨⟨#[114, 99, 118, 45, 109, 111, 100, 101]⟩, 2, none, 0, 0, false, leaf 2 0 ⟨#[]⟩⟩ _) (one9 _) (by decide) (by decide) (by have := HB4.out.size; simp <;> omega) ?_; intro v' w5 hown' hgrow _ hat; obtain ⟨g', cap', rfl⟩ := ownsRow_succ hown'; obtain ⟨hr5, hb5⟩ := RTo.next (l := rs_attach) hk hown hfd HB4.out.size (bel1 (Below.refl _ _) (Nat.le_refl _) _) ⟨⟨#[114, 99, 118, 45, 109, 111, 100, 101]⟩, 2, none, 0, 0, false, leaf 2 0 ⟨#[]⟩⟩ (by decide) (⟨rfl, rfl, rfl, rfl, rfl, rfl, fun h => absurd h (by decide)⟩) (fun b o e => by cases e) hgrow hown' hat; have HR5 := hide hr5; have HB5 : Hid (Below w.heap.size w w5) := HB4.out.trans hb5; clear hr5 hb5 hown' hgrow hat hown hfd hk)
    | (at_builtin; have HRk := HR3; obtain ⟨fs, hk, hown, hfd⟩ := HRk.out; refine wpList_append_own_at _ rfl (.tmp 14) (.tmp 17) 23 rfl w.heap.size 66 i0 _ 9 120 Tryz.underlying23 HI0.out HI.out.1 HI.out.2.1 HI.out.2.2 rfl (by decide) _ 3 (flat9 fs) rfl (hown.alloc _) ⟨w3.heap.size, 0, none⟩ 1 1 ((⟨⟨#[115, 110, 100, 45, 109, 111, 100, 101]⟩, 2, none, 0, 0, false, leaf 2 2 ⟨#[]⟩⟩ : Fd).cs.toList) rfl rfl (news9 w3 ⟨⟨#[115, 110, 100, 45, 109, 111, 100, 101]⟩, 2, none, 0, 0, false, leaf 2 2 ⟨#[]⟩⟩ _) (one9 _) (by decide) (by decide) (by have := HB3.out.size; simp <;> omega) ?_; intro v' w4 hown' hgrow _ hat; obtain ⟨g', cap', rfl⟩ := ownsRow_succ hown'; obtain ⟨hr4, hb4⟩ := RTo.next (l := rs_attach) hk hown hfd HB3.out.size (bel1 (Below.refl _ _) (Nat.le_refl _) _) ⟨⟨#[115, 110, 100, 45, 109, 111, 100, 101]⟩, 2, none, 0, 0, false, leaf 2 2 ⟨#[]⟩⟩ (by decide) (⟨rfl, rfl, rfl, rfl, rfl, rfl, fun h => absurd h (by decide)⟩) (fun b o e => by cases e) hgrow hown' hat; have HR4 := hide hr4; have HB4 : Hid (Below w.heap.size w w4) := HB3.out.trans hb4; clear hr4 hb4 hown' hgrow hat hown hfd hk)
    | (at_builtin; have HRk := HR2; obtain ⟨fs, hk, hown, hfd⟩ := HRk.out; refine wpList_append_own_at _ rfl (.tmp 10) (.tmp 12) 23 rfl w.heap.size 66 i0 _ 9 120 Tryz.underlying23 HI0.out HI.out.1 HI.out.2.1 HI.out.2.2 rfl (by decide) _ 2 (flat9 fs) rfl (hown.alloc _) ⟨w2.heap.size, 0, none⟩ 1 1 ((⟨⟨#[114, 111, 108, 101]⟩, 1, none, 0, 0, true, leaf 0 0 ⟨#[]⟩⟩ : Fd).cs.toList) rfl rfl (news9 w2 ⟨⟨#[114, 111, 108, 101]⟩, 1, none, 0, 0, true, leaf 0 0 ⟨#[]⟩⟩ _) (one9 _) (by decide) (by decide) (by have := HB2.out.size; simp <;> omega) ?_; intro v' w3 hown' hgrow _ hat; obtain ⟨g', cap', rfl⟩ := ownsRow_succ hown'; obtain ⟨hr3, hb3⟩ := RTo.next (l := rs_attach) hk hown hfd HB2.out.size (bel1 (Below.refl _ _) (Nat.le_refl _) _) ⟨⟨#[114, 111, 108, 101]⟩, 1, none, 0, 0, true, leaf 0 0 ⟨#[]⟩⟩ (by decide) (⟨rfl, rfl, rfl, rfl, rfl, rfl, fun h => absurd h (by decide)⟩) (fun b o e => by cases e) hgrow hown' hat; have HR3 := hide hr3; have HB3 : Hid (Below w.heap.size w w3) := HB2.out.trans hb3; clear hr3 hb3 hown' hgrow hat hown hfd hk)
    | (at_builtin; have HRk := HR1; obtain ⟨fs, hk, hown, hfd⟩ := HRk.out; refine wpList_append_own_at _ rfl (.tmp 6) (.tmp 8) 23 rfl w.heap.size 66 i0 _ 9 120 Tryz.underlying23 HI0.out HI.out.1 HI.out.2.1 HI.out.2.2 rfl (by decide) _ 1 (flat9 fs) rfl (hown.alloc _) ⟨w1.heap.size, 0, none⟩ 1 1 ((⟨⟨#[104, 97, 110, 100, 108, 101]⟩, 4, none, 0, 0, true, leaf 0 0 ⟨#[]⟩⟩ : Fd).cs.toList) rfl rfl (news9 w1 ⟨⟨#[104, 97, 110, 100, 108, 101]⟩, 4, none, 0, 0, true, leaf 0 0 ⟨#[]⟩⟩ _) (one9 _) (by decide) (by decide) (by have := HB1.out.size; simp <;> omega) ?_; intro v' w2 hown' hgrow _ hat; obtain ⟨g', cap', rfl⟩ := ownsRow_succ hown'; obtain ⟨hr2, hb2⟩ := RTo.next (l := rs_attach) hk hown hfd HB1.out.size (bel1 (Below.refl _ _) (Nat.le_refl _) _) ⟨⟨#[104, 97, 110, 100, 108, 101]⟩, 4, none, 0, 0, true, leaf 0 0 ⟨#[]⟩⟩ (by decide) (⟨rfl, rfl, rfl, rfl, rfl, rfl, fun h => absurd h (by decide)⟩) (fun b o e => by cases e) hgrow hown' hat; have HR2 := hide hr2; have HB2 : Hid (Below w.heap.size w w2) := HB1.out.trans hb2; clear hr2 hb2 hown' hgrow hat hown hfd hk)
    | (at_builtin; have HRk := HR0; obtain ⟨fs, hk, hown, hfd⟩ := HRk.out; refine wpList_append_own_at _ rfl (.tmp 2) (.tmp 4) 23 rfl w.heap.size 66 i0 _ 9 120 Tryz.underlying23 HI0.out HI.out.1 HI.out.2.1 HI.out.2.2 rfl (by decide) _ 0 (flat9 fs) rfl (hown.alloc _) ⟨w.heap.size, 0, none⟩ 1 1 ((⟨⟨#[110, 97, 109, 101]⟩, 19, none, 0, 0, true, leaf 0 0 ⟨#[]⟩⟩ : Fd).cs.toList) rfl rfl (news9 w ⟨⟨#[110, 97, 109, 101]⟩, 19, none, 0, 0, true, leaf 0 0 ⟨#[]⟩⟩ _) (one9 _) (by decide) (by decide) (by have := HB0.out.size; simp <;> omega) ?_; intro v' w1 hown' hgrow _ hat; obtain ⟨g', cap', rfl⟩ := ownsRow_succ hown'; obtain ⟨hr1, hb1⟩ := RTo.next (l := rs_attach) hk hown hfd HB0.out.size (bel1 (Below.refl _ _) (Nat.le_refl _) _) ⟨⟨#[110, 97, 109, 101]⟩, 19, none, 0, 0, true, leaf 0 0 ⟨#[]⟩⟩ (by decide) (⟨rfl, rfl, rfl, rfl, rfl, rfl, fun h => absurd h (by decide)⟩) (fun b o e => by cases e) hgrow hown' hat; have HR1 := hide hr1; have HB1 : Hid (Below w.heap.size w w1) := HB0.out.trans hb1; clear hr1 hb1 hown' hgrow hat hown hfd hk))
  go_ret
  obtain ⟨fs, h1, h2⟩ := RTo.fields (l := rs_attach) HR12.out
  exact ⟨_, _, fs, rfl, hide h1, h2, HB12.out⟩
def rs_source : List FS := [⟨⟨#[97, 100, 100, 114, 101, 115, 115]⟩, 19, [], false, 0, 0, ⟨#[]⟩⟩, ⟨⟨#[100, 117, 114, 97, 98, 108, 101]⟩, 4, [], false, 4, 0, ⟨#[]⟩⟩, ⟨⟨#[101, 120, 112, 105, 114, 121]⟩, 20, [], false, 20, 0, ⟨#[115, 101, 115, 115, 105, 111, 110, 45, 101, 110, 100]⟩⟩, ⟨⟨#[116, 105, 109, 101, 111, 117, 116]⟩, 4, [], false, 4, 0, ⟨#[]⟩⟩, ⟨⟨#[100, 121, 110, 97, 109, 105, 99]⟩, 1, [], false, 1, 0, ⟨#[]⟩⟩, ⟨⟨#[109, 111, 100, 101]⟩, 20, [], false, 0, 0, ⟨#[]⟩⟩, ⟨⟨#[102, 105, 108, 116, 101, 114]⟩, 19, [], false, 0, 0, ⟨#[]⟩⟩, ⟨⟨#[100, 101, 102, 97, 117, 108, 116]⟩, 102, [36, 37, 38, 39], false, 0, 0, ⟨#[]⟩⟩, ⟨⟨#[111, 117, 116, 99, 111, 109, 101, 115]⟩, 101, [], false, 0, 0, ⟨#[]⟩⟩, ⟨⟨#[99, 97, 112, 115]⟩, 101, [], false, 0, 0, ⟨#[]⟩⟩]
set_option maxRecDepth 100000 in
set_option maxHeartbeats 8000000 in
theorem r_source (w : World) : Calls Tryz.prog 85 #[] w (RRow rs_source w) := by
  obtain ⟨i0, hi0, hzz⟩ := Option.map_eq_some_iff.1 Tryz.infoF
  simp only [Prod.mk.injEq] at hzz
  obtain ⟨hz0', hz1', hz2'⟩ := hzz
  have HI : Hid (i0.zero = _ ∧ i0.size = _ ∧ i0.bytes = _) := ⟨hz0', hz1', hz2'⟩
  have HI0 := hide hi0
  have HR0 : Hid (RTo rs_source w.heap.size 0 (.slice none 0 0) w) := RTo.start _ _
  have HB0 : Hid (Below w.heap.size w w) := Below.refl _ _
  clear hz0' hz1' hz2' hi0
  go_enter Tryz.func85, Tryz.ntmps85
  go_wp2_with (first
    | (at_builtin; have HRk := HR9; obtain ⟨fs, hk, hown, hfd⟩ := HRk.out; refine wpList_append_own_at _ rfl (.tmp 43) (.tmp 45) 23 rfl w.heap.size 66 i0 _ 9 120 Tryz.underlying23 HI0.out HI.out.1 HI.out.2.1 HI.out.2.2 rfl (by decide) _ 9 (flat9 fs) rfl (hown.alloc _) ⟨w9.heap.size, 0, none⟩ 1 1 ((⟨⟨#[99, 97, 112, 115]⟩, 101, none, 0, 0, false, leaf 0 0 ⟨#[]⟩⟩ : Fd).cs.toList) rfl rfl (news9 w9 ⟨⟨#[99, 97, 112, 115]⟩, 101, none, 0, 0, false, leaf 0 0 ⟨#[]⟩⟩ _) (one9 _) (by decide) (by decide) (by have := HB9.out.size; simp <;> omega) ?_; intro v' w10 hown' hgrow _ hat; obtain ⟨g', cap', rfl⟩ := ownsRow_succ hown'; obtain ⟨hr10, hb10⟩ := RTo.next (l := rs_source) hk hown hfd HB9.out.size (bel1 (Below.refl _ _) (Nat.le_refl _) _) ⟨⟨#[99, 97, 112, 115]⟩, 101, none, 0, 0, false, leaf 0 0 ⟨#[]⟩⟩ (by decide) (⟨rfl, rfl, rfl, rfl, rfl, rfl, fun h => absurd h (by decide)⟩) (fun b o e => by cases e) hgrow hown' hat; have HR10 := hide hr10; have HB10 : Hid (Below w.heap.size w w10) := HB9.out.trans hb10; clear hr10 hb10 hown' hgrow hat hown hfd hk)
    | (at_builtin; have HRk := HR8; obtain ⟨fs, hk, hown, hfd⟩ := HRk.out; refine wpList_append_own_at _ rfl (.tmp 39) (.tmp 41) 23 rfl w.heap.size 66 i0 _ 9 120 Tryz.underlying23 HI0.out HI.out.1 HI.out.2.1 HI.out.2.2 rfl (by decide) _ 8 (flat9 fs) rfl (hown.alloc _) ⟨w8.heap.size, 0, none⟩ 1 1 ((⟨⟨#[111, 117, 116, 99, 111, 109, 101, 115]⟩, 101, none, 0, 0, false, leaf 0 0 ⟨#[]⟩⟩ : Fd).cs.toList) rfl rfl (news9 w8 ⟨⟨#[111, 117, 116, 99, 111, 109, 101, 115]⟩, 101, none, 0, 0, false, leaf 0 0 ⟨#[]⟩⟩ _) (one9 _) (by decide) (by decide) (by have := HB8.out.size; simp <;> omega) ?_; intro v' w9 hown' hgrow _ hat; obtain ⟨g', cap', rfl⟩ := ownsRow_succ hown'; obtain ⟨hr9, hb9⟩ := RTo.next (l := rs_source) hk hown hfd HB8.out.size (bel1 (Below.refl _ _) (Nat.le_refl _) _) ⟨⟨#[111, 117, 116, 99, 111, 109, 101, 115]⟩, 101, none, 0, 0, false, leaf 0 0 ⟨#[]⟩⟩ (by decide) (⟨rfl, rfl, rfl, rfl, rfl, rfl, fun h => absurd h (by decide)⟩) (fun b o e => by cases e) hgrow hown' hat; have HR9 := hide hr9; have HB9 : Hid (Below w.heap.size w w9) := HB8.out.trans hb9; clear hr9 hb9 hown' hgrow hat hown hfd hk)
    | (at_builtin; have HRk := HR7; obtain ⟨fs, hk, hown, hfd⟩ := HRk.out; refine wpList_append_own_at _ rfl (.tmp 34) (.tmp 37) 23 rfl w.heap.size 66 i0 _ 9 120 Tryz.underlying23 HI0.out HI.out.1 HI.out.2.1 HI.out.2.2 rfl (by decide) _ 7 (flat9 fs) rfl ((ownsRow_keep hown (fun g hg => HC7.out.block g (ownsRow_lt hown hg).2)).alloc _) ⟨c7.heap.size, 0, none⟩ 1 1 ((⟨⟨#[100, 101, 102, 97, 117, 108, 116]⟩, 102, (some ⟨w7.heap.size, 0, none⟩), 4, 4, false, leaf 0 0 ⟨#[]⟩⟩ : Fd).cs.toList) rfl rfl (news9 c7 ⟨⟨#[100, 101, 102, 97, 117, 108, 116]⟩, 102, (some ⟨w7.heap.size, 0, none⟩), 4, 4, false, leaf 0 0 ⟨#[]⟩⟩ _) (one9 _) (by decide) (by decide) (by have := HB7.out.size; have := HC7.out.size; simp <;> omega) ?_; intro v' w8 hown' hgrow _ hat; obtain ⟨g', cap', rfl⟩ := ownsRow_succ hown'; obtain ⟨hr8, hb8⟩ := RTo.next (l := rs_source) hk hown hfd HB7.out.size (bel1 HC7.out HC7.out.size _) ⟨⟨#[100, 101, 102, 97, 117, 108, 116]⟩, 102, (some ⟨w7.heap.size, 0, none⟩), 4, 4, false, leaf 0 0 ⟨#[]⟩⟩ (by decide) (⟨rfl, rfl, rfl, rfl, rfl, rfl, fun _ => ⟨w7.heap.size, rfl, Nat.le_refl _, by have := HD7.out.1; simp <;> omega, heap_past HD7.out.2 _⟩⟩) (fun b o e => by cases e; exact ⟨Nat.le_refl _, by have := HD7.out.1; simp <;> omega⟩) hgrow hown' hat; have HR8 := hide hr8; have HB8 : Hid (Below w.heap.size w w8) := HB7.out.trans hb8; clear hr8 hb8 hown' hgrow hat hown hfd hk)
    | (go_at_call 110; have HRk := HR7; refine Calls.mono (composite_any _ _ _ _ _) ?_; rintro e c7 ⟨rfl, hc7⟩; have HC7 : Hid (Below w7.heap.size w7 c7) := belOn (bel1 (Below.refl _ _) (Nat.le_refl _) (.cells #[.int .i64 36, .int .i64 37, .int .i64 38, .int .i64 39] 3)) (by simp) hc7; have HD7 : Hid (w7.heap.size < c7.heap.size ∧ Ints c7 w7.heap.size [36, 37, 38, 39]) := ⟨by have := hc7.size; simp at this; omega, (hc7.block w7.heap.size (by simp)).trans (World.alloc_heap_new _ _)⟩; clear hc7)
    | (go_at_call 112; have HRk := HR7; refine Calls.mono (r_outcomes _) ?_; rintro e s7 ⟨rfl, rfl⟩)
    | (at_builtin; have HRk := HR6; obtain ⟨fs, hk, hown, hfd⟩ := HRk.out; refine wpList_append_own_at _ rfl (.tmp 30) (.tmp 32) 23 rfl w.heap.size 66 i0 _ 9 120 Tryz.underlying23 HI0.out HI.out.1 HI.out.2.1 HI.out.2.2 rfl (by decide) _ 6 (flat9 fs) rfl (hown.alloc _) ⟨w6.heap.size, 0, none⟩ 1 1 ((⟨⟨#[102, 105, 108, 116, 101, 114]⟩, 19, none, 0, 0, false, leaf 0 0 ⟨#[]⟩⟩ : Fd).cs.toList) rfl rfl (news9 w6 ⟨⟨#[102, 105, 108, 116, 101, 114]⟩, 19, none, 0, 0, false, leaf 0 0 ⟨#[]⟩⟩ _) (one9 _) (by decide) (by decide) (by have := HB6.out.size; simp <;> omega) ?_; intro v' w7 hown' hgrow _ hat; obtain ⟨g', cap', rfl⟩ := ownsRow_succ hown'; obtain ⟨hr7, hb7⟩ := RTo.next (l := rs_source) hk hown hfd HB6.out.size (bel1 (Below.refl _ _) (Nat.le_refl _) _) ⟨⟨#[102, 105, 108, 116, 101, 114]⟩, 19, none, 0, 0, false, leaf 0 0 ⟨#[]⟩⟩ (by decide) (⟨rfl, rfl, rfl, rfl, rfl, rfl, fun h => absurd h (by decide)⟩) (fun b o e => by cases e) hgrow hown' hat; have HR7 := hide hr7; have HB7 : Hid (Below w.heap.size w w7) := HB6.out.trans hb7; clear hr7 hb7 hown' hgrow hat hown hfd hk)
    | (at_builtin; have HRk := HR5; obtain ⟨fs, hk, hown, hfd⟩ := HRk.out; refine wpList_append_own_at _ rfl (.tmp 26) (.tmp 28) 23 rfl w.heap.size 66 i0 _ 9 120 Tryz.underlying23 HI0.out HI.out.1 HI.out.2.1 HI.out.2.2 rfl (by decide) _ 5 (flat9 fs) rfl (hown.alloc _) ⟨w5.heap.size, 0, none⟩ 1 1 ((⟨⟨#[109, 111, 100, 101]⟩, 20, none, 0, 0, false, leaf 0 0 ⟨#[]⟩⟩ : Fd).cs.toList) rfl rfl (news9 w5 ⟨⟨#[109, 111, 100, 101]⟩, 20, none, 0, 0, false, leaf 0 0 ⟨#[]⟩⟩ _) (one9 _) (by decide) (by decide) (by have := HB5.out.size; simp <;> omega) ?_; intro v' w6 hown' hgrow _ hat; obtain ⟨g', cap', rfl⟩ := ownsRow_succ hown'; obtain ⟨hr6, hb6⟩ := RTo.next (l := rs_source) hk hown hfd HB5.out.size (bel1 (Below.refl _ _) (Nat.le_refl _) _) ⟨⟨#[109, 111, 100, 101]⟩, 20, none, 0, 0, false, leaf 0 0 ⟨#[]⟩⟩ (by decide) (⟨rfl, rfl, rfl, rfl, rfl, rfl, fun h => absurd h (by decide)⟩) (fun b o e => by cases e) hgrow hown' hat; have HR6 := hide hr6; have HB6 : Hid (Below w.heap.size w w6) := HB5.out.trans hb6; clear hr6 hb6 hown' hgrow hat hown hfd hk)
    | (at_builtin; have HRk := HR4; obtain ⟨fs, hk, hown, hfd⟩ := HRk.out; refine wpList_append_own_at _ rfl (.tmp 21) (.tmp 24) 23 rfl w.heap.size 66 i0 _ 9 120 Tryz.underlying23 HI0.out HI.out.1 HI.out.2.1 HI.out.2.2 rfl (by decide) _ 4 (flat9 fs) rfl (hown.alloc _) ⟨w4.heap.size, 0, none⟩ 1 1 ((⟨⟨#[100, 121, 110, 97, 109, 105, 99]⟩, 1, none, 0, 0, false, leaf 1 0 ⟨#[]⟩⟩ : Fd).cs.toList) rfl rfl (news9 w4 ⟨⟨#[100, 121, 110, 97, 109, 105, 99]⟩, 1, none, 0, 0, false, leaf 1 0 ⟨#[]⟩⟩ _) (one9 _) (by decide) (by decide) (by have := HB4.out.size; simp <;> omega) ?_; intro v' w5 hown' hgrow _ hat; obtain ⟨g', cap', rfl⟩ := ownsRow_succ hown'; obtain ⟨hr5, hb5⟩ := RTo.next (l := rs_source) hk hown hfd HB4.out.size (bel1 (Below.refl _ _) (Nat.le_refl _) _) ⟨⟨#[100, 121, 110, 97, 109, 105, 99]⟩, 1, none, 0, 0, false, leaf 1 0 ⟨#[]⟩⟩ (by decide) (⟨rfl, rfl, rfl, rfl, rfl, rfl, fun h => absurd h (by decide)⟩) (fun b o e => by cases e) hgrow hown' hat; have HR5 := hide hr5; have HB5 : Hid (Below w.heap.size w w5) := HB4.out.trans hb5; clear hr5 hb5 hown' hgrow hat hown hfd hk)
    | (at_builtin; have HRk := HR3; obtain ⟨fs, hk, hown, hfd⟩ := HRk.out; refine wpList_append_own_at _ rfl (.tmp 16) (.tmp 19) 23 rfl w.heap.size 66 i0 _ 9 120 Tryz.underlying23 HI0.out HI.out.1 HI.out.2.1 HI.out.2.2 rfl (by decide) _ 3 (flat9 fs) rfl (hown.alloc _) ⟨w3.heap.size, 0, none⟩ 1 1 ((⟨⟨#[116, 105, 109, 101, 111, 117, 116]⟩, 4, none, 0, 0, false, leaf 4 0 ⟨#[]⟩⟩ : Fd).cs.toList) rfl rfl (news9 w3 ⟨⟨#[116, 105, 109, 101, 111, 117, 116]⟩, 4, none, 0, 0, false, leaf 4 0 ⟨#[]⟩⟩ _) (one9 _) (by decide) (by decide) (by have := HB3.out.size; simp <;> omega) ?_; intro v' w4 hown' hgrow _ hat; obtain ⟨g', cap', rfl⟩ := ownsRow_succ hown'; obtain ⟨hr4, hb4⟩ := RTo.next (l := rs_source) hk hown hfd HB3.out.size (bel1 (Below.refl _ _) (Nat.le_refl _) _) ⟨⟨#[116, 105, 109, 101, 111, 117, 116]⟩, 4, none, 0, 0, false, leaf 4 0 ⟨#[]⟩⟩ (by decide) (⟨rfl, rfl, rfl, rfl, rfl, rfl, fun h => absurd h (by decide)⟩) (fun b o e => by cases e) hgrow hown' hat; have HR4 := hide hr4; have HB4 : Hid (Below w.heap.size w w4) := HB3.out.trans hb4; clear hr4 hb4 hown' hgrow hat hown hfd hk)
    | (at_builtin; have HRk := HR2; obtain ⟨fs, hk, hown, hfd⟩ := HRk.out; refine wpList_append_own_at _ rfl (.tmp 11) (.tmp 14) 23 rfl w.heap.size 66 i0 _ 9 120 Tryz.underlying23 HI0.out HI.out.1 HI.out.2.1 HI.out.2.2 rfl (by decide) _ 2 (flat9 fs) rfl (hown.alloc _) ⟨w2.heap.size, 0, none⟩ 1 1 ((⟨⟨#[101, 120, 112, 105, 114, 121]⟩, 20, none, 0, 0, false, leaf 20 0 ⟨#[115, 101, 115, 115, 105, 111, 110, 45, 101, 110, 100]⟩⟩ : Fd).cs.toList) rfl rfl (news9 w2 ⟨⟨#[101, 120, 112, 105, 114, 121]⟩, 20, none, 0, 0, false, leaf 20 0 ⟨#[115, 101, 115, 115, 105, 111, 110, 45, 101, 110, 100]⟩⟩ _) (one9 _) (by decide) (by decide) (by have := HB2.out.size; simp <;> omega) ?_; intro v' w3 hown' hgrow _ hat; obtain ⟨g', cap', rfl⟩ := ownsRow_succ hown'; obtain ⟨hr3, hb3⟩ := RTo.next (l := rs_source) hk hown hfd HB2.out.size (bel1 (Below.refl _ _) (Nat.le_refl _) _) ⟨⟨#[101, 120, 112, 105, 114, 121]⟩, 20, none, 0, 0, false, leaf 20 0 ⟨#[115, 101, 115, 115, 105, 111, 110, 45, 101, 110, 100]⟩⟩ (by decide) (⟨rfl, rfl, rfl, rfl, rfl, rfl, fun h => absurd h (by decide)⟩) (fun b o e => by cases e) hgrow hown' hat; have HR3 := hide hr3; have HB3 : Hid (Below w.heap.size w w3) := HB2.out.trans hb3; clear hr3 hb3 hown' hgrow hat hown hfd hk)
    | (at_builtin; have HRk := HR1; obtain ⟨fs, hk, hown, hfd⟩ := HRk.out; refine wpList_append_own_at _ rfl (.tmp 6) (.tmp 9) 23 rfl w.heap.size 66 i0 _ 9 120 Tryz.underlying23 HI0.out HI.out.1 HI.out.2.1 HI.out.2.2 rfl (by decide) _ 1 (flat9 fs) rfl (hown.alloc _) ⟨w1.heap.size, 0, none⟩ 1 1 ((⟨⟨#[100, 117, 114, 97, 98, 108, 101]⟩, 4, none, 0, 0, false, leaf 4 0 ⟨#[]⟩⟩ : Fd).cs.toList) rfl rfl (news9 w1 ⟨⟨#[100, 117, 114, 97, 98, 108, 101]⟩, 4, none, 0, 0, false, leaf 4 0 ⟨#[]⟩⟩ _) (one9 _) (by decide) (by decide) (by have := HB1.out.size; simp <;> omega) ?_; intro v' w2 hown' hgrow _ hat; obtain ⟨g', cap', rfl⟩ := ownsRow_succ hown'; obtain ⟨hr2, hb2⟩ := RTo.next (l := rs_source) hk hown hfd HB1.out.size (bel1 (Below.refl _ _) (Nat.le_refl _) _) ⟨⟨#[100, 117, 114, 97, 98, 108, 101]⟩, 4, none, 0, 0, false, leaf 4 0 ⟨#[]⟩⟩ (by decide) (⟨rfl, rfl, rfl, rfl, rfl, rfl, fun h => absurd h (by decide)⟩) (fun b o e => by cases e) hgrow hown' hat; have HR2 := hide hr2; have HB2 : Hid (Below w.heap.size w w2) := HB1.out.trans hb2; clear hr2 hb2 hown' hgrow hat hown hfd hk)
    | (at_builtin; have HRk := HR0; obtain ⟨fs, hk, hown, hfd⟩ := HRk.out; refine wpList_append_own_at _ rfl (.tmp 2) (.tmp 4) 23 rfl w.heap.size 66 i0 _ 9 120 Tryz.underlying23 HI0.out HI.out.1 HI.out.2.1 HI.out.2.2 rfl (by decide) _ 0 (flat9 fs) rfl (hown.alloc _) ⟨w.heap.size, 0, none⟩ 1 1 ((⟨⟨#[97, 100, 100, 114, 101, 115, 115]⟩, 19, none, 0, 0, false, leaf 0 0 ⟨#[]⟩⟩ : Fd).cs.toList) rfl rfl (news9 w ⟨⟨#[97, 100, 100, 114, 101, 115, 115]⟩, 19, none, 0, 0, false, leaf 0 0 ⟨#[]⟩⟩ _) (one9 _) (by decide) (by decide) (by have := HB0.out.size; simp <;> omega) ?_; intro v' w1 hown' hgrow _ hat; obtain ⟨g', cap', rfl⟩ := ownsRow_succ hown'; obtain ⟨hr1, hb1⟩ := RTo.next (l := rs_source) hk hown hfd HB0.out.size (bel1 (Below.refl _ _) (Nat.le_refl _) _) ⟨⟨#[97, 100, 100, 114, 101, 115, 115]⟩, 19, none, 0, 0, false, leaf 0 0 ⟨#[]⟩⟩ (by decide) (⟨rfl, rfl, rfl, rfl, rfl, rfl, fun h => absurd h (by decide)⟩) (fun b o e => by cases e) hgrow hown' hat; have HR1 := hide hr1; have HB1 : Hid (Below w.heap.size w w1) := HB0.out.trans hb1; clear hr1 hb1 hown' hgrow hat hown hfd hk))
  go_ret
  obtain ⟨fs, h1, h2⟩ := RTo.fields (l := rs_source) HR10.out
  exact ⟨_, _, fs, rfl, hide h1, h2, HB10.out⟩
def rs_target : List FS := [⟨⟨#[97, 100, 100, 114, 101, 115, 115]⟩, 19, [], false, 0, 0, ⟨#[]⟩⟩, ⟨⟨#[100, 117, 114, 97, 98, 108, 101]⟩, 4, [], false, 4, 0, ⟨#[]⟩⟩, ⟨⟨#[101, 120, 112, 105, 114, 121]⟩, 20, [], false, 20, 0, ⟨#[115, 101, 115, 115, 105, 111, 110, 45, 101, 110, 100]⟩⟩, ⟨⟨#[116, 105, 109, 101, 111, 117, 116]⟩, 4, [], false, 4, 0, ⟨#[]⟩⟩, ⟨⟨#[100, 121, 110, 97, 109, 105, 99]⟩, 1, [], false, 1, 0, ⟨#[]⟩⟩, ⟨⟨#[99, 97, 112, 115]⟩, 101, [], false, 0, 0, ⟨#[]⟩⟩]
set_option maxRecDepth 100000 in
set_option maxHeartbeats 8000000 in
theorem r_target (w : World) : Calls Tryz.prog 86 #[] w (RRow rs_target w) := by
  obtain ⟨i0, hi0, hzz⟩ := Option.map_eq_some_iff.1 Tryz.infoF
  simp only [Prod.mk.injEq] at hzz
  obtain ⟨hz0', hz1', hz2'⟩ := hzz
  have HI : Hid (i0.zero = _ ∧ i0.size = _ ∧ i0.bytes = _) := ⟨hz0', hz1', hz2'⟩
  have HI0 := hide hi0
  have HR0 : Hid (RTo rs_target w.heap.size 0 (.slice none 0 0) w) := RTo.start _ _
  have HB0 : Hid (Below w.heap.size w w) := Below.refl _ _
  clear hz0' hz1' hz2' hi0
  go_enter Tryz.func86, Tryz.ntmps86
  go_wp2_with (first
    | (at_builtin; have HRk := HR5; obtain ⟨fs, hk, hown, hfd⟩ := HRk.out; refine wpList_append_own_at _ rfl (.tmp 26) (.tmp 28) 23 rfl w.heap.size 66 i0 _ 9 120 Tryz.underlying23 HI0.out HI.out.1 HI.out.2.1 HI.out.2.2 rfl (by decide) _ 5 (flat9 fs) rfl (hown.alloc _) ⟨w5.heap.size, 0, none⟩ 1 1 ((⟨⟨#[99, 97, 112, 115]⟩, 101, none, 0, 0, false, leaf 0 0 ⟨#[]⟩⟩ : Fd).cs.toList) rfl rfl (news9 w5 ⟨⟨#[99, 97, 112, 115]⟩, 101, none, 0, 0, false, leaf 0 0 ⟨#[]⟩⟩ _) (one9 _) (by decide) (by decide) (by have := HB5.out.size; simp <;> omega) ?_; intro v' w6 hown' hgrow _ hat; obtain ⟨g', cap', rfl⟩ := ownsRow_succ hown'; obtain ⟨hr6, hb6⟩ := RTo.next (l := rs_target) hk hown hfd HB5.out.size (bel1 (Below.refl _ _) (Nat.le_refl _) _) ⟨⟨#[99, 97, 112, 115]⟩, 101, none, 0, 0, false, leaf 0 0 ⟨#[]⟩⟩ (by decide) (⟨rfl, rfl, rfl, rfl, rfl, rfl, fun h => absurd h (by decide)⟩) (fun b o e => by cases e) hgrow hown' hat; have HR6 := hide hr6; have HB6 : Hid (Below w.heap.size w w6) := HB5.out.trans hb6; clear hr6 hb6 hown' hgrow hat hown hfd hk)
    | (at_builtin; have HRk := HR4; obtain ⟨fs, hk, hown, hfd⟩ := HRk.out; refine wpList_append_own_at _ rfl (.tmp 21) (.tmp 24) 23 rfl w.heap.size 66 i0 _ 9 120 Tryz.underlying23 HI0.out HI.out.1 HI.out.2.1 HI.out.2.2 rfl (by decide) _ 4 (flat9 fs) rfl (hown.alloc _) ⟨w4.heap.size, 0, none⟩ 1 1 ((⟨⟨#[100, 121, 110, 97, 109, 105, 99]⟩, 1, none, 0, 0, false, leaf 1 0 ⟨#[]⟩⟩ : Fd).cs.toList) rfl rfl (news9 w4 ⟨⟨#[100, 121, 110, 97, 109, 105, 99]⟩, 1, none, 0, 0, false, leaf 1 0 ⟨#[]⟩⟩ _) (one9 _) (by decide) (by decide) (by have := HB4.out.size; simp <;> omega) ?_; intro v' w5 hown' hgrow _ hat; obtain ⟨g', cap', rfl⟩ := ownsRow_succ hown'; obtain ⟨hr5, hb5⟩ := RTo.next (l := rs_target) hk hown hfd HB4.out.size (bel1 (Below.refl _ _) (Nat.le_refl _) _) ⟨⟨#[100, 121, 110, 97, 109, 105, 99]⟩, 1, none, 0, 0, false, leaf 1 0 ⟨#[]⟩⟩ (by decide) (⟨rfl, rfl, rfl, rfl, rfl, rfl, fun h => absurd h (by decide)⟩) (fun b o e => by cases e) hgrow hown' hat; have HR5 := hide hr5; have HB5 : Hid (Below w.heap.size w w5) := HB4.out.trans hb5; clear hr5 hb5 hown' hgrow hat hown hfd hk)
    | (at_builtin; have HRk := HR3; obtain ⟨fs, hk, hown, hfd⟩ := HRk.out; refine wpList_append_own_at _ rfl (.tmp 16) (.tmp 19) 23 rfl w.heap.size 66 i0 _ 9 120 Tryz.underlying23 HI0.out HI.out.1 HI.out.2.1 HI.out.2.2 rfl (by decide) _ 3 (flat9 fs) rfl (hown.alloc _) ⟨w3.heap.size, 0, none⟩ 1 1 ((⟨⟨#[116, 105, 109, 101, 111, 117, 116]⟩, 4, none, 0, 0, false, leaf 4 0 ⟨#[]⟩⟩ : Fd).cs.toList) rfl rfl (news9 w3 ⟨⟨#[116, 105, 109, 101, 111, 117, 116]⟩, 4, none, 0, 0, false, leaf 4 0 ⟨#[]⟩⟩ _) (one9 _) (by decide) (by decide) (by have := HB3.out.size; simp <;> omega) ?_; intro v' w4 hown' hgrow _ hat; obtain ⟨g', cap', rfl⟩ := ownsRow_succ hown'; obtain ⟨hr4, hb4⟩ := RTo.next (l := rs_target) hk hown hfd HB3.out.size (bel1 (Below.refl _ _) (Nat.le_refl _) _) ⟨⟨#[116, 105, 109, 101, 111, 117, 116]⟩, 4, none, 0, 0, false, leaf 4 0 ⟨#[]⟩⟩ (by decide) (⟨rfl, rfl, rfl, rfl, rfl, rfl, fun h => absurd h (by decide)⟩) (fun b o e => by cases e) hgrow hown' hat; have HR4 := hide hr4; have HB4 : Hid (Below w.heap.size w w4) := HB3.out.trans hb4; clear hr4 hb4 hown' hgrow hat hown hfd hk)
    | (at_builtin; have HRk := HR2; obtain ⟨fs, hk, hown, hfd⟩ := HRk.out; refine wpList_append_own_at _ rfl (.tmp 11) (.tmp 14) 23 rfl w.heap.size 66 i0 _ 9 120 Tryz.underlying23 HI0.out HI.out.1 HI.out.2.1 HI.out.2.2 rfl (by decide) _ 2 (flat9 fs) rfl (hown.alloc _) ⟨w2.heap.size, 0, none⟩ 1 1 ((⟨⟨#[101, 120, 112, 105, 114, 121]⟩, 20, none, 0, 0, false, leaf 20 0 ⟨#[115, 101, 115, 115, 105, 111, 110, 45, 101, 110, 100]⟩⟩ : Fd).cs.toList) rfl rfl (news9 w2 ⟨⟨#[101, 120, 112, 105, 114, 121]⟩, 20, none, 0, 0, false, leaf 20 0 ⟨#[115, 101, 115, 115, 105, 111, 110, 45, 101, 110, 100]⟩⟩ _) (one9 _) (by decide) (by decide) (by have := HB2.out.size; simp <;> omega) ?_; intro v' w3 hown' hgrow _ hat; obtain ⟨g', cap', rfl⟩ := ownsRow_succ hown'; obtain ⟨hr3, hb3⟩ := RTo.next (l := rs_target) hk hown hfd HB2.out.size (bel1 (Below.refl _ _) (Nat.le_refl _) _) ⟨⟨#[101, 120, 112, 105, 114, 121]⟩, 20, none, 0, 0, false, leaf 20 0 ⟨#[115, 101, 115, 115, 105, 111, 110, 45, 101, 110, 100]⟩⟩ (by decide) (⟨rfl, rfl, rfl, rfl, rfl, rfl, fun h => absurd h (by decide)⟩) (fun b o e => by cases e) hgrow hown' hat; have HR3 := hide hr3; have HB3 : Hid (Below w.heap.size w w3) := HB2.out.trans hb3; clear hr3 hb3 hown' hgrow hat hown hfd hk)
    | (at_builtin; have HRk := HR1; obtain ⟨fs, hk, hown, hfd⟩ := HRk.out; refine wpList_append_own_at _ rfl (.tmp 6) (.tmp 9) 23 rfl w.heap.size 66 i0 _ 9 120 Tryz.underlying23 HI0.out HI.out.1 HI.out.2.1 HI.out.2.2 rfl (by decide) _ 1 (flat9 fs) rfl (hown.alloc _) ⟨w1.heap.size, 0, none⟩ 1 1 ((⟨⟨#[100, 117, 114, 97, 98, 108, 101]⟩, 4, none, 0, 0, false, leaf 4 0 ⟨#[]⟩⟩ : Fd).cs.toList) rfl rfl (news9 w1 ⟨⟨#[100, 117, 114, 97, 98, 108, 101]⟩, 4, none, 0, 0, false, leaf 4 0 ⟨#[]⟩⟩ _) (one9 _) (by decide) (by decide) (by have := HB1.out.size; simp <;> omega) ?_; intro v' w2 hown' hgrow _ hat; obtain ⟨g', cap', rfl⟩ := ownsRow_succ hown'; obtain ⟨hr2, hb2⟩ := RTo.next (l := rs_target) hk hown hfd HB1.out.size (bel1 (Below.refl _ _) (Nat.le_refl _) _) ⟨⟨#[100, 117, 114, 97, 98, 108, 101]⟩, 4, none, 0, 0, false, leaf 4 0 ⟨#[]⟩⟩ (by decide) (⟨rfl, rfl, rfl, rfl, rfl, rfl, fun h => absurd h (by decide)⟩) (fun b o e => by cases e) hgrow hown' hat; have HR2 := hide hr2; have HB2 : Hid (Below w.heap.size w w2) := HB1.out.trans hb2; clear hr2 hb2 hown' hgrow hat hown hfd hk)
    | (at_builtin; have HRk := HR0; obtain ⟨fs, hk, hown, hfd⟩ := HRk.out; refine wpList_append_own_at _ rfl (.tmp 2) (.tmp 4) 23 rfl w.heap.size 66 i0 _ 9 120 Tryz.underlying23 HI0.out HI.out.1 HI.out.2.1 HI.out.2.2 rfl (by decide) _ 0 (flat9 fs) rfl (hown.alloc _) ⟨w.heap.size, 0, none⟩ 1 1 ((⟨⟨#[97, 100, 100, 114, 101, 115, 115]⟩, 19, none, 0, 0, false, leaf 0 0 ⟨#[]⟩⟩ : Fd).cs.toList) rfl rfl (news9 w ⟨⟨#[97, 100, 100, 114, 101, 115, 115]⟩, 19, none, 0, 0, false, leaf 0 0 ⟨#[]⟩⟩ _) (one9 _) (by decide) (by decide) (by have := HB0.out.size; simp <;> omega) ?_; intro v' w1 hown' hgrow _ hat; obtain ⟨g', cap', rfl⟩ := ownsRow_succ hown'; obtain ⟨hr1, hb1⟩ := RTo.next (l := rs_target) hk hown hfd HB0.out.size (bel1 (Below.refl _ _) (Nat.le_refl _) _) ⟨⟨#[97, 100, 100, 114, 101, 115, 115]⟩, 19, none, 0, 0, false, leaf 0 0 ⟨#[]⟩⟩ (by decide) (⟨rfl, rfl, rfl, rfl, rfl, rfl, fun h => absurd h (by decide)⟩) (fun b o e => by cases e) hgrow hown' hat; have HR1 := hide hr1; have HB1 : Hid (Below w.heap.size w w1) := HB0.out.trans hb1; clear hr1 hb1 hown' hgrow hat hown hfd hk))
  go_ret
  obtain ⟨fs, h1, h2⟩ := RTo.fields (l := rs_target) HR6.out
  exact ⟨_, _, fs, rfl, hide h1, h2, HB6.out⟩
def rs_properties : List FS := [⟨⟨#[109, 101, 115, 115, 97, 103, 101, 45, 105, 100]⟩, 100, [], false, 0, 0, ⟨#[]⟩⟩, ⟨⟨#[117, 115, 101, 114, 45, 105, 100]⟩, 18, [], false, 0, 0, ⟨#[]⟩⟩, ⟨⟨#[116, 111]⟩, 19, [], false, 0, 0, ⟨#[]⟩⟩, ⟨⟨#[115, 117, 98, 106, 101, 99, 116]⟩, 19, [], false, 0, 0, ⟨#[]⟩⟩, ⟨⟨#[114, 101, 112, 108, 121, 45, 116, 111]⟩, 19, [], false, 0, 0, ⟨#[]⟩⟩, ⟨⟨#[99, 111, 114, 114, 101, 108, 97, 116, 105, 111, 110]⟩, 100, [], false, 0, 0, ⟨#[]⟩⟩, ⟨⟨#[99, 111, 110, 116, 101, 110, 116, 45, 116, 121, 112, 101]⟩, 20, [], false, 0, 0, ⟨#[]⟩⟩, ⟨⟨#[101, 110, 99, 111, 100, 105, 110, 103]⟩, 20, [], false, 0, 0, ⟨#[]⟩⟩, ⟨⟨#[101, 120, 112, 105, 114, 121]⟩, 16, [], false, 0, 0, ⟨#[]⟩⟩, ⟨⟨#[99, 114, 101, 97, 116, 101, 100]⟩, 16, [], false, 0, 0, ⟨#[]⟩⟩, ⟨⟨#[103, 114, 111, 117, 112]⟩, 19, [], false, 0, 0, ⟨#[]⟩⟩, ⟨⟨#[115, 101, 113, 117, 101, 110, 99, 101]⟩, 4, [], false, 0, 0, ⟨#[]⟩⟩, ⟨⟨#[114, 101, 112, 108, 121, 45, 103, 114, 111, 117, 112]⟩, 19, [], false, 0, 0, ⟨#[]⟩⟩]
set_option maxRecDepth 100000 in
set_option maxHeartbeats 8000000 in
theorem r_properties (w : World) : Calls Tryz.prog 97 #[] w (RRow rs_properties w) := by
  obtain ⟨i0, hi0, hzz⟩ := Option.map_eq_some_iff.1 Tryz.infoF
  simp only [Prod.mk.injEq] at hzz
  obtain ⟨hz0', hz1', hz2'⟩ := hzz
  have HI : Hid (i0.zero = _ ∧ i0.size = _ ∧ i0.bytes = _) := ⟨hz0', hz1', hz2'⟩
  have HI0 := hide hi0
  have HR0 : Hid (RTo rs_properties w.heap.size 0 (.slice none 0 0) w) := RTo.start _ _
  have HB0 : Hid (Below w.heap.size w w) := Below.refl _ _
  clear hz0' hz1' hz2' hi0
  go_enter Tryz.func97, Tryz.ntmps97
  go_wp2_with (first
    | (at_builtin; have HRk := HR12; obtain ⟨fs, hk, hown, hfd⟩ := HRk.out; refine wpList_append_own_at _ rfl (.tmp 50) (.tmp 52) 23 rfl w.heap.size 66 i0 _ 9 120 Tryz.underlying23 HI0.out HI.out.1 HI.out.2.1 HI.out.2.2 rfl (by decide) _ 12 (flat9 fs) rfl (hown.alloc _) ⟨w12.heap.size, 0, none⟩ 1 1 ((⟨⟨#[114, 101, 112, 108, 121, 45, 103, 114, 111, 117, 112]⟩, 19, none, 0, 0, false, leaf 0 0 ⟨#[]⟩⟩ : Fd).cs.toList) rfl rfl (news9 w12 ⟨⟨#[114, 101, 112, 108, 121, 45, 103, 114, 111, 117, 112]⟩, 19, none, 0, 0, false, leaf 0 0 ⟨#[]⟩⟩ _) (one9 _) (by decide) (by decide) (by have := HB12.out.size; simp <;> omega) ?_; intro v' w13 hown' hgrow _ hat; obtain ⟨g', cap', rfl⟩ := ownsRow_succ hown'; obtain ⟨hr13, hb13⟩ := RTo.next (l := rs_properties) hk hown hfd HB12.out.size (bel1 (Below.refl _ _) (Nat.le_refl _) _) ⟨⟨#[114, 101, 112, 108, 121, 45, 103, 114, 111, 117, 112]⟩, 19, none, 0, 0, false, leaf 0 0 ⟨#[]⟩⟩ (by decide) (⟨rfl, rfl, rfl, rfl, rfl, rfl, fun h => absurd h (by decide)⟩) (fun b o e => by cases e) hgrow hown' hat; have HR13 := hide hr13; have HB13 : Hid (Below w.heap.size w w13) := HB12.out.trans hb13; clear hr13 hb13 hown' hgrow hat hown hfd hk)
    | (at_builtin; have HRk := HR11; obtain ⟨fs, hk, hown, hfd⟩ := HRk.out; refine wpList_append_own_at _ rfl (.tmp 46) (.tmp 48) 23 rfl w.heap.size 66 i0 _ 9 120 Tryz.underlying23 HI0.out HI.out.1 HI.out.2.1 HI.out.2.2 rfl (by decide) _ 11 (flat9 fs) rfl (hown.alloc _) ⟨w11.heap.size, 0, none⟩ 1 1 ((⟨⟨#[115, 101, 113, 117, 101, 110, 99, 101]⟩, 4, none, 0, 0, false, leaf 0 0 ⟨#[]⟩⟩ : Fd).cs.toList) rfl rfl (news9 w11 ⟨⟨#[115, 101, 113, 117, 101, 110, 99, 101]⟩, 4, none, 0, 0, false, leaf 0 0 ⟨#[]⟩⟩ _) (one9 _) (by decide) (by decide) (by have := HB11.out.size; simp <;> omega) ?_; intro v' w12 hown' hgrow _ hat; obtain ⟨g', cap', rfl⟩ := ownsRow_succ hown'; obtain ⟨hr12, hb12⟩ := RTo.next (l := rs_properties) hk hown hfd HB11.out.size (bel1 (Below.refl _ _) (Nat.le_refl _) _) ⟨⟨#[115, 101, 113, 117, 101, 110, 99, 101]⟩, 4, none, 0, 0, false, leaf 0 0 ⟨#[]⟩⟩ (by decide) (⟨rfl, rfl, rfl, rfl, rfl, rfl, fun h => absurd h (by decide)⟩) (fun b o e => by cases e) hgrow hown' hat; have HR12 := hide hr12; have HB12 : Hid (Below w.heap.size w w12) := HB11.out.trans hb12; clear hr12 hb12 hown' hgrow hat hown hfd hk)
    | (at_builtin; have HRk := HR10; obtain ⟨fs, hk, hown, hfd⟩ := HRk.out; refine wpList_append_own_at _ rfl (.tmp 42) (.tmp 44) 23 rfl w.heap.size 66 i0 _ 9 120 Tryz.underlying23 HI0.out HI.out.1 HI.out.2.1 HI.out.2.2 rfl (by decide) _ 10 (flat9 fs) rfl (hown.alloc _) ⟨w10.heap.size, 0, none⟩ 1 1 ((⟨⟨#[103, 114, 111, 117, 112]⟩, 19, none, 0, 0, false, leaf 0 0 ⟨#[]⟩⟩ : Fd).cs.toList) rfl rfl (news9 w10 ⟨⟨#[103, 114, 111, 117, 112]⟩, 19, none, 0, 0, false, leaf 0 0 ⟨#[]⟩⟩ _) (one9 _) (by decide) (by decide) (by have := HB10.out.size; simp <;> omega) ?_; intro v' w11 hown' hgrow _ hat; obtain ⟨g', cap', rfl⟩ := ownsRow_succ hown'; obtain ⟨hr11, hb11⟩ := RTo.next (l := rs_properties) hk hown hfd HB10.out.size (bel1 (Below.refl _ _) (Nat.le_refl _) _) ⟨⟨#[103, 114, 111, 117, 112]⟩, 19, none, 0, 0, false, leaf 0 0 ⟨#[]⟩⟩ (by decide) (⟨rfl, rfl, rfl, rfl, rfl, rfl, fun h => absurd h (by decide)⟩) (fun b o e => by cases e) hgrow hown' hat; have HR11 := hide hr11; have HB11 : Hid (Below w.heap.size w w11) := HB10.out.trans hb11; clear hr11 hb11 hown' hgrow hat hown hfd hk)
    | (at_builtin; have HRk := HR9; obtain ⟨fs, hk, hown, hfd⟩ := HRk.out; refine wpList_append_own_at _ rfl (.tmp 38) (.tmp 40) 23 rfl w.heap.size 66 i0 _ 9 120 Tryz.underlying23 HI0.out HI.out.1 HI.out.2.1 HI.out.2.2 rfl (by decide) _ 9 (flat9 fs) rfl (hown.alloc _) ⟨w9.heap.size, 0, none⟩ 1 1 ((⟨⟨#[99, 114, 101, 97, 116, 101, 100]⟩, 16, none, 0, 0, false, leaf 0 0 ⟨#[]⟩⟩ : Fd).cs.toList) rfl rfl (news9 w9 ⟨⟨#[99, 114, 101, 97, 116, 101, 100]⟩, 16, none, 0, 0, false, leaf 0 0 ⟨#[]⟩⟩ _) (one9 _) (by decide) (by decide) (by have := HB9.out.size; simp <;> omega) ?_; intro v' w10 hown' hgrow _ hat; obtain ⟨g', cap', rfl⟩ := ownsRow_succ hown'; obtain ⟨hr10, hb10⟩ := RTo.next (l := rs_properties) hk hown hfd HB9.out.size (bel1 (Below.refl _ _) (Nat.le_refl _) _) ⟨⟨#[99, 114, 101, 97, 116, 101, 100]⟩, 16, none, 0, 0, false, leaf 0 0 ⟨#[]⟩⟩ (by decide) (⟨rfl, rfl, rfl, rfl, rfl, rfl, fun h => absurd h (by decide)⟩) (fun b o e => by cases e) hgrow hown' hat; have HR10 := hide hr10; have HB10 : Hid (Below w.heap.size w w10) := HB9.out.trans hb10; clear hr10 hb10 hown' hgrow hat hown hfd hk)
    | (at_builtin; have HRk := HR8; obtain ⟨fs, hk, hown, hfd⟩ := HRk.out; refine wpList_append_own_at _ rfl (.tmp 34) (.tmp 36) 23 rfl w.heap.size 66 i0 _ 9 120 Tryz.underlying23 HI0.out HI.out.1 HI.out.2.1 HI.out.2.2 rfl (by decide) _ 8 (flat9 fs) rfl (hown.alloc _) ⟨w8.heap.size, 0, none⟩ 1 1 ((⟨⟨#[101, 120, 112, 105, 114, 121]⟩, 16, none, 0, 0, false, leaf 0 0 ⟨#[]⟩⟩ : Fd).cs.toList) rfl rfl (news9 w8 ⟨⟨#[101, 120, 112, 105, 114, 121]⟩, 16, none, 0, 0, false, leaf 0 0 ⟨#[]⟩⟩ _) (one9 _) (by decide) (by decide) (by have := HB8.out.size; simp <;> omega) ?_; intro v' w9 hown' hgrow _ hat; obtain ⟨g', cap', rfl⟩ := ownsRow_succ hown'; obtain ⟨hr9, hb9⟩ := RTo.next (l := rs_properties) hk hown hfd HB8.out.size (bel1 (Below.refl _ _) (Nat.le_refl _) _) ⟨⟨#[101, 120, 112, 105, 114, 121]⟩, 16, none, 0, 0, false, leaf 0 0 ⟨#[]⟩⟩ (by decide) (⟨rfl, rfl, rfl, rfl, rfl, rfl, fun h => absurd h (by decide)⟩) (fun b o e => by cases e) hgrow hown' hat; have HR9 := hide hr9; have HB9 : Hid (Below w.heap.size w w9) := HB8.out.trans hb9; clear hr9 hb9 hown' hgrow hat hown hfd hk)
    | (at_builtin; have HRk := HR7; obtain ⟨fs, hk, hown, hfd⟩ := HRk.out; refine wpList_append_own_at _ rfl (.tmp 30) (.tmp 32) 23 rfl w.heap.size 66 i0 _ 9 120 Tryz.underlying23 HI0.out HI.out.1 HI.out.2.1 HI.out.2.2 rfl (by decide) _ 7 (flat9 fs) rfl (hown.alloc _) ⟨w7.heap.size, 0, none⟩ 1 1 ((⟨⟨#[101, 110, 99, 111, 100, 105, 110, 103]⟩, 20, none, 0, 0, false, leaf 0 0 ⟨#[]⟩⟩ : Fd).cs.toList) rfl rfl (news9 w7 ⟨⟨#[101, 110, 99, 111, 100, 105, 110, 103]⟩, 20, none, 0, 0, false, leaf 0 0 ⟨#[]⟩⟩ _) (one9 _) (by decide) (by decide) (by have := HB7.out.size; simp <;> omega) ?_; intro v' w8 hown' hgrow _ hat; obtain ⟨g', cap', rfl⟩ := ownsRow_succ hown'; obtain ⟨hr8, hb8⟩ := RTo.next (l := rs_properties) hk hown hfd HB7.out.size (bel1 (Below.refl _ _) (Nat.le_refl _) _) ⟨⟨#[101, 110, 99, 111, 100, 105, 110, 103]⟩, 20, none, 0, 0, false, leaf 0 0 ⟨#[]⟩⟩ (by decide) (⟨rfl, rfl, rfl, rfl, rfl, rfl, fun h => absurd h (by decide)⟩) (fun b o e => by cases e) hgrow hown' hat; have HR8 := hide hr8; have HB8 : Hid (Below w.heap.size w w8) := HB7.out.trans hb8; clear hr8 hb8 hown' hgrow hat hown hfd hk)
    | (at_builtin; have HRk := HR6; obtain ⟨fs, hk, hown, hfd⟩ := HRk.out; refine wpList_append_own_at _ rfl (.tmp 26) (.tmp 28) 23 rfl w.heap.size 66 i0 _ 9 120 Tryz.underlying23 HI0.out HI.out.1 HI.out.2.1 HI.out.2.2 rfl (by decide) _ 6 (flat9 fs) rfl (hown.alloc _) ⟨w6.heap.size, 0, none⟩ 1 1 ((⟨⟨#[99, 111, 110, 116, 101, 110, 116, 45, 116, 121, 112, 101]⟩, 20, none, 0, 0, false, leaf 0 0 ⟨#[]⟩⟩ : Fd).cs.toList) rfl rfl (news9 w6 ⟨⟨#[99, 111, 110, 116, 101, 110, 116, 45, 116, 121, 112, 101]⟩, 20, none, 0, 0, false, leaf 0 0 ⟨#[]⟩⟩ _) (one9 _) (by decide) (by decide) (by have := HB6.out.size; simp <;> omega) ?_; intro v' w7 hown' hgrow _ hat; obtain ⟨g', cap', rfl⟩ := ownsRow_succ hown'; obtain ⟨hr7, hb7⟩ := RTo.next (l := rs_properties) hk hown hfd HB6.out.size (bel1 (Below.refl _ _) (Nat.le_refl _) _) ⟨⟨#[99, 111, 110, 116, 101, 110, 116, 45, 116, 121, 112, 101]⟩, 20, none, 0, 0, false, leaf 0 0 ⟨#[]⟩⟩ (by decide) (⟨rfl, rfl, rfl, rfl, rfl, rfl, fun h => absurd h (by decide)⟩) (fun b o e => by cases e) hgrow hown' hat; have HR7 := hide hr7; have HB7 : Hid (Below w.heap.size w w7) := HB6.out.trans hb7; clear hr7 hb7 hown' hgrow hat hown hfd hk)
    | (at_builtin; have HRk := HR5; obtain ⟨fs, hk, hown, hfd⟩ := HRk.out; refine wpList_append_own_at _ rfl (.tmp 22) (.tmp 24) 23 rfl w.heap.size 66 i0 _ 9 120 Tryz.underlying23 HI0.out HI.out.1 HI.out.2.1 HI.out.2.2 rfl (by decide) _ 5 (flat9 fs) rfl (hown.alloc _) ⟨w5.heap.size, 0, none⟩ 1 1 ((⟨⟨#[99, 111, 114, 114, 101, 108, 97, 116, 105, 111, 110]⟩, 100, none, 0, 0, false, leaf 0 0 ⟨#[]⟩⟩ : Fd).cs.toList) rfl rfl (news9 w5 ⟨⟨#[99, 111, 114, 114, 101, 108, 97, 116, 105, 111, 110]⟩, 100, none, 0, 0, false, leaf 0 0 ⟨#[]⟩⟩ _) (one9 _) (by decide) (by decide) (by have := HB5.out.size; simp <;> omega) ?_; intro v' w6 hown' hgrow _ hat; obtain ⟨g', cap', rfl⟩ := ownsRow_succ hown'; obtain ⟨hr6, hb6⟩ := RTo.next (l := rs_properties) hk hown hfd HB5.out.size (bel1 (Below.refl _ _) (Nat.le_refl _) _) ⟨⟨#[99, 111, 114, 114, 101, 108, 97, 116, 105, 111, 110]⟩, 100, none, 0, 0, false, leaf 0 0 ⟨#[]⟩⟩ (by decide) (⟨rfl, rfl, rfl, rfl, rfl, rfl, fun h => absurd h (by decide)⟩) (fun b o e => by cases e) hgrow hown' hat; have HR6 := hide hr6; have HB6 : Hid (Below w.heap.size w w6) := HB5.out.trans hb6; clear hr6 hb6 hown' hgrow hat hown hfd hk)
    | (at_builtin; have HRk := HR4; obtain ⟨fs, hk, hown, hfd⟩ := HRk.out; refine wpList_append_own_at _ rfl (.tmp 18) (.tmp 20) 23 rfl w.heap.size 66 i0 _ 9 120 Tryz.underlying23 HI0.out HI.out.1 HI.out.2.1 HI.out.2.2 rfl (by decide) _ 4 (flat9 fs) rfl (hown.alloc _) ⟨w4.heap.size, 0, none⟩ 1 1 ((⟨⟨#[114, 101, 112, 108, 121, 45, 116, 111]⟩, 19, none, 0, 0, false, leaf 0 0 ⟨#[]⟩⟩ : Fd).cs.toList) rfl rfl (news9 w4 ⟨⟨#[114, 101, 112, 108, 121, 45, 116, 111]⟩, 19, none, 0, 0, false, leaf 0 0 ⟨#[]⟩⟩ _) (one9 _) (by decide) (by decide) (by have := HB4.out.size; simp <;> omega) ?_; intro v' w5 hown' hgrow _ hat; obtain ⟨g', cap', rfl⟩ := ownsRow_succ hown'; obtain ⟨hr5, hb5⟩ := RTo.next (l := rs_properties) hk hown hfd HB4.out.size (bel1 (Below.refl _ _) (Nat.le_refl _) _) ⟨⟨#[114, 101, 112, 108, 121, 45, 116, 111]⟩, 19, none, 0, 0, false, leaf 0 0 ⟨#[]⟩⟩ (by decide) (⟨rfl, rfl, rfl, rfl, rfl, rfl, fun h => absurd h (by decide)⟩) (fun b o e => by cases e) hgrow hown' hat; have HR5 := hide hr5; have HB5 : Hid (Below w.heap.size w w5) := HB4.out.trans hb5; clear hr5 hb5 hown' hgrow hat hown hfd hk)
    | (at_builtin; have HRk := HR3; obtain ⟨fs, hk, hown, hfd⟩ := HRk.out; refine wpList_append_own_at _ rfl (.tmp 14) (.tmp 16) 23 rfl w.heap.size 66 i0 _ 9 120 Tryz.underlying23 HI0.out HI.out.1 HI.out.2.1 HI.out.2.2 rfl (by decide) _ 3 (flat9 fs) rfl (hown.alloc _) ⟨w3.heap.size, 0, none⟩ 1 1 ((⟨⟨#[115, 117, 98, 106, 101, 99, 116]⟩, 19, none, 0, 0, false, leaf 0 0 ⟨#[]⟩⟩ : Fd).cs.toList) rfl rfl (news9 w3 ⟨⟨#[115, 117, 98, 106, 101, 99, 116]⟩, 19, none, 0, 0, false, leaf 0 0 ⟨#[]⟩⟩ _) (one9 _) (by decide) (by decide) (by have := HB3.out.size; simp <;> omega) ?_; intro v' w4 hown' hgrow _ hat; obtain ⟨g', cap', rfl⟩ := ownsRow_succ hown'; obtain ⟨hr4, hb4⟩ := RTo.next (l := rs_properties) hk hown hfd HB3.out.size (bel1 (Below.refl _ _) (Nat.le_refl _) _) ⟨⟨#[115, 117, 98, 106, 101, 99, 116]⟩, 19, none, 0, 0, false, leaf 0 0 ⟨#[]⟩⟩ (by decide) (⟨rfl, rfl, rfl, rfl, rfl, rfl, fun h => absurd h (by decide)⟩) (fun b o e => by cases e) hgrow hown' hat; have HR4 := hide hr4; have HB4 : Hid (Below w.heap.size w w4) := HB3.out.trans hb4; clear hr4 hb4 hown' hgrow hat hown hfd hk)
    | (at_builtin; have HRk := HR2; obtain ⟨fs, hk, hown, hfd⟩ := HRk.out; refine wpList_append_own_at _ rfl (.tmp 10) (.tmp 12) 23 rfl w.heap.size 66 i0 _ 9 120 Tryz.underlying23 HI0.out HI.out.1 HI.out.2.1 HI.out.2.2 rfl (by decide) _ 2 (flat9 fs) rfl (hown.alloc _) ⟨w2.heap.size, 0, none⟩ 1 1 ((⟨⟨#[116, 111]⟩, 19, none, 0, 0, false, leaf 0 0 ⟨#[]⟩⟩ : Fd).cs.toList) rfl rfl (news9 w2 ⟨⟨#[116, 111]⟩, 19, none, 0, 0, false, leaf 0 0 ⟨#[]⟩⟩ _) (one9 _) (by decide) (by decide) (by have := HB2.out.size; simp <;> omega) ?_; intro v' w3 hown' hgrow _ hat; obtain ⟨g', cap', rfl⟩ := ownsRow_succ hown'; obtain ⟨hr3, hb3⟩ := RTo.next (l := rs_properties) hk hown hfd HB2.out.size (bel1 (Below.refl _ _) (Nat.le_refl _) _) ⟨⟨#[116, 111]⟩, 19, none, 0, 0, false, leaf 0 0 ⟨#[]⟩⟩ (by decide) (⟨rfl, rfl, rfl, rfl, rfl, rfl, fun h => absurd h (by decide)⟩) (fun b o e => by cases e) hgrow hown' hat; have HR3 := hide hr3; have HB3 : Hid (Below w.heap.size w w3) := HB2.out.trans hb3; clear hr3 hb3 hown' hgrow hat hown hfd hk)
    | (at_builtin; have HRk := HR1; obtain ⟨fs, hk, hown, hfd⟩ := HRk.out; refine wpList_append_own_at _ rfl (.tmp 6) (.tmp 8) 23 rfl w.heap.size 66 i0 _ 9 120 Tryz.underlying23 HI0.out HI.out.1 HI.out.2.1 HI.out.2.2 rfl (by decide) _ 1 (flat9 fs) rfl (hown.alloc _) ⟨w1.heap.size, 0, none⟩ 1 1 ((⟨⟨#[117, 115, 101, 114, 45, 105, 100]⟩, 18, none, 0, 0, false, leaf 0 0 ⟨#[]⟩⟩ : Fd).cs.toList) rfl rfl (news9 w1 ⟨⟨#[117, 115, 101, 114, 45, 105, 100]⟩, 18, none, 0, 0, false, leaf 0 0 ⟨#[]⟩⟩ _) (one9 _) (by decide) (by decide) (by have := HB1.out.size; simp <;> omega) ?_; intro v' w2 hown' hgrow _ hat; obtain ⟨g', cap', rfl⟩ := ownsRow_succ hown'; obtain ⟨hr2, hb2⟩ := RTo.next (l := rs_properties) hk hown hfd HB1.out.size (bel1 (Below.refl _ _) (Nat.le_refl _) _) ⟨⟨#[117, 115, 101, 114, 45, 105, 100]⟩, 18, none, 0, 0, false, leaf 0 0 ⟨#[]⟩⟩ (by decide) (⟨rfl, rfl, rfl, rfl, rfl, rfl, fun h => absurd h (by decide)⟩) (fun b o e => by cases e) hgrow hown' hat; have HR2 := hide hr2; have HB2 : Hid (Below w.heap.size w w2) := HB1.out.trans hb2; clear hr2 hb2 hown' hgrow hat hown hfd hk)
    | (at_builtin; have HRk := HR0; obtain ⟨fs, hk, hown, hfd⟩ := HRk.out; refine wpList_append_own_at _ rfl (.tmp 2) (.tmp 4) 23 rfl w.heap.size 66 i0 _ 9 120 Tryz.underlying23 HI0.out HI.out.1 HI.out.2.1 HI.out.2.2 rfl (by decide) _ 0 (flat9 fs) rfl (hown.alloc _) ⟨w.heap.size, 0, none⟩ 1 1 ((⟨⟨#[109, 101, 115, 115, 97, 103, 101, 45, 105, 100]⟩, 100, none, 0, 0, false, leaf 0 0 ⟨#[]⟩⟩ : Fd).cs.toList) rfl rfl (news9 w ⟨⟨#[109, 101, 115, 115, 97, 103, 101, 45, 105, 100]⟩, 100, none, 0, 0, false, leaf 0 0 ⟨#[]⟩⟩ _) (one9 _) (by decide) (by decide) (by have := HB0.out.size; simp <;> omega) ?_; intro v' w1 hown' hgrow _ hat; obtain ⟨g', cap', rfl⟩ := ownsRow_succ hown'; obtain ⟨hr1, hb1⟩ := RTo.next (l := rs_properties) hk hown hfd HB0.out.size (bel1 (Below.refl _ _) (Nat.le_refl _) _) ⟨⟨#[109, 101, 115, 115, 97, 103, 101, 45, 105, 100]⟩, 100, none, 0, 0, false, leaf 0 0 ⟨#[]⟩⟩ (by decide) (⟨rfl, rfl, rfl, rfl, rfl, rfl, fun h => absurd h (by decide)⟩) (fun b o e => by cases e) hgrow hown' hat; have HR1 := hide hr1; have HB1 : Hid (Below w.heap.size w w1) := HB0.out.trans hb1; clear hr1 hb1 hown' hgrow hat hown hfd hk))
  go_ret
  obtain ⟨fs, h1, h2⟩ := RTo.fields (l := rs_properties) HR13.out
  exact ⟨_, _, fs, rfl, hide h1, h2, HB13.out⟩
def RAll (o : Option (List FS)) (W : World) (e : Ending) (w' : World) : Prop := match o with
  | some l => ∃ (a : Option Addr) (c : Nat) (fs : List Fd), e = .returned (.tuple #[.slice a l.length c, .bool true]) ∧ Hid (FieldsIn l W a fs w') ∧ l.length ≤ c ∧ Below W.heap.size W w'
  | none => e = .returned (.tuple #[.slice none 0 0, .bool false]) ∧ Below W.heap.size W w'
set_option maxRecDepth 100000 in
set_option maxHeartbeats 2000000 in
theorem rt_16 (w : World) : Calls Tryz.prog 32 #[.int .i64 16] w (RAll (ftab 16) w) := by
  rw [show ftab 16 = some rs_open from by kernel_rfl]
  have HX := hide (fun W => r_open W)
  go_enter Tryz.func32, Tryz.ntmps32
  go_wp2_with (go_at_call 73; refine Calls.mono (HX.out _) ?_; rintro e w1 ⟨a, c, fs, rfl, h1, h2, h3⟩; have HH := hide (And.intro h2 h3); clear h2 h3)
  go_ret2
  exact ⟨a, c, fs, rfl, h1, HH.out.1, HH.out.2⟩
set_option maxRecDepth 100000 in
set_option maxHeartbeats 2000000 in
theorem rt_17 (w : World) : Calls Tryz.prog 32 #[.int .i64 17] w (RAll (ftab 17) w) := by
  rw [show ftab 17 = some rs_begin from by kernel_rfl]
  have HX := hide (fun W => r_begin W)
  go_enter Tryz.func32, Tryz.ntmps32
  go_wp2_with (go_at_call 74; refine Calls.mono (HX.out _) ?_; rintro e w1 ⟨a, c, fs, rfl, h1, h2, h3⟩; have HH := hide (And.intro h2 h3); clear h2 h3)
  go_ret2
  exact ⟨a, c, fs, rfl, h1, HH.out.1, HH.out.2⟩
set_option maxRecDepth 100000 in
set_option maxHeartbeats 2000000 in
theorem rt_18 (w : World) : Calls Tryz.prog 32 #[.int .i64 18] w (RAll (ftab 18) w) := by
  rw [show ftab 18 = some rs_attach from by kernel_rfl]
  have HX := hide (fun W => r_attach W)
  go_enter Tryz.func32, Tryz.ntmps32
  go_wp2_with (go_at_call 75; refine Calls.mono (HX.out _) ?_; rintro e w1 ⟨a, c, fs, rfl, h1, h2, h3⟩; have HH := hide (And.intro h2 h3); clear h2 h3)
  go_ret2
  exact ⟨a, c, fs, rfl, h1, HH.out.1, HH.out.2⟩
set_option maxRecDepth 100000 in
set_option maxHeartbeats 2000000 in
theorem rt_19 (w : World) : Calls Tryz.prog 32 #[.int .i64 19] w (RAll (ftab 19) w) := by
  rw [show ftab 19 = some rs_flow from by kernel_rfl]
  have HX := hide (fun W => r_flow W)
  go_enter Tryz.func32, Tryz.ntmps32
  go_wp2_with (go_at_call 76; refine Calls.mono (HX.out _) ?_; rintro e w1 ⟨a, c, fs, rfl, h1, h2, h3⟩; have HH := hide (And.intro h2 h3); clear h2 h3)
  go_ret2
  exact ⟨a, c, fs, rfl, h1, HH.out.1, HH.out.2⟩
set_option maxRecDepth 100000 in
set_option maxHeartbeats 2000000 in
theorem rt_20 (w : World) : Calls Tryz.prog 32 #[.int .i64 20] w (RAll (ftab 20) w) := by
  rw [show ftab 20 = some rs_transfer from by kernel_rfl]
  have HX := hide (fun W => r_transfer W)
  go_enter Tryz.func32, Tryz.ntmps32
  go_wp2_with (go_at_call 77; refine Calls.mono (HX.out _) ?_; rintro e w1 ⟨a, c, fs, rfl, h1, h2, h3⟩; have HH := hide (And.intro h2 h3); clear h2 h3)
  go_ret2
  exact ⟨a, c, fs, rfl, h1, HH.out.1, HH.out.2⟩
set_option maxRecDepth 100000 in
set_option maxHeartbeats 2000000 in
theorem rt_21 (w : World) : Calls Tryz.prog 32 #[.int .i64 21] w (RAll (ftab 21) w) := by
  rw [show ftab 21 = some rs_disposition from by kernel_rfl]
  have HX := hide (fun W => r_disposition W)
  go_enter Tryz.func32, Tryz.ntmps32
  go_wp2_with (go_at_call 78; refine Calls.mono (HX.out _) ?_; rintro e w1 ⟨a, c, fs, rfl, h1, h2, h3⟩; have HH := hide (And.intro h2 h3); clear h2 h3)
  go_ret2
  exact ⟨a, c, fs, rfl, h1, HH.out.1, HH.out.2⟩
set_option maxRecDepth 100000 in
set_option maxHeartbeats 2000000 in
theorem rt_22 (w : World) : Calls Tryz.prog 32 #[.int .i64 22] w (RAll (ftab 22) w) := by
  rw [show ftab 22 = some rs_detach from by kernel_rfl]
  have HX := hide (fun W => r_detach W)
  go_enter Tryz.func32, Tryz.ntmps32
  go_wp2_with (go_at_call 79; refine Calls.mono (HX.out _) ?_; rintro e w1 ⟨a, c, fs, rfl, h1, h2, h3⟩; have HH := hide (And.intro h2 h3); clear h2 h3)
  go_ret2
  exact ⟨a, c, fs, rfl, h1, HH.out.1, HH.out.2⟩
set_option maxRecDepth 100000 in
set_option maxHeartbeats 2000000 in
theorem rt_23 (w : World) : Calls Tryz.prog 32 #[.int .i64 23] w (RAll (ftab 23) w) := by
  rw [show ftab 23 = some rs_end from by kernel_rfl]
  have HX := hide (fun W => r_end W)
  go_enter Tryz.func32, Tryz.ntmps32
  go_wp2_with (go_at_call 80; refine Calls.mono (HX.out _) ?_; rintro e w1 ⟨a, c, fs, rfl, h1, h2, h3⟩; have HH := hide (And.intro h2 h3); clear h2 h3)
  go_ret2
  exact ⟨a, c, fs, rfl, h1, HH.out.1, HH.out.2⟩
set_option maxRecDepth 100000 in
set_option maxHeartbeats 2000000 in
theorem rt_24 (w : World) : Calls Tryz.prog 32 #[.int .i64 24] w (RAll (ftab 24) w) := by
  rw [show ftab 24 = some rs_end from by kernel_rfl]
  have HX := hide (fun W => r_end W)
  go_enter Tryz.func32, Tryz.ntmps32
  go_wp2_with (go_at_call 80; refine Calls.mono (HX.out _) ?_; rintro e w1 ⟨a, c, fs, rfl, h1, h2, h3⟩; have HH := hide (And.intro h2 h3); clear h2 h3)
  go_ret2
  exact ⟨a, c, fs, rfl, h1, HH.out.1, HH.out.2⟩
set_option maxRecDepth 100000 in
set_option maxHeartbeats 2000000 in
theorem rt_29 (w : World) : Calls Tryz.prog 32 #[.int .i64 29] w (RAll (ftab 29) w) := by
  rw [show ftab 29 = some rs_fault from by kernel_rfl]
  have HX := hide (fun W => r_fault W)
  go_enter Tryz.func32, Tryz.ntmps32
  go_wp2_with (go_at_call 81; refine Calls.mono (HX.out _) ?_; rintro e w1 ⟨a, c, fs, rfl, h1, h2, h3⟩; have HH := hide (And.intro h2 h3); clear h2 h3)
  go_ret2
  exact ⟨a, c, fs, rfl, h1, HH.out.1, HH.out.2⟩
set_option maxRecDepth 100000 in
set_option maxHeartbeats 2000000 in
theorem rt_35 (w : World) : Calls Tryz.prog 32 #[.int .i64 35] w (RAll (ftab 35) w) := by
  rw [show ftab 35 = some rs_received from by kernel_rfl]
  have HX := hide (fun W => r_received W)
  go_enter Tryz.func32, Tryz.ntmps32
  go_wp2_with (go_at_call 82; refine Calls.mono (HX.out _) ?_; rintro e w1 ⟨a, c, fs, rfl, h1, h2, h3⟩; have HH := hide (And.intro h2 h3); clear h2 h3)
  go_ret2
  exact ⟨a, c, fs, rfl, h1, HH.out.1, HH.out.2⟩
set_option maxRecDepth 100000 in
set_option maxHeartbeats 2000000 in
theorem rt_37 (w : World) : Calls Tryz.prog 32 #[.int .i64 37] w (RAll (ftab 37) w) := by
  rw [show ftab 37 = some rs_rejected from by kernel_rfl]
  have HX := hide (fun W => r_rejected W)
  go_enter Tryz.func32, Tryz.ntmps32
  go_wp2_with (go_at_call 83; refine Calls.mono (HX.out _) ?_; rintro e w1 ⟨a, c, fs, rfl, h1, h2, h3⟩; have HH := hide (And.intro h2 h3); clear h2 h3)
  go_ret2
  exact ⟨a, c, fs, rfl, h1, HH.out.1, HH.out.2⟩
set_option maxRecDepth 100000 in
set_option maxHeartbeats 2000000 in
theorem rt_39 (w : World) : Calls Tryz.prog 32 #[.int .i64 39] w (RAll (ftab 39) w) := by
  rw [show ftab 39 = some rs_modified from by kernel_rfl]
  have HX := hide (fun W => r_modified W)
  go_enter Tryz.func32, Tryz.ntmps32
  go_wp2_with (go_at_call 84; refine Calls.mono (HX.out _) ?_; rintro e w1 ⟨a, c, fs, rfl, h1, h2, h3⟩; have HH := hide (And.intro h2 h3); clear h2 h3)
  go_ret2
  exact ⟨a, c, fs, rfl, h1, HH.out.1, HH.out.2⟩
set_option maxRecDepth 100000 in
set_option maxHeartbeats 2000000 in
theorem rt_40 (w : World) : Calls Tryz.prog 32 #[.int .i64 40] w (RAll (ftab 40) w) := by
  rw [show ftab 40 = some rs_source from by kernel_rfl]
  have HX := hide (fun W => r_source W)
  go_enter Tryz.func32, Tryz.ntmps32
  go_wp2_with (go_at_call 85; refine Calls.mono (HX.out _) ?_; rintro e w1 ⟨a, c, fs, rfl, h1, h2, h3⟩; have HH := hide (And.intro h2 h3); clear h2 h3)
  go_ret2
  exact ⟨a, c, fs, rfl, h1, HH.out.1, HH.out.2⟩
set_option maxRecDepth 100000 in
set_option maxHeartbeats 2000000 in
theorem rt_41 (w : World) : Calls Tryz.prog 32 #[.int .i64 41] w (RAll (ftab 41) w) := by
  rw [show ftab 41 = some rs_target from by kernel_rfl]
  have HX := hide (fun W => r_target W)
  go_enter Tryz.func32, Tryz.ntmps32
  go_wp2_with (go_at_call 86; refine Calls.mono (HX.out _) ?_; rintro e w1 ⟨a, c, fs, rfl, h1, h2, h3⟩; have HH := hide (And.intro h2 h3); clear h2 h3)
  go_ret2
  exact ⟨a, c, fs, rfl, h1, HH.out.1, HH.out.2⟩
set_option maxRecDepth 100000 in
set_option maxHeartbeats 2000000 in
theorem rt_48 (w : World) : Calls Tryz.prog 32 #[.int .i64 48] w (RAll (ftab 48) w) := by
  rw [show ftab 48 = some rs_coordinator from by kernel_rfl]
  have HX := hide (fun W => r_coordinator W)
  go_enter Tryz.func32, Tryz.ntmps32
  go_wp2_with (go_at_call 87; refine Calls.mono (HX.out _) ?_; rintro e w1 ⟨a, c, fs, rfl, h1, h2, h3⟩; have HH := hide (And.intro h2 h3); clear h2 h3)
  go_ret2
  exact ⟨a, c, fs, rfl, h1, HH.out.1, HH.out.2⟩
set_option maxRecDepth 100000 in
set_option maxHeartbeats 2000000 in
theorem rt_50 (w : World) : Calls Tryz.prog 32 #[.int .i64 50] w (RAll (ftab 50) w) := by
  rw [show ftab 50 = some rs_discharge from by kernel_rfl]
  have HX := hide (fun W => r_discharge W)
  go_enter Tryz.func32, Tryz.ntmps32
  go_wp2_with (go_at_call 88; refine Calls.mono (HX.out _) ?_; rintro e w1 ⟨a, c, fs, rfl, h1, h2, h3⟩; have HH := hide (And.intro h2 h3); clear h2 h3)
  go_ret2
  exact ⟨a, c, fs, rfl, h1, HH.out.1, HH.out.2⟩
set_option maxRecDepth 100000 in
set_option maxHeartbeats 2000000 in
theorem rt_51 (w : World) : Calls Tryz.prog 32 #[.int .i64 51] w (RAll (ftab 51) w) := by
  rw [show ftab 51 = some rs_declared from by kernel_rfl]
  have HX := hide (fun W => r_declared W)
  go_enter Tryz.func32, Tryz.ntmps32
  go_wp2_with (go_at_call 89; refine Calls.mono (HX.out _) ?_; rintro e w1 ⟨a, c, fs, rfl, h1, h2, h3⟩; have HH := hide (And.intro h2 h3); clear h2 h3)
  go_ret2
  exact ⟨a, c, fs, rfl, h1, HH.out.1, HH.out.2⟩
set_option maxRecDepth 100000 in
set_option maxHeartbeats 2000000 in
theorem rt_52 (w : World) : Calls Tryz.prog 32 #[.int .i64 52] w (RAll (ftab 52) w) := by
  rw [show ftab 52 = some rs_transactional from by kernel_rfl]
  have HX := hide (fun W => r_transactional W)
  go_enter Tryz.func32, Tryz.ntmps32
  go_wp2_with (go_at_call 90; refine Calls.mono (HX.out _) ?_; rintro e w1 ⟨a, c, fs, rfl, h1, h2, h3⟩; have HH := hide (And.intro h2 h3); clear h2 h3)
  go_ret2
  exact ⟨a, c, fs, rfl, h1, HH.out.1, HH.out.2⟩
set_option maxRecDepth 100000 in
set_option maxHeartbeats 2000000 in
theorem rt_64 (w : World) : Calls Tryz.prog 32 #[.int .i64 64] w (RAll (ftab 64) w) := by
  rw [show ftab 64 = some rs_mechanisms from by kernel_rfl]
  have HX := hide (fun W => r_mechanisms W)
  go_enter Tryz.func32, Tryz.ntmps32
  go_wp2_with (go_at_call 91; refine Calls.mono (HX.out _) ?_; rintro e w1 ⟨a, c, fs, rfl, h1, h2, h3⟩; have HH := hide (And.intro h2 h3); clear h2 h3)
  go_ret2
  exact ⟨a, c, fs, rfl, h1, HH.out.1, HH.out.2⟩
set_option maxRecDepth 100000 in
set_option maxHeartbeats 2000000 in
theorem rt_65 (w : World) : Calls Tryz.prog 32 #[.int .i64 65] w (RAll (ftab 65) w) := by
  rw [show ftab 65 = some rs_initial from by kernel_rfl]
  have HX := hide (fun W => r_initial W)
  go_enter Tryz.func32, Tryz.ntmps32
  go_wp2_with (go_at_call 92; refine Calls.mono (HX.out _) ?_; rintro e w1 ⟨a, c, fs, rfl, h1, h2, h3⟩; have HH := hide (And.intro h2 h3); clear h2 h3)
  go_ret2
  exact ⟨a, c, fs, rfl, h1, HH.out.1, HH.out.2⟩
set_option maxRecDepth 100000 in
set_option maxHeartbeats 2000000 in
theorem rt_66 (w : World) : Calls Tryz.prog 32 #[.int .i64 66] w (RAll (ftab 66) w) := by
  rw [show ftab 66 = some rs_challenge from by kernel_rfl]
  have HX := hide (fun W => r_challenge W)
  go_enter Tryz.func32, Tryz.ntmps32
  go_wp2_with (go_at_call 93; refine Calls.mono (HX.out _) ?_; rintro e w1 ⟨a, c, fs, rfl, h1, h2, h3⟩; have HH := hide (And.intro h2 h3); clear h2 h3)
  go_ret2
  exact ⟨a, c, fs, rfl, h1, HH.out.1, HH.out.2⟩
set_option maxRecDepth 100000 in
set_option maxHeartbeats 2000000 in
theorem rt_67 (w : World) : Calls Tryz.prog 32 #[.int .i64 67] w (RAll (ftab 67) w) := by
  rw [show ftab 67 = some rs_response from by kernel_rfl]
  have HX := hide (fun W => r_response W)
  go_enter Tryz.func32, Tryz.ntmps32
  go_wp2_with (go_at_call 94; refine Calls.mono (HX.out _) ?_; rintro e w1 ⟨a, c, fs, rfl, h1, h2, h3⟩; have HH := hide (And.intro h2 h3); clear h2 h3)
  go_ret2
  exact ⟨a, c, fs, rfl, h1, HH.out.1, HH.out.2⟩
set_option maxRecDepth 100000 in
set_option maxHeartbeats 2000000 in
theorem rt_68 (w : World) : Calls Tryz.prog 32 #[.int .i64 68] w (RAll (ftab 68) w) := by
  rw [show ftab 68 = some rs_outcome from by kernel_rfl]
  have HX := hide (fun W => r_outcome W)
  go_enter Tryz.func32, Tryz.ntmps32
  go_wp2_with (go_at_call 95; refine Calls.mono (HX.out _) ?_; rintro e w1 ⟨a, c, fs, rfl, h1, h2, h3⟩; have HH := hide (And.intro h2 h3); clear h2 h3)
  go_ret2
  exact ⟨a, c, fs, rfl, h1, HH.out.1, HH.out.2⟩
set_option maxRecDepth 100000 in
set_option maxHeartbeats 2000000 in
theorem rt_112 (w : World) : Calls Tryz.prog 32 #[.int .i64 112] w (RAll (ftab 112) w) := by
  rw [show ftab 112 = some rs_header from by kernel_rfl]
  have HX := hide (fun W => r_header W)
  go_enter Tryz.func32, Tryz.ntmps32
  go_wp2_with (go_at_call 96; refine Calls.mono (HX.out _) ?_; rintro e w1 ⟨a, c, fs, rfl, h1, h2, h3⟩; have HH := hide (And.intro h2 h3); clear h2 h3)
  go_ret2
  exact ⟨a, c, fs, rfl, h1, HH.out.1, HH.out.2⟩
set_option maxRecDepth 100000 in
set_option maxHeartbeats 2000000 in
theorem rt_115 (w : World) : Calls Tryz.prog 32 #[.int .i64 115] w (RAll (ftab 115) w) := by
  rw [show ftab 115 = some rs_properties from by kernel_rfl]
  have HX := hide (fun W => r_properties W)
  go_enter Tryz.func32, Tryz.ntmps32
  go_wp2_with (go_at_call 97; refine Calls.mono (HX.out _) ?_; rintro e w1 ⟨a, c, fs, rfl, h1, h2, h3⟩; have HH := hide (And.intro h2 h3); clear h2 h3)
  go_ret2
  exact ⟨a, c, fs, rfl, h1, HH.out.1, HH.out.2⟩
set_option maxRecDepth 100000 in
set_option maxHeartbeats 2000000 in
theorem rt_36 (w : World) : Calls Tryz.prog 32 #[.int .i64 36] w (RAll (ftab 36) w) := by
  rw [show ftab 36 = some [] from by kernel_rfl]
  go_enter Tryz.func32, Tryz.ntmps32
  go_wp2_with fail
  go_ret2
  exact ⟨none, 0, [], rfl, ⟨rfl, fun h => absurd h (by simp), fun i h => absurd h (by simp)⟩, Nat.le_refl _, Below.refl _ _⟩
set_option maxRecDepth 100000 in
set_option maxHeartbeats 2000000 in
theorem rt_38 (w : World) : Calls Tryz.prog 32 #[.int .i64 38] w (RAll (ftab 38) w) := by
  rw [show ftab 38 = some [] from by kernel_rfl]
  go_enter Tryz.func32, Tryz.ntmps32
  go_wp2_with fail
  go_ret2
  exact ⟨none, 0, [], rfl, ⟨rfl, fun h => absurd h (by simp), fun i h => absurd h (by simp)⟩, Nat.le_refl _, Below.refl _ _⟩
set_option maxRecDepth 100000 in
set_option maxHeartbeats 2000000 in
theorem rt_49 (w : World) : Calls Tryz.prog 32 #[.int .i64 49] w (RAll (ftab 49) w) := by
  rw [show ftab 49 = some [] from by kernel_rfl]
  go_enter Tryz.func32, Tryz.ntmps32
  go_wp2_with fail
  go_ret2
  exact ⟨none, 0, [], rfl, ⟨rfl, fun h => absurd h (by simp), fun i h => absurd h (by simp)⟩, Nat.le_refl _, Below.refl _ _⟩
theorem ftab_no {kind : Int} (h : ∀ k ∈ [16, 17, 18, 19, 20, 21, 22, 23, 24, 29, 35, 37, 39, 40, 41, 48, 50, 51, 52, 64, 65, 66, 67, 68, 112, 115, 36, 38, 49], kind ≠ k) : ftab kind = none := by
  cases hf : ftab kind with
  | none => rfl
  | some fs =>
    exfalso
    unfold ftab at hf
    cases hq : ftabL.find? (fun p => p.1 == kind) with
    | none => rw [hq] at hf; cases hf
    | some p =>
      rw [hq] at hf
      have hk : p.1 = kind := by simpa using List.find?_some hq
      have h1 : ftabL.all (fun p => p.2.isNone || ([16, 17, 18, 19, 20, 21, 22, 23, 24, 29, 35, 37, 39, 40, 41, 48, 50, 51, 52, 64, 65, 66, 67, 68, 112, 115, 36, 38, 49] : List Int).contains p.1) = true := by kernel_rfl
      have h2 := List.all_eq_true.1 h1 p (List.mem_of_find?_eq_some hq)
      have h3 : p.2.isNone = false := by
        have h4 : p.2 = some fs := hf
        rw [h4]
        rfl
      rw [h3, Bool.false_or, hk] at h2
      exact h kind (by simpa using h2) rfl
set_option maxRecDepth 100000 in
set_option maxHeartbeats 8000000 in
theorem rtable_any (kind : Int) (w : World) : Calls Tryz.prog 32 #[.int .i64 kind] w (RAll (ftab kind) w) := by
  by_cases h16 : kind = 16
  · subst h16; exact rt_16 w
  by_cases h17 : kind = 17
  · subst h17; exact rt_17 w
  by_cases h18 : kind = 18
  · subst h18; exact rt_18 w
  by_cases h19 : kind = 19
  · subst h19; exact rt_19 w
  by_cases h20 : kind = 20
  · subst h20; exact rt_20 w
  by_cases h21 : kind = 21
  · subst h21; exact rt_21 w
  by_cases h22 : kind = 22
  · subst h22; exact rt_22 w
  by_cases h23 : kind = 23
  · subst h23; exact rt_23 w
  by_cases h24 : kind = 24
  · subst h24; exact rt_24 w
  by_cases h29 : kind = 29
  · subst h29; exact rt_29 w
  by_cases h35 : kind = 35
  · subst h35; exact rt_35 w
  by_cases h37 : kind = 37
  · subst h37; exact rt_37 w
  by_cases h39 : kind = 39
  · subst h39; exact rt_39 w
  by_cases h40 : kind = 40
  · subst h40; exact rt_40 w
  by_cases h41 : kind = 41
  · subst h41; exact rt_41 w
  by_cases h48 : kind = 48
  · subst h48; exact rt_48 w
  by_cases h50 : kind = 50
  · subst h50; exact rt_50 w
  by_cases h51 : kind = 51
  · subst h51; exact rt_51 w
  by_cases h52 : kind = 52
  · subst h52; exact rt_52 w
  by_cases h64 : kind = 64
  · subst h64; exact rt_64 w
  by_cases h65 : kind = 65
  · subst h65; exact rt_65 w
  by_cases h66 : kind = 66
  · subst h66; exact rt_66 w
  by_cases h67 : kind = 67
  · subst h67; exact rt_67 w
  by_cases h68 : kind = 68
  · subst h68; exact rt_68 w
  by_cases h112 : kind = 112
  · subst h112; exact rt_112 w
  by_cases h115 : kind = 115
  · subst h115; exact rt_115 w
  by_cases h36 : kind = 36
  · subst h36; exact rt_36 w
  by_cases h38 : kind = 38
  · subst h38; exact rt_38 w
  by_cases h49 : kind = 49
  · subst h49; exact rt_49 w
  rw [ftab_no (kind := kind) (fun k hk => by
    simp only [List.mem_cons, List.not_mem_nil, or_false] at hk
    rcases hk with rfl | rfl | rfl | rfl | rfl | rfl | rfl | rfl | rfl | rfl | rfl | rfl | rfl | rfl | rfl | rfl | rfl | rfl | rfl | rfl | rfl | rfl | rfl | rfl | rfl | rfl | rfl | rfl | rfl <;> assumption)]
  have b16 : (kind == 16) = false := by simpa using h16
  have b17 : (kind == 17) = false := by simpa using h17
  have b18 : (kind == 18) = false := by simpa using h18
  have b19 : (kind == 19) = false := by simpa using h19
  have b20 : (kind == 20) = false := by simpa using h20
  have b21 : (kind == 21) = false := by simpa using h21
  have b22 : (kind == 22) = false := by simpa using h22
  have b23 : (kind == 23) = false := by simpa using h23
  have b24 : (kind == 24) = false := by simpa using h24
  have b29 : (kind == 29) = false := by simpa using h29
  have b35 : (kind == 35) = false := by simpa using h35
  have b37 : (kind == 37) = false := by simpa using h37
  have b39 : (kind == 39) = false := by simpa using h39
  have b40 : (kind == 40) = false := by simpa using h40
  have b41 : (kind == 41) = false := by simpa using h41
  have b48 : (kind == 48) = false := by simpa using h48
  have b50 : (kind == 50) = false := by simpa using h50
  have b51 : (kind == 51) = false := by simpa using h51
  have b52 : (kind == 52) = false := by simpa using h52
  have b64 : (kind == 64) = false := by simpa using h64
  have b65 : (kind == 65) = false := by simpa using h65
  have b66 : (kind == 66) = false := by simpa using h66
  have b67 : (kind == 67) = false := by simpa using h67
  have b68 : (kind == 68) = false := by simpa using h68
  have b112 : (kind == 112) = false := by simpa using h112
  have b115 : (kind == 115) = false := by simpa using h115
  have b36 : (kind == 36) = false := by simpa using h36
  have b38 : (kind == 38) = false := by simpa using h38
  have b49 : (kind == 49) = false := by simpa using h49
  clear h16 h17 h18 h19 h20 h21 h22 h23 h24 h29 h35 h37 h39 h40 h41 h48 h50 h51 h52 h64 h65 h66 h67 h68 h112 h115 h36 h38 h49
  go_enter Tryz.func32, Tryz.ntmps32
  go_wp2_with fail
  go_ret2
  exact ⟨rfl, Below.refl _ _⟩
set_option maxRecDepth 100000 in
theorem rfields_any (kind : Int) (w : World) : Calls Tryz.prog 9 #[.int .i64 kind] w (RAll (ftab kind) w) := by
  have HX := hide (rtable_any kind w)
  cases hf : ftab kind with
  | none =>
    rw [hf] at HX
    go_enter Tryz.func9, Tryz.ntmps9
    go_wp2_with (go_at_call 32; refine Calls.mono HX.out ?_; rintro e w1 ⟨rfl, h3⟩)
    go_ret2
    exact ⟨rfl, h3⟩
  | some l =>
    rw [hf] at HX
    go_enter Tryz.func9, Tryz.ntmps9
    go_wp2_with (go_at_call 32; refine Calls.mono HX.out ?_; rintro e w1 ⟨a, c, fs, rfl, h1, h2, h3⟩; have HH := hide (And.intro h2 h3); clear h2 h3)
    go_ret2
    exact ⟨a, c, fs, rfl, h1, HH.out.1, HH.out.2⟩
end Go.Proofs.YtgldcchleoklcaaGreatDoor
