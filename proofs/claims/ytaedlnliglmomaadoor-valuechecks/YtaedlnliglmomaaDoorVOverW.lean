/- longshoreref02's Over: its walk. -/
import Derived.Test.YtaedlnliglmomaaDoorVOver
namespace Go.Proofs.YtaedlnliglmomaaDoor
open Go.RowKit
set_option linter.unusedVariables false
set_option linter.unusedSimpArgs false

set_option maxRecDepth 100000 in
set_option maxHeartbeats 2000000 in
theorem over_any : ∀ y, OverOk y := by
  refine V.ind ?_
  intro k n s a c e l ih v lo hi Q w hy hhi hv hQ ht
  obtain ⟨k', n', s', ma, mc, e', m, rfl⟩ := V.ex v
  rw [V.t_of, V.t_of, T.turn_of] at ht
  obtain ⟨_, _, _, _, _, _, htl⟩ := V.of_inj ht
  clear ht
  have hr := hy.rise
  obtain ⟨b, h1, rfl, rfl, ok, h5, h6, g, h7, h8, h9⟩ := (Lent.iff _ _ _ _ _ _ _ _ _ _).1 hy
  have hlen : m.length = l.length := by simpa [V.ts_length] using congrArg List.length htl
  have hmo := g_mono h9
  have hg0 := hmo l.length (Nat.le_refl _) 0 (by omega)
  have hbw : b < w.heap.size := by omega
  have HM := hide htl
  have HV := hide hv
  have HQ := hide hQ
  have IH := hide ih
  have HG := hide h9
  have OK := hide ok
  have o2 := ok.c
  have HMO := hide hmo
  have H0 : Hid (∃ lr, OverSoFar l m g b lo hi 0 w w lr) := ⟨l, Turns.refl _ _ _, h5, rfl, h6, h9, fun i _ _ q => by omega, fun i _ _ _ => rfl⟩
  clear hv hy ih h5 h6 h9 hQ htl hmo ok
  rw [V.l_of, V.l_of, V.a_of, V.c_of, V.a_of, V.c_of, hlen]
  go_enter Tryd.func14, Tryd.ntmps14
  go_wp2
  go_loopw [4] (fun i wr => ∃ (j : Nat), i = .int .i64 j ∧ j ≤ l.length ∧ Hid (∃ lr, OverSoFar l m g b lo hi j w wr lr)) (fun i _ => l.length - (intOf i).toNat)
  case atStart => exact ⟨0, rfl, Nat.zero_le _, H0⟩
  case round =>
    obtain ⟨j, rfl, hj, HS⟩ := hrel
    by_cases hjl : j < l.length
    · obtain ⟨lr, S⟩ := HS.out
      have hsz := S.turns.size
      have hlr := S.len
      have hf := S.blk.free
      have hej : lr[j]'(by omega) = l[j] := S.rest j (by omega) hjl (Nat.le_refl _)
      obtain ⟨x0, x1, x2, x3, x4⟩ := S.row j (by rw [List.length_append]; omega)
      rw [List.getElem_append_left (by omega), hej, Nat.zero_add] at x0 x1 x2 x3 x4
      obtain ⟨mb, mo, rfl, hqb, mr⟩ := HV.out.row (by omega)
      have hqm := HQ.out mb hqb
      obtain ⟨y0, y1, y2, y3, y4⟩ := (mr.same (S.turns.same hqm.1 hqm.2)) j (by omega)
      have hmlt : mb < wr.heap.size := by omega
      have hblt : b < wr.heap.size := by omega
      have hne : mb ≠ b := by omega
      have gg0 := HMO.out j (by omega) 0 (by omega)
      have gg1 := HMO.out l.length (Nat.le_refl _) (j + 1) (by omega)
      have htj : m[j].t = T.turn l[j].t := by
        have e := HM.out
        rw [V.ts_map, V.ts_map] at e
        have e1 : (m.map V.t)[j]? = ((l.map V.t).map T.turn)[j]? := by rw [e]
        rw [List.getElem?_map, List.getElem?_map, List.getElem?_map, List.getElem?_eq_getElem hjl, List.getElem?_eq_getElem (by omega)] at e1
        simpa using e1
      have hlj : Lent wr l[j] (g j) (g (j + 1)) := by have := S.lent j (by omega); rwa [hej] at this
      have hmj : LiesIn Q wr m[j] := (HV.out.sub _ (List.getElem_mem _)).keep (fun b' hb' o' => S.turns.same (HQ.out b' hb').1 (HQ.out b' hb').2 o') (fun _ h => h)
      have hx := IH.out l[j] (List.getElem_mem hjl) m[j] (g j) (g (j + 1)) Q wr hlj (by omega) hmj (fun b' hb' => by have := HQ.out b' hb'; exact ⟨by omega, by omega⟩) htj
      have HX := hide hx
      have HLJ := hide hlj
      have HMJ := hide hmj
      have HS' := hide S
      have HMR := hide mr
      have hlmj : m[j].l.length ≤ 2199023255552 := by
        obtain ⟨k1, n1, s1, a1, c1, e1, l1, he1⟩ := V.ex m[j]
        have q := hmj
        rw [he1] at q
        rw [he1, V.l_of]
        exact q.ok.c
      have hllj : l[j].l.length ≤ 2199023255552 := by
        obtain ⟨k1, n1, s1, a1, c1, e1, l1, he1⟩ := V.ex l[j]
        have q := hlj.lies
        rw [he1] at q
        rw [he1, V.l_of]
        exact q.ok.c
      clear hx hlj hmj S mr hej
      go_wp2_with fail
      refine Calls.mono HX.out ?_
      rintro e1 w1 ⟨rfl, HL1, ht1⟩
      have hs1 := ht1.size
      have hk1 : Blk w1 b 25 ((l.length + 3) * 5) := by
        obtain ⟨cs, q1, q2⟩ := HS'.out.blk
        exact ⟨cs, (ht1.block b (by omega) (by omega)).trans q1, q2⟩
      clear x0 x1 x2 x3 x4 hf
      obtain ⟨z0, c0⟩ := hk1.some (j * 5) (by omega)
      obtain ⟨z1, c1⟩ := hk1.some (j * 5 + 1) (by omega)
      obtain ⟨z2, c2⟩ := hk1.some (j * 5 + 2) (by omega)
      obtain ⟨z3, c3⟩ := hk1.some (j * 5 + 3) (by omega)
      obtain ⟨z4, c4⟩ := hk1.some (j * 5 + 4) (by omega)
      have hf1 := hk1.free
      have hsm := ht1.same hmlt (by omega)
      have y0' := (hsm _).trans y0
      have y1' := (hsm _).trans y1
      have y2' := (hsm _).trans y2
      have y3' := (hsm _).trans y3
      have y4' := (hsm _).trans y4
      clear y0 y1 y2 y3 y4 hsm
      have hblt1 : b < w1.heap.size := by omega
      have hmlt1 : mb < w1.heap.size := by omega
      have HK1 := hide hk1
      have HT1 := hide ht1
      clear hk1 ht1
      go_wp2
      obtain ⟨l1, e1, e2, e3⟩ := HL1.out
      have okm := HMJ.out.acc
      have okl := e3.ok
      have HZ : OverSoFar l m g b lo hi (j + 1) w (put5 w1 b (j * 5) (V.of m[j].k m[j].n m[j].s l[j].a l[j].c m[j].e l1)) (lr.set j (V.of m[j].k m[j].n m[j].s l[j].a l[j].c m[j].e l1)) :=
        HS'.out.next HG.out h7 h8 h1 hhi hjl (by omega) HT1.out (e3.other ⟨okm.k, okm.n, okm.s, okm.e, okl.l, okl.c⟩) (by rw [V.t_of, e2]; exact (V.t_acc m[j]).symm)
      rw [← put5_of, e1] at HZ
      have HZZ := hide HZ
      clear HZ
      go_roundw
      case rel => exact ⟨j + 1, by go_num, hjl, _, HZZ.out.alloc _⟩
      case measure => simp [intOf]; omega
    · obtain rfl : j = l.length := by omega
      go_wp2
      go_end0
      obtain ⟨lr, S⟩ := HS.out
      refine ⟨rfl, ⟨lr, S.len, ts_eq (by have := S.len; omega) (fun i h1 h2 => S.done i h1 h2 (by have := S.len; omega)), ?_⟩, S.turns⟩
      refine (Lent.iff _ _ _ _ _ _ _ _ _ _).2 ⟨b, h1, rfl, by rw [S.len], ?_, by rw [S.len]; exact S.blk, by rw [S.len]; exact S.row, g, h7, by rw [S.len]; exact h8, S.lent⟩
      rw [S.len]
      exact OK.out
end Go.Proofs.YtaedlnliglmomaaDoor
