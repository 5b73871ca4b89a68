
/- Stage 19: begins, file, Same. -/
import Derived.Test.YtgkdecjlanbmhaaDLaw
import Derived.Laws.ResultCell
namespace Go.Proofs.Ytgkdecjlanbmhaa
open Go.RowKit Go.MuLone
set_option linter.unusedVariables false
set_option linter.unusedSimpArgs false
set_option maxHeartbeats 1000000 in
theorem begins_yes (a b : ByteArray) (hle : a.size ≤ b.size) (he : b.extract 0 a.size = a) (hz : b.size ≤ 281474976710656) (w : World) : Calls Try.prog 24 #[.string a, .string b] w fun e w' => e = .returned (.bool true) ∧ w' = w := by
  have hl : (a.size : Int) ≤ (b.size : Int) := by omega
  have HE := hide he
  clear he hle
  go_enter Try.func24, Try.ntmps24
  go_wp2
  go_ret
  exact ⟨by rw [HE.out]; simp, rfl⟩
/-- a file that is told, in its row -/
def fV (o : Fo) : Value := if o.2.oneCell' then o.2 else .slice none 0 0
theorem fV_slice {B : Nat} {w : World} {o : Fo} {l : List Nat} (h : Ob B w o.2 l) : fV o = o.2 := by
  obtain ⟨a, c, e, _⟩ := h.slice
  unfold fV
  rw [e]
  rfl
theorem Wy.elem {w : World} {base : Nat} {v : Value} {W : List Fo} (h : Wy FK w base v W) (i : Nat) (hi : i < W.length) : ∃ g off cap, v = .slice (some ⟨g, off, none⟩) W.length cap ∧ W.length ≤ cap ∧ cap ≤ maxLen ∧ g < w.heap.size ∧
    w.cell? ⟨g, off + i * 3, none⟩ = some (.string W[i].1.1) ∧ w.cell? ⟨g, off + i * 3 + 1, none⟩ = some (fV W[i]) ∧ w.cell? ⟨g, off + i * 3 + 2, none⟩ = some (.int .i64 (W[i].1.2.2 : Int)) := by
  rcases h with ⟨_, rfl⟩ | ⟨g, off, cap, cur, rfl, h1, h2, h3, h4, h5, h6⟩
  · simp at hi
  · have hget : ∀ (l : List Fo) (i q : Nat) (hi : i < l.length), q < 3 → (l.flatMap fEnc)[i * 3 + q]? = (fEnc l[i])[q]? := fun l => by
      induction l with
      | nil => intro i q hi; simp at hi
      | cons x l ih =>
        intro i q hi hq
        have hlen : (fEnc x).length = 3 := rfl
        cases i with
        | zero => rw [List.flatMap_cons, List.getElem?_append_left (by rw [hlen]; omega)]; simp
        | succ i =>
          rw [List.flatMap_cons, List.getElem?_append_right (by rw [hlen]; omega), hlen, show (i + 1) * 3 + q - 3 = i * 3 + q by omega, ih i q (by simpa using hi) hq]
          simp
    have c : ∀ q u, q < 3 → (fEnc W[i])[q]? = some u → w.cell? ⟨g, off + (i * 3 + q), none⟩ = some u := fun q u hq hu => h6 (i * 3 + q) u ((hget W i q hi hq).trans hu)
    exact ⟨g, off, cap, rfl, h2, h3, (Array.getElem?_eq_some_iff.1 h4).1, c 0 _ (by omega) rfl, c 1 _ (by omega) rfl, c 2 _ (by omega) rfl⟩
set_option maxHeartbeats 2000000 in
set_option maxRecDepth 100000 in
theorem file_yes (w : World) (base : Nat) (v : Value) (W : List Fo) (hw : Wy FK w base v W) (k : ByteArray) (i0 : Nat) (hi : i0 < W.length) (hk : W[i0].1.1 = k) (hne : ∀ j (h : j < i0), W[j].1.1 ≠ k) (ua : Option Addr) (un uc : Nat) (hv : fV W[i0] = .slice ua un uc) :
    Calls Try.prog 23 #[v, .string k] w fun e w' => e = .returned (.tuple #[.agg #[.string k, .slice ua un uc, .int .i64 (W[i0].1.2.2 : Int)], .bool true]) ∧ Below w.heap.size w w' := by
  obtain ⟨g, off, cap, rfl, hc1, hc2, hg, _⟩ := hw.elem i0 hi
  have HW := hide hw
  have HNE := hide hne
  have HK := hide hk
  have HV := hide hv
  clear hw hne hk hv
  obtain ⟨W1, hW1⟩ : ∃ W1, W1 = w.alloc (.cells #[.string ⟨#[]⟩, .slice none 0 0, .int .i64 0] 44) := ⟨_, rfl⟩
  have hb1 : Below w.heap.size w W1 := by rw [hW1]; exact bel1 (Below.refl _ _) (Nat.le_refl _) _
  have hB1 : W1.heap[w.heap.size]? = some (.cells #[.string ⟨#[]⟩, .slice none 0 0, .int .i64 0] 44 (0, 0)) := by rw [hW1]; exact heap_new _ _
  have t0 := cellOf hB1 0 (.string ⟨#[]⟩) rfl
  have t1 := cellOf hB1 1 (.slice none 0 0) rfl
  have t2 := cellOf hB1 2 (.int .i64 0) rfl
  have f0 := frozen_of hB1 0
  have f1 := frozen_of hB1 1
  have f2 := frozen_of hB1 2
  have hgs : g ≠ w.heap.size := by omega
  have HB1 := hide hb1
  have HBb := hide hB1
  have HCL : Hid (∀ j (h : j < W.length), W1.cell? ⟨g, off + j * 3, none⟩ = some (.string W[j].1.1) ∧ W1.cell? ⟨g, off + j * 3 + 1, none⟩ = some (fV W[j]) ∧ W1.cell? ⟨g, off + j * 3 + 2, none⟩ = some (.int .i64 (W[j].1.2.2 : Int))) := fun j h => by
    obtain ⟨g', off', cap', e, _, _, _, r0, r1, r2⟩ := HW.out.elem j h
    simp only [Value.slice.injEq, Option.some.injEq, Addr.mk.injEq] at e
    obtain ⟨⟨rfl, rfl, _⟩, _, rfl⟩ := e
    exact ⟨(hb1.cell (p := ⟨g, _, none⟩) hg).trans r0, (hb1.cell (p := ⟨g, _, none⟩) hg).trans r1, (hb1.cell (p := ⟨g, _, none⟩) hg).trans r2⟩
  have hwl : W.length ≤ 9223372036854775807 := Nat.le_trans hc1 hc2
  have HW1 := hide hW1
  clear hb1 hB1 hW1
  go_enter Try.func23, Try.ntmps23
  go_wp2_with (first | (rw [← HW1.out]; refine Shut.out ?_))
  unfold Shut
  go_wp2
  go_loop [6] (fun vi => ∃ j : Nat, j ≤ i0 ∧ vi = .int .i64 j) (fun vi => W.length - (intOf vi).toNat)
  case atStart => exact ⟨0, Nat.zero_le _, rfl⟩
  case round =>
    obtain ⟨j, hj, rfl⟩ := hrel
    have hjl : j < W.length := by omega
    obtain ⟨r0, r1, r2⟩ := HCL.out j hjl
    by_cases e : j = i0
    · subst e
      rw [HK.out] at r0
      rw [HV.out] at r1
      obtain ⟨s0, hs0⟩ : ∃ s0, s0 = W[j].1.2.2 := ⟨_, rfl⟩
      rw [← hs0] at r2
      have HS0 := hide hs0
      clear hs0
      go_wp2
      try simp only [Exit.inBlock, Exit.then]
      have hD : ((((W1.setCell ⟨w.heap.size, 0, none⟩ (.string k)).setCell ⟨w.heap.size, 1, none⟩ (.slice ua un uc)).setCell ⟨w.heap.size, 2, none⟩ (.int .i64 (s0 : Int)))).heap[w.heap.size]? = some (.cells #[.string k, .slice ua un uc, .int .i64 (s0 : Int)] 44 (0, 0)) := blk_set (blk_set (blk_set HBb.out 0 (.string k)) 1 (.slice ua un uc)) 2 _
      have d0 := cellOf hD 0 (.string k) rfl
      have d1 := cellOf hD 1 (.slice ua un uc) rfl
      have d2 := cellOf hD 2 (.int .i64 (s0 : Int)) rfl
      have HBD : Hid (Below w.heap.size w (((W1.setCell ⟨w.heap.size, 0, none⟩ (.string k)).setCell ⟨w.heap.size, 1, none⟩ (.slice ua un uc)).setCell ⟨w.heap.size, 2, none⟩ (.int .i64 (s0 : Int)))) := ((HB1.out.setCell (Nat.le_refl _) _).setCell (Nat.le_refl _) _).setCell (Nat.le_refl _) _
      refine bodyPost_ret (v := .tuple #[.agg #[.string k, .slice ua un uc, .int .i64 (s0 : Int)], .bool true]) (by simp [results, Try.results23, go_sem, d0, d1, d2]) rfl ⟨by rw [← HS0.out], HBD.out⟩
    · have hne : (W[j].1.1.toList == k.toList) = false := by rw [str_eq]; exact decide_eq_false (HNE.out j (by omega))
      obtain ⟨s, hs⟩ : ∃ s, s = W[j].1.1 := ⟨_, rfl⟩
      rw [← hs] at r0 hne
      clear hs r1 r2
      go_wp2
      go_round
      case rel => exact ⟨j + 1, by omega, by go_num⟩
      case measure => simp [intOf]; omega
set_option maxHeartbeats 4000000 in
set_option maxRecDepth 100000 in
theorem same_yes (w : World) (b1 b2 : Nat) (v u : Value) (W U : List Fo) (hw : Wy FK w b1 v W) (hu : Wy FK w b2 u U) (he : W.map (·.1) = U.map (·.1)) (t1 : Told b1 w W) (t2 : Told b2 w U) :
    Calls Try.prog 18 #[v, u] w fun e w' => e = .returned (.bool true) ∧ Below w.heap.size w w' := by
  have hl : W.length = U.length := by have := congrArg List.length he; simpa using this
  obtain ⟨va, vc, rfl⟩ := hw.shape
  obtain ⟨ua, uc, rfl⟩ := hu.shape
  have HE : Hid (∀ j (h : j < W.length) (h2 : j < U.length), U[j].1 = W[j].1) := fun j h h2 => by
    have e := congrArg (fun l => l[j]?) he
    simp only [List.getElem?_map, List.getElem?_eq_getElem h, List.getElem?_eq_getElem h2, Option.map_some, Option.some.injEq] at e
    exact e.symm
  have HW := hide hw
  have HU := hide hu
  have HT1 := hide t1
  have HT2 := hide t2
  have HL := hide hl
  have hul : (Value.slice ua U.length uc) = .slice ua W.length uc := by rw [hl]
  rw [hul]
  have hwl : W.length ≤ 9223372036854775807 := by
    by_cases h0 : 0 < W.length
    · obtain ⟨g, off, cap, _, h1, h2, _⟩ := hw.elem 0 h0
      exact Nat.le_trans h1 h2
    · omega
  have HCAP : Hid (0 < W.length → W.length ≤ vc ∧ W.length ≤ uc) := fun h0 => by
    obtain ⟨g, off, cap, e, h1, h2, _⟩ := hw.elem 0 h0
    obtain ⟨g', off', cap', e', h1', h2', _⟩ := hu.elem 0 (by omega)
    simp only [Value.slice.injEq] at e e'
    obtain ⟨_, _, rfl⟩ := e
    obtain ⟨_, _, rfl⟩ := e'
    omega
  clear hw hu he t1 t2 hl hul
  go_enter Try.func18, Try.ntmps18
  go_wp2
  go_loopw [5] (fun vi wr => (∃ j : Nat, j ≤ W.length ∧ vi = .int .i64 j) ∧ Below w.heap.size w wr) (fun vi _ => W.length - (intOf vi).toNat)
  case atStart => exact ⟨⟨0, Nat.zero_le _, rfl⟩, Below.refl _ _⟩
  case round =>
    obtain ⟨⟨j, hj, rfl⟩, hb⟩ := hrel
    have HB := hide hb
    clear hb
    by_cases hjl : j < W.length
    · have hj2 : j < U.length := by rw [← HL.out]; exact hjl
      have hEj := HE.out j hjl hj2
      obtain ⟨g, off, cap, e, hc1, hc2, hg, r0, r1, r2⟩ := HW.out.elem j hjl
      obtain ⟨g', off', cap', e', hc1', hc2', hg', s0, s1, s2⟩ := HU.out.elem j hj2
      simp only [Value.slice.injEq] at e e'
      obtain ⟨rfl, _, rfl⟩ := e
      obtain ⟨rfl, _, rfl⟩ := e'
      have o1 := HT1.out.own _ (List.getElem_mem hjl)
      have o2 := HT2.out.own _ (List.getElem_mem hj2)
      rw [fV_slice o1] at r1
      rw [fV_slice o2] at s1
      rw [hEj] at s0 s2 o2
      obtain ⟨p, hp⟩ : ∃ p, p = W[j].1 := ⟨_, rfl⟩
      rw [← hp] at r0 r2 s0 s2 o1 o2
      obtain ⟨a1, k1, e1, _⟩ := o1.slice
      obtain ⟨a2, k2, e2, _⟩ := o2.slice
      rw [e1] at r1 o1
      rw [e2] at s1 o2
      have hd1 : Rb wr (.slice a1 p.2.1.length k1) p.2.1 := (o1.rb).below (HB.out)
      have hd2 : Rb wr (.slice a2 p.2.1.length k2) p.2.1 := (o2.rb).below (HB.out)
      have hcv1 : ∀ W' : World, W'.heap = wr.heap → (convert 34 9 (.slice a1 p.2.1.length k1)).run Try.prog W' = .ok (.string (mkS p.2.1)) W' := fun W' hh => by
        obtain ⟨a, c, e, _, _, hr⟩ := hd1
        simp only [Value.slice.injEq] at e
        obtain ⟨rfl, _, rfl⟩ := e
        refine conv_any (n := p.2.1.length) ⟨hr.1, hr.2.1, fun h0 => ?_⟩ _
        obtain ⟨b, off, e1, e2, e3⟩ := hr.2.2 h0
        exact ⟨b, off, e1, by rw [hh]; exact e2, fun j hj => by have := e3 j hj; unfold World.cell? at this ⊢; rw [hh]; exact this⟩
      have hcv2 : ∀ W' : World, W'.heap = wr.heap → (convert 34 9 (.slice a2 p.2.1.length k2)).run Try.prog W' = .ok (.string (mkS p.2.1)) W' := fun W' hh => by
        obtain ⟨a, c, e, _, _, hr⟩ := hd2
        simp only [Value.slice.injEq] at e
        obtain ⟨rfl, _, rfl⟩ := e
        refine conv_any (n := p.2.1.length) ⟨hr.1, hr.2.1, fun h0 => ?_⟩ _
        obtain ⟨b, off, e1, e2, e3⟩ := hr.2.2 h0
        exact ⟨b, off, e1, by rw [hh]; exact e2, fun j hj => by have := e3 j hj; unfold World.cell? at this ⊢; rw [hh]; exact this⟩
      have x0 := (HB.out.cell (p := ⟨g, off + j * 3, none⟩) hg).trans r0
      have x1 := (HB.out.cell (p := ⟨g, off + j * 3 + 1, none⟩) hg).trans r1
      have x2 := (HB.out.cell (p := ⟨g, off + j * 3 + 2, none⟩) hg).trans r2
      have y0 := (HB.out.cell (p := ⟨g', off' + j * 3, none⟩) hg').trans s0
      have y1 := (HB.out.cell (p := ⟨g', off' + j * 3 + 1, none⟩) hg').trans s1
      have y2 := (HB.out.cell (p := ⟨g', off' + j * 3 + 2, none⟩) hg').trans s2
      have z1 := hcv1 wr.drew rfl
      have z2 := hcv2 wr.drew rfl
      obtain ⟨q, hq⟩ : ∃ q, q = mkS p.2.1 := ⟨_, rfl⟩
      obtain ⟨n, hn⟩ : ∃ n, n = p.2.1.length := ⟨_, rfl⟩
      obtain ⟨ps, hps⟩ : ∃ ps, ps = p.1 := ⟨_, rfl⟩
      obtain ⟨pz, hpz⟩ : ∃ pz, pz = p.2.2 := ⟨_, rfl⟩
      rw [← hn] at x1 y1
      rw [← hn, ← hq] at z1 z2
      rw [← hps] at x0 y0
      rw [← hpz] at x2 y2
      clear r0 r1 r2 s0 s1 s2 o1 o2 hd1 hd2 hcv1 hcv2 hp e1 e2 hq hn hps hpz hEj
      go_wp2_with fail
      go_region_held (fun V => V.cell? ⟨g, off + j * 3, none⟩ = some (.string ps) ∧ V.cell? ⟨g, off + j * 3 + 1, none⟩ = some (.slice a1 n k1) ∧ V.cell? ⟨g, off + j * 3 + 2, none⟩ = some (.int .i64 (pz : Int)) ∧ V.cell? ⟨g', off' + j * 3, none⟩ = some (.string ps) ∧ V.cell? ⟨g', off' + j * 3 + 1, none⟩ = some (.slice a2 n k2) ∧ V.cell? ⟨g', off' + j * 3 + 2, none⟩ = some (.int .i64 (pz : Int)) ∧ (convert 34 9 (.slice a1 n k1)).run Try.prog V = .ok (.string q) V ∧ (convert 34 9 (.slice a2 n k2)).run Try.prog V = .ok (.string q) V) (exact ⟨x0, x1, x2, y0, y1, y2, z1, z2⟩) (fail)
      go_wp2
      exact ⟨⟨⟨j + 1, by omega, by go_num⟩, Below.drew HB.out⟩, by simp [intOf]; omega⟩
    · have e : j = W.length := by omega
      subst e
      go_wp2
      go_ret
      exact ⟨rfl, HB.out⟩
end Go.Proofs.Ytgkdecjlanbmhaa
