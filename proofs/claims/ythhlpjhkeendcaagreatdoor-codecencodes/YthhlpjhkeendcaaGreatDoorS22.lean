/- VOver, VOverW, VTurn2 -/
import Derived.Test.YthhlpjhkeendcaaGreatDoorS12
import Derived.Test.YthhlpjhkeendcaaGreatDoorS16
import Derived.Test.YthhlpjhkeendcaaGreatDoorS21
import Derived.Test.YthhlpjhkeendcaaGreatDoorS18
import Derived.Test.YthhlpjhkeendcaaGreatDoorS19
import Derived.Test.YthhlpjhkeendcaaGreatDoorS07
import Derived.Test.YthhlpjhkeendcaaGreatDoorS14
import Derived.Test.YthhlpjhkeendcaaGreatDoorS17
import Derived.Test.YthhlpjhkeendcaaGreatDoorS08
namespace Go.Proofs.YthhlpjhkeendcaaGreatDoor
open Go.RowKit
set_option linter.unusedVariables false
set_option linter.unusedSimpArgs false
theorem put5_set {w : World} {b : Nat} {l : List V} {y : V} {t : TypeId} {m j : Nat} (h : Blk w b t m) (hr : Row w b 0 l) (hj : j < l.length) (hm : l.length * 5 ≤ m) : Row (put5 w b (j * 5) y) b 0 (l.set j y) := by
  intro i hi
  have hi' : i < l.length := by simpa using hi
  by_cases h1 : i = j
  · subst h1
    rw [List.getElem_set_self]
    simp only [Nat.zero_add]
    have hm5 : i * 5 + 5 ≤ m := by omega
    exact ⟨put5_cell h hm5 0 (by omega), put5_cell h hm5 1 (by omega), put5_cell h hm5 2 (by omega), put5_cell h hm5 3 (by omega), put5_cell h hm5 4 (by omega)⟩
  · rw [List.getElem_set_ne (by omega)]
    obtain ⟨h0, h2, h3, h4, h5⟩ := hr i hi'
    have hs : ∀ q, q < 5 → (put5 w b (j * 5) y).cell? ⟨b, 0 + i * 5 + q, none⟩ = w.cell? ⟨b, 0 + i * 5 + q, none⟩ := fun q hq =>
      World.cell?_setCells_out b (words y) _ w _ (fun _ _ => by simp [words]; omega)
    exact ⟨(hs 0 (by omega)).trans h0, (hs 1 (by omega)).trans h2, (hs 2 (by omega)).trans h3, (hs 3 (by omega)).trans h4, (hs 4 (by omega)).trans h5⟩
def OverOk (y : V) : Prop := ∀ (v : V) (lo hi : Nat) (Q : Nat → Prop) (w : World), Lent w y lo hi → hi ≤ w.heap.size → LiesIn Q w v → (∀ b, Q b → b < w.heap.size ∧ ¬ (lo ≤ b ∧ b < hi)) → v.t = T.turn y.t →
  Calls Tryz.prog 13 #[.slice y.a y.l.length y.c, .slice v.a v.l.length v.c] w fun e w' => e = .returned (.tuple #[]) ∧ Hid (∃ l' : List V, l'.length = y.l.length ∧ V.ts l' = V.ts v.l ∧ Lent w' (V.of y.k y.n y.s y.a y.c y.e l') lo hi) ∧ Turns lo hi w w'
structure OverSoFar (l m : List V) (g : Nat → Nat) (b lo hi j : Nat) (w wr : World) (lr : List V) : Prop where
  turns : Turns lo hi w wr
  blk : Blk wr b 25 ((l.length + 3) * 5)
  len : lr.length = l.length
  row : Row wr b 0 (lr ++ marks l.length)
  lent : ∀ i (h : i < lr.length), Lent wr lr[i] (g i) (g (i + 1))
  done : ∀ i (h : i < lr.length) (h' : i < m.length), i < j → lr[i].t = m[i].t
  rest : ∀ i (h : i < lr.length) (h' : i < l.length), j ≤ i → lr[i] = l[i]
theorem OverSoFar.next {l m : List V} {g : Nat → Nat} {b lo hi j : Nat} {w wr w1 : World} {lr : List V} {z : V} (h : OverSoFar l m g b lo hi j w wr lr) (hg : ∀ i (h : i < l.length), Lent w l[i] (g i) (g (i + 1))) (h0 : b < g 0) (hgh : g l.length ≤ hi) (hlo : lo ≤ b) (hhi : hi ≤ w.heap.size) (hj : j < l.length) (hjm : j < m.length)
    (h1 : Turns (g j) (g (j + 1)) wr w1) (hz : Lent w1 z (g j) (g (j + 1))) (hzt : z.t = m[j].t) : OverSoFar l m g b lo hi (j + 1) w (put5 w1 b (j * 5) z) (lr.set j z) := by
  have hm := g_mono hg
  have hsz := h.turns.size
  have hlen := h.len
  have gj := hm j (by omega) 0 (by omega)
  have gj1 := hm l.length (Nat.le_refl _) (j + 1) (by omega)
  have gr := (hg j hj).rise
  have hb : b < hi := by omega
  have hw1 : Turns lo hi wr w1 := h1.wide (by omega) (by omega)
  have hk1 : Blk w1 b 25 ((l.length + 3) * 5) := by
    obtain ⟨cs, q1, q2⟩ := h.blk
    exact ⟨cs, (h1.block b (by omega) (by omega)).trans q1, q2⟩
  have hr1 : Row w1 b 0 (lr ++ marks l.length) := h.row.same (h1.same (by omega) (by omega))
  refine ⟨(h.turns.trans hw1).put5 hlo hb _ _, put5_blk hk1 _ _, by simp [hlen], ?_, fun i hi' => ?_, fun i hi' hm' hij => ?_, fun i hi' hl' hij => ?_⟩
  · have := put5_set (y := z) hk1 hr1 (j := j) (by rw [List.length_append]; omega) (by simp [marks, hlen])
    rwa [List.set_append_left _ _ (by omega)] at this
  · have hi2 : i < lr.length := by simpa using hi'
    have keep : ∀ (v : V) lo' hi'', b < lo' → Lent w1 v lo' hi'' → Lent (put5 w1 b (j * 5) z) v lo' hi'' := fun v lo' hi'' q hv => hv.keep (fun b' o q1 q2 q3 => by rw [heap_put5 _ _ _ _ _ (by omega)]; exact q3)
    by_cases e : i = j
    · subst e
      rw [List.getElem_set_self]
      exact keep _ _ _ (by omega) hz
    · rw [List.getElem_set_ne (by omega)]
      have gi := hm i (by omega) 0 (by omega)
      have gi1 := hm l.length (Nat.le_refl _) (i + 1) (by omega)
      refine keep _ _ _ (by omega) ((h.lent i hi2).keep (fun b' o q1 q2 q3 => (h1.block b' (by omega) ?_).trans q3))
      by_cases lt : i < j
      · have := hm j (by omega) (i + 1) (by omega)
        omega
      · have := hm i (by omega) (j + 1) (by omega)
        omega
  · have hi2 : i < lr.length := by simpa using hi'
    by_cases e : i = j
    · subst e
      rw [List.getElem_set_self]
      exact hzt
    · rw [List.getElem_set_ne (by omega)]
      exact h.done i hi2 hm' (by omega)
  · have hi2 : i < lr.length := by simpa using hi'
    rw [List.getElem_set_ne (by omega)]
    exact h.rest i hi2 hl' (by omega)
theorem OverSoFar.alloc {l m : List V} {g : Nat → Nat} {b lo hi j : Nat} {w wr : World} {lr : List V} (h : OverSoFar l m g b lo hi j w wr lr) (o : Obj) : OverSoFar l m g b lo hi j w (wr.alloc o) lr := by
  have hb := bel1 (Below.refl wr.heap.size wr) (Nat.le_refl _) o
  exact ⟨h.turns.trans (Turns.of_below hb), h.blk.below hb h.blk.lt, h.len, h.row.below hb h.blk.lt, fun i hi => (h.lent i hi).keep (fun b' o' _ _ q => (hb.block b' (Array.getElem?_eq_some_iff.1 q).1).trans q), h.done, h.rest⟩
theorem Lent.other {W : World} {k n : Int} {s : ByteArray} {a : Option Addr} {c : Nat} {e : Int} {l : List V} {lo hi : Nat} {k' n' : Int} {s' : ByteArray} {e' : Int} (h : Lent W (V.of k n s a c e l) lo hi) (ok : Ok k' n' s' c e' l.length) : Lent W (V.of k' n' s' a c e' l) lo hi := by
  obtain ⟨b, q1, q2, q3, q4, q5, q6, g, q7, q8, q9⟩ := (Lent.iff _ _ _ _ _ _ _ _ _ _).1 h
  exact (Lent.iff _ _ _ _ _ _ _ _ _ _).2 ⟨b, q1, q2, q3, ok, q5, q6, g, q7, q8, q9⟩
theorem Lent.ok {W : World} {k n : Int} {s : ByteArray} {a : Option Addr} {c : Nat} {e : Int} {l : List V} {lo hi : Nat} (h : Lent W (V.of k n s a c e l) lo hi) : Ok k n s c e l.length := by
  obtain ⟨b, q1, q2, q3, q4, _⟩ := (Lent.iff _ _ _ _ _ _ _ _ _ _).1 h
  exact q4
theorem V.t_acc (v : V) : v.t = T.of v.k v.n v.s v.e (V.ts v.l) := by
  obtain ⟨k, n, s, a, c, e, l, rfl⟩ := V.ex v
  rw [V.t_of, V.l_of]
  rfl
theorem LiesIn.acc {Q : Nat → Prop} {W : World} {v : V} (h : LiesIn Q W v) : Ok v.k v.n v.s v.c v.e v.l.length := by
  obtain ⟨k, n, s, a, c, e, l, rfl⟩ := V.ex v
  rw [V.l_of]
  exact h.ok
theorem ts_eq {l m : List V} (h : l.length = m.length) (ht : ∀ i (h1 : i < l.length) (h2 : i < m.length), l[i].t = m[i].t) : V.ts l = V.ts m := by
  rw [V.ts_map, V.ts_map]
  refine List.ext_getElem (by simp [h]) (fun i h1 h2 => ?_)
  simp only [List.getElem_map]
  exact ht i (by simpa using h1) (by simpa using h2)
set_option maxRecDepth 100000 in
set_option maxHeartbeats 2000000 in
theorem over_any : ∀ y, OverOk y := by
  refine V.ind ?_
  intro k n s a c e l ih v lo hi Q w hy hhi hv hQ ht
  obtain ⟨k', n', s', ma, mc, e', m, rfl⟩ := V.ex v
  rw [V.t_of, V.t_of, T.turn_of] at ht
  obtain ⟨_, _, _, _, _, _, htl⟩ := V.of_inj ht
  clear ht
  have hr := hy.rise
  obtain ⟨b, h1, rfl, rfl, ok, h5, h6, g, h7, h8, h9⟩ := (Lent.iff _ _ _ _ _ _ _ _ _ _).1 hy
  have hlen : m.length = l.length := by simpa [V.ts_length] using congrArg List.length htl
  have hmo := g_mono h9
  have hg0 := hmo l.length (Nat.le_refl _) 0 (by omega)
  have hbw : b < w.heap.size := by omega
  have HM := hide htl
  have HV := hide hv
  have HQ := hide hQ
  have IH := hide ih
  have HG := hide h9
  have OK := hide ok
  have o2 := ok.c
  have HMO := hide hmo
  have H0 : Hid (∃ lr, OverSoFar l m g b lo hi 0 w w lr) := ⟨l, Turns.refl _ _ _, h5, rfl, h6, h9, fun i _ _ q => by omega, fun i _ _ _ => rfl⟩
  clear hv hy ih h5 h6 h9 hQ htl hmo ok
  rw [V.l_of, V.l_of, V.a_of, V.c_of, V.a_of, V.c_of, hlen]
  go_enter Tryz.func13, Tryz.ntmps13
  go_wp2
  go_loopw [4] (fun i wr => ∃ (j : Nat), i = .int .i64 j ∧ j ≤ l.length ∧ Hid (∃ lr, OverSoFar l m g b lo hi j w wr lr)) (fun i _ => l.length - (intOf i).toNat)
  case atStart => exact ⟨0, rfl, Nat.zero_le _, H0⟩
  case round =>
    obtain ⟨j, rfl, hj, HS⟩ := hrel
    by_cases hjl : j < l.length
    · obtain ⟨lr, S⟩ := HS.out
      have hsz := S.turns.size
      have hlr := S.len
      have hf := S.blk.free
      have hej : lr[j]'(by omega) = l[j] := S.rest j (by omega) hjl (Nat.le_refl _)
      obtain ⟨x0, x1, x2, x3, x4⟩ := S.row j (by rw [List.length_append]; omega)
      rw [List.getElem_append_left (by omega), hej, Nat.zero_add] at x0 x1 x2 x3 x4
      obtain ⟨mb, mo, rfl, hqb, mr⟩ := HV.out.row (by omega)
      have hqm := HQ.out mb hqb
      obtain ⟨y0, y1, y2, y3, y4⟩ := (mr.same (S.turns.same hqm.1 hqm.2)) j (by omega)
      have hmlt : mb < wr.heap.size := by omega
      have hblt : b < wr.heap.size := by omega
      have hne : mb ≠ b := by omega
      have gg0 := HMO.out j (by omega) 0 (by omega)
      have gg1 := HMO.out l.length (Nat.le_refl _) (j + 1) (by omega)
      have htj : m[j].t = T.turn l[j].t := by
        have e := HM.out
        rw [V.ts_map, V.ts_map] at e
        have e1 : (m.map V.t)[j]? = ((l.map V.t).map T.turn)[j]? := by rw [e]
        rw [List.getElem?_map, List.getElem?_map, List.getElem?_map, List.getElem?_eq_getElem hjl, List.getElem?_eq_getElem (by omega)] at e1
        simpa using e1
      have hlj : Lent wr l[j] (g j) (g (j + 1)) := by have := S.lent j (by omega); rwa [hej] at this
      have hmj : LiesIn Q wr m[j] := (HV.out.sub _ (List.getElem_mem _)).keep (fun b' hb' o' => S.turns.same (HQ.out b' hb').1 (HQ.out b' hb').2 o') (fun _ h => h)
      have hx := IH.out l[j] (List.getElem_mem hjl) m[j] (g j) (g (j + 1)) Q wr hlj (by omega) hmj (fun b' hb' => by have := HQ.out b' hb'; exact ⟨by omega, by omega⟩) htj
      have HX := hide hx
      have HLJ := hide hlj
      have HMJ := hide hmj
      have HS' := hide S
      have HMR := hide mr
      have hlmj : m[j].l.length ≤ 2199023255552 := by
        obtain ⟨k1, n1, s1, a1, c1, e1, l1, he1⟩ := V.ex m[j]
        have q := hmj
        rw [he1] at q
        rw [he1, V.l_of]
        exact q.ok.c
      have hllj : l[j].l.length ≤ 2199023255552 := by
        obtain ⟨k1, n1, s1, a1, c1, e1, l1, he1⟩ := V.ex l[j]
        have q := hlj.lies
        rw [he1] at q
        rw [he1, V.l_of]
        exact q.ok.c
      clear hx hlj hmj S mr hej
      go_wp2_with fail
      refine Calls.mono HX.out ?_
      rintro e1 w1 ⟨rfl, HL1, ht1⟩
      have hs1 := ht1.size
      have hk1 : Blk w1 b 25 ((l.length + 3) * 5) := by
        obtain ⟨cs, q1, q2⟩ := HS'.out.blk
        exact ⟨cs, (ht1.block b (by omega) (by omega)).trans q1, q2⟩
      clear x0 x1 x2 x3 x4 hf
      obtain ⟨z0, c0⟩ := hk1.some (j * 5) (by omega)
      obtain ⟨z1, c1⟩ := hk1.some (j * 5 + 1) (by omega)
      obtain ⟨z2, c2⟩ := hk1.some (j * 5 + 2) (by omega)
      obtain ⟨z3, c3⟩ := hk1.some (j * 5 + 3) (by omega)
      obtain ⟨z4, c4⟩ := hk1.some (j * 5 + 4) (by omega)
      have hf1 := hk1.free
      have hsm := ht1.same hmlt (by omega)
      have y0' := (hsm _).trans y0
      have y1' := (hsm _).trans y1
      have y2' := (hsm _).trans y2
      have y3' := (hsm _).trans y3
      have y4' := (hsm _).trans y4
      clear y0 y1 y2 y3 y4 hsm
      have hblt1 : b < w1.heap.size := by omega
      have hmlt1 : mb < w1.heap.size := by omega
      have HK1 := hide hk1
      have HT1 := hide ht1
      clear hk1 ht1
      go_wp2
      obtain ⟨l1, e1, e2, e3⟩ := HL1.out
      have okm := HMJ.out.acc
      have okl := e3.ok
      have HZ : OverSoFar l m g b lo hi (j + 1) w (put5 w1 b (j * 5) (V.of m[j].k m[j].n m[j].s l[j].a l[j].c m[j].e l1)) (lr.set j (V.of m[j].k m[j].n m[j].s l[j].a l[j].c m[j].e l1)) :=
        HS'.out.next HG.out h7 h8 h1 hhi hjl (by omega) HT1.out (e3.other ⟨okm.k, okm.n, okm.s, okm.e, okl.l, okl.c⟩) (by rw [V.t_of, e2]; exact (V.t_acc m[j]).symm)
      rw [← put5_of, e1] at HZ
      have HZZ := hide HZ
      clear HZ
      go_roundw
      case rel => exact ⟨j + 1, by go_num, hjl, _, HZZ.out.alloc _⟩
      case measure => simp [intOf]; omega
    · obtain rfl : j = l.length := by omega
      go_wp2
      go_end0
      obtain ⟨lr, S⟩ := HS.out
      refine ⟨rfl, ⟨lr, S.len, ts_eq (by have := S.len; omega) (fun i h1 h2 => S.done i h1 h2 (by have := S.len; omega)), ?_⟩, S.turns⟩
      refine (Lent.iff _ _ _ _ _ _ _ _ _ _).2 ⟨b, h1, rfl, by rw [S.len], ?_, by rw [S.len]; exact S.blk, by rw [S.len]; exact S.row, g, h7, by rw [S.len]; exact h8, S.lent⟩
      rw [S.len]
      exact OK.out
structure Turn2 (p q r s : Nat) (w w' : World) : Prop where
  os : w'.os = w.os
  tape : w'.tape = w.tape
  output : w'.output = w.output
  size : w.heap.size ≤ w'.heap.size
  block : ∀ k, k < w.heap.size → ¬ (p ≤ k ∧ k < q) → ¬ (r ≤ k ∧ k < s) → w'.heap[k]? = w.heap[k]?
theorem BoxV.num {w : World} {b : Nat} {y : V} (h : BoxV w b y) (n : Int) {l : List V} (hl : l.length = y.l.length) : BoxV (w.setCell ⟨b, 1, none⟩ (.int .u64 n)) b (V.of y.k n y.s y.a y.c y.e l) := by
  unfold BoxV at h ⊢
  rw [V.k_of, V.n_of, V.s_of, V.a_of, V.c_of, V.e_of, V.l_of, hl]
  simp [World.setCell, Array.getElem?_modify, h]
theorem BoxV.blk {w : World} {b : Nat} {y : V} (h : BoxV w b y) : Blk w b 25 5 := ⟨_, h, rfl⟩
theorem Turns.box {p q : Nat} {a w : World} (h : Turns p q a w) {b : Nat} {v : V} (hx : BoxV a b v) (h1 : ¬ (p ≤ b ∧ b < q)) : BoxV w b v := (h.block b hx.lt h1).trans hx
end Go.Proofs.YthhlpjhkeendcaaGreatDoor
