
/- slices.SortFunc of entries, by the queue's order. -/
import Derived.Test.YtnbhifakfehefaaKOver
import Derived.Test.YtnbhifakfehefaaSort
import Derived.Maps.RangeWalk
import Derived.StringKeys
import Derived.OwnWalk
namespace Go.Proofs.Ytnbhifakfehefaa
open Go.RowKit Go.Sort Go.Lib
set_option linter.unusedVariables false
set_option linter.unusedSimpArgs false
theorem grow3 (w : World) (o1 o2 o3 : Obj) : ((w.alloc o1).alloc o2).drew.alloc o3 = Go.Sort.grow (w.drewN 1) #[o1, o2, o3] := by
  have e : (((w.heap.push o1).push o2).push o3) = w.heap ++ #[o1, o2, o3] := by
    apply Array.toList_inj.1
    simp
  show ({ (w.drewN 1) with heap := ((w.heap.push o1).push o2).push o3 } : World) = { (w.drewN 1) with heap := w.heap ++ #[o1, o2, o3] }
  rw [e]
set_option maxRecDepth 100000 in
set_option maxHeartbeats 4000000 in
theorem order_grow (a b : It) (w : World) : Calls Try.prog 35 #[a.ent, b.ent] w fun e w' => e = .returned (.int .i64 (ordZ a b)) ∧ ∃ q os', w' = Go.Sort.grow (w.drewN q) os' := by
  have HCM : Hid (∀ (x y : Int) (w1 : World), Calls Try.prog 53 #[.int .i64 x, .int .i64 y] w1 fun e w' => e = .returned (.int .i64 (Lib.compareInt x y)) ∧ w' = w1) := fun x y w1 => Try.cmp_Compare_int x y w1
  unfold It.ent
  obtain ⟨W0, hW0⟩ : ∃ W0, (w.alloc (Obj.cells #[.int .i64 a.seq, .int .i64 a.pri, .int .i64 a.exp, .bool a.dur, .int .i64 a.cnt, .int .i64 a.hol, a.dat] 37)).alloc (Obj.cells #[.int .i64 b.seq, .int .i64 b.pri, .int .i64 b.exp, .bool b.dur, .int .i64 b.cnt, .int .i64 b.hol, b.dat] 37) = W0 := ⟨_, rfl⟩
  have e0 : W0.heap[w.heap.size]? = some (.cells #[.int .i64 a.seq, .int .i64 a.pri, .int .i64 a.exp, .bool a.dur, .int .i64 a.cnt, .int .i64 a.hol, a.dat] 37 (0, 0)) := by rw [← hW0]; exact heap_past (heap_new _ _) _
  have e1 : W0.heap[w.heap.size + 1]? = some (.cells #[.int .i64 b.seq, .int .i64 b.pri, .int .i64 b.exp, .bool b.dur, .int .i64 b.cnt, .int .i64 b.hol, b.dat] 37 (0, 0)) := by
    rw [← hW0]
    have := heap_new (w.alloc (Obj.cells #[.int .i64 a.seq, .int .i64 a.pri, .int .i64 a.exp, .bool a.dur, .int .i64 a.cnt, .int .i64 a.hol, a.dat] 37)) (Obj.cells #[.int .i64 b.seq, .int .i64 b.pri, .int .i64 b.exp, .bool b.dur, .int .i64 b.cnt, .int .i64 b.hol, b.dat] 37)
    simpa using this
  have hb0 : Below w.heap.size w W0 := by rw [← hW0]; exact bel1 (bel1 (Below.refl _ _) (Nat.le_refl _) _) (by simp) _
  have hs0 : W0.heap.size = w.heap.size + 2 := by rw [← hW0]; simp
  have HW0 := hide hW0
  have HSK : Hid (∀ W1 : World, (∀ k, k < W0.heap.size → W1.heap[k]? = W0.heap[k]?) → W1.cell? ⟨w.heap.size, 0, none⟩ = some (.int .i64 a.seq) ∧ W1.cell? ⟨w.heap.size, 1, none⟩ = some (.int .i64 a.pri) ∧ W1.cell? ⟨w.heap.size + 1, 0, none⟩ = some (.int .i64 b.seq) ∧ W1.cell? ⟨w.heap.size + 1, 1, none⟩ = some (.int .i64 b.pri)) := fun W1 h => by
    have f0 := (h _ (by omega)).trans e0
    have f1 := (h _ (by omega)).trans e1
    refine ⟨?_, ?_, ?_, ?_⟩ <;> simp [World.cell?, f0, f1]
  have hmx : Try.prog.follows .mixedOrders = true := by kernel_rfl
  have HS0 := hide (HSK.out W0.drew (fun k hk => rfl))
  have HEA : Hid (Below w.heap.size w (W0.drew.alloc (Obj.cells #[.int .i64 (Lib.compareInt b.pri a.pri), .int .i64 (Lib.compareInt a.seq b.seq)] 3))) := bel1 hb0.drew (by show w.heap.size ≤ W0.heap.size; omega) _
  have HGR : Hid (∃ os', W0.drew.alloc (Obj.cells #[.int .i64 (Lib.compareInt b.pri a.pri), .int .i64 (Lib.compareInt a.seq b.seq)] 3) = Go.Sort.grow (w.drewN 1) os') := by
    show ∃ os', _ = _
    rw [← hW0]
    exact ⟨_, grow3 _ _ _ _⟩
  have HS1 := hide (HSK.out (W0.drew.alloc (Obj.cells #[.int .i64 (Lib.compareInt b.pri a.pri), .int .i64 (Lib.compareInt a.seq b.seq)] 3)) (fun k hk => ((Below.refl W0.drew.heap.size W0.drew).alloc (Nat.le_refl _) _).block k hk))
  have HOR : Hid (Calls Try.prog 52 #[.slice (some ⟨W0.heap.size, 0, none⟩) 2 2] (W0.drew.alloc (Obj.cells #[.int .i64 (Lib.compareInt b.pri a.pri), .int .i64 (Lib.compareInt a.seq b.seq)] 3)) fun e w' => e = .returned (.int .i64 (ordZ a b)) ∧ w' = W0.drew.alloc (Obj.cells #[.int .i64 (Lib.compareInt b.pri a.pri), .int .i64 (Lib.compareInt a.seq b.seq)] 3)) := by
    have hh := heap_new W0.drew (Obj.cells #[.int .i64 (Lib.compareInt b.pri a.pri), .int .i64 (Lib.compareInt a.seq b.seq)] 3)
    have hh' : (W0.drew.alloc (Obj.cells #[.int .i64 (Lib.compareInt b.pri a.pri), .int .i64 (Lib.compareInt a.seq b.seq)] 3)).heap[W0.heap.size]? = some (Obj.cells #[.int .i64 (Lib.compareInt b.pri a.pri), .int .i64 (Lib.compareInt a.seq b.seq)] 3) := hh
    exact or_two W0.heap.size 2 _ _ _ (by simp only [World.cell?, hh']; rfl) (by simp only [World.cell?, hh']; rfl) (Nat.le_refl _)
  clear e0 e1 hb0 hW0 hs0
  go_enter Try.func35, Try.ntmps35
  go_wp2_with fail
  rw [HW0.out]
  go_region_held (fun W1 => W1.cell? ⟨w.heap.size, 0, none⟩ = some (.int .i64 a.seq) ∧ W1.cell? ⟨w.heap.size, 1, none⟩ = some (.int .i64 a.pri) ∧ W1.cell? ⟨w.heap.size + 1, 0, none⟩ = some (.int .i64 b.seq) ∧ W1.cell? ⟨w.heap.size + 1, 1, none⟩ = some (.int .i64 b.pri)) (first | exact HS0.out | exact HS1.out) (first | (go_at_call 53; refine Calls.mono (HCM.out _ _ _) ?_; rintro e w' ⟨rfl, rfl⟩) | (go_at_call 52; refine Calls.mono HOR.out ?_; rintro e w' ⟨rfl, rfl⟩))
  go_wp2
  go_ret
  exact ⟨rfl, 1, HGR.out⟩
def Ev.cf (x y : Ev) : Int := ordZ x.it y.it
theorem ev_one (x : Ev) : ∀ u ∈ x.enc, u.oneCell' = true := ekOk.ones x
theorem ev_swo : SWO (ltOf Ev.cf) where
  irrefl x := by
    unfold ltOf Ev.cf
    have h := ordZ_neg x.it x.it
    unfold Ahead at h
    simp only [decide_eq_false_iff_not, h]
    omega
  trans x y z h1 h2 := by
    unfold ltOf Ev.cf at *
    simp only [decide_eq_true_eq, ordZ_neg, Ahead] at *
    omega
  ntrans x y z h1 h2 := by
    unfold ltOf Ev.cf at *
    simp only [decide_eq_false_iff_not, ordZ_neg, Ahead] at *
    omega
theorem Try.aggE : ∀ w, (isAgg 37).run Try.prog w = .ok true w := fun w => by first | exact Try.isAgg37 w | rfl
theorem Try.sizE : ∀ w, (Go.sizeOf 37).run Try.prog w = .ok 7 w := fun w => by first | exact Try.sizeOf37 w | rfl
theorem ev_cmp (w : World) (blk off size : Nat) [Inhabited Ev] : CmpLays Try.prog 35 #[] Ev.enc 7 Ev.cf blk off size w := fun m os dk hdk x y => order_grow x.it y.it _
def ev0 : Ev := ⟨0, 0, 0, false, 0, 0, none, 0, 0⟩
set_option maxRecDepth 100000 in
theorem sorte_any (ks : List Ev) (base blk off cap : Nat) (w : World) (hw : Wy EK w base (.slice (some ⟨blk, off, none⟩) ks.length cap) ks) (hsz : ks.length ≤ 4096) :
    Calls Try.prog 34 #[.slice (some ⟨blk, off, none⟩) ks.length cap, .func (.func 35) #[] #[]] w fun e w' => e = .returned (.tuple #[]) ∧ ∃ ks' : List Ev, ks'.Perm ks ∧ (∀ i j (hi : i < ks'.length) (hj : j < ks'.length), i < j → 0 ≤ Ev.cf ks'[j] ks'[i]) ∧ Wy EK w' base (.slice (some ⟨blk, off, none⟩) ks.length cap) ks' ∧ Kp (fun k => k = blk) w w' := by
  haveI : Inhabited Ev := ⟨ev0⟩
  rcases hw with ⟨e, _⟩ | ⟨g, off', cap', cur, e, h1, h2, h3, hb, h5, hr⟩
  · cases e
  cases e
  have hlt : blk < w.heap.size := (Array.getElem?_eq_some_iff.1 hb).1
  obtain ⟨d, hdd⟩ : ∃ d : Array Ev, d = ks.toArray := ⟨_, rfl⟩
  have hd : d.size = ks.length := by rw [hdd]; simp
  have hlen : ∀ x : Ev, x.enc.length = 7 := fun x => rfl
  have hget : ∀ (l : List Ev) (i q : Nat) (hi : i < l.length), q < 7 → (l.flatMap Ev.enc)[i * 7 + q]? = (l[i].enc)[q]? := fun l => by
    induction l with
    | nil => intro i q hi; simp at hi
    | cons x l ih =>
      intro i q hi hq
      cases i with
      | zero => rw [List.flatMap_cons, List.getElem?_append_left (by rw [hlen]; omega)]; simp
      | succ i =>
        rw [List.flatMap_cons, List.getElem?_append_right (by rw [hlen]; omega), hlen, show (i + 1) * 7 + q - 7 = i * 7 + q by omega, ih i q (by simpa using hi) hq]
        simp
  have hH : HoldsK Ev.enc 7 w blk off d := by
    intro j hj
    have hj' : j < ks.length * 7 := by simpa [hd] using hj
    refine ⟨?_, by simp [World.frozen?, hb]⟩
    rw [get_flatK _ _ _ _ (by simpa [hd] using hj')]
    have hq : j % 7 < 7 := Nat.mod_lt _ (by decide)
    have hi : j / 7 < ks.length := by omega
    have e := hget ks (j / 7) (j % 7) hi hq
    rw [show j / 7 * 7 + j % 7 = j by omega] at e
    have hdi : d[j / 7]! = ks[j / 7] := by
      rw [getElem!_pos d (j / 7) (by omega)]
      subst hdd
      simp
    show w.cell? ⟨blk, off + j, none⟩ = some ((Ev.enc (d[j / 7]!))[j % 7]!)
    rw [hdi]
    refine hr j _ (e.trans ?_)
    rw [getElem!_pos _ _ (by rw [hlen]; exact hq)]
    exact List.getElem?_eq_getElem _
  have hcon := Try.slices_SortFuncE Try.aggE Try.sizE Ev.enc hlen ev_one Ev.cf ev_swo 35 #[] blk off cap d w (enters_of Try.func35 (by kernel_rfl) rfl) (ev_cmp w blk off d.size) hH hlt (by omega)
  rw [hd] at hcon
  refine hcon.mono ?_
  rintro e w' ⟨rfl, d', n, os, hp, hs, hw'⟩
  obtain ⟨hp1, hp2, hp3⟩ := hp
  have hd' : d'.size = ks.length := by omega
  have hH' := holdsK_sortWorldK_c Ev.enc 7 w blk off d d' n os hH hlt hp1
  have hsw := size_sortWorldK_c Ev.enc 7 w blk off n d' os
  have hbl : ∃ cur', (sortWorldK Ev.enc 7 w blk off n d' os).heap[blk]? = some (.cells cur' 37 (0, 0)) ∧ cur'.size = cur.size := by
    unfold sortWorldK
    have hs' : (putRowK Ev.enc 7 (Sort.ahead w n) blk off d').heap.size = w.heap.size := by unfold putRowK; simp [Sort.ahead]
    rw [heap_grow_old _ _ (by rw [hs']; exact hlt)]
    unfold putRowK putRow mapBlock
    simp only [Array.getElem?_modify, Sort.ahead, hb]
    simp only [if_true, Option.map_some, onCells]
    exact ⟨_, rfl, by unfold putCells; simp⟩
  have hkp : Kp (fun k => k = blk) w (sortWorldK Ev.enc 7 w blk off n d' os) := by
    refine ⟨rfl, rfl, rfl, hsw, fun k hk hne => ?_⟩
    unfold sortWorldK
    have hs' : (putRowK Ev.enc 7 (Sort.ahead w n) blk off d').heap.size = w.heap.size := by unfold putRowK; simp [Sort.ahead]
    rw [heap_grow_old _ _ (by rw [hs']; exact hk)]
    unfold putRowK putRow mapBlock
    simp [Array.getElem?_modify, Sort.ahead, Ne.symm hne]
  rw [← hw'] at hH' hbl hkp
  clear hw'
  have hdl : d'.toList.length = ks.length := by simpa using hd'
  refine ⟨rfl, d'.toList, ?_, fun i j hi hj hij => ?_, ?_, hkp⟩
  · have e1 : (d'.extract 0 ks.length) = d' := by rw [← hd']; simp
    have e2 : (d.extract 0 ks.length) = d := by rw [← hd]; simp
    rw [e1, e2] at hp3
    have h5 : d.toList = ks := by rw [hdd]
    rw [← h5]
    exact hp3
  · have hi' : i < d'.size := by simpa using hi
    have hj' : j < d'.size := by simpa using hj
    have := hs i j (Nat.zero_le _) hij (by omega)
    unfold ltOf at this
    rw [getElem!_pos d' i hi', getElem!_pos d' j hj'] at this
    simp at this
    simpa using this
  · obtain ⟨cur', hb', hsz'⟩ := hbl
    refine .inr ⟨blk, off, cap, cur', by rw [hdl], h1, by rw [hdl]; exact h2, h3, hb', by rw [hsz']; exact h5, fun j u hu => ?_⟩
    have hfl : (d'.toList.flatMap Ev.enc).length = d'.toList.length * 7 := ekOk.all d'.toList
    have hjl : j < d'.toList.length * 7 := by rw [← hfl]; exact (List.getElem?_eq_some_iff.1 hu).1
    have hi : j / 7 < d'.size := by rw [hd', ← hdl]; omega
    have hq : j % 7 < 7 := Nat.mod_lt _ (by decide)
    have c := (hH'.cell hi hq).1
    have e := hget d'.toList (j / 7) (j % 7) (by simpa using hi) hq
    rw [show j / 7 * 7 + j % 7 = j by omega] at e
    have hu' : (d'.toList[j / 7]'(by simpa using hi)).enc[j % 7]? = some u := e.symm.trans hu
    rw [getElem!_pos d' (j / 7) hi] at c
    have : (Ev.enc d'[j / 7])[j % 7]! = u := by
      rw [getElem!_pos _ _ (by rw [hlen]; exact hq)]
      have h9 := (List.getElem?_eq_some_iff.1 hu').2
      simpa using h9
    rw [this] at c
    have h10 : off + j / 7 * 7 + j % 7 = off + j := by omega
    first
      | (rw [h10] at c; exact c)
      | (rw [← h10]; simpa [Nat.mul_comm] using c)
end Go.Proofs.Ytnbhifakfehefaa
