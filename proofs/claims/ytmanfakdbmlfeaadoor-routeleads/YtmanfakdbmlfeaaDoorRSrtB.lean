
/- Stage 18: slices.SortFunc of bindings, by byPattern. -/
import Derived.Test.YtmanfakdbmlfeaaDoorRDrop
import Derived.Test.YtmanfakdbmlfeaaDoorRCmpS
import Derived.Test.YtmanfakdbmlfeaaDoorSort
namespace Go.Proofs.YtmanfakdbmlfeaaDoor
open Go.RowKit Go.Sort Go.Lib
set_option linter.unusedVariables false
set_option linter.unusedSimpArgs false
set_option maxHeartbeats 2000000 in
theorem or_two (g c : Nat) (x y : Int) (w : World) (h0 : w.cell? ⟨g, 0, none⟩ = some (.int .i64 x)) (h1 : w.cell? ⟨g, 1, none⟩ = some (.int .i64 y)) (hc : 2 ≤ c) :
    Calls Tryd.prog 55 #[.slice (some ⟨g, 0, none⟩) 2 c] w fun e w' => e = .returned (.int .i64 (lex x y)) ∧ w' = w := by
  by_cases hx : x = 0
  · subst hx
    by_cases hy : y = 0
    · subst hy
      go_enter Tryd.func55, Tryd.ntmps55
      go_wp2
      go_rounds 3
      all_goals first | (go_ret; exact ⟨rfl, rfl⟩) | (go_wp2; go_ret; exact ⟨rfl, rfl⟩)
    · have hb : (y == 0) = false := by rw [beq_eq_false_iff_ne]; exact hy
      have e : lex 0 y = y := by simp [lex]
      rw [e]
      go_enter Tryd.func55, Tryd.ntmps55
      go_wp2
      go_rounds 3
      all_goals first | (go_ret; exact ⟨rfl, rfl⟩) | (go_wp2; go_ret; exact ⟨rfl, rfl⟩)
  · have hb : (x == 0) = false := by rw [beq_eq_false_iff_ne]; exact hx
    have e : lex x y = x := by simp [lex, hx]
    rw [e]
    go_enter Tryd.func55, Tryd.ntmps55
    go_wp2
    go_rounds 3
    all_goals first | (go_ret; exact ⟨rfl, rfl⟩) | (go_wp2; go_ret; exact ⟨rfl, rfl⟩)
theorem grow3 (w : World) (o1 o2 o3 : Obj) : ((w.alloc o1).alloc o2).drew.alloc o3 = Go.Sort.grow (w.drewN 1) #[o1, o2, o3] := by
  have e : (((w.heap.push o1).push o2).push o3) = w.heap ++ #[o1, o2, o3] := by
    apply Array.toList_inj.1
    simp
  show ({ (w.drewN 1) with heap := ((w.heap.push o1).push o2).push o3 } : World) = { (w.drewN 1) with heap := w.heap ++ #[o1, o2, o3] }
  rw [e]
def bEnc (b : Bd) : List Value := [.string b.1, .string b.2]
def BK : WK Bd := ⟨bEnc, 2, 32, 36, 31⟩
theorem Tryd.infoB : ∃ i z, Tryd.prog.info? 36 = some i ∧ i.zero = some z ∧ z.cells.size = 2 ∧ i.size = 2 ∧ i.bytes = 32 := by
  have h : (Tryd.prog.info? 36).map (fun i => (i.zero, i.size, i.bytes)) = some (some (.agg #[.string ByteArray.empty, .string ByteArray.empty]), 2, 32) := by kernel_rfl
  obtain ⟨i, h1, h2, h3, h4⟩ := info_parts h
  exact ⟨i, _, h1, h2, rfl, h3, h4⟩
theorem bkOk : BK.Ok := ⟨fun x => rfl, fun x u hu => by
  simp only [BK, bEnc, List.mem_cons, List.not_mem_nil, or_false] at hu
  rcases hu with rfl | rfl <;> rfl, Tryd.underlying31, Tryd.infoB, by decide, by decide, by decide⟩
def bCf (x y : Bd) : Int := lex (cmpB x.1.toList y.1.toList) (cmpB x.2.toList y.2.toList)
theorem tri_b (x y z : Bd) : Tri (bCf x y) (bCf y z) (bCf x z) := tri_lex (tri_cmpB _ _ _) (tri_cmpB _ _ _)
theorem neg_b (x y : Bd) : bCf y x = - bCf x y := by
  unfold bCf lex
  rw [neg_cmpB x.1.toList y.1.toList, neg_cmpB x.2.toList y.2.toList]
  by_cases h : cmpB x.1.toList y.1.toList = 0
  · simp [h]
  · rw [if_neg h, if_neg (by omega)]
theorem b_swo : SWO (ltOf bCf) where
  irrefl x := by
    unfold ltOf
    have := neg_b x x
    simp
    omega
  trans x y z h1 h2 := by
    unfold ltOf at *
    have := tri_b x y z
    unfold Tri at this
    simp at *
    omega
  ntrans x y z h1 h2 := by
    unfold ltOf at *
    have := tri_b x y z
    unfold Tri at this
    simp at *
    omega
theorem b_one (x : Bd) : ∀ u ∈ bEnc x, u.oneCell' = true := bkOk.ones x
theorem Tryd.aggB : ∀ w, (isAgg 36).run Tryd.prog w = .ok true w := fun w => by first | exact Tryd.isAgg36 w | rfl
theorem Tryd.sizB : ∀ w, (Go.sizeOf 36).run Tryd.prog w = .ok 2 w := fun w => by first | exact Tryd.sizeOf36 w | rfl
set_option maxRecDepth 100000 in
set_option maxHeartbeats 4000000 in
theorem byPattern_grow (a b : Bd) (w : World) : Calls Tryd.prog 38 #[.agg #[.string a.1, .string a.2], .agg #[.string b.1, .string b.2]] w fun e w' => e = .returned (.int .i64 (bCf a b)) ∧ ∃ q os', w' = Go.Sort.grow (w.drewN q) os' := by
  have HCM : Hid (∀ (x y : ByteArray) (w1 : World), Calls Tryd.prog 56 #[.string x, .string y] w1 fun e w' => e = .returned (.int .i64 (cmpB x.toList y.toList)) ∧ w1 = w') := fun x y w1 => cmp_str x y w1
  obtain ⟨a1, a2⟩ := a
  obtain ⟨b1, b2⟩ := b
  show Calls Tryd.prog 38 #[.agg #[.string a1, .string a2], .agg #[.string b1, .string b2]] w fun e w' => e = .returned (.int .i64 (lex (cmpB a1.toList b1.toList) (cmpB a2.toList b2.toList))) ∧ ∃ q os', w' = Go.Sort.grow (w.drewN q) os'
  obtain ⟨W0, hW0⟩ : ∃ W0, (w.alloc (Obj.cells #[.string a1, .string a2] 36)).alloc (Obj.cells #[.string b1, .string b2] 36) = W0 := ⟨_, rfl⟩
  have e0 : W0.heap[w.heap.size]? = some (.cells #[.string a1, .string a2] 36 (0, 0)) := by rw [← hW0]; exact heap_past (heap_new _ _) _
  have e1 : W0.heap[w.heap.size + 1]? = some (.cells #[.string b1, .string b2] 36 (0, 0)) := by
    rw [← hW0]
    have := heap_new (w.alloc (Obj.cells #[.string a1, .string a2] 36)) (Obj.cells #[.string b1, .string b2] 36)
    simpa using this
  have hs0 : W0.heap.size = w.heap.size + 2 := by rw [← hW0]; simp
  have HW0 := hide hW0
  have HSK : Hid (∀ W1 : World, (∀ k, k < W0.heap.size → W1.heap[k]? = W0.heap[k]?) → W1.cell? ⟨w.heap.size, 0, none⟩ = some (.string a1) ∧ W1.cell? ⟨w.heap.size, 1, none⟩ = some (.string a2) ∧ W1.cell? ⟨w.heap.size + 1, 0, none⟩ = some (.string b1) ∧ W1.cell? ⟨w.heap.size + 1, 1, none⟩ = some (.string b2)) := fun W1 h => by
    have f0 := (h _ (by omega)).trans e0
    have f1 := (h _ (by omega)).trans e1
    refine ⟨?_, ?_, ?_, ?_⟩ <;> simp [World.cell?, f0, f1]
  have hmx : Tryd.prog.follows .mixedOrders = true := by kernel_rfl
  have HS0 := hide (HSK.out W0.drew (fun k hk => rfl))
  have HGR : Hid (∃ os', W0.drew.alloc (Obj.cells #[.int .i64 (cmpB a1.toList b1.toList), .int .i64 (cmpB a2.toList b2.toList)] 3) = Go.Sort.grow (w.drewN 1) os') := by
    show ∃ os', _ = _
    rw [← hW0]
    exact ⟨_, grow3 _ _ _ _⟩
  have HS1 := hide (HSK.out (W0.drew.alloc (Obj.cells #[.int .i64 (cmpB a1.toList b1.toList), .int .i64 (cmpB a2.toList b2.toList)] 3)) (fun k hk => ((Below.refl W0.drew.heap.size W0.drew).alloc (Nat.le_refl _) _).block k hk))
  have HOR : Hid (Calls Tryd.prog 55 #[.slice (some ⟨W0.heap.size, 0, none⟩) 2 2] (W0.drew.alloc (Obj.cells #[.int .i64 (cmpB a1.toList b1.toList), .int .i64 (cmpB a2.toList b2.toList)] 3)) fun e w' => e = .returned (.int .i64 (lex (cmpB a1.toList b1.toList) (cmpB a2.toList b2.toList))) ∧ w' = W0.drew.alloc (Obj.cells #[.int .i64 (cmpB a1.toList b1.toList), .int .i64 (cmpB a2.toList b2.toList)] 3)) := by
    have hh := heap_new W0.drew (Obj.cells #[.int .i64 (cmpB a1.toList b1.toList), .int .i64 (cmpB a2.toList b2.toList)] 3)
    have hh' : (W0.drew.alloc (Obj.cells #[.int .i64 (cmpB a1.toList b1.toList), .int .i64 (cmpB a2.toList b2.toList)] 3)).heap[W0.heap.size]? = some (Obj.cells #[.int .i64 (cmpB a1.toList b1.toList), .int .i64 (cmpB a2.toList b2.toList)] 3) := hh
    exact or_two W0.heap.size 2 _ _ _ (by simp only [World.cell?, hh']; rfl) (by simp only [World.cell?, hh']; rfl) (Nat.le_refl _)
  clear e0 e1 hW0 hs0
  go_enter Tryd.func38, Tryd.ntmps38
  go_wp2_with fail
  rw [HW0.out]
  go_region_held (fun W1 => W1.cell? ⟨w.heap.size, 0, none⟩ = some (.string a1) ∧ W1.cell? ⟨w.heap.size, 1, none⟩ = some (.string a2) ∧ W1.cell? ⟨w.heap.size + 1, 0, none⟩ = some (.string b1) ∧ W1.cell? ⟨w.heap.size + 1, 1, none⟩ = some (.string b2)) (first | exact HS0.out | exact HS1.out) (first | (go_at_call 56; refine Calls.mono (HCM.out _ _ _) ?_; rintro e w' ⟨rfl, rfl⟩) | (go_at_call 55; refine Calls.mono HOR.out ?_; rintro e w' ⟨rfl, rfl⟩))
  go_wp2
  go_ret
  exact ⟨rfl, 1, HGR.out⟩
theorem b_cmp (w : World) (blk off size : Nat) [Inhabited Bd] : CmpLays Tryd.prog 38 #[] bEnc 2 bCf blk off size w := fun m os dk hdk x y => byPattern_grow x y _
set_option maxRecDepth 100000 in
theorem sortB_any (ks : List Bd) (base blk off cap : Nat) (w : World) (hw : Wy BK w base (.slice (some ⟨blk, off, none⟩) ks.length cap) ks) (hsz : ks.length ≤ 4096) :
    Calls Tryd.prog 37 #[.slice (some ⟨blk, off, none⟩) ks.length cap, .func (.func 38) #[] #[]] w fun e w' => e = .returned (.tuple #[]) ∧ ∃ ks' : List Bd, ks'.Perm ks ∧ (∀ i j (hi : i < ks'.length) (hj : j < ks'.length), i < j → 0 ≤ bCf ks'[j] ks'[i]) ∧ Wy BK w' base (.slice (some ⟨blk, off, none⟩) ks.length cap) ks' ∧ Kp (fun k => k = blk) w w' := by
  haveI : Inhabited Bd := ⟨(bNone, bNone)⟩
  rcases hw with ⟨e, _⟩ | ⟨g, off', cap', cur, e, h1, h2, h3, hb, h5, hr⟩
  · cases e
  cases e
  have hlt : blk < w.heap.size := (Array.getElem?_eq_some_iff.1 hb).1
  obtain ⟨d, hdd⟩ : ∃ d : Array Bd, d = ks.toArray := ⟨_, rfl⟩
  have hd : d.size = ks.length := by rw [hdd]; simp
  have hlen : ∀ x : Bd, (bEnc x).length = 2 := fun x => rfl
  have hget : ∀ (l : List Bd) (i q : Nat) (hi : i < l.length), q < 2 → (l.flatMap bEnc)[i * 2 + q]? = (bEnc l[i])[q]? := fun l => by
    induction l with
    | nil => intro i q hi; simp at hi
    | cons x l ih =>
      intro i q hi hq
      cases i with
      | zero => rw [List.flatMap_cons, List.getElem?_append_left (by rw [hlen]; omega)]; simp
      | succ i =>
        rw [List.flatMap_cons, List.getElem?_append_right (by rw [hlen]; omega), hlen, show (i + 1) * 2 + q - 2 = i * 2 + q by omega, ih i q (by simpa using hi) hq]
        simp
  have hH : HoldsK bEnc 2 w blk off d := by
    intro j hj
    have hj' : j < ks.length * 2 := by simpa [hd] using hj
    refine ⟨?_, by simp [World.frozen?, hb]⟩
    rw [get_flatK _ _ _ _ (by simpa [hd] using hj')]
    have hq : j % 2 < 2 := Nat.mod_lt _ (by decide)
    have hi : j / 2 < ks.length := by omega
    have e := hget ks (j / 2) (j % 2) hi hq
    rw [show j / 2 * 2 + j % 2 = j by omega] at e
    have hdi : d[j / 2]! = ks[j / 2] := by
      rw [getElem!_pos d (j / 2) (by omega)]
      subst hdd
      simp
    show w.cell? ⟨blk, off + j, none⟩ = some ((bEnc (d[j / 2]!))[j % 2]!)
    rw [hdi]
    refine hr j _ (e.trans ?_)
    rw [getElem!_pos _ _ (by rw [hlen]; exact hq)]
    exact List.getElem?_eq_getElem _
  have hcon := Tryd.slices_SortFuncB Tryd.aggB Tryd.sizB bEnc hlen b_one bCf b_swo 38 #[] blk off cap d w (enters_of Tryd.func38 (by kernel_rfl) rfl) (b_cmp w blk off d.size) hH hlt (by omega)
  rw [hd] at hcon
  refine hcon.mono ?_
  rintro e w' ⟨rfl, d', n, os, hp, hs, hw'⟩
  obtain ⟨hp1, hp2, hp3⟩ := hp
  have hd' : d'.size = ks.length := by omega
  have hH' := holdsK_sortWorldK_c bEnc 2 w blk off d d' n os hH hlt hp1
  have hsw := size_sortWorldK_c bEnc 2 w blk off n d' os
  have hbl : ∃ cur', (sortWorldK bEnc 2 w blk off n d' os).heap[blk]? = some (.cells cur' 36 (0, 0)) ∧ cur'.size = cur.size := by
    unfold sortWorldK
    have hs' : (putRowK bEnc 2 (Sort.ahead w n) blk off d').heap.size = w.heap.size := by unfold putRowK; simp [Sort.ahead]
    rw [heap_grow_old _ _ (by rw [hs']; exact hlt)]
    unfold putRowK putRow mapBlock
    simp only [Array.getElem?_modify, Sort.ahead, hb]
    simp only [if_true, Option.map_some, onCells]
    exact ⟨_, rfl, by unfold putCells; simp⟩
  have hkp : Kp (fun k => k = blk) w (sortWorldK bEnc 2 w blk off n d' os) := by
    refine ⟨rfl, rfl, rfl, hsw, fun k hk hne => ?_⟩
    unfold sortWorldK
    have hs' : (putRowK bEnc 2 (Sort.ahead w n) blk off d').heap.size = w.heap.size := by unfold putRowK; simp [Sort.ahead]
    rw [heap_grow_old _ _ (by rw [hs']; exact hk)]
    unfold putRowK putRow mapBlock
    simp [Array.getElem?_modify, Sort.ahead, Ne.symm hne]
  rw [← hw'] at hH' hbl hkp
  clear hw'
  have hdl : d'.toList.length = ks.length := by simpa using hd'
  refine ⟨rfl, d'.toList, ?_, fun i j hi hj hij => ?_, ?_, hkp⟩
  · have e1 : (d'.extract 0 ks.length) = d' := by rw [← hd']; simp
    have e2 : (d.extract 0 ks.length) = d := by rw [← hd]; simp
    rw [e1, e2] at hp3
    have h5 : d.toList = ks := by rw [hdd]
    rw [← h5]
    exact hp3
  · have hi' : i < d'.size := by simpa using hi
    have hj' : j < d'.size := by simpa using hj
    have := hs i j (Nat.zero_le _) hij (by omega)
    unfold ltOf at this
    rw [getElem!_pos d' i hi', getElem!_pos d' j hj'] at this
    simp at this
    simpa using this
  · obtain ⟨cur', hb', hsz'⟩ := hbl
    refine .inr ⟨blk, off, cap, cur', by rw [hdl], h1, by rw [hdl]; exact h2, h3, hb', by rw [hsz']; exact h5, fun j u hu => ?_⟩
    have hfl : (d'.toList.flatMap bEnc).length = d'.toList.length * 2 := bkOk.all d'.toList
    have hjl : j < d'.toList.length * 2 := by rw [← hfl]; exact (List.getElem?_eq_some_iff.1 hu).1
    have hi : j / 2 < d'.size := by rw [hd', ← hdl]; omega
    have hq : j % 2 < 2 := Nat.mod_lt _ (by decide)
    have c := (hH'.cell hi hq).1
    have e := hget d'.toList (j / 2) (j % 2) (by simpa using hi) hq
    rw [show j / 2 * 2 + j % 2 = j by omega] at e
    have hu' : (bEnc (d'.toList[j / 2]'(by simpa using hi)))[j % 2]? = some u := e.symm.trans hu
    rw [getElem!_pos d' (j / 2) hi] at c
    have : (bEnc d'[j / 2])[j % 2]! = u := by
      rw [getElem!_pos _ _ (by rw [hlen]; exact hq)]
      have h9 := (List.getElem?_eq_some_iff.1 hu').2
      simpa using h9
    rw [this] at c
    have h10 : off + j / 2 * 2 + j % 2 = off + j := by omega
    first
      | (rw [h10] at c; exact c)
      | (rw [← h10]; simpa [Nat.mul_comm] using c)
end Go.Proofs.YtmanfakdbmlfeaaDoor
