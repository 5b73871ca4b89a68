
/- Stage 19: slices.SortFunc of files, by their names. -/
import Derived.Test.YtgkdecjlanbmhaaDSync
import Derived.Test.YtgkdecjlanbmhaaDWay
import Derived.Test.YtgkdecjlanbmhaaRCmpS
import Derived.Test.YtgkdecjlanbmhaaSort
namespace Go.Proofs.Ytgkdecjlanbmhaa
open Go.RowKit Go.Sort Go.Lib
set_option linter.unusedVariables false
set_option linter.unusedSimpArgs false
/-- a file that is told: its name, its bytes, how many are safe; the bytes' slice -/
abbrev Fo := Fi × Value
def fEnc (b : Fo) : List Value := [.string b.1.1, if b.2.oneCell' then b.2 else .slice none 0 0, .int .i64 (b.1.2.2 : Int)]
def FK : WK Fo := ⟨fEnc, 3, 48, 44, 39⟩
theorem Try.infoF : ∃ i z, Try.prog.info? 44 = some i ∧ i.zero = some z ∧ z.cells.size = 3 ∧ i.size = 3 ∧ i.bytes = 48 := by
  have h : (Try.prog.info? 44).map (fun i => (i.zero, i.size, i.bytes)) = some (some (.agg #[.string ByteArray.empty, .slice none 0 0, .int .i64 0]), 3, 48) := by kernel_rfl
  obtain ⟨i, h1, h2, h3, h4⟩ := info_parts h
  exact ⟨i, _, h1, h2, rfl, h3, h4⟩
theorem fkOk : FK.Ok := ⟨fun x => rfl, fun x u hu => by
  simp only [FK, fEnc, List.mem_cons, List.not_mem_nil, or_false] at hu
  rcases hu with rfl | rfl | rfl
  · rfl
  · split
    · assumption
    · rfl
  · rfl, Try.underlying39, Try.infoF, by decide, by decide, by decide, by decide⟩
def fCf (x y : Fo) : Int := cmpB x.1.1.toList y.1.1.toList
theorem f_swo : SWO (ltOf fCf) where
  irrefl x := by
    unfold ltOf fCf
    have := neg_cmpB x.1.1.toList x.1.1.toList
    simp
    omega
  trans x y z h1 h2 := by
    unfold ltOf fCf at *
    have := tri_cmpB x.1.1.toList y.1.1.toList z.1.1.toList
    unfold Tri at this
    simp at *
    omega
  ntrans x y z h1 h2 := by
    unfold ltOf fCf at *
    have := tri_cmpB x.1.1.toList y.1.1.toList z.1.1.toList
    unfold Tri at this
    simp at *
    omega
theorem f_one (x : Fo) : ∀ u ∈ fEnc x, u.oneCell' = true := fkOk.ones x
theorem Try.aggF : ∀ w, (isAgg 44).run Try.prog w = .ok true w := fun w => by first | exact Try.isAgg44 w | rfl
theorem Try.sizF : ∀ w, (Go.sizeOf 44).run Try.prog w = .ok 3 w := fun w => by first | exact Try.sizeOf44 w | rfl
theorem grow2 (w : World) (o1 o2 : Obj) : ((w.alloc o1).alloc o2) = Go.Sort.grow (w.drewN 0) #[o1, o2] := by
  have e : ((w.heap.push o1).push o2) = w.heap ++ #[o1, o2] := by
    apply Array.toList_inj.1
    simp
  show ({ w with heap := ((w.heap.push o1).push o2) } : World) = { w with heap := w.heap ++ #[o1, o2] }
  rw [e]
set_option maxRecDepth 100000 in
set_option maxHeartbeats 4000000 in
theorem less_grow (a b : Fo) (w : World) : Calls Try.prog 55 #[.agg ⟨fEnc a⟩, .agg ⟨fEnc b⟩] w fun e w' => e = .returned (.int .i64 (fCf a b)) ∧ ∃ q os', w' = Go.Sort.grow (w.drewN q) os' := by
  have HCM : Hid (∀ (x y : ByteArray) (w1 : World), Calls Try.prog 56 #[.string x, .string y] w1 fun e w' => e = .returned (.int .i64 (cmpB x.toList y.toList)) ∧ w1 = w') := fun x y w1 => cmp_str x y w1
  obtain ⟨⟨a1, a2, a3⟩, a4⟩ := a
  obtain ⟨⟨b1, b2, b3⟩, b4⟩ := b
  show Calls Try.prog 55 #[.agg #[.string a1, if a4.oneCell' then a4 else .slice none 0 0, .int .i64 (a3 : Int)], .agg #[.string b1, if b4.oneCell' then b4 else .slice none 0 0, .int .i64 (b3 : Int)]] w fun e w' => e = .returned (.int .i64 (cmpB a1.toList b1.toList)) ∧ ∃ q os', w' = Go.Sort.grow (w.drewN q) os'
  generalize (if a4.oneCell' then a4 else .slice none 0 0) = ua
  generalize (if b4.oneCell' then b4 else .slice none 0 0) = ub
  obtain ⟨W0, hW0⟩ : ∃ W0, (w.alloc (Obj.cells #[.string a1, ua, .int .i64 (a3 : Int)] 44)).alloc (Obj.cells #[.string b1, ub, .int .i64 (b3 : Int)] 44) = W0 := ⟨_, rfl⟩
  have e0 : W0.heap[w.heap.size]? = some (.cells #[.string a1, ua, .int .i64 (a3 : Int)] 44 (0, 0)) := by rw [← hW0]; exact heap_past (heap_new _ _) _
  have e1 : W0.heap[w.heap.size + 1]? = some (.cells #[.string b1, ub, .int .i64 (b3 : Int)] 44 (0, 0)) := by
    rw [← hW0]
    have := heap_new (w.alloc (Obj.cells #[.string a1, ua, .int .i64 (a3 : Int)] 44)) (Obj.cells #[.string b1, ub, .int .i64 (b3 : Int)] 44)
    simpa using this
  have c0 : W0.cell? ⟨w.heap.size, 0, none⟩ = some (.string a1) := cellOf e0 0 _ rfl
  have c1 : W0.cell? ⟨w.heap.size + 1, 0, none⟩ = some (.string b1) := cellOf e1 0 _ rfl
  have HW0 := hide hW0
  have HGR : Hid (∃ os', W0 = Go.Sort.grow (w.drewN 0) os') := by
    show ∃ os', _ = _
    rw [← hW0]
    exact ⟨_, grow2 _ _ _⟩
  clear e0 e1 hW0
  go_enter Try.func55, Try.ntmps55
  go_wp2_with fail
  rw [HW0.out]
  go_wp2_with fail
  refine (HCM.out _ _ _).mono ?_
  rintro e w' ⟨rfl, rfl⟩
  go_wp2
  go_ret
  exact ⟨rfl, 0, HGR.out⟩
theorem f_cmp (w : World) (blk off size : Nat) [Inhabited Fo] : CmpLays Try.prog 55 #[] fEnc 3 fCf blk off size w := fun m os dk hdk x y => less_grow x y _
set_option maxRecDepth 100000 in
theorem sortF_any (ks : List Fo) (base blk off cap : Nat) (w : World) (hw : Wy FK w base (.slice (some ⟨blk, off, none⟩) ks.length cap) ks) (hsz : ks.length ≤ 140737488355328) :
    Calls Try.prog 54 #[.slice (some ⟨blk, off, none⟩) ks.length cap, .func (.func 55) #[] #[]] w fun e w' => e = .returned (.tuple #[]) ∧ ∃ ks' : List Fo, ks'.Perm ks ∧ (∀ i j (hi : i < ks'.length) (hj : j < ks'.length), i < j → 0 ≤ fCf ks'[j] ks'[i]) ∧ Wy FK w' base (.slice (some ⟨blk, off, none⟩) ks.length cap) ks' ∧ Kp (fun k => k = blk) w w' := by
  haveI : Inhabited Fo := ⟨((ByteArray.empty, [], 0), .slice none 0 0)⟩
  rcases hw with ⟨e, _⟩ | ⟨g, off', cap', cur, e, h1, h2, h3, hb, h5, hr⟩
  · cases e
  cases e
  have hlt : blk < w.heap.size := (Array.getElem?_eq_some_iff.1 hb).1
  obtain ⟨d, hdd⟩ : ∃ d : Array Fo, d = ks.toArray := ⟨_, rfl⟩
  have hd : d.size = ks.length := by rw [hdd]; simp
  have hlen : ∀ x : Fo, (fEnc x).length = 3 := fun x => rfl
  have hget : ∀ (l : List Fo) (i q : Nat) (hi : i < l.length), q < 3 → (l.flatMap fEnc)[i * 3 + q]? = (fEnc l[i])[q]? := fun l => by
    induction l with
    | nil => intro i q hi; simp at hi
    | cons x l ih =>
      intro i q hi hq
      cases i with
      | zero => rw [List.flatMap_cons, List.getElem?_append_left (by rw [hlen]; omega)]; simp
      | succ i =>
        rw [List.flatMap_cons, List.getElem?_append_right (by rw [hlen]; omega), hlen, show (i + 1) * 3 + q - 3 = i * 3 + q by omega, ih i q (by simpa using hi) hq]
        simp
  have hH : HoldsK fEnc 3 w blk off d := by
    intro j hj
    have hj' : j < ks.length * 3 := by simpa [hd] using hj
    refine ⟨?_, by simp [World.frozen?, hb]⟩
    rw [get_flatK _ _ _ _ (by simpa [hd] using hj')]
    have hq : j % 3 < 3 := Nat.mod_lt _ (by decide)
    have hi : j / 3 < ks.length := by omega
    have e := hget ks (j / 3) (j % 3) hi hq
    rw [show j / 3 * 3 + j % 3 = j by omega] at e
    have hdi : d[j / 3]! = ks[j / 3] := by
      rw [getElem!_pos d (j / 3) (by omega)]
      subst hdd
      simp
    show w.cell? ⟨blk, off + j, none⟩ = some ((fEnc (d[j / 3]!))[j % 3]!)
    rw [hdi]
    refine hr j _ (e.trans ?_)
    rw [getElem!_pos _ _ (by rw [hlen]; exact hq)]
    exact List.getElem?_eq_getElem _
  have hcon := Try.slices_SortFuncF Try.aggF Try.sizF fEnc hlen f_one fCf f_swo 55 #[] blk off cap d w (enters_of Try.func55 (by kernel_rfl) rfl) (f_cmp w blk off d.size) hH hlt (by omega)
  rw [hd] at hcon
  refine hcon.mono ?_
  rintro e w' ⟨rfl, d', n, os, hp, hs, hw'⟩
  obtain ⟨hp1, hp2, hp3⟩ := hp
  have hd' : d'.size = ks.length := by omega
  have hH' := holdsK_sortWorldK_c fEnc 3 w blk off d d' n os hH hlt hp1
  have hsw := size_sortWorldK_c fEnc 3 w blk off n d' os
  have hbl : ∃ cur', (sortWorldK fEnc 3 w blk off n d' os).heap[blk]? = some (.cells cur' 44 (0, 0)) ∧ cur'.size = cur.size := by
    unfold sortWorldK
    have hs' : (putRowK fEnc 3 (Sort.ahead w n) blk off d').heap.size = w.heap.size := by unfold putRowK; simp [Sort.ahead]
    rw [heap_grow_old _ _ (by rw [hs']; exact hlt)]
    unfold putRowK putRow mapBlock
    simp only [Array.getElem?_modify, Sort.ahead, hb]
    simp only [if_true, Option.map_some, onCells]
    exact ⟨_, rfl, by unfold putCells; simp⟩
  have hkp : Kp (fun k => k = blk) w (sortWorldK fEnc 3 w blk off n d' os) := by
    refine ⟨rfl, rfl, rfl, hsw, fun k hk hne => ?_⟩
    unfold sortWorldK
    have hs' : (putRowK fEnc 3 (Sort.ahead w n) blk off d').heap.size = w.heap.size := by unfold putRowK; simp [Sort.ahead]
    rw [heap_grow_old _ _ (by rw [hs']; exact hk)]
    unfold putRowK putRow mapBlock
    simp [Array.getElem?_modify, Sort.ahead, Ne.symm hne]
  rw [← hw'] at hH' hbl hkp
  clear hw'
  have hdl : d'.toList.length = ks.length := by simpa using hd'
  refine ⟨rfl, d'.toList, ?_, fun i j hi hj hij => ?_, ?_, hkp⟩
  · have e1 : (d'.extract 0 ks.length) = d' := by rw [← hd']; simp
    have e2 : (d.extract 0 ks.length) = d := by rw [← hd]; simp
    rw [e1, e2] at hp3
    have h5 : d.toList = ks := by rw [hdd]
    rw [← h5]
    exact hp3
  · have hi' : i < d'.size := by simpa using hi
    have hj' : j < d'.size := by simpa using hj
    have := hs i j (Nat.zero_le _) hij (by omega)
    unfold ltOf at this
    rw [getElem!_pos d' i hi', getElem!_pos d' j hj'] at this
    simp at this
    simpa using this
  · obtain ⟨cur', hb', hsz'⟩ := hbl
    refine .inr ⟨blk, off, cap, cur', by rw [hdl], h1, by rw [hdl]; exact h2, h3, hb', by rw [hsz']; exact h5, fun j u hu => ?_⟩
    have hfl : (d'.toList.flatMap fEnc).length = d'.toList.length * 3 := fkOk.all d'.toList
    have hjl : j < d'.toList.length * 3 := by rw [← hfl]; exact (List.getElem?_eq_some_iff.1 hu).1
    have hi : j / 3 < d'.size := by rw [hd', ← hdl]; omega
    have hq : j % 3 < 3 := Nat.mod_lt _ (by decide)
    have c := (hH'.cell hi hq).1
    have e := hget d'.toList (j / 3) (j % 3) (by simpa using hi) hq
    rw [show j / 3 * 3 + j % 3 = j by omega] at e
    have hu' : (fEnc (d'.toList[j / 3]'(by simpa using hi)))[j % 3]? = some u := e.symm.trans hu
    rw [getElem!_pos d' (j / 3) hi] at c
    have : (fEnc d'[j / 3])[j % 3]! = u := by
      rw [getElem!_pos _ _ (by rw [hlen]; exact hq)]
      have h9 := (List.getElem?_eq_some_iff.1 hu').2
      simpa using h9
    rw [this] at c
    have h10 : off + j / 3 * 3 + j % 3 = off + j := by omega
    first
      | (rw [h10] at c; exact c)
      | (rw [← h10]; simpa [Nat.mul_comm] using c)
/-- sorted by names -/
def SrtF (W : List Fo) : Prop := ∀ i j (hi : i < W.length) (hj : j < W.length), i < j → 0 ≤ fCf W[j] W[i]
set_option maxRecDepth 100000 in
set_option maxHeartbeats 2000000 in
theorem ins_one (a : Option Addr) (n cap : Nat) (f : Value) (w : World) (hn : n ≤ 1) : Calls Try.prog 85 #[.slice a n cap, .int .i64 0, .int .i64 (n : Int), f] w fun e w' => e = .returned (.tuple #[]) ∧ w' = w := by
  go_enter Try.func85, Try.ntmps85
  go_wp2
  go_rounds 1
  all_goals (go_wp2; go_end0; exact ⟨rfl, rfl⟩)
set_option maxRecDepth 100000 in
set_option maxHeartbeats 2000000 in
theorem pdq_one (a : Option Addr) (n cap : Nat) (f lim : Value) (w : World) (hn : n ≤ 1) : Calls Try.prog 71 #[.slice a n cap, .int .i64 0, .int .i64 (n : Int), lim, f] w fun e w' => e = .returned (.tuple #[]) ∧ w' = w := by
  go_enter Try.func71, Try.ntmps71
  go_wp2
  go_loopw [1, 2, 3, 10, 11, 12] (fun v1 v2 v3 _ _ _ wr => v1 = .int .i64 0 ∧ v2 = .int .i64 (n : Int) ∧ wr = w) (fun _ _ _ _ _ _ _ => 1)
  case atStart => exact ⟨rfl, rfl, rfl⟩
  case round =>
    obtain ⟨rfl, rfl, rfl⟩ := hrel
    go_wp2_with fail
    refine Calls.mono (ins_one a n cap f _ hn) ?_
    rintro e w' ⟨rfl, rfl⟩
    go_wp2
    go_returns
    exact ⟨rfl, rfl⟩
set_option maxRecDepth 100000 in
set_option maxHeartbeats 2000000 in
theorem sort_one (a : Option Addr) (n cap : Nat) (f : Value) (w : World) (hn : n ≤ 1) : Calls Try.prog 54 #[.slice a n cap, f] w fun e w' => e = .returned (.tuple #[]) ∧ w' = w := by
  go_enter Try.func54, Try.ntmps54
  go_wp2_with fail
  refine Calls.mono (Try.bits_Len (n : Int) w (by omega) (by omega)) ?_
  rintro e w' ⟨rfl, rfl⟩
  go_wp2_with fail
  refine Calls.mono (pdq_one a n cap f _ _ hn) ?_
  rintro e w' ⟨rfl, rfl⟩
  go_wp2
  go_end0
  exact ⟨rfl, rfl⟩


theorem sortF_way (ks : List Fo) (base : Nat) (v : Value) (w : World) (hw : Wy FK w base v ks) (hb : base ≤ w.heap.size) (hsz : ks.length ≤ 140737488355328) :
    Calls Try.prog 54 #[v, .func (.func 55) #[] #[]] w fun e w' => e = .returned (.tuple #[]) ∧ ∃ ks' : List Fo, ks'.Perm ks ∧ SrtF ks' ∧ Wy FK w' base v ks' ∧ Kp (fun k => v.ownBlock = some k) w w' := by
  have hw0 := hw
  rcases hw with ⟨rfl, rfl⟩ | ⟨g, off, cap, cur, rfl, h1, h2⟩
  · refine (sort_one none 0 0 _ w (by omega)).mono ?_
    rintro e w' ⟨rfl, rfl⟩
    exact ⟨rfl, [], .refl _, fun i j hi => by simp at hi, .inl ⟨rfl, rfl⟩, Kp.refl _ _⟩
  · refine (sortF_any ks base g off cap w hw0 hsz).mono ?_
    rintro e w' ⟨rfl, ks', hp, hs, hw', hk⟩
    exact ⟨rfl, ks', hp, hs, hw', hk.mono (fun k e => by rw [e]; rfl)⟩
end Go.Proofs.Ytgkdecjlanbmhaa
