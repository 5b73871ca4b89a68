import Derived.Test.YtdcoafpenkofoaaGreatDoorDSyncM9
import Derived.Test.YtdcoafpenkofoaaGreatDoorDWay
import Derived.Test.YtdcoafpenkofoaaGreatDoorRCmpS
import Derived.Test.YtdcoafpenkofoaaGreatDoorSort
import Derived.Test.YtdcoafpenkofoaaGreatDoorDTake
import Derived.Sort.MapsRangeIn

/- Stage 19: slices.SortFunc of files, by their names. -/
namespace Go.Proofs.YtdcoafpenkofoaaGreatDoor
open Go.RowKit Go.Sort Go.Lib
set_option linter.unusedVariables false
set_option linter.unusedSimpArgs false
/-- a file that is told: its name, its bytes, how many are safe; the bytes' slice -/
abbrev Fo := Fi × Value
def fEnc (b : Fo) : List Value := [.string b.1.1, if b.2.oneCell' then b.2 else .slice none 0 0, .int .i64 (b.1.2.2 : Int)]
def FK : WK Fo := ⟨fEnc, 3, 48, 73, 34⟩
theorem Tryz.infoF : ∃ i z, Tryz.prog.info? 73 = some i ∧ i.zero = some z ∧ z.cells.size = 3 ∧ i.size = 3 ∧ i.bytes = 48 := by
  have h : (Tryz.prog.info? 73).map (fun i => (i.zero, i.size, i.bytes)) = some (some (.agg #[.string ByteArray.empty, .slice none 0 0, .int .i64 0]), 3, 48) := by kernel_rfl
  obtain ⟨i, h1, h2, h3, h4⟩ := info_parts h
  exact ⟨i, _, h1, h2, rfl, h3, h4⟩
theorem fkOk : FK.Ok := ⟨fun x => rfl, fun x u hu => by
  simp only [FK, fEnc, List.mem_cons, List.not_mem_nil, or_false] at hu
  rcases hu with rfl | rfl | rfl
  · rfl
  · split
    · assumption
    · rfl
  · rfl, Tryz.underlying34, Tryz.infoF, by decide, by decide, by decide, by decide⟩
def fCf (x y : Fo) : Int := cmpB x.1.1.toList y.1.1.toList
theorem f_swo : SWO (ltOf fCf) where
  irrefl x := by
    unfold ltOf fCf
    have := neg_cmpB x.1.1.toList x.1.1.toList
    simp
    omega
  trans x y z h1 h2 := by
    unfold ltOf fCf at *
    have := tri_cmpB x.1.1.toList y.1.1.toList z.1.1.toList
    unfold Tri at this
    simp at *
    omega
  ntrans x y z h1 h2 := by
    unfold ltOf fCf at *
    have := tri_cmpB x.1.1.toList y.1.1.toList z.1.1.toList
    unfold Tri at this
    simp at *
    omega
theorem f_one (x : Fo) : ∀ u ∈ fEnc x, u.oneCell' = true := fkOk.ones x
theorem Tryz.aggF : ∀ w, (isAgg 73).run Tryz.prog w = .ok true w := fun w => by first | exact Tryz.isAgg73 w | rfl
theorem Tryz.sizF : ∀ w, (Go.sizeOf 73).run Tryz.prog w = .ok 3 w := fun w => by first | exact Tryz.sizeOf73 w | rfl
theorem grow2 (w : World) (o1 o2 : Obj) : ((w.alloc o1).alloc o2) = Go.Sort.grow (w.drewN 0) #[o1, o2] := by
  have e : ((w.heap.push o1).push o2) = w.heap ++ #[o1, o2] := by
    apply Array.toList_inj.1
    simp
  show ({ w with heap := ((w.heap.push o1).push o2) } : World) = { w with heap := w.heap ++ #[o1, o2] }
  rw [e]
set_option maxRecDepth 100000 in
set_option maxHeartbeats 4000000 in
theorem less_grow (a b : Fo) (w : World) : Calls Tryz.prog 104 #[.agg ⟨fEnc a⟩, .agg ⟨fEnc b⟩] w fun e w' => e = .returned (.int .i64 (fCf a b)) ∧ ∃ q os', w' = Go.Sort.grow (w.drewN q) os' := by
  have HCM : Hid (∀ (x y : ByteArray) (w1 : World), Calls Tryz.prog 105 #[.string x, .string y] w1 fun e w' => e = .returned (.int .i64 (cmpB x.toList y.toList)) ∧ w1 = w') := fun x y w1 => cmp_str x y w1
  obtain ⟨⟨a1, a2, a3⟩, a4⟩ := a
  obtain ⟨⟨b1, b2, b3⟩, b4⟩ := b
  show Calls Tryz.prog 104 #[.agg #[.string a1, if a4.oneCell' then a4 else .slice none 0 0, .int .i64 (a3 : Int)], .agg #[.string b1, if b4.oneCell' then b4 else .slice none 0 0, .int .i64 (b3 : Int)]] w fun e w' => e = .returned (.int .i64 (cmpB a1.toList b1.toList)) ∧ ∃ q os', w' = Go.Sort.grow (w.drewN q) os'
  generalize (if a4.oneCell' then a4 else .slice none 0 0) = ua
  generalize (if b4.oneCell' then b4 else .slice none 0 0) = ub
  obtain ⟨W0, hW0⟩ : ∃ W0, (w.alloc (Obj.cells #[.string a1, ua, .int .i64 (a3 : Int)] 73)).alloc (Obj.cells #[.string b1, ub, .int .i64 (b3 : Int)] 73) = W0 := ⟨_, rfl⟩
  have e0 : W0.heap[w.heap.size]? = some (.cells #[.string a1, ua, .int .i64 (a3 : Int)] 73 (0, 0)) := by rw [← hW0]; exact heap_past (heap_new _ _) _
  have e1 : W0.heap[w.heap.size + 1]? = some (.cells #[.string b1, ub, .int .i64 (b3 : Int)] 73 (0, 0)) := by
    rw [← hW0]
    have := heap_new (w.alloc (Obj.cells #[.string a1, ua, .int .i64 (a3 : Int)] 73)) (Obj.cells #[.string b1, ub, .int .i64 (b3 : Int)] 73)
    simpa using this
  have c0 : W0.cell? ⟨w.heap.size, 0, none⟩ = some (.string a1) := cellOf e0 0 _ rfl
  have c1 : W0.cell? ⟨w.heap.size + 1, 0, none⟩ = some (.string b1) := cellOf e1 0 _ rfl
  have HW0 := hide hW0
  have HGR : Hid (∃ os', W0 = Go.Sort.grow (w.drewN 0) os') := by
    show ∃ os', _ = _
    rw [← hW0]
    exact ⟨_, grow2 _ _ _⟩
  clear e0 e1 hW0
  go_enter Tryz.func104, Tryz.ntmps104
  go_wp2_with fail
  rw [HW0.out]
  go_wp2_with fail
  refine (HCM.out _ _ _).mono ?_
  rintro e w' ⟨rfl, rfl⟩
  go_wp2
  go_ret
  exact ⟨rfl, 0, HGR.out⟩
theorem f_cmp (w : World) (blk off size : Nat) [Inhabited Fo] : CmpLays Tryz.prog 104 #[] fEnc 3 fCf blk off size w := fun m os dk hdk x y => less_grow x y _
set_option maxRecDepth 100000 in
theorem sortF_any (ks : List Fo) (base blk off cap : Nat) (w : World) (hw : Wy FK w base (.slice (some ⟨blk, off, none⟩) ks.length cap) ks) (hsz : ks.length ≤ 140737488355328) :
    Calls Tryz.prog 103 #[.slice (some ⟨blk, off, none⟩) ks.length cap, .func (.func 104) #[] #[]] w fun e w' => e = .returned (.tuple #[]) ∧ ∃ ks' : List Fo, ks'.Perm ks ∧ (∀ i j (hi : i < ks'.length) (hj : j < ks'.length), i < j → 0 ≤ fCf ks'[j] ks'[i]) ∧ Wy FK w' base (.slice (some ⟨blk, off, none⟩) ks.length cap) ks' ∧ Kp (fun k => k = blk) w w' := by
  haveI : Inhabited Fo := ⟨((ByteArray.empty, [], 0), .slice none 0 0)⟩
  rcases hw with ⟨e, _⟩ | ⟨g, off', cap', cur, e, h1, h2, h3, hb, h5, hr⟩
  · cases e
  cases e
  have hlt : blk < w.heap.size := (Array.getElem?_eq_some_iff.1 hb).1
  obtain ⟨d, hdd⟩ : ∃ d : Array Fo, d = ks.toArray := ⟨_, rfl⟩
  have hd : d.size = ks.length := by rw [hdd]; simp
  have hlen : ∀ x : Fo, (fEnc x).length = 3 := fun x => rfl
  have hget : ∀ (l : List Fo) (i q : Nat) (hi : i < l.length), q < 3 → (l.flatMap fEnc)[i * 3 + q]? = (fEnc l[i])[q]? := fun l => by
    induction l with
    | nil => intro i q hi; simp at hi
    | cons x l ih =>
      intro i q hi hq
      cases i with
      | zero => rw [List.flatMap_cons, List.getElem?_append_left (by rw [hlen]; omega)]; simp
      | succ i =>
        rw [List.flatMap_cons, List.getElem?_append_right (by rw [hlen]; omega), hlen, show (i + 1) * 3 + q - 3 = i * 3 + q by omega, ih i q (by simpa using hi) hq]
        simp
  have hH : HoldsK fEnc 3 w blk off d := by
    intro j hj
    have hj' : j < ks.length * 3 := by simpa [hd] using hj
    refine ⟨?_, by simp [World.frozen?, hb]⟩
    rw [get_flatK _ _ _ _ (by simpa [hd] using hj')]
    have hq : j % 3 < 3 := Nat.mod_lt _ (by decide)
    have hi : j / 3 < ks.length := by omega
    have e := hget ks (j / 3) (j % 3) hi hq
    rw [show j / 3 * 3 + j % 3 = j by omega] at e
    have hdi : d[j / 3]! = ks[j / 3] := by
      rw [getElem!_pos d (j / 3) (by omega)]
      subst hdd
      simp
    show w.cell? ⟨blk, off + j, none⟩ = some ((fEnc (d[j / 3]!))[j % 3]!)
    rw [hdi]
    refine hr j _ (e.trans ?_)
    rw [getElem!_pos _ _ (by rw [hlen]; exact hq)]
    exact List.getElem?_eq_getElem _
  have hcon := Tryz.slices_SortFuncF Tryz.aggF Tryz.sizF fEnc hlen f_one fCf f_swo 104 #[] blk off cap d w (enters_of Tryz.func104 (by kernel_rfl) rfl) (f_cmp w blk off d.size) hH hlt (by omega)
  rw [hd] at hcon
  refine hcon.mono ?_
  rintro e w' ⟨rfl, d', n, os, hp, hs, hw'⟩
  obtain ⟨hp1, hp2, hp3⟩ := hp
  have hd' : d'.size = ks.length := by omega
  have hH' := holdsK_sortWorldK_c fEnc 3 w blk off d d' n os hH hlt hp1
  have hsw := size_sortWorldK_c fEnc 3 w blk off n d' os
  have hbl : ∃ cur', (sortWorldK fEnc 3 w blk off n d' os).heap[blk]? = some (.cells cur' 73 (0, 0)) ∧ cur'.size = cur.size := by
    unfold sortWorldK
    have hs' : (putRowK fEnc 3 (Sort.ahead w n) blk off d').heap.size = w.heap.size := by unfold putRowK; simp [Sort.ahead]
    rw [heap_grow_old _ _ (by rw [hs']; exact hlt)]
    unfold putRowK putRow mapBlock
    simp only [Array.getElem?_modify, Sort.ahead, hb]
    simp only [if_true, Option.map_some, onCells]
    exact ⟨_, rfl, by unfold putCells; simp⟩
  have hkp : Kp (fun k => k = blk) w (sortWorldK fEnc 3 w blk off n d' os) := by
    refine ⟨rfl, rfl, rfl, hsw, fun k hk hne => ?_⟩
    unfold sortWorldK
    have hs' : (putRowK fEnc 3 (Sort.ahead w n) blk off d').heap.size = w.heap.size := by unfold putRowK; simp [Sort.ahead]
    rw [heap_grow_old _ _ (by rw [hs']; exact hk)]
    unfold putRowK putRow mapBlock
    simp [Array.getElem?_modify, Sort.ahead, Ne.symm hne]
  rw [← hw'] at hH' hbl hkp
  clear hw'
  have hdl : d'.toList.length = ks.length := by simpa using hd'
  refine ⟨rfl, d'.toList, ?_, fun i j hi hj hij => ?_, ?_, hkp⟩
  · have e1 : (d'.extract 0 ks.length) = d' := by rw [← hd']; simp
    have e2 : (d.extract 0 ks.length) = d := by rw [← hd]; simp
    rw [e1, e2] at hp3
    have h5 : d.toList = ks := by rw [hdd]
    rw [← h5]
    exact hp3
  · have hi' : i < d'.size := by simpa using hi
    have hj' : j < d'.size := by simpa using hj
    have := hs i j (Nat.zero_le _) hij (by omega)
    unfold ltOf at this
    rw [getElem!_pos d' i hi', getElem!_pos d' j hj'] at this
    simp at this
    simpa using this
  · obtain ⟨cur', hb', hsz'⟩ := hbl
    refine .inr ⟨blk, off, cap, cur', by rw [hdl], h1, by rw [hdl]; exact h2, h3, hb', by rw [hsz']; exact h5, fun j u hu => ?_⟩
    have hfl : (d'.toList.flatMap fEnc).length = d'.toList.length * 3 := fkOk.all d'.toList
    have hjl : j < d'.toList.length * 3 := by rw [← hfl]; exact (List.getElem?_eq_some_iff.1 hu).1
    have hi : j / 3 < d'.size := by rw [hd', ← hdl]; omega
    have hq : j % 3 < 3 := Nat.mod_lt _ (by decide)
    have c := (hH'.cell hi hq).1
    have e := hget d'.toList (j / 3) (j % 3) (by simpa using hi) hq
    rw [show j / 3 * 3 + j % 3 = j by omega] at e
    have hu' : (fEnc (d'.toList[j / 3]'(by simpa using hi)))[j % 3]? = some u := e.symm.trans hu
    rw [getElem!_pos d' (j / 3) hi] at c
    have : (fEnc d'[j / 3])[j % 3]! = u := by
      rw [getElem!_pos _ _ (by rw [hlen]; exact hq)]
      have h9 := (List.getElem?_eq_some_iff.1 hu').2
      simpa using h9
    rw [this] at c
    have h10 : off + j / 3 * 3 + j % 3 = off + j := by omega
    first
      | (rw [h10] at c; exact c)
      | (rw [← h10]; simpa [Nat.mul_comm] using c)
/-- sorted by names -/
def SrtF (W : List Fo) : Prop := ∀ i j (hi : i < W.length) (hj : j < W.length), i < j → 0 ≤ fCf W[j] W[i]
set_option maxRecDepth 100000 in
set_option maxHeartbeats 2000000 in
theorem ins_one (a : Option Addr) (n cap : Nat) (f : Value) (w : World) (hn : n ≤ 1) : Calls Tryz.prog 164 #[.slice a n cap, .int .i64 0, .int .i64 (n : Int), f] w fun e w' => e = .returned (.tuple #[]) ∧ w' = w := by
  go_enter Tryz.func164, Tryz.ntmps164
  go_wp2
  go_rounds 1
  all_goals (go_wp2; go_end0; exact ⟨rfl, rfl⟩)
set_option maxRecDepth 100000 in
set_option maxHeartbeats 2000000 in
theorem pdq_one (a : Option Addr) (n cap : Nat) (f lim : Value) (w : World) (hn : n ≤ 1) : Calls Tryz.prog 138 #[.slice a n cap, .int .i64 0, .int .i64 (n : Int), lim, f] w fun e w' => e = .returned (.tuple #[]) ∧ w' = w := by
  go_enter Tryz.func138, Tryz.ntmps138
  go_wp2
  go_loopw [1, 2, 3, 10, 11, 12] (fun v1 v2 v3 _ _ _ wr => v1 = .int .i64 0 ∧ v2 = .int .i64 (n : Int) ∧ wr = w) (fun _ _ _ _ _ _ _ => 1)
  case atStart => exact ⟨rfl, rfl, rfl⟩
  case round =>
    obtain ⟨rfl, rfl, rfl⟩ := hrel
    go_wp2_with fail
    refine Calls.mono (ins_one a n cap f _ hn) ?_
    rintro e w' ⟨rfl, rfl⟩
    go_wp2
    go_returns
    exact ⟨rfl, rfl⟩
set_option maxRecDepth 100000 in
set_option maxHeartbeats 2000000 in
theorem sort_one (a : Option Addr) (n cap : Nat) (f : Value) (w : World) (hn : n ≤ 1) : Calls Tryz.prog 103 #[.slice a n cap, f] w fun e w' => e = .returned (.tuple #[]) ∧ w' = w := by
  go_enter Tryz.func103, Tryz.ntmps103
  go_wp2_with fail
  refine Calls.mono (Tryz.bits_Len (n : Int) w (by omega) (by omega)) ?_
  rintro e w' ⟨rfl, rfl⟩
  go_wp2_with fail
  refine Calls.mono (pdq_one a n cap f _ _ hn) ?_
  rintro e w' ⟨rfl, rfl⟩
  go_wp2
  go_end0
  exact ⟨rfl, rfl⟩


theorem sortF_way (ks : List Fo) (base : Nat) (v : Value) (w : World) (hw : Wy FK w base v ks) (hb : base ≤ w.heap.size) (hsz : ks.length ≤ 140737488355328) :
    Calls Tryz.prog 103 #[v, .func (.func 104) #[] #[]] w fun e w' => e = .returned (.tuple #[]) ∧ ∃ ks' : List Fo, ks'.Perm ks ∧ SrtF ks' ∧ Wy FK w' base v ks' ∧ Kp (fun k => v.ownBlock = some k) w w' := by
  have hw0 := hw
  rcases hw with ⟨rfl, rfl⟩ | ⟨g, off, cap, cur, rfl, h1, h2⟩
  · refine (sort_one none 0 0 _ w (by omega)).mono ?_
    rintro e w' ⟨rfl, rfl⟩
    exact ⟨rfl, [], .refl _, fun i j hi => by simp at hi, .inl ⟨rfl, rfl⟩, Kp.refl _ _⟩
  · refine (sortF_any ks base g off cap w hw0 hsz).mono ?_
    rintro e w' ⟨rfl, ks', hp, hs, hw', hk⟩
    exact ⟨rfl, ks', hp, hs, hw', hk.mono (fun k e => by rw [e]; rfl)⟩
end Go.Proofs.YtdcoafpenkofoaaGreatDoor


/- Stage 19: Files. -/
namespace Go.Proofs.YtdcoafpenkofoaaGreatDoor
open Go.RowKit Go.Maps Go.MuLone
set_option linter.unusedVariables false
set_option linter.unusedSimpArgs false
/-- those files that have come -/
def comeF (F : List Fi) (left : Lit → Bool) : List Fi := F.filter fun f => !left (.string f.1.data.toList)
theorem comeF_done {F : List Fi} {left : Lit → Bool} (h : ∀ k : ByteArray, left (.string k.data.toList) = false) : comeF F left = F := by
  unfold comeF
  rw [List.filter_eq_self]
  intro f _
  simp [h]
theorem comeF_none {F : List Fi} {left : Lit → Bool} (h : ∀ f ∈ F, left (.string f.1.data.toList) = true) : comeF F left = [] := by
  unfold comeF
  rw [List.filter_eq_nil_iff]
  intro f hf
  simp [h f hf]
theorem comeF_len (F : List Fi) (left : Lit → Bool) : (comeF F left).length ≤ F.length := List.length_filter_le _ _
theorem comeF_step {F : List Fi} {left : Lit → Bool} {f : Fi} (hn : (F.map (·.1)).Nodup) (hf : f ∈ F) (hl : left (.string f.1.data.toList) = true) :
    (comeF F (fun z => left z && !z.sameKey (.string f.1.data.toList))).Perm (comeF F left ++ [f]) := by
  obtain ⟨l1, l2, rfl⟩ := List.append_of_mem hf
  have hne : ∀ g ∈ l1 ++ l2, g.1 ≠ f.1 := fun g hg e => by
    have hp : ((l1 ++ f :: l2).map (·.1)).Perm (f.1 :: (l1 ++ l2).map (·.1)) := (List.perm_middle (a := f) (l₁ := l1) (l₂ := l2)).map (·.1)
    have := (List.nodup_cons.1 (hp.nodup_iff.1 hn)).1
    exact this (e ▸ List.mem_map_of_mem hg)
  have hs : ∀ l : List Fi, (∀ g ∈ l, g.1 ≠ f.1) → comeF l (fun z => left z && !z.sameKey (.string f.1.data.toList)) = comeF l left := fun l h => by
    unfold comeF
    refine List.filter_congr fun g hg => ?_
    dsimp only
    rw [lit_same]
    simp [h g hg]
  have e1 := hs l1 (fun g hg => hne g (List.mem_append.2 (.inl hg)))
  have e2 := hs l2 (fun g hg => hne g (List.mem_append.2 (.inr hg)))
  have h0 : comeF (l1 ++ f :: l2) (fun z => left z && !z.sameKey (.string f.1.data.toList)) = comeF l1 left ++ f :: comeF l2 left := by
    have : comeF (l1 ++ f :: l2) (fun z => left z && !z.sameKey (.string f.1.data.toList)) = comeF l1 (fun z => left z && !z.sameKey (.string f.1.data.toList)) ++ comeF (f :: l2) (fun z => left z && !z.sameKey (.string f.1.data.toList)) := List.filter_append _ _
    rw [this, e1]
    congr 1
    unfold comeF at e2 ⊢
    rw [List.filter_cons_of_pos (by simp [lit_same]), e2]
  have h1 : comeF (l1 ++ f :: l2) left = comeF l1 left ++ comeF l2 left := by
    unfold comeF
    rw [List.filter_append, List.filter_cons_of_neg (by simp [hl])]
  rw [h0, h1]
  refine List.perm_middle.trans ?_
  exact (List.perm_append_comm (l₁ := [f])).trans (by simp)
/-- files that are told, their bytes in memory of their own -/
structure Told (base : Nat) (w : World) (W : List Fo) : Prop where
  own : ∀ o ∈ W, Ob base w o.2 o.1.2.1
  apt : W.Pairwise fun a b => ∀ g, a.2.ownBlock = some g → b.2.ownBlock ≠ some g
theorem Told.nil (base : Nat) (w : World) : Told base w [] := ⟨by simp, by simp⟩
theorem Told.perm {base : Nat} {w : World} {W W' : List Fo} (h : Told base w W) (hp : W.Perm W') : Told base w W' :=
  ⟨fun o ho => h.own o (hp.mem_iff.2 ho), (hp.pairwise_iff (fun h g hb ha => h g ha hb)).1 h.apt⟩
theorem Told.keep {base : Nat} {w w' : World} {W : List Fo} (h : Told base w W) (hk : ∀ o ∈ W, ∀ g, o.2.ownBlock = some g → w'.heap[g]? = w.heap[g]?) : Told base w' W :=
  ⟨fun o ho => (h.own o ho).at_same (hk o ho), h.apt⟩
theorem Told.below {base : Nat} {w w' : World} {W : List Fo} (h : Told base w W) (hb : Below w.heap.size w w') : Told base w' W := h.keep (fun o ho g hg => hb.block g ((h.own o ho).lt g hg).2)
theorem Told.mono {base b2 : Nat} {w : World} {W : List Fo} (h : Told base w W) (hb : b2 ≤ base) : Told b2 w W := ⟨fun o ho => (h.own o ho).mono hb, h.apt⟩
theorem Told.push {base : Nat} {w : World} {W : List Fo} (h : Told base w W) {o : Fo} {B : Nat} (ho : Ob base w o.2 o.1.2.1) (hB : ∀ g, o.2.ownBlock = some g → B ≤ g) (hW : ∀ q ∈ W, ∀ g, q.2.ownBlock = some g → g < B) : Told base w (W ++ [o]) := by
  refine ⟨fun q hq => ?_, List.pairwise_append.2 ⟨h.apt, by simp, fun a ha b hb g hg hbg => ?_⟩⟩
  · rcases List.mem_append.1 hq with hq | hq
    · exact h.own q hq
    · rw [List.mem_singleton.1 hq]; exact ho
  · rw [List.mem_singleton.1 hb] at hbg
    have := hB g hbg
    have := hW a ha g hg
    omega
/-- a row of files is no row of bytes -/
theorem Told.apart {base b2 : Nat} {w : World} {W U : List Fo} {v : Value} (h : Told base w W) (hw : Wy FK w b2 v U) {o : Fo} (ho : o ∈ W) {g : Nat} (hg : o.2.ownBlock = some g) : v.ownBlock ≠ some g := by
  intro hv
  obtain ⟨cur, h1⟩ := hw.typ hv
  obtain ⟨cs, fr, h2⟩ := (h.own o ho).blk hg
  rw [h1] at h2
  simp [FK] at h2
theorem leaves_put {P : Program} {fn : Func} {R : Ending → World → Prop} {t : Nat} (hr : fn.results = #[.tmp t]) {d : Nat} (hd : d ≠ t) (v : Value) : ∀ (ds : List Deferred) (u : FrameMode) (w : World) (tmps : Array Value), Leaves P fn (tmps.setIfInBounds d v) R ds u w → Leaves P fn tmps R ds u w := by
  intro ds
  induction ds with
  | nil =>
    intro u w tmps h
    cases u with
    | run => exact h
    | returning =>
      obtain ⟨x, h1, h2⟩ := h
      refine ⟨x, ?_, h2⟩
      rw [results_tmp hr] at h1 ⊢
      rw [← h1]
      congr 1
      simp [Array.getD_eq_getD_getElem?, Array.getElem?_setIfInBounds_ne hd]
    | panicking chain => exact h
  | cons e ds ih =>
    intro u w tmps h
    obtain ⟨h1, fv, cap, f, args, h2, h3, h4⟩ := h
    refine ⟨h1, fv, cap, f, args, h2, h3, h4.mono ?_⟩
    intro e' u' w' h5
    cases e' with
    | returned x => exact ih _ _ _ h5
    | panicked c => exact ih _ _ _ h5
    | outgrown => exact h5
def enc3 (k : ByteArray) (v : Value) (s : Nat) : Array Value := #[.string k, v, .int .i64 (s : Int)]
theorem enc_slice (k : ByteArray) (l : List Nat) (s : Nat) (a : Option Addr) (n c : Nat) : (⟨FK.enc ((k, l, s), .slice a n c)⟩ : Array Value) = #[.string k, .slice a n c, .int .i64 (s : Int)] := rfl
set_option maxHeartbeats 8000000 in
set_option maxRecDepth 100000 in
theorem files_any (S : Nat → Prop) (w : World) (d : Nat) (x : Dx) (F : List Fi) (hD : DD S w d x F) (hn : F.length ≤ 2000000000000) :
    Calls Tryz.prog 65 #[.pointer (some ⟨d, 0, none⟩)] w fun e w' => ∃ v W, e = .returned v ∧ Wy FK w' w.heap.size v W ∧ (W.map (·.1)).Perm F ∧ SrtF W ∧ Told w.heap.size w' W ∧ Dsk (fun k => S k ∧ k < w.heap.size) w' d x F ∧ Kp S w w' := by
  obtain ⟨c0, f0, hD1, hk1⟩ := hD.lock
  have HSD : Hid (S d) := hD.dsk.sd
  have HLK : Hid (x.lk = 0) := hD.lk
  have HO := hide hD.ok
  obtain ⟨m, E, rfl, hD1⟩ := hD1
  have c2 : (w.setCell ⟨d, 0, none⟩ (.int .i32 1)).cell? ⟨d, 2, none⟩ = some (.map (some m)) := hD1.cell 2 _ rfl
  have hz : (w.setCell ⟨d, 0, none⟩ (.int .i32 1)).heap.size = w.heap.size := by simp
  have hD1' : DkS (fun k => S k ∧ k < w.heap.size) (w.setCell ⟨d, 0, none⟩ (.int .i32 1)) d m { x with lk := 1 } E := by have := hD1.lts; rw [hz] at this; exact this
  obtain ⟨w1, hw1⟩ : ∃ w1, w1 = w.setCell ⟨d, 0, none⟩ (.int .i32 1) := ⟨_, rfl⟩
  rw [← hw1] at c2 hz hD1' hk1
  have HW1 := hide hw1
  have HD1 := hide hD1'
  have HK1 := hide hk1
  have hnm : ((E.map En.f).map (·.1)).Nodup := by rw [List.map_map]; exact hD1.names
  have HNM := hide hnm
  clear hD hD1 hk1 hD1' hw1 hnm
  -- the end
  have HEND : Hid (∀ (wr : World) (v : Value) (W : List Fo), Below w.heap.size w1 wr → Wy FK wr (w.heap.size + 1) v W → (W.map (·.1)).Perm (E.map En.f) → Told (w.heap.size + 1) wr W → Calls Tryz.prog 103 #[v, .func (.func 104) #[] #[]] wr fun e w' => e = .returned (.tuple #[]) ∧ w'.cell? ⟨d, 0, none⟩ = some (.int .i32 1) ∧ w'.frozen? ⟨d, 0, none⟩ = false ∧ ∃ W', Wy FK (w'.setCell ⟨d, 0, none⟩ (.int .i32 0)) w.heap.size v W' ∧ (W'.map (·.1)).Perm (E.map En.f) ∧ SrtF W' ∧ Told w.heap.size (w'.setCell ⟨d, 0, none⟩ (.int .i32 0)) W' ∧ Dsk (fun k => S k ∧ k < w.heap.size) (w'.setCell ⟨d, 0, none⟩ (.int .i32 0)) d x (E.map En.f) ∧ Kp S w (w'.setCell ⟨d, 0, none⟩ (.int .i32 0))) := fun wr v W hb hwy hp ht => by
    have hzr : w.heap.size ≤ wr.heap.size := by have := hb.size; omega
    have hlen : W.length ≤ 140737488355328 := by have := hp.length_eq; simp only [List.length_map] at this hn; omega
    have hwy0 : Wy FK wr w.heap.size v W := by
      rcases hwy with h | ⟨g, off, cap, cur, e, h1, h2⟩
      · exact .inl h
      · exact .inr ⟨g, off, cap, cur, e, by omega, h2⟩
    refine (sortF_way W w.heap.size v wr hwy0 hzr hlen).mono ?_
    rintro e w' ⟨rfl, W', hp', hs', hwy', hk'⟩
    have hbv : ∀ q, q < w.heap.size → ¬ v.ownBlock = some q := fun q hq hv => by have := (hwy0.lt hv).1; omega
    have hb' : ∀ q, q < w.heap.size → w'.heap[q]? = w1.heap[q]? := fun q hq => (hk'.block (by omega) (hbv q hq)).trans (hb.block q hq)
    have hD' : DkS (fun k => S k ∧ k < w.heap.size) w' d m { x with lk := 1 } E := HD1.out.keep (fun q hq => hb' q hq.2)
    have hdlt : d < w.heap.size := hD'.sd.2
    have hset : ∀ g, w.heap.size ≤ g → (w'.setCell ⟨d, 0, none⟩ (.int .i32 0)).heap[g]? = w'.heap[g]? := fun g hg => blk_set_other _ _ _ _ (fun e => by have e : g = d := e; omega)
    have ht' : Told (w.heap.size + 1) w' W := ht.keep (fun o ho g hg => hk'.block ((ht.own o ho).lt g hg).2 (ht.apart hwy ho hg))
    refine ⟨rfl, hD'.cell 0 _ rfl, hD'.frozen 0, W', hwy'.at (fun g hg => hset g (hwy'.lt hg).1), (hp'.map _).trans hp, hs', ?_, ?_, ?_⟩
    · refine Told.keep (w := w') ((ht'.perm hp'.symm).mono (Nat.le_succ _)) (fun o ho g hg => hset g ?_)
      have := (((ht'.perm hp'.symm).own o ho).lt g hg).1
      omega
    · have h5 := hD'.lk 0
      have e1 : ({ ({ x with lk := 1 } : Dx) with lk := 0 } : Dx) = x := lk_self HLK.out
      rw [e1] at h5
      exact h5.dsk
    · refine Kp.setCell ?_ HSD.out _
      refine HK1.out.trans ⟨hk'.1.trans hb.os, hk'.2.1.trans hb.tape, hk'.2.2.1.trans hb.output, by rw [hz]; exact Nat.le_trans hzr hk'.size, fun q hq _ => hb' q (by omega)⟩
  go_enter_defers Tryz.func65, Tryz.ntmps65
  go_wp2_with (first | (go_at_call 72; refine (lock_free Tryz.muLib ⟨d, 0, none⟩ _ c0 f0).mono ?_; rintro e w' ⟨rfl, hq⟩; rw [← HW1.out] at hq; rw [hq]; clear hq w') | (at_range; refine range_T rfl _ rfl m rfl (tbl E) HD1.out.tab ?_; intro w2 D hRp hrg hg2 hs2))
  rw [hz] at hrg hs2 ⊢
  have HRp := hide hRp
  have HRg := hide hrg
  have HB2 : Hid (Below w.heap.size w1 w2) := (Below.refl _ _).grown hg2 (by omega) (fun k hk => by cases hk)
  have HALL : Hid (∀ f ∈ E.map En.f, Maps.has D (.string f.1.data.toList) = true) := fun f hf => by
    rw [hRp.has, any_iff]
    obtain ⟨e, he, rfl⟩ := List.mem_map.1 hf
    unfold tbl
    rw [List.map_map]
    exact List.mem_map.2 ⟨e, he, rfl⟩
  clear hRp hrg hg2
  go_frame
  go_loopw [3] (fun v wr => ∃ left cnt W, wr.ranges Tryz.prog 9 rH m w.heap.size (tbl E).length D left cnt ∧ Wy FK wr (w.heap.size + 1) v W ∧ Hid ((W.map (·.1)).Perm (comeF (E.map En.f) left)) ∧ Hid (Told (w.heap.size + 1) wr W) ∧ Below w.heap.size w1 wr ∧ w.heap.size + 1 ≤ wr.heap.size) (fun _ wr => wr.rangeLeft m w.heap.size)
  case atStart => exact ⟨_, _, [], HRg.out, .inl ⟨rfl, rfl⟩, by rw [comeF_none HALL.out]; exact .refl _, Told.nil _ _, HB2.out, by omega⟩
  case round =>
    obtain ⟨left, cnt, W, hrg, hwy, HP, HT, hb, hlt⟩ := hrel
    obtain ⟨va, vc, rfl⟩ := hwy.shape
    have HRr := hide hrg
    have HWy := hide hwy
    have HB := hide hb
    have HLn : Hid (W.length ≤ 2000000000000) := by
      show W.length ≤ 2000000000000
      have h1 := HP.out.length_eq
      have h2 := comeF_len (E.map En.f) left
      rw [List.length_map] at h1
      omega
    clear hrg hwy hb
    go_wp2_with (at_next; go_loud (refine next_T rfl _ rfl m w.heap.size _ D _ left cnt rfl HRp.out HRr.out ?_ ?_))
    · intro hl0
      have HQ : Hid ((W.map (·.1)).Perm (E.map En.f)) := by
        have := HP.out
        rw [comeF_done hl0] at this
        exact this
      have HE := hide (HEND.out wr _ W HB.out HWy.out HQ.out HT.out)
      go_wp2_with fail
      refine HE.out.mono ?_
      rintro e3 w3 ⟨rfl, q1, q2, W', q3⟩
      have HF : Hid (w3.cell? ⟨d, 0, none⟩ = some (.int .i32 1) ∧ w3.frozen? ⟨d, 0, none⟩ = false) := ⟨q1, q2⟩
      have HF0 := hide q3
      clear q1 q2 q3
      go_wp2
      refine leaves_cons (f := 73) (args := #[.pointer (some ⟨d, 0, none⟩)]) (by simp) (by simp [go_sem]) ?_
      refine (unlock_deferred Tryz.muLib ⟨d, 0, none⟩ .returning _ (HF.out).1 (HF.out).2).mono ?_
      rintro e u' w'' ⟨rfl, rfl, rfl⟩
      exact ⟨_, results_tmp rfl _ _ _, _, W', rfl, by simpa using HF0.out⟩
    · intro y p wn cntn hm hlx hrgn hltn hgn hsn hen
      obtain ⟨e, he, hee⟩ := List.mem_map.1 hm
      simp only [Prod.mk.injEq] at hee
      obtain ⟨rfl, rfl⟩ := hee
      have hst := hide (comeF_step (left := left) HNM.out (List.mem_map_of_mem (f := En.f) he) hlx)
      have HBn : Hid (Below w.heap.size w1 wn) := HB.out.grown hgn (by omega) (fun k hk => by cases hk; exact Nat.le_refl _)
      have HWn : Hid (Wy FK wn (w.heap.size + 1) (.slice va W.length vc) W) := HWy.out.at fun k hk => hgn.block k (HWy.out.lt hk).2 (fun e => by cases e; have := (HWy.out.lt hk).1; omega)
      have HTn : Hid (Told (w.heap.size + 1) wn W) := HT.out.keep fun o ho g hg => hgn.block g ((HT.out.own o ho).lt g hg).2 (fun e => by cases e; have := ((HT.out.own o ho).lt _ hg).1; omega)
      have HRn := hide hrgn
      have hDn : DkS (fun k => S k ∧ k < w.heap.size) wn d m { x with lk := 1 } E := HD1.out.keep (fun q hq => HBn.out.block q hq.2)
      have hEn := hDn.ens e he
      obtain ⟨a0, k0, hv, _⟩ := hEn.2.2.1.slice
      have q0 := cellOf hEn.2.1 0 e.v rfl
      rw [hv] at q0
      have q1 : wn.cell? ⟨e.p, 1, none⟩ = some (.int .i64 (e.f.2.2 : Int)) := cellOf hEn.2.1 1 _ rfl
      have hplt : e.p < w.heap.size := hEn.1.2
      have hr := hEn.2.2.1.rb
      rw [hv] at hr
      have hlen : e.f.2.1.length ≤ 140737488355328 := by
        have := le_usd (List.mem_map_of_mem (f := En.f) he)
        have := HO.out.usd_le
        omega
      have HOW : Hid (Calls Tryz.prog 76 #[.slice a0 e.f.2.1.length k0] wn.drew fun e' w' => ∃ v', e' = .returned v' ∧ Ob wn.heap.size w' v' e.f.2.1 ∧ Below wn.heap.size wn w') := by
        refine (own_any _ _ wn.drew (hr.below (drew_below wn)) hlen).mono ?_
        rintro e' w' ⟨v', rfl, h1, h2⟩
        exact ⟨v', rfl, h1, belOn (drew_below wn) (Nat.le_refl _) h2⟩
      obtain ⟨n0, hn0⟩ : ∃ n0, n0 = e.f.2.1.length := ⟨_, rfl⟩
      obtain ⟨p, hp⟩ : ∃ p, p = e.p := ⟨_, rfl⟩
      obtain ⟨s0, hs0⟩ : ∃ s0, s0 = e.f.2.2 := ⟨_, rfl⟩
      rw [← hn0] at HOW q0
      rw [← hp] at q0 q1 hplt hen ⊢
      rw [← hs0] at q1
      have HN0 := hide hn0
      have HS0 := hide hs0
      have HNn : Hid (w.heap.size + 1 ≤ wn.heap.size) := by show _ ≤ wn.heap.size; omega
      clear hm hlx hrgn hgn hr hv hEn hDn he hlen hn0 hp hs0
      unfold pV at hen ⊢
      go_wp2_with fail
      refine wp_region_held_drew (S := fun V => V.cell? ⟨p, 0, none⟩ = some (.slice a0 n0 k0) ∧ V.cell? ⟨p, 1, none⟩ = some (.int .i64 (s0 : Int))) (by kernel_rfl) ⟨q0, q1⟩ (fun hHeld => ?_)
      refine take_do (i := 0) (d := 23) (v := ?_) rfl rfl (by kernel_rfl) (by kernel_rfl) (by kernel_rfl) (fun _ _ _ h => leaves_put (t := 2) rfl (by decide) _ _ _ _ _ h) rfl ?_ (by assumption) ?_
      rotate_left
      · intro W hSw
        try dsimp only at hSw
        go_simp
        try with_reducible rfl
      try simp only [List.setIfInBounds_toArray, List.set_cons_zero, List.set_cons_succ]
      refine take_do (i := 1) (d := 24) (v := ?_) rfl rfl (by kernel_rfl) (by kernel_rfl) (by kernel_rfl) (fun _ _ _ h => leaves_put (t := 2) rfl (by decide) _ _ _ _ _ h) rfl ?_ (by assumption) ?_
      rotate_left
      · intro W hSw
        try dsimp only at hSw
        go_simp
        try with_reducible rfl
      try simp only [List.setIfInBounds_toArray, List.set_cons_zero, List.set_cons_succ]
      refine take_do (i := 2) (d := 25) (v := ?_) rfl rfl (by kernel_rfl) (by kernel_rfl) (by kernel_rfl) (fun _ _ _ h => leaves_put (t := 2) rfl (by decide) _ _ _ _ _ h) rfl ?_ (by assumption) ?_
      rotate_left
      · intro W hSw
        try dsimp only at hSw
        go_simp
        try with_reducible rfl
      try simp only [List.setIfInBounds_toArray, List.set_cons_zero, List.set_cons_succ]
      refine take_do (i := 3) (d := 26) (v := ?_) rfl rfl (by kernel_rfl) (by kernel_rfl) (by kernel_rfl) (fun _ _ _ h => leaves_put (t := 2) rfl (by decide) _ _ _ _ _ h) rfl ?_ (by assumption) ?_
      rotate_left
      · intro W hSw
        try dsimp only at hSw
        go_simp
        try with_reducible rfl
      try simp only [List.setIfInBounds_toArray, List.set_cons_zero, List.set_cons_succ]
      refine take_do (i := 4) (d := 27) (v := ?_) rfl rfl (by kernel_rfl) (by kernel_rfl) (by kernel_rfl) (fun _ _ _ h => leaves_put (t := 2) rfl (by decide) _ _ _ _ _ h) rfl ?_ (by assumption) ?_
      rotate_left
      · intro W hSw
        try dsimp only at hSw
        go_simp
        try with_reducible rfl
      try simp only [List.setIfInBounds_toArray, List.set_cons_zero, List.set_cons_succ]
      refine take_do (i := 5) (d := 28) (v := ?_) rfl rfl (by kernel_rfl) (by kernel_rfl) (by kernel_rfl) (fun _ _ _ h => leaves_put (t := 2) rfl (by decide) _ _ _ _ _ h) rfl ?_ (by assumption) ?_
      rotate_left
      · intro W hSw
        try dsimp only at hSw
        obtain ⟨h0, h1⟩ := hSw
        go_simp
        try with_reducible rfl
      try simp only [List.setIfInBounds_toArray, List.set_cons_zero, List.set_cons_succ]
      refine take_do (i := 7) (d := 30) (v := ?_) rfl rfl (by kernel_rfl) (by kernel_rfl) (by kernel_rfl) (fun _ _ _ h => leaves_put (t := 2) rfl (by decide) _ _ _ _ _ h) rfl ?_ (by assumption) ?_
      rotate_left
      · intro W hSw
        try dsimp only at hSw
        go_simp
        try with_reducible rfl
      try simp only [List.setIfInBounds_toArray, List.set_cons_zero, List.set_cons_succ]
      refine take_do (i := 8) (d := 31) (v := ?_) rfl rfl (by kernel_rfl) (by kernel_rfl) (by kernel_rfl) (fun _ _ _ h => leaves_put (t := 2) rfl (by decide) _ _ _ _ _ h) rfl ?_ (by assumption) ?_
      rotate_left
      · intro W hSw
        try dsimp only at hSw
        go_simp
        try with_reducible rfl
      try simp only [List.setIfInBounds_toArray, List.set_cons_zero, List.set_cons_succ]
      refine take_do (i := 9) (d := 32) (v := ?_) rfl rfl (by kernel_rfl) (by kernel_rfl) (by kernel_rfl) (fun _ _ _ h => leaves_put (t := 2) rfl (by decide) _ _ _ _ _ h) rfl ?_ (by assumption) ?_
      rotate_left
      · intro W hSw
        try dsimp only at hSw
        go_simp
        try with_reducible rfl
      try simp only [List.setIfInBounds_toArray, List.set_cons_zero, List.set_cons_succ]
      refine take_do (i := 10) (d := 33) (v := ?_) rfl rfl (by kernel_rfl) (by kernel_rfl) (by kernel_rfl) (fun _ _ _ h => leaves_put (t := 2) rfl (by decide) _ _ _ _ _ h) rfl ?_ (by assumption) ?_
      rotate_left
      · intro W hSw
        try dsimp only at hSw
        obtain ⟨h0, h1⟩ := hSw
        go_simp
        try with_reducible rfl
      try simp only [List.setIfInBounds_toArray, List.set_cons_zero, List.set_cons_succ]
      refine wpAnyH_ready (rs := [6]) (by kernel_rfl) (by simp) ?_
      refine AllReadyH.cons rfl (fun K hK => ?_) AllReadyH.nil
      go_simp
      go_wp2_with (go_at_call 76; refine HOW.out.mono ?_; rintro e3 w3 ⟨v3, rfl, ho3, hb3⟩)
      have HHE : Hid (∀ V : World, Below w.heap.size wn V → V.cell? ⟨p, 0, none⟩ = some (.slice a0 n0 k0) ∧ V.cell? ⟨p, 1, none⟩ = some (.int .i64 (s0 : Int))) := fun V hV => ⟨(hV.cell (p := ⟨p, 0, none⟩) hplt).trans q0, (hV.cell (p := ⟨p, 1, none⟩) hplt).trans q1⟩
      have hz3 : wn.heap.size ≤ w3.heap.size := hb3.size
      obtain ⟨a3, k3, rfl, _⟩ := ho3.slice
      refine hK.out _ _ (HHE.out w3 (hb3.mono (by have := HNn.out; omega))) (fun hHeld => ?_)
      clear hK K
      try simp only [List.getElem_toArray, List.getElem_cons_succ, List.getElem_cons_zero]
      try simp only [Act.put, List.setIfInBounds_toArray, List.set_cons_zero, List.set_cons_succ]
      rw [← HN0.out]
      refine take_do (i := 11) (d := 34) (v := ?_) rfl rfl (by kernel_rfl) (by kernel_rfl) (by kernel_rfl) (fun _ _ _ h => leaves_put (t := 2) rfl (by decide) _ _ _ _ _ h) rfl ?_ (by assumption) ?_
      rotate_left
      · intro W hSw
        try dsimp only at hSw
        go_simp
        try with_reducible rfl
      try simp only [List.setIfInBounds_toArray, List.set_cons_zero, List.set_cons_succ]
      refine wpAnyH_ready (rs := [12]) (by kernel_rfl) (by simp) ?_
      refine AllReadyH.cons rfl (fun K hK => ?_) AllReadyH.nil
      rw [if_pos (by kernel_rfl)]
      have hb4 : Below wn.heap.size wn (w3.alloc (.cells ⟨FK.enc (e.f, .slice a3 n0 k3)⟩ 73)) := bel1 hb3 hz3 _
      refine wp_build_one fkOk (.tmp 34) rfl (e.f, .slice a3 n0 k3) (by rw [HS0.out]; rfl) ?_
      refine hK.out _ _ (HHE.out _ (hb4.mono (by have := HNn.out; omega))) (fun hHeld => ?_)
      clear hK K
      try simp only [List.getElem_toArray, List.getElem_cons_succ, List.getElem_cons_zero]
      try simp only [Act.put, List.setIfInBounds_toArray, List.set_cons_zero, List.set_cons_succ]
      obtain ⟨w4, hw4⟩ : ∃ w4, w4 = w3.alloc (.cells ⟨FK.enc (e.f, .slice a3 n0 k3)⟩ 73) := ⟨_, rfl⟩
      have hB4 : w4.heap[w3.heap.size]? = some (.cells ⟨FK.enc (e.f, .slice a3 n0 k3)⟩ FK.t (0, 0)) := by rw [hw4]; exact heap_new _ _
      have hz4 : w4.heap.size = w3.heap.size + 1 := by rw [hw4]; simp
      change wpAnyH Tryz.prog _ _ _ _ _ _ _ (w3.alloc (.cells ⟨FK.enc (e.f, .slice a3 n0 k3)⟩ 73))
      rw [← hw4] at hb4 ⊢
      have hW4 : Wy FK w4 (w.heap.size + 1) (.slice va W.length vc) W := HWn.out.at fun k hk => hb4.block k (HWn.out.lt hk).2
      rw [← HN0.out] at ho3
      have hn4 : (W.length + 1) * FK.bs ≤ 140737488355328 := by
        have := HLn.out
        show (W.length + 1) * 48 ≤ _
        omega
      refine wpAnyH_ready (rs := [13]) (by kernel_rfl) (by simp) ?_
      refine AllReadyH.cons rfl (fun K hK => ?_) AllReadyH.nil
      rw [if_pos (by kernel_rfl)]
      refine wp_append_way fkOk _ (.tmp 23) (.tmp 35) rfl (w.heap.size + 1) _ W (e.f, .slice a3 n0 k3) rfl hW4 w3.heap.size 1 rfl hB4 (by have := HNn.out; omega) hn4 (fun v5 w5 h1 h2 h3 => ?_)
      have hb5 : Below w.heap.size wn w5 := (hb4.mono (by have := HNn.out; omega)).grown h2 (by have := HNn.out; omega) (fun k hk => by have := (hW4.lt hk).1; omega)
      refine hK.out _ _ (HHE.out w5 hb5) (fun hHeld => ?_)
      clear hK K
      obtain ⟨va5, vc5, rfl⟩ := h1.shape
      try simp only [List.getElem_toArray, List.getElem_cons_succ, List.getElem_cons_zero]
      try simp only [Act.put, List.setIfInBounds_toArray, List.set_cons_zero, List.set_cons_succ]
      refine take_do (i := 14) (d := 3) (v := ?_) rfl rfl (by kernel_rfl) (by kernel_rfl) (by kernel_rfl) (fun _ _ _ h => leaves_put (t := 2) rfl (by decide) _ _ _ _ _ h) rfl ?_ (by assumption) ?_
      rotate_left
      · intro W hSw
        try dsimp only at hSw
        go_simp
        try with_reducible rfl
      try simp only [List.setIfInBounds_toArray, List.set_cons_zero, List.set_cons_succ]
      refine wpAnyH_done (by kernel_rfl) ?_ _
      have HW5 := hide h1
      have HB5 : Hid (Below w.heap.size w1 w5) := HBn.out.trans hb5
      have HR5 : Hid (w5.ranges Tryz.prog 9 rH m w.heap.size (tbl E).length D (fun z => left z && !z.sameKey (.string e.f.1.data.toList)) cntn) := by
        have hr4 := HRn.out.kept (row := none) (w' := w4) ⟨hb4.os, hb4.tape, hb4.output, hb4.size, fun k hk _ => hb4.block k hk⟩ (by simp) (by simp)
        refine hr4.kept h2 (fun h => ?_) (fun h => ?_)
        · have := (hW4.lt h.symm).1
          have := HD1.out.sm.2
          omega
        · have := (hW4.lt h.symm).1
          omega
      have HQ : Hid (((W ++ [(e.f, Value.slice a3 n0 k3)]).map (·.1)).Perm (comeF (E.map En.f) (fun z => left z && !z.sameKey (.string e.f.1.data.toList)))) := by
        show List.Perm _ _
        rw [List.map_append]
        exact (HP.out.append_right _).trans hst.out.symm
      have HT5 : Hid (Told (w.heap.size + 1) w5 (W ++ [(e.f, Value.slice a3 n0 k3)])) := by
        have t4 := HTn.out.below hb4
        have t5 : Told (w.heap.size + 1) w5 W := t4.keep (fun o ho g hg => h2.block g ((t4.own o ho).lt g hg).2 (fun h => t4.apart hW4 ho hg h.symm))
        have o5 : Ob wn.heap.size w5 (.slice a3 n0 k3) e.f.2.1 := by
          refine ho3.at_same (fun g hg => ?_)
          have hgl := ho3.lt g hg
          have e1 : w4.heap[g]? = w3.heap[g]? := by rw [hw4]; exact Below.heap_alloc _ _ _ hgl.2
          rw [← e1]
          refine h2.block g (by omega) (fun h => ?_)
          have := (HWn.out.lt h.symm).2
          omega
        exact t5.push (B := wn.heap.size) (o5.mono HNn.out) (fun g hg => (o5.lt g hg).1) (fun q hq g hg => ((HTn.out.own q hq).lt g hg).2)
      have HZ5 : Hid (w.heap.size + 1 ≤ w5.heap.size) := by
        show _ ≤ w5.heap.size
        have := h2.size
        have := HNn.out
        omega
      clear h1 h2 h3 hb5 hb4 hW4 hB4 hw4 ho3 hb3 HOW HHE hst hen
      go_wp2
      go_roundw
      case rel => exact ⟨_, cntn, _, HR5.out, by simpa using HW5.out, HQ, HT5, HB5.out, HZ5.out⟩
      case measure => rw [HR5.out.left_eq, HRr.out.left_eq]; exact hltn
end Go.Proofs.YtdcoafpenkofoaaGreatDoor
