import Derived.Test.YtknkmamjdmadcaaGMapM9
import Derived.Test.YtknkmamjdmadcaaLSrtM9
import Derived.Test.YtknkmamjdmadcaaSort
import Derived.Maps.RangeWalk
import Derived.StringKeys
import Derived.OwnWalk
import Derived.Test.YtknkmamjdmadcaaLUnsM9

/- Stage 14: slices.SortFunc of unsettled deliveries with any states. -/
namespace Go.Proofs.Ytknkmamjdmadcaa.G
open Go.RowKit Go.Sort Go.Lib
set_option linter.unusedVariables false
set_option linter.unusedSimpArgs false

/-- an unsettled delivery: its tag, its state -/
abbrev Un : Type := ByteArray × Sw
def Un.enc (x : Un) : List Value := .string x.1 :: x.2.L
def Un.cf (x y : Un) : Int := cmpB x.1.toList y.1.toList
def un0 : Un := (⟨#[]⟩, sw0)
theorem un_len (x : Un) : x.enc.length = 20 := rfl
theorem un_one (x : Un) : ∀ u ∈ x.enc, u.oneCell' = true := fun u hu => by
  have : (x.enc).all (·.oneCell') = true := by kernel_rfl
  exact List.all_eq_true.1 this u hu
theorem un_swo : SWO (ltOf Un.cf) where
  irrefl x := by
    unfold ltOf Un.cf
    have := neg_cmpB x.1.toList x.1.toList
    simp
    omega
  trans x y z h1 h2 := by
    unfold ltOf Un.cf at *
    have := tri_cmpB x.1.toList y.1.toList z.1.toList
    unfold Tri at this
    simp at *
    omega
  ntrans x y z h1 h2 := by
    unfold ltOf Un.cf at *
    have := tri_cmpB x.1.toList y.1.toList z.1.toList
    unfold Tri at this
    simp at *
    omega
theorem Try.aggU : ∀ w, (isAgg 70).run Try.prog w = .ok true w := fun w => by first | exact Try.isAgg70 w | rfl
theorem Try.sizU : ∀ w, (Go.sizeOf 70).run Try.prog w = .ok 20 w := fun w => by first | exact Try.sizeOf70 w | rfl
set_option maxRecDepth 100000 in
theorem cmpU (x y : Un) (w : World) :
    Calls Try.prog 31 #[.agg x.enc.toArray, .agg y.enc.toArray] w fun e w' => e = .returned (.int .i64 (x.cf y)) ∧ ∃ q os', w' = grow (w.drewN q) os' := by
  obtain ⟨V, hV⟩ : ∃ V, (w.alloc (.cells x.enc.toArray 70)).alloc (.cells y.enc.toArray 70) = V := ⟨_, rfl⟩
  have c0 : V.cell? ⟨w.heap.size, 0, none⟩ = some (.string x.1) := cellOf (hV ▸ heap_past (heap_alloc_last w _) _ : V.heap[w.heap.size]? = some (.cells x.enc.toArray 70 (0, 0))) 0 (.string x.1) rfl
  have c1 : V.cell? ⟨w.heap.size + 1, 0, none⟩ = some (.string y.1) := cellOf (hV ▸ heap_last1 w _ _ : V.heap[w.heap.size + 1]? = some (.cells y.enc.toArray 70 (0, 0))) 0 (.string y.1) rfl
  have hs : V.heap.size = w.heap.size + 2 := by rw [← hV]; simp
  have HV := hide hV
  clear hV
  go_enter Try.func31, Try.ntmps31
  go_wp2_with (first | rw [HV.out] | (go_at_call 32; refine (cmp_str _ _ _).mono ?_; rintro e1 w1 ⟨rfl, rfl⟩))
  go_ret
  exact ⟨rfl, 0, _, HV.out.symm.trans (grow_two _ _ _)⟩
theorem un_cmp (w : World) (blk off size : Nat) [Inhabited Un] : CmpLays Try.prog 31 #[] Un.enc 20 Un.cf blk off size w := fun m os dk hdk x y => cmpU x y _
set_option maxRecDepth 100000 in
theorem sortu_any (ks : List Un) (blk off cap : Nat) (cur : Array Value) (w : World) (hb : w.heap[blk]? = some (.cells cur 70 (0, 0))) (hr : w.rangeAt blk off (ks.flatMap Un.enc)) (hsz : ks.length < 4611686018427387904) :
    Calls Try.prog 30 #[.slice (some ⟨blk, off, none⟩) ks.length cap, .func (.func 31) #[] #[]] w fun e w' => e = .returned (.tuple #[]) ∧ ∃ ks' : List Un, ks'.Perm ks ∧ (∀ i j (hi : i < ks'.length) (hj : j < ks'.length), i < j → 0 ≤ Un.cf ks'[j] ks'[i]) ∧ (∀ j (hj : j < ks'.length), blk < w'.heap.size ∧ w'.cell? ⟨blk, off + j * 20, none⟩ = some (.string ks'[j].1)) ∧ But blk w w' := by
  haveI : Inhabited Un := ⟨un0⟩
  have hlt : blk < w.heap.size := (Array.getElem?_eq_some_iff.1 hb).1
  obtain ⟨d, hdd⟩ : ∃ d : Array Un, d = ks.toArray := ⟨_, rfl⟩
  have hd : d.size = ks.length := by rw [hdd]; simp
  have hfl : ∀ (l : List Un), (l.flatMap Un.enc).length = l.length * 20 := fun l => by
    induction l with
    | nil => rfl
    | cons x l ih => rw [List.flatMap_cons, List.length_append, ih, un_len, List.length_cons]; omega
  have hget : ∀ (l : List Un) (i q : Nat) (hi : i < l.length), q < 20 → (l.flatMap Un.enc)[i * 20 + q]? = (l[i].enc)[q]? := fun l => by
    induction l with
    | nil => intro i q hi; simp at hi
    | cons x l ih =>
      intro i q hi hq
      cases i with
      | zero => rw [List.flatMap_cons, List.getElem?_append_left (by rw [un_len]; omega)]; simp
      | succ i =>
        rw [List.flatMap_cons, List.getElem?_append_right (by rw [un_len]; omega), un_len, show (i + 1) * 20 + q - 20 = i * 20 + q by omega, ih i q (by simpa using hi) hq]
        simp
  have hH : HoldsK Un.enc 20 w blk off d := by
    intro j hj
    have hj' : j < ks.length * 20 := by simpa [hd] using hj
    refine ⟨?_, by simp [World.frozen?, hb]⟩
    rw [get_flatK _ _ _ _ (by simpa [hd] using hj')]
    have hq : j % 20 < 20 := Nat.mod_lt _ (by decide)
    have hi : j / 20 < ks.length := by omega
    have e := hget ks (j / 20) (j % 20) hi hq
    rw [show j / 20 * 20 + j % 20 = j by omega] at e
    have hdi : d[j / 20]! = ks[j / 20] := by
      rw [getElem!_pos d (j / 20) (by omega)]
      subst hdd
      simp
    show w.cell? ⟨blk, off + j, none⟩ = some ((Un.enc (d[j / 20]!))[j % 20]!)
    rw [hdi]
    refine hr j _ (e.trans ?_)
    rw [getElem!_pos _ _ (by rw [un_len]; exact hq)]
    exact List.getElem?_eq_getElem _
  have hcon := Try.slices_SortFuncU Try.aggU Try.sizU Un.enc un_len un_one Un.cf un_swo 31 #[] blk off cap d w (enters_of Try.func31 (by kernel_rfl) rfl) (un_cmp w blk off d.size) hH hlt (by omega)
  rw [hd] at hcon
  refine hcon.mono ?_
  rintro e w' ⟨rfl, d', n, os, hp, hs, rfl⟩
  obtain ⟨hp1, hp2, hp3⟩ := hp
  have hd' : d'.size = ks.length := by omega
  have hH' := holdsK_sortWorldK_c Un.enc 20 w blk off d d' n os hH hlt hp1
  have hsw := size_sortWorldK_c Un.enc 20 w blk off n d' os
  refine ⟨rfl, d'.toList, ?_, fun i j hi hj hij => ?_, fun i hi => ⟨by omega, ?_⟩, ?_⟩
  · have e1 : (d'.extract 0 ks.length) = d' := by rw [← hd']; simp
    have e2 : (d.extract 0 ks.length) = d := by rw [← hd]; simp
    rw [e1, e2] at hp3
    have h5 : d.toList = ks := by rw [hdd]
    rw [← h5]
    exact hp3
  · have hi' : i < d'.size := by simpa using hi
    have hj' : j < d'.size := by simpa using hj
    have := hs i j (Nat.zero_le _) hij (by omega)
    unfold ltOf at this
    rw [getElem!_pos d' i hi', getElem!_pos d' j hj'] at this
    simp at this
    simpa using this
  · have hi' : i < d'.size := by simpa using hi
    have c := (hH'.cell hi' (show 0 < 20 by decide)).1
    rw [getElem!_pos d' i hi'] at c
    simpa [Un.enc] using c
  · refine ⟨rfl, rfl, rfl, hsw, fun k hk hne => ?_⟩
    unfold sortWorldK
    have hs' : (putRowK Un.enc 20 (Sort.ahead w n) blk off d').heap.size = w.heap.size := by unfold putRowK; simp [Sort.ahead]
    rw [heap_grow_old _ _ (by rw [hs']; exact hk)]
    unfold putRowK putRow mapBlock
    simp [Array.getElem?_modify, Sort.ahead, Ne.symm hne]
end Go.Proofs.Ytknkmamjdmadcaa.G


/- Stage 14: the going over the table with any states. -/
namespace Go.Proofs.Ytknkmamjdmadcaa.G
open Go.RowKit Go.Maps
set_option linter.unusedVariables false
set_option linter.unusedSimpArgs false

def unK : WK Un := ⟨Un.enc, 20, 248, 70, 40⟩
theorem unOk : unK.Ok := ⟨un_len, un_one, Try.underlying40, info3 Try.infoUn, by decide, by decide, by decide⟩
section
variable {ops : Array Oper} {rest : List Oper} {o : Oper} {a : Act} {Q : Exit → Act → World → Prop} {w : World}
theorem next_D (hg : o.guard = none) (it : Operand) (hop : o.op = Op.next it false) (b r n : Nat) (D : DataW Value) (L : List (ByteArray × Dv)) (left : Lit → Bool) (cnt : Nat) (hit : a.eval it = .pointer (some ⟨r, 0, none⟩)) (hR : Rp dvV D L) (h : w.ranges Try.prog 9 rH b r n D left cnt)
    (hDone : (∀ k : ByteArray, left (.string k.data.toList) = false) → wpList Try.prog ops Q rest (a.put o.dst (.tuple #[.bool false])) w)
    (hMore : ∀ (x : ByteArray) (p : Dv) (w' : World) (cnt' : Nat), (x, p) ∈ L → left (.string x.data.toList) = true → w'.ranges Try.prog 9 rH b r n D (fun z => left z && !z.sameKey (.string x.data.toList)) cnt' → cnt' < cnt →
      w.grownBy w' (some r) → w'.heap.size = w.heap.size → (Instr.entry (.pointer (some ⟨r, 0, none⟩))).run Try.prog w' = .ok (.tuple #[.string x, dvV p]) w' → wpList Try.prog ops Q rest (a.put o.dst (.tuple #[.bool true, .string x, dvV p])) w') :
    wpList Try.prog ops Q (o :: rest) a w := by
  refine wpList_next_ranges w hg it hop 9 Try.skeyed rH Value.string (fun v : Value => v) (fun key kl hkey => Maps.keyOf_string_inv Try.underlying9 hkey) (fun v y hv => ⟨v, rfl⟩)
    b r n D left cnt hit h (fun _ hl => hDone (fun k => hl _)) (fun x c kl y w' cnt' hkey hlk hv hat hrg hlt hgr hsz hen => ?_)
  obtain ⟨rfl, hx⟩ := keyS_inv hkey
  have ey : y.1 = .held c := by
    simp [rH] at hv
    rw [← hv]
  have hh := Maps.has_true_of_atKey (y := .held c) (fun z => (hat z).trans ey)
  rw [hR.has] at hh
  have hm := lu_mem (d := dv0) hh
  have h1 := hR.at hm (.held (dvV dv0))
  rw [hat, ey] at h1
  simp only [DataW.held.injEq] at h1
  subst h1
  exact hMore x _ w' cnt' hm hlk hrg hlt hgr hsz hen
theorem range_D (hg : o.guard = none) (m : Operand) (hop : o.op = Op.range 82 m) (b : Nat) (hm : a.eval m = .map (some b)) (L : List (ByteArray × Dv)) (hT : TbD w b L)
    (hK : ∀ w' D, Rp dvV D L → w'.ranges Try.prog 9 rH b w.heap.size L.length D (Maps.has D) (Maps.size D) → w.grownBy w' none → w'.heap.size = w.heap.size + 1 → wpList Try.prog ops Q rest (a.put o.dst (.pointer (some ⟨w.heap.size, 0, none⟩))) w') : wpList Try.prog ops Q (o :: rest) a w := by
  obtain ⟨D, h1, h2⟩ := hT
  exact wpList_range_own w hg m 82 hop 9 89 Try.skeyed Try.underlying82 rH b _ D hm h1 fun w' g1 g2 g3 => hK w' D h2 g1 g2 g3
end
def unOf (p : ByteArray × Dv) : ByteArray := p.1
/-- those that have come -/
def unB (L : List (ByteArray × Dv)) (left : Lit → Bool) : List ByteArray := (L.filter fun p => !left (.string p.1.data.toList)).map unOf
theorem unB_done {L : List (ByteArray × Dv)} {left : Lit → Bool} (h : ∀ k : ByteArray, left (.string k.data.toList) = false) : unB L left = L.map unOf := by
  unfold unB
  have e : (L.filter fun p => !left (.string p.1.data.toList)) = L := List.filter_eq_self.2 (fun p _ => by simp [h])
  rw [e]
theorem unB_start {L : List (ByteArray × Dv)} {D : DataW Value} (hR : Rp dvV D L) : unB L (Maps.has D) = [] := by
  unfold unB
  have e : (L.filter fun p => !Maps.has D (.string p.1.data.toList)) = [] := by
    rw [List.filter_eq_nil_iff]
    intro p hp
    rw [hR.has]
    have : L.any (fun q => decide (q.1 = p.1)) = true := any_iff.2 (List.mem_map_of_mem hp)
    simp [this]
  rw [e]
  rfl
theorem split_one : ∀ {L : List (ByteArray × Dv)}, (L.map (·.1)).Nodup → ∀ {left : Lit → Bool} {x : ByteArray} {p : Dv}, (x, p) ∈ L → left (.string x.data.toList) = true →
    (L.filter fun q => !(left (.string q.1.data.toList) && !(Lit.string q.1.data.toList).sameKey (.string x.data.toList))).Perm ((x, p) :: L.filter fun q => !left (.string q.1.data.toList))
  | [], _, _, _, _, hm, _ => by cases hm
  | y :: t, hn, left, x, p, hm, hl => by
    simp only [List.map_cons, List.nodup_cons] at hn
    rcases List.mem_cons.1 hm with e | hm'
    · subst e
      have ht : (t.filter fun q => !(left (.string q.1.data.toList) && !(Lit.string q.1.data.toList).sameKey (.string x.data.toList))) = t.filter fun q => !left (.string q.1.data.toList) := by
        apply List.filter_congr
        intro q hq
        have hne : q.1 ≠ x := fun e => hn.1 (by rw [← e]; exact List.mem_map_of_mem (f := (·.1)) hq)
        rw [lit_same]
        simp [hne]
      rw [List.filter_cons_of_pos (by simp [lit_same]), List.filter_cons_of_neg (by simp [hl]), ht]
    · have hne : y.1 ≠ x := fun e => hn.1 (by rw [e]; exact List.mem_map_of_mem (f := (·.1)) hm')
      have ih := split_one hn.2 hm' hl
      by_cases hy : left (.string y.1.data.toList) = true
      · rw [List.filter_cons_of_neg (by simp [hy, lit_same, hne]), List.filter_cons_of_neg (by simp [hy])]
        exact ih
      · rw [List.filter_cons_of_pos (by simp [hy]), List.filter_cons_of_pos (by simp [hy])]
        exact (ih.cons y).trans (List.Perm.swap _ _ _)
theorem unB_step {L : List (ByteArray × Dv)} {left : Lit → Bool} {D : DataW Value} (hR : Rp dvV D L) {x : ByteArray} {p : Dv} (hm : (x, p) ∈ L) (hl : left (.string x.data.toList) = true) :
    (unB L (fun z => left z && !z.sameKey (.string x.data.toList))).Perm (unB L left ++ [unOf (x, p)]) := by
  unfold unB
  have h := (split_one hR.1 hm hl).map unOf
  exact h.trans (List.perm_append_singleton _ _).symm
theorem unB_len (L : List (ByteArray × Dv)) (left : Lit → Bool) : (unB L left).length ≤ L.length := by
  unfold unB
  rw [List.length_map]
  exact List.length_filter_le _ _
/-- the tags of a list, in their order -/
def UnsP (w w' : World) (T : List (ByteArray × Dv)) (v : Value) : Prop := ∃ a c ts, v = .slice a ts.length c ∧ ts.Perm (T.map unOf) ∧ (∀ i j (hi : i < ts.length) (hj : j < ts.length), i < j → 0 ≤ cmpB ts[j].toList ts[i].toList) ∧ RdU w' a ts ∧ Below w.heap.size w w'
end Go.Proofs.Ytknkmamjdmadcaa.G
