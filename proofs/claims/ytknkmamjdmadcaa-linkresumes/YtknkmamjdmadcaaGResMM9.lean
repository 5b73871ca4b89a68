import Derived.Test.YtknkmamjdmadcaaGMapM9
import Derived.Test.YtknkmamjdmadcaaGUnsM9
import Derived.Test.YtknkmamjdmadcaaGPeerM9
import Derived.Test.YtknkmamjdmadcaaGOfM9
import Derived.Maps.RangeWalk
import Derived.StringKeys
import Derived.OwnWalk
import Derived.Test.YtknkmamjdmadcaaLSrtM9
import Derived.Test.YtknkmamjdmadcaaSortR

/- Stage 14: a table of ints by texts. -/
namespace Go.Proofs.Ytknkmamjdmadcaa.G
open Go.RowKit Go.Maps
set_option linter.unusedVariables false
set_option linter.unusedSimpArgs false

def iV (k : Int) : Value := .int .i64 k
def TbI (w : World) (b : Nat) (l : List (ByteArray × Int)) : Prop := ∃ D, w.ownsMap Try.prog 9 rH b l.length D ∧ Rp iV D l
section
variable {w w' : World} {b : Nat} {l l' : List (ByteArray × Int)}
theorem TbI.lt (h : TbI w b l) : b < w.heap.size := by obtain ⟨D, h, _⟩ := h; exact h.lt
theorem TbI.at (h : TbI w b l) (hb : w'.heap[b]? = w.heap[b]?) : TbI w' b l := by
  obtain ⟨D, ⟨es, c, h1, h2⟩, h3⟩ := h
  exact ⟨D, ⟨es, c, hb.trans h1, h2⟩, h3⟩
theorem TbI.perm (h : TbI w b l) (hp : l.Perm l') : TbI w b l' := by
  obtain ⟨D, h1, h2⟩ := h
  exact ⟨D, hp.length_eq ▸ h1, h2.perm hp⟩
theorem TbI.nodup (h : TbI w b l) : (l.map (·.1)).Nodup := by obtain ⟨D, h1, h2⟩ := h; exact h2.1
theorem TbI.mk {n : Nat} {D : DataW Value} (h : w.ownsMap Try.prog 9 rH b n D) (hr : Rp iV D l) : TbI w b l := ⟨D, own_lowS h (by rw [hr.size]; exact Nat.le_refl _), hr⟩
theorem TbI.ne {g : Nat} {cs : Array Value} {t : TypeId} {f : Nat × Nat} (h : TbI w b l) (hg : w.heap[g]? = some (.cells cs t f)) : b ≠ g := by
  rintro rfl
  obtain ⟨D, ⟨es, c, h1, _⟩, _⟩ := h
  rw [h1] at hg
  cases hg
theorem TbI.made (w : World) : TbI (w.alloc (.map #[] 0)) w.heap.size [] := ⟨_, World.ownsMap_made w _ _ _, Rp.nil⟩
end
theorem zeroI (w : World) : (zeroValue 3).run Try.prog w = .ok (iV (0 : Int)) w := by kernel_rfl
section
variable {ops : Array Oper} {rest : List Oper} {o : Oper} {a : Act} {Q : Exit → Act → World → Prop} {w : World}
theorem look_I (hg : o.guard = none) (m x : Operand) (hop : o.op = Op.lookup 96 m x true) (b : Nat) (hm : a.eval m = .map (some b)) (k : ByteArray) (hx : a.eval x = .string k) (l : List (ByteArray × Int)) (hT : TbI w b l) (hk : k.size ≤ maxLen)
    (hK : wpList Try.prog ops Q rest (a.put o.dst (.tuple #[iV (lu (0 : Int) l k), .bool (hasK l k)])) w) : wpList Try.prog ops Q (o :: rest) a w := by
  obtain ⟨D, h1, h2⟩ := hT
  refine wpList_lookup_own_ok w hg m x 96 hop 9 3 Try.skeyed Try.underlying96 rH (zeroI w) (.held (iV (0 : Int))) [] rfl b _ D hm h1 _ (.string k.data.toList) hx (keyS hk) ?_
  intro v ps hv
  rw [h2.lu (0 : Int) k] at hv
  obtain rfl := rH_inv hv
  rw [h2.has]
  exact hK
theorem put_I (hg : o.guard = none) (m x v : Operand) (hop : o.op = Op.mapUpdate 96 m x v) (b : Nat) (hm : a.eval m = .map (some b)) (k : ByteArray) (p : Int) (hx : a.eval x = .string k) (hv : a.eval v = iV p) (l : List (ByteArray × Int)) (hT : TbI w b l) (hk : k.size ≤ maxLen) (hn : l.length < maxLen)
    (hK : ∀ w', TbI w' b ((k, p) :: l.filter fun p => !decide (p.1 = k)) → Kp (fun q => q = b) w w' → w'.heap.size = w.heap.size → wpList Try.prog ops Q rest (a.put o.dst undef) w') : wpList Try.prog ops Q (o :: rest) a w := by
  obtain ⟨D, h1, h2⟩ := hT
  exact wpList_mapUpdate_in w hg m x v 96 hop 9 3 Try.skeyed Try.underlying96 rH b _ D hm h1 hn _ _ (.string k.data.toList) hx hv (keyS hk) (.held (iV p)) [] rfl fun w' g1 g2 => hK w' (TbI.mk g1 (h2.put k p)) (grown_kp g2) (turned_size g2)
theorem len_I (hg : o.guard = none) (m : Operand) (hop : o.op = Op.call { callee := Callee.builtin Builtin.len, args := #[m], argTypes := #[96] }) (b : Nat) (hm : a.eval m = .map (some b)) (l : List (ByteArray × Int)) (hT : TbI w b l)
    (hK : wpList Try.prog ops Q rest (a.put o.dst (.int .i64 l.length)) w) : wpList Try.prog ops Q (o :: rest) a w := by
  obtain ⟨D, h1, h2⟩ := hT
  refine wpList_len_own w hg m 96 hop 9 3 Try.underlying96 rH b _ D hm h1 ?_
  rw [h2.size]
  exact hK
theorem next_I (hg : o.guard = none) (it : Operand) (hop : o.op = Op.next it false) (b r n : Nat) (D : DataW Value) (L : List (ByteArray × Int)) (left : Lit → Bool) (cnt : Nat) (hit : a.eval it = .pointer (some ⟨r, 0, none⟩)) (hR : Rp iV D L) (h : w.ranges Try.prog 9 rH b r n D left cnt)
    (hDone : (∀ k : ByteArray, left (.string k.data.toList) = false) → wpList Try.prog ops Q rest (a.put o.dst (.tuple #[.bool false])) w)
    (hMore : ∀ (x : ByteArray) (p : Int) (w' : World) (cnt' : Nat), (x, p) ∈ L → left (.string x.data.toList) = true → w'.ranges Try.prog 9 rH b r n D (fun z => left z && !z.sameKey (.string x.data.toList)) cnt' → cnt' < cnt →
      w.grownBy w' (some r) → w'.heap.size = w.heap.size → (Instr.entry (.pointer (some ⟨r, 0, none⟩))).run Try.prog w' = .ok (.tuple #[.string x, iV p]) w' → wpList Try.prog ops Q rest (a.put o.dst (.tuple #[.bool true, .string x, iV p])) w') :
    wpList Try.prog ops Q (o :: rest) a w := by
  refine wpList_next_ranges w hg it hop 9 Try.skeyed rH Value.string (fun v : Value => v) (fun key kl hkey => Maps.keyOf_string_inv Try.underlying9 hkey) (fun v y hv => ⟨v, rfl⟩)
    b r n D left cnt hit h (fun _ hl => hDone (fun k => hl _)) (fun x c kl y w' cnt' hkey hlk hv hat hrg hlt hgr hsz hen => ?_)
  obtain ⟨rfl, hx⟩ := keyS_inv hkey
  have ey : y.1 = .held c := by
    simp [rH] at hv
    rw [← hv]
  have hh := Maps.has_true_of_atKey (y := .held c) (fun z => (hat z).trans ey)
  rw [hR.has] at hh
  have hm := lu_mem (d := (0 : Int)) hh
  have h1 := hR.at hm (.held (iV (0 : Int)))
  rw [hat, ey] at h1
  simp only [DataW.held.injEq] at h1
  subst h1
  exact hMore x _ w' cnt' hm hlk hrg hlt hgr hsz hen
theorem range_I (hg : o.guard = none) (m : Operand) (hop : o.op = Op.range 96 m) (b : Nat) (hm : a.eval m = .map (some b)) (L : List (ByteArray × Int)) (hT : TbI w b L)
    (hK : ∀ w' D, Rp iV D L → w'.ranges Try.prog 9 rH b w.heap.size L.length D (Maps.has D) (Maps.size D) → w.grownBy w' none → w'.heap.size = w.heap.size + 1 → wpList Try.prog ops Q rest (a.put o.dst (.pointer (some ⟨w.heap.size, 0, none⟩))) w') : wpList Try.prog ops Q (o :: rest) a w := by
  obtain ⟨D, h1, h2⟩ := hT
  exact wpList_range_own w hg m 96 hop 9 3 Try.skeyed Try.underlying96 rH b _ D hm h1 fun w' g1 g2 g3 => hK w' D h2 g1 g2 g3
end
theorem wp_put_I {o : Oper} {a : Act} {w : World} {K : Act → World → Prop} {Q : Exit → Act → World → Prop} (m x v : Operand) (hop : o.op = Op.mapUpdate 96 m x v) (b : Nat) (hm : a.eval m = .map (some b)) (k : ByteArray) (p : Int) (hx : a.eval x = .string k) (hv : a.eval v = iV p) (l : List (ByteArray × Int)) (hT : TbI w b l) (hk : k.size ≤ maxLen) (hn : l.length < maxLen)
    (hK : ∀ w', TbI w' b ((k, p) :: l.filter fun p => !decide (p.1 = k)) → Kp (fun q => q = b) w w' → w'.heap.size = w.heap.size → K (a.put o.dst undef) w') : o.wp Try.prog a w K Q := by
  obtain ⟨D, h1, h2⟩ := hT
  obtain ⟨w', hrun, r1, r2⟩ := h1.store Try.skeyed Try.underlying96 hn (keyS hk) (val := iV p) (d := .held (iV p)) (ps := []) rfl
  unfold Oper.wp
  simp [execOp, hop, hm, hx, hv, hrun, Result.andThen]
  exact hK w' (TbI.mk r1 (h2.put k p)) (grown_kp r2) (turned_size r2)
def rsOf (p : ByteArray × Int) : ByteArray × Int := p
/-- those that have come -/
def rsB (L : List (ByteArray × Int)) (left : Lit → Bool) : List (ByteArray × Int) := (L.filter fun p => !left (.string p.1.data.toList)).map rsOf
theorem rsB_done {L : List (ByteArray × Int)} {left : Lit → Bool} (h : ∀ k : ByteArray, left (.string k.data.toList) = false) : rsB L left = L.map rsOf := by
  unfold rsB
  have e : (L.filter fun p => !left (.string p.1.data.toList)) = L := List.filter_eq_self.2 (fun p _ => by simp [h])
  rw [e]
theorem rsB_start {L : List (ByteArray × Int)} {D : DataW Value} (hR : Rp iV D L) : rsB L (Maps.has D) = [] := by
  unfold rsB
  have e : (L.filter fun p => !Maps.has D (.string p.1.data.toList)) = [] := by
    rw [List.filter_eq_nil_iff]
    intro p hp
    rw [hR.has]
    have : L.any (fun q => decide (q.1 = p.1)) = true := any_iff.2 (List.mem_map_of_mem hp)
    simp [this]
  rw [e]
  rfl
theorem split_oneI : ∀ {L : List (ByteArray × Int)}, (L.map (·.1)).Nodup → ∀ {left : Lit → Bool} {x : ByteArray} {p : Int}, (x, p) ∈ L → left (.string x.data.toList) = true →
    (L.filter fun q => !(left (.string q.1.data.toList) && !(Lit.string q.1.data.toList).sameKey (.string x.data.toList))).Perm ((x, p) :: L.filter fun q => !left (.string q.1.data.toList))
  | [], _, _, _, _, hm, _ => by cases hm
  | y :: t, hn, left, x, p, hm, hl => by
    simp only [List.map_cons, List.nodup_cons] at hn
    rcases List.mem_cons.1 hm with e | hm'
    · subst e
      have ht : (t.filter fun q => !(left (.string q.1.data.toList) && !(Lit.string q.1.data.toList).sameKey (.string x.data.toList))) = t.filter fun q => !left (.string q.1.data.toList) := by
        apply List.filter_congr
        intro q hq
        have hne : q.1 ≠ x := fun e => hn.1 (by rw [← e]; exact List.mem_map_of_mem (f := (·.1)) hq)
        rw [lit_same]
        simp [hne]
      rw [List.filter_cons_of_pos (by simp [lit_same]), List.filter_cons_of_neg (by simp [hl]), ht]
    · have hne : y.1 ≠ x := fun e => hn.1 (by rw [e]; exact List.mem_map_of_mem (f := (·.1)) hm')
      have ih := split_oneI hn.2 hm' hl
      by_cases hy : left (.string y.1.data.toList) = true
      · rw [List.filter_cons_of_neg (by simp [hy, lit_same, hne]), List.filter_cons_of_neg (by simp [hy])]
        exact ih
      · rw [List.filter_cons_of_pos (by simp [hy]), List.filter_cons_of_pos (by simp [hy])]
        exact (ih.cons y).trans (List.Perm.swap _ _ _)
theorem rsB_step {L : List (ByteArray × Int)} {left : Lit → Bool} {D : DataW Value} (hR : Rp iV D L) {x : ByteArray} {p : Int} (hm : (x, p) ∈ L) (hl : left (.string x.data.toList) = true) :
    (rsB L (fun z => left z && !z.sameKey (.string x.data.toList))).Perm (rsB L left ++ [rsOf (x, p)]) := by
  unfold rsB
  have h := (split_oneI hR.1 hm hl).map rsOf
  exact h.trans (List.perm_append_singleton _ _).symm
theorem rsB_len (L : List (ByteArray × Int)) (left : Lit → Bool) : (rsB L left).length ≤ L.length := by
  unfold rsB
  rw [List.length_map]
  exact List.length_filter_le _ _
end Go.Proofs.Ytknkmamjdmadcaa.G


/- Stage 14: slices.SortFunc of what became of deliveries. -/
namespace Go.Proofs.Ytknkmamjdmadcaa.G
open Go.RowKit Go.Sort Go.Lib
set_option linter.unusedVariables false
set_option linter.unusedSimpArgs false

/-- what became of a delivery: its tag, what -/
abbrev Rs : Type := ByteArray × Int
def Rs.enc (x : Rs) : List Value := [.string x.1, .int .i64 x.2]
def Rs.cf (x y : Rs) : Int := cmpB x.1.toList y.1.toList
def rs0 : Rs := (⟨#[]⟩, 0)
theorem rs_len (x : Rs) : x.enc.length = 2 := rfl
theorem rs_one (x : Rs) : ∀ u ∈ x.enc, u.oneCell' = true := fun u hu => by
  have : (x.enc).all (·.oneCell') = true := by kernel_rfl
  exact List.all_eq_true.1 this u hu
theorem rs_swo : SWO (ltOf Rs.cf) where
  irrefl x := by
    unfold ltOf Rs.cf
    have := neg_cmpB x.1.toList x.1.toList
    simp
    omega
  trans x y z h1 h2 := by
    unfold ltOf Rs.cf at *
    have := tri_cmpB x.1.toList y.1.toList z.1.toList
    unfold Tri at this
    simp at *
    omega
  ntrans x y z h1 h2 := by
    unfold ltOf Rs.cf at *
    have := tri_cmpB x.1.toList y.1.toList z.1.toList
    unfold Tri at this
    simp at *
    omega
theorem Try.aggR : ∀ w, (isAgg 64).run Try.prog w = .ok true w := fun w => by first | exact Try.isAgg64 w | rfl
theorem Try.sizR : ∀ w, (Go.sizeOf 64).run Try.prog w = .ok 2 w := fun w => by first | exact Try.sizeOf64 w | rfl
set_option maxRecDepth 100000 in
theorem cmpR (x y : Rs) (w : World) :
    Calls Try.prog 38 #[.agg x.enc.toArray, .agg y.enc.toArray] w fun e w' => e = .returned (.int .i64 (x.cf y)) ∧ ∃ q os', w' = grow (w.drewN q) os' := by
  obtain ⟨V, hV⟩ : ∃ V, (w.alloc (.cells x.enc.toArray 64)).alloc (.cells y.enc.toArray 64) = V := ⟨_, rfl⟩
  have c0 : V.cell? ⟨w.heap.size, 0, none⟩ = some (.string x.1) := cellOf (hV ▸ heap_past (heap_alloc_last w _) _ : V.heap[w.heap.size]? = some (.cells x.enc.toArray 64 (0, 0))) 0 (.string x.1) rfl
  have c1 : V.cell? ⟨w.heap.size + 1, 0, none⟩ = some (.string y.1) := cellOf (hV ▸ heap_last1 w _ _ : V.heap[w.heap.size + 1]? = some (.cells y.enc.toArray 64 (0, 0))) 0 (.string y.1) rfl
  have hs : V.heap.size = w.heap.size + 2 := by rw [← hV]; simp
  have HV := hide hV
  clear hV
  go_enter Try.func38, Try.ntmps38
  go_wp2_with (first | rw [HV.out] | (go_at_call 32; refine (cmp_str _ _ _).mono ?_; rintro e1 w1 ⟨rfl, rfl⟩))
  go_ret
  exact ⟨rfl, 0, _, HV.out.symm.trans (grow_two _ _ _)⟩
theorem rs_cmp (w : World) (blk off size : Nat) [Inhabited Rs] : CmpLays Try.prog 38 #[] Rs.enc 2 Rs.cf blk off size w := fun m os dk hdk x y => cmpR x y _
set_option maxRecDepth 100000 in
theorem sortr_any (ks : List Rs) (blk off cap : Nat) (cur : Array Value) (w : World) (hb : w.heap[blk]? = some (.cells cur 64 (0, 0))) (hr : w.rangeAt blk off (ks.flatMap Rs.enc)) (hsz : ks.length < 4611686018427387904) :
    Calls Try.prog 37 #[.slice (some ⟨blk, off, none⟩) ks.length cap, .func (.func 38) #[] #[]] w fun e w' => e = .returned (.tuple #[]) ∧ ∃ ks' : List Rs, ks'.Perm ks ∧ (∀ i j (hi : i < ks'.length) (hj : j < ks'.length), i < j → 0 ≤ Rs.cf ks'[j] ks'[i]) ∧ (∀ j (hj : j < ks'.length), blk < w'.heap.size ∧ w'.cell? ⟨blk, off + j * 2, none⟩ = some (.string ks'[j].1) ∧ w'.cell? ⟨blk, off + j * 2 + 1, none⟩ = some (.int .i64 ks'[j].2)) ∧ But blk w w' := by
  haveI : Inhabited Rs := ⟨rs0⟩
  have hlt : blk < w.heap.size := (Array.getElem?_eq_some_iff.1 hb).1
  obtain ⟨d, hdd⟩ : ∃ d : Array Rs, d = ks.toArray := ⟨_, rfl⟩
  have hd : d.size = ks.length := by rw [hdd]; simp
  have hfl : ∀ (l : List Rs), (l.flatMap Rs.enc).length = l.length * 2 := fun l => by
    induction l with
    | nil => rfl
    | cons x l ih => rw [List.flatMap_cons, List.length_append, ih, rs_len, List.length_cons]; omega
  have hget : ∀ (l : List Rs) (i q : Nat) (hi : i < l.length), q < 2 → (l.flatMap Rs.enc)[i * 2 + q]? = (l[i].enc)[q]? := fun l => by
    induction l with
    | nil => intro i q hi; simp at hi
    | cons x l ih =>
      intro i q hi hq
      cases i with
      | zero => rw [List.flatMap_cons, List.getElem?_append_left (by rw [rs_len]; omega)]; simp
      | succ i =>
        rw [List.flatMap_cons, List.getElem?_append_right (by rw [rs_len]; omega), rs_len, show (i + 1) * 2 + q - 2 = i * 2 + q by omega, ih i q (by simpa using hi) hq]
        simp
  have hH : HoldsK Rs.enc 2 w blk off d := by
    intro j hj
    have hj' : j < ks.length * 2 := by simpa [hd] using hj
    refine ⟨?_, by simp [World.frozen?, hb]⟩
    rw [get_flatK _ _ _ _ (by simpa [hd] using hj')]
    have hq : j % 2 < 2 := Nat.mod_lt _ (by decide)
    have hi : j / 2 < ks.length := by omega
    have e := hget ks (j / 2) (j % 2) hi hq
    rw [show j / 2 * 2 + j % 2 = j by omega] at e
    have hdi : d[j / 2]! = ks[j / 2] := by
      rw [getElem!_pos d (j / 2) (by omega)]
      subst hdd
      simp
    show w.cell? ⟨blk, off + j, none⟩ = some ((Rs.enc (d[j / 2]!))[j % 2]!)
    rw [hdi]
    refine hr j _ (e.trans ?_)
    rw [getElem!_pos _ _ (by rw [rs_len]; exact hq)]
    exact List.getElem?_eq_getElem _
  have hcon := Try.slices_SortFuncR Try.aggR Try.sizR Rs.enc rs_len rs_one Rs.cf rs_swo 38 #[] blk off cap d w (enters_of Try.func38 (by kernel_rfl) rfl) (rs_cmp w blk off d.size) hH hlt (by omega)
  rw [hd] at hcon
  refine hcon.mono ?_
  rintro e w' ⟨rfl, d', n, os, hp, hs, rfl⟩
  obtain ⟨hp1, hp2, hp3⟩ := hp
  have hd' : d'.size = ks.length := by omega
  have hH' := holdsK_sortWorldK_c Rs.enc 2 w blk off d d' n os hH hlt hp1
  have hsw := size_sortWorldK_c Rs.enc 2 w blk off n d' os
  refine ⟨rfl, d'.toList, ?_, fun i j hi hj hij => ?_, fun i hi => ⟨by omega, ?_, ?_⟩, ?_⟩
  · have e1 : (d'.extract 0 ks.length) = d' := by rw [← hd']; simp
    have e2 : (d.extract 0 ks.length) = d := by rw [← hd]; simp
    rw [e1, e2] at hp3
    have h5 : d.toList = ks := by rw [hdd]
    rw [← h5]
    exact hp3
  · have hi' : i < d'.size := by simpa using hi
    have hj' : j < d'.size := by simpa using hj
    have := hs i j (Nat.zero_le _) hij (by omega)
    unfold ltOf at this
    rw [getElem!_pos d' i hi', getElem!_pos d' j hj'] at this
    simp at this
    simpa using this
  · have hi' : i < d'.size := by simpa using hi
    have c := (hH'.cell hi' (show 0 < 2 by decide)).1
    rw [getElem!_pos d' i hi'] at c
    simpa [Rs.enc] using c
  · have hi' : i < d'.size := by simpa using hi
    have c := (hH'.cell hi' (show 1 < 2 by decide)).1
    rw [getElem!_pos d' i hi'] at c
    simpa [Rs.enc, Nat.add_assoc] using c
  · refine ⟨rfl, rfl, rfl, hsw, fun k hk hne => ?_⟩
    unfold sortWorldK
    have hs' : (putRowK Rs.enc 2 (Sort.ahead w n) blk off d').heap.size = w.heap.size := by unfold putRowK; simp [Sort.ahead]
    rw [heap_grow_old _ _ (by rw [hs']; exact hk)]
    unfold putRowK putRow mapBlock
    simp [Array.getElem?_modify, Sort.ahead, Ne.symm hne]
end Go.Proofs.Ytknkmamjdmadcaa.G


/- Stage 14: the mathematics of Resume. -/
namespace Go.Proofs.Ytknkmamjdmadcaa.G
open Go.RowKit Go.Maps
set_option linter.unusedVariables false
set_option linter.unusedSimpArgs false

/-- a table that has what h says, and says of it what f says -/
def Says (M : List (ByteArray × Int)) (h : ByteArray → Bool) (f : ByteArray → Int) : Prop := ∀ t, hasK M t = h t ∧ (h t = true → lu 0 M t = f t)
theorem hasK_cons {A : Type} (p : ByteArray × A) (l : List (ByteArray × A)) (t : ByteArray) : hasK (p :: l) t = (decide (p.1 = t) || hasK l t) := rfl
theorem lu_cons {A : Type} (d : A) (p : ByteArray × A) (l : List (ByteArray × A)) (t : ByteArray) : lu d (p :: l) t = if p.1 = t then p.2 else lu d l t := by
  unfold lu
  rw [List.find?_cons]
  by_cases h : p.1 = t
  · simp [h]
  · simp [h]
theorem hasK_filter {A : Type} (l : List (ByteArray × A)) (k t : ByteArray) (h : t ≠ k) : hasK (l.filter fun p => !decide (p.1 = k)) t = hasK l t := by
  induction l with
  | nil => rfl
  | cons p l ih =>
    by_cases hp : p.1 = k
    · rw [List.filter_cons_of_neg (by simp [hp]), ih, hasK_cons]
      have : p.1 ≠ t := fun e => h (e.symm.trans hp)
      simp [this]
    · rw [List.filter_cons_of_pos (by simp [hp]), hasK_cons, hasK_cons, ih]
theorem lu_filter {A : Type} (d : A) (l : List (ByteArray × A)) (k t : ByteArray) (h : t ≠ k) : lu d (l.filter fun p => !decide (p.1 = k)) t = lu d l t := by
  induction l with
  | nil => rfl
  | cons p l ih =>
    by_cases hp : p.1 = k
    · rw [List.filter_cons_of_neg (by simp [hp]), ih, lu_cons]
      have : p.1 ≠ t := fun e => h (e.symm.trans hp)
      simp [this]
    · rw [List.filter_cons_of_pos (by simp [hp]), lu_cons, lu_cons, ih]
theorem Says.put {M : List (ByteArray × Int)} {h : ByteArray → Bool} {f : ByteArray → Int} (hS : Says M h f) {k : ByteArray} {v : Int} (hv : f k = v) {h' : ByteArray → Bool} (he : ∀ t, h' t = (decide (t = k) || h t)) : Says ((k, v) :: M.filter fun p => !decide (p.1 = k)) h' f := fun t => by
  rw [hasK_cons, lu_cons, he]
  by_cases e : t = k
  · subst e
    simp [hv]
  · have e' : ¬ k = t := fun x => e x.symm
    rw [hasK_filter _ _ _ e, lu_filter _ _ _ _ e]
    simp only [e, e', decide_false, Bool.false_or, if_false]
    exact hS t
theorem Says.cast {M : List (ByteArray × Int)} {h h' : ByteArray → Bool} {f : ByteArray → Int} (hS : Says M h f) (he : ∀ t, h' t = h t) : Says M h' f := fun t => by rw [he]; exact hS t
theorem lu_first {A : Type} (d : A) : ∀ (ps : List (ByteArray × A)) (i : Nat) (hi : i < ps.length), hasK (ps.take i) ps[i].1 = false → lu d ps ps[i].1 = ps[i].2
  | [], i, hi, _ => by simp at hi
  | p :: ps, 0, _, _ => by rw [lu_cons]; simp
  | p :: ps, i + 1, hi, h => by
    simp only [List.getElem_cons_succ, List.take_succ_cons, hasK_cons] at h ⊢
    rw [Bool.or_eq_false_iff] at h
    rw [lu_cons, if_neg (by simpa using h.1)]
    exact lu_first d ps i (by simpa using hi) h.2
theorem hasK_take {A : Type} : ∀ (ps : List (ByteArray × A)) (i : Nat) (hi : i < ps.length) (t : ByteArray), hasK (ps.take (i + 1)) t = (decide (t = ps[i].1) || hasK (ps.take i) t)
  | [], i, hi, _ => by simp at hi
  | p :: ps, 0, _, t => by simp [hasK, eq_comm]
  | p :: ps, i + 1, hi, t => by
    rw [List.take_succ_cons, List.take_succ_cons, hasK_cons, hasK_cons, hasK_take ps i (by simpa using hi)]
    simp only [List.getElem_cons_succ]
    cases decide (p.1 = t) <;> simp
theorem lu_of_mem {A : Type} (d : A) : ∀ {l : List (ByteArray × A)}, (l.map (·.1)).Nodup → ∀ {k : ByteArray} {x : A}, (k, x) ∈ l → lu d l k = x
  | [], _, _, _, h => by cases h
  | p :: l, hn, k, x, h => by
    simp only [List.map_cons, List.nodup_cons] at hn
    rw [lu_cons]
    rcases List.mem_cons.1 h with e | h
    · subst e; simp
    · have : p.1 ≠ k := fun e => hn.1 (by rw [e]; exact List.mem_map_of_mem (f := (·.1)) h)
      rw [if_neg this]
      exact lu_of_mem d hn.2 h
theorem has_of_mem {A : Type} {l : List (ByteArray × A)} {k : ByteArray} {x : A} (h : (k, x) ∈ l) : hasK l k = true := any_iff.2 (List.mem_map_of_mem (f := (·.1)) h)
theorem nodup_le {A : Type} [DecidableEq A] : ∀ {l m : List A}, l.Nodup → (∀ x ∈ l, x ∈ m) → l.length ≤ m.length
  | [], m, _, _ => by simp
  | a :: l, m, hn, hs => by
    rw [List.nodup_cons] at hn
    have ha := hs a (by simp)
    have h1 := nodup_le (m := m.erase a) hn.2 (fun x hx => (List.mem_erase_of_ne (fun e => hn.1 (by rw [← e]; exact hx))).2 (hs x (by simp [hx])))
    rw [List.length_erase_of_mem ha] at h1
    have := List.length_pos_of_mem ha
    simp
    omega
theorem Try.infoRs : (Try.prog.info? 64).map (fun i => (i.zero.map (·.cells.size), i.size, i.bytes)) = some (some 2, 2, 24) := by kernel_rfl
def rsK : WK Rs := ⟨Rs.enc, 2, 24, 64, 61⟩
theorem rsOk : rsK.Ok := ⟨rs_len, rs_one, Try.underlying61, info3 Try.infoRs, by decide, by decide, by decide⟩
theorem run_makeR (n : Nat) (hn : n ≤ 1000000000) (w : World) :
    ∃ cur, (Instr.makeSlice 61 (.int .i64 0) (.int .i64 n)).run Try.prog w = .ok (.slice (some ⟨w.heap.size, 0, none⟩) 0 n) (w.alloc (.cells cur 64)) ∧ cur.size = n * 2 := by
  obtain ⟨i, z, hi, hz, hzs, his, hib⟩ := info3 Try.infoRs
  have hr := run_make (P := Try.prog) w 61 64 i _ Try.underlying61 hi hz .i64 .i64 0 n (by omega) (by omega) (by rw [hib]; omega) (by omega)
  simp only [his] at hr
  exact ⟨_, by simpa using hr, by simp [madeCells, hzs]⟩
/-- what becomes of a tag -/
def resF (rc : Bool) (T : List (ByteArray × Dv)) (ps : List Un) (t : ByteArray) : Int := if hasK ps t then ofT rc (hasK T t) (lu sw0 ps t).k else ofH rc (lu dv0 T t).2.k
theorem Says.len {M : List (ByteArray × Int)} {h : ByteArray → Bool} {f : ByteArray → Int} (hS : Says M h f) (hn : (M.map (·.1)).Nodup) (T : List (ByteArray × Dv)) (ps : List Un) (hh : ∀ t, h t = true → hasK ps t = true ∨ hasK T t = true) : M.length ≤ ps.length + T.length := by
  have := nodup_le (m := ps.map (·.1) ++ T.map (·.1)) hn (fun x hx => by
    have h1 : hasK M x = true := any_iff.2 hx
    rw [(hS x).1] at h1
    rw [List.mem_append]
    exact (hh x h1).imp any_iff.1 any_iff.1)
  simpa using this
/-- a list of unsettled deliveries, as it lies -/
def RdP (w : World) (a : Option Addr) (ps : List Un) : Prop := ∀ j (hj : j < ps.length), ∃ b off, a = some ⟨b, off, none⟩ ∧ b < w.heap.size ∧ w.rangeAt b (off + j * 20) ps[j].enc
theorem RdP.below {w w' : World} {a : Option Addr} {ps : List Un} (h : RdP w a ps) (hb : Below w.heap.size w w') : RdP w' a ps := fun j hj => by
  obtain ⟨b, off, e, h1, h2⟩ := h j hj
  exact ⟨b, off, e, Nat.lt_of_lt_of_le h1 hb.size, range_keep h2 (hb.block b h1)⟩
def RdR (w : World) (a : Option Addr) (ks : List Rs) : Prop := ∀ j (hj : j < ks.length), ∃ b off, a = some ⟨b, off, none⟩ ∧ b < w.heap.size ∧ w.cell? ⟨b, off + j * 2, none⟩ = some (.string ks[j].1) ∧ w.cell? ⟨b, off + j * 2 + 1, none⟩ = some (.int .i64 ks[j].2)
def ResP (w w' : World) (rc : Bool) (T : List (ByteArray × Dv)) (ps : List Un) (v : Value) : Prop := ∃ a c ks M, v = .slice a ks.length c ∧ ks.Perm M ∧ (M.map (·.1)).Nodup ∧ Says M (fun t => hasK ps t || hasK T t) (resF rc T ps) ∧ (∀ i j (hi : i < ks.length) (hj : j < ks.length), i < j → 0 ≤ cmpB ks[j].1.toList ks[i].1.toList) ∧ RdR w' a ks ∧ Below w.heap.size w w'
end Go.Proofs.Ytknkmamjdmadcaa.G
