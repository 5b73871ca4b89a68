import Derived.Test.YtknkmamjdmadcaaSort
import Derived.Test.YtknkmamjdmadcaaLCmpM9
import Derived.Test.YtknkmamjdmadcaaLSeeM9

/- Stage 14: slices.SortFunc of unsettled deliveries, by their tags. -/
namespace Go.Proofs.Ytknkmamjdmadcaa
open Go.RowKit Go.Sort Go.Lib
set_option linter.unusedVariables false
set_option linter.unusedSimpArgs false

/-- an unsettled delivery: its tag, the kind of its state -/
abbrev Un : Type := ByteArray × Int
def Un.enc (x : Un) : List Value := .string x.1 :: stL x.2
def Un.cf (x y : Un) : Int := cmpB x.1.toList y.1.toList
def un0 : Un := (⟨#[]⟩, 0)
theorem un_len (x : Un) : x.enc.length = 20 := rfl
theorem un_one (x : Un) : ∀ u ∈ x.enc, u.oneCell' = true := fun u hu => by
  have : (x.enc).all (·.oneCell') = true := by kernel_rfl
  exact List.all_eq_true.1 this u hu
theorem ba_list {a b : ByteArray} (h : a.toList = b.toList) : a = b := by
  rw [ByteArray.toList_eq, ByteArray.toList_eq] at h
  exact ba_eq h
theorem un_swo : SWO (ltOf Un.cf) where
  irrefl x := by
    unfold ltOf Un.cf
    have := neg_cmpB x.1.toList x.1.toList
    simp
    omega
  trans x y z h1 h2 := by
    unfold ltOf Un.cf at *
    have := tri_cmpB x.1.toList y.1.toList z.1.toList
    unfold Tri at this
    simp at *
    omega
  ntrans x y z h1 h2 := by
    unfold ltOf Un.cf at *
    have := tri_cmpB x.1.toList y.1.toList z.1.toList
    unfold Tri at this
    simp at *
    omega
theorem Try.aggU : ∀ w, (isAgg 70).run Try.prog w = .ok true w := fun w => by first | exact Try.isAgg70 w | rfl
theorem Try.sizU : ∀ w, (Go.sizeOf 70).run Try.prog w = .ok 20 w := fun w => by first | exact Try.sizeOf70 w | rfl
theorem grow_two (w : World) (o p : Obj) : (w.alloc o).alloc p = grow (w.drewN 0) #[o, p] := by
  rw [alloc_eq_grow, alloc_eq_grow, grow_grow]
  rfl
set_option maxRecDepth 100000 in
theorem cmpU (x y : Un) (w : World) :
    Calls Try.prog 31 #[.agg x.enc.toArray, .agg y.enc.toArray] w fun e w' => e = .returned (.int .i64 (x.cf y)) ∧ ∃ q os', w' = grow (w.drewN q) os' := by
  obtain ⟨a, k⟩ := x
  obtain ⟨b, m⟩ := y
  show Calls Try.prog 31 #[.agg #[.string a, .int .i64 k, .int .i64 0, .int .i64 0, .string ⟨#[]⟩, .string ⟨#[]⟩, .int .i64 0, .int .u64 0, .string ⟨#[]⟩, .slice none 0 0, .int .i64 0, .bool false, .bool false, .int .i64 0, .int .u64 0, .string ⟨#[]⟩, .slice none 0 0, .int .i64 0, .string ⟨#[]⟩, .slice none 0 0], .agg #[.string b, .int .i64 m, .int .i64 0, .int .i64 0, .string ⟨#[]⟩, .string ⟨#[]⟩, .int .i64 0, .int .u64 0, .string ⟨#[]⟩, .slice none 0 0, .int .i64 0, .bool false, .bool false, .int .i64 0, .int .u64 0, .string ⟨#[]⟩, .slice none 0 0, .int .i64 0, .string ⟨#[]⟩, .slice none 0 0]] w _
  go_enter Try.func31, Try.ntmps31
  go_wp2_with (go_at_call 32; refine (cmp_str _ _ _).mono ?_; rintro e1 w1 ⟨rfl, rfl⟩)
  go_ret
  exact ⟨rfl, 0, _, grow_two _ _ _⟩
theorem un_cmp (w : World) (blk off size : Nat) [Inhabited Un] : CmpLays Try.prog 31 #[] Un.enc 20 Un.cf blk off size w := fun m os dk hdk x y => cmpU x y _
/-- of what was there only one block has turned -/
def But (blk : Nat) (w w' : World) : Prop := w'.os = w.os ∧ w'.tape = w.tape ∧ w'.output = w.output ∧ w.heap.size ≤ w'.heap.size ∧ ∀ k, k < w.heap.size → k ≠ blk → w'.heap[k]? = w.heap[k]?
set_option maxRecDepth 100000 in
theorem sortu_any (ks : List Un) (blk off cap : Nat) (cur : Array Value) (w : World) (hb : w.heap[blk]? = some (.cells cur 70 (0, 0))) (hr : w.rangeAt blk off (ks.flatMap Un.enc)) (hsz : ks.length < 4611686018427387904) :
    Calls Try.prog 30 #[.slice (some ⟨blk, off, none⟩) ks.length cap, .func (.func 31) #[] #[]] w fun e w' => e = .returned (.tuple #[]) ∧ ∃ ks' : List Un, ks'.Perm ks ∧ (∀ i j (hi : i < ks'.length) (hj : j < ks'.length), i < j → 0 ≤ Un.cf ks'[j] ks'[i]) ∧ (∀ j (hj : j < ks'.length), blk < w'.heap.size ∧ w'.cell? ⟨blk, off + j * 20, none⟩ = some (.string ks'[j].1)) ∧ But blk w w' := by
  haveI : Inhabited Un := ⟨un0⟩
  have hlt : blk < w.heap.size := (Array.getElem?_eq_some_iff.1 hb).1
  obtain ⟨d, hdd⟩ : ∃ d : Array Un, d = ks.toArray := ⟨_, rfl⟩
  have hd : d.size = ks.length := by rw [hdd]; simp
  have hfl : ∀ (l : List Un), (l.flatMap Un.enc).length = l.length * 20 := fun l => by
    induction l with
    | nil => rfl
    | cons x l ih => rw [List.flatMap_cons, List.length_append, ih, un_len, List.length_cons]; omega
  have hget : ∀ (l : List Un) (i q : Nat) (hi : i < l.length), q < 20 → (l.flatMap Un.enc)[i * 20 + q]? = (l[i].enc)[q]? := fun l => by
    induction l with
    | nil => intro i q hi; simp at hi
    | cons x l ih =>
      intro i q hi hq
      cases i with
      | zero => rw [List.flatMap_cons, List.getElem?_append_left (by rw [un_len]; omega)]; simp
      | succ i =>
        rw [List.flatMap_cons, List.getElem?_append_right (by rw [un_len]; omega), un_len, show (i + 1) * 20 + q - 20 = i * 20 + q by omega, ih i q (by simpa using hi) hq]
        simp
  have hH : HoldsK Un.enc 20 w blk off d := by
    intro j hj
    have hj' : j < ks.length * 20 := by simpa [hd] using hj
    refine ⟨?_, by simp [World.frozen?, hb]⟩
    rw [get_flatK _ _ _ _ (by simpa [hd] using hj')]
    have hq : j % 20 < 20 := Nat.mod_lt _ (by decide)
    have hi : j / 20 < ks.length := by omega
    have e := hget ks (j / 20) (j % 20) hi hq
    rw [show j / 20 * 20 + j % 20 = j by omega] at e
    have hdi : d[j / 20]! = ks[j / 20] := by
      rw [getElem!_pos d (j / 20) (by omega)]
      subst hdd
      simp
    show w.cell? ⟨blk, off + j, none⟩ = some ((Un.enc (d[j / 20]!))[j % 20]!)
    rw [hdi]
    refine hr j _ (e.trans ?_)
    rw [getElem!_pos _ _ (by rw [un_len]; exact hq)]
    exact List.getElem?_eq_getElem _
  have hcon := Try.slices_SortFuncU Try.aggU Try.sizU Un.enc un_len un_one Un.cf un_swo 31 #[] blk off cap d w (enters_of Try.func31 (by kernel_rfl) rfl) (un_cmp w blk off d.size) hH hlt (by omega)
  rw [hd] at hcon
  refine hcon.mono ?_
  rintro e w' ⟨rfl, d', n, os, hp, hs, rfl⟩
  obtain ⟨hp1, hp2, hp3⟩ := hp
  have hd' : d'.size = ks.length := by omega
  have hH' := holdsK_sortWorldK_c Un.enc 20 w blk off d d' n os hH hlt hp1
  have hsw := size_sortWorldK_c Un.enc 20 w blk off n d' os
  refine ⟨rfl, d'.toList, ?_, fun i j hi hj hij => ?_, fun i hi => ⟨by omega, ?_⟩, ?_⟩
  · have e1 : (d'.extract 0 ks.length) = d' := by rw [← hd']; simp
    have e2 : (d.extract 0 ks.length) = d := by rw [← hd]; simp
    rw [e1, e2] at hp3
    have h5 : d.toList = ks := by rw [hdd]
    rw [← h5]
    exact hp3
  · have hi' : i < d'.size := by simpa using hi
    have hj' : j < d'.size := by simpa using hj
    have := hs i j (Nat.zero_le _) hij (by omega)
    unfold ltOf at this
    rw [getElem!_pos d' i hi', getElem!_pos d' j hj'] at this
    simp at this
    simpa using this
  · have hi' : i < d'.size := by simpa using hi
    have c := (hH'.cell hi' (show 0 < 20 by decide)).1
    rw [getElem!_pos d' i hi'] at c
    simpa [Un.enc] using c
  · refine ⟨rfl, rfl, rfl, hsw, fun k hk hne => ?_⟩
    unfold sortWorldK
    have hs' : (putRowK Un.enc 20 (Sort.ahead w n) blk off d').heap.size = w.heap.size := by unfold putRowK; simp [Sort.ahead]
    rw [heap_grow_old _ _ (by rw [hs']; exact hk)]
    unfold putRowK putRow mapBlock
    simp [Array.getElem?_modify, Sort.ahead, Ne.symm hne]
/-- sorted lists of the same unlike tags are one list -/
theorem sorted_one : ∀ {a b : List ByteArray}, a.Perm b → (∀ i j (hi : i < a.length) (hj : j < a.length), i < j → 0 ≤ cmpB a[j].toList a[i].toList) → (∀ i j (hi : i < b.length) (hj : j < b.length), i < j → 0 ≤ cmpB b[j].toList b[i].toList) → a = b
  | [], b, hp, _, _ => (List.Perm.eq_nil hp.symm).symm
  | x :: a, [], hp, _, _ => by have := hp.length_eq; simp at this
  | x :: a, y :: b, hp, h1, h2 => by
    have hxy : x = y := by
      have m1 : x ∈ y :: b := hp.mem_iff.1 (by simp)
      have m2 : y ∈ x :: a := hp.mem_iff.2 (by simp)
      rcases List.mem_cons.1 m1 with e | m1
      · exact e
      rcases List.mem_cons.1 m2 with e | m2
      · exact e.symm
      obtain ⟨i, hi, e1⟩ := List.getElem_of_mem m1
      obtain ⟨j, hj, e2⟩ := List.getElem_of_mem m2
      have g1 := h2 0 (i + 1) (by simp) (by simp; omega) (by omega)
      have g2 := h1 0 (j + 1) (by simp) (by simp; omega) (by omega)
      simp only [List.getElem_cons_succ, List.getElem_cons_zero, e1, e2] at g1 g2
      have g3 := neg_cmpB x.toList y.toList
      exact ba_list ((cmpB_zero _ _).1 (by omega))
    subst hxy
    congr 1
    exact sorted_one hp.cons_inv (fun i j hi hj hij => by have := h1 (i + 1) (j + 1) (by simpa using hi) (by simpa using hj) (by omega); simpa using this) (fun i j hi hj hij => by have := h2 (i + 1) (j + 1) (by simpa using hi) (by simpa using hj) (by omega); simpa using this)
end Go.Proofs.Ytknkmamjdmadcaa
