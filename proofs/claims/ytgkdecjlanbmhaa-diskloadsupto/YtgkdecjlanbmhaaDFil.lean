
/- Stage 19: Files. -/
import Derived.Test.YtgkdecjlanbmhaaDSrt
import Derived.Test.YtgkdecjlanbmhaaDTake
import Derived.Sort.MapsRangeIn
namespace Go.Proofs.Ytgkdecjlanbmhaa
open Go.RowKit Go.Maps Go.MuLone
set_option linter.unusedVariables false
set_option linter.unusedSimpArgs false
/-- those files that have come -/
def comeF (F : List Fi) (left : Lit → Bool) : List Fi := F.filter fun f => !left (.string f.1.data.toList)
theorem comeF_done {F : List Fi} {left : Lit → Bool} (h : ∀ k : ByteArray, left (.string k.data.toList) = false) : comeF F left = F := by
  unfold comeF
  rw [List.filter_eq_self]
  intro f _
  simp [h]
theorem comeF_none {F : List Fi} {left : Lit → Bool} (h : ∀ f ∈ F, left (.string f.1.data.toList) = true) : comeF F left = [] := by
  unfold comeF
  rw [List.filter_eq_nil_iff]
  intro f hf
  simp [h f hf]
theorem comeF_len (F : List Fi) (left : Lit → Bool) : (comeF F left).length ≤ F.length := List.length_filter_le _ _
theorem comeF_step {F : List Fi} {left : Lit → Bool} {f : Fi} (hn : (F.map (·.1)).Nodup) (hf : f ∈ F) (hl : left (.string f.1.data.toList) = true) :
    (comeF F (fun z => left z && !z.sameKey (.string f.1.data.toList))).Perm (comeF F left ++ [f]) := by
  obtain ⟨l1, l2, rfl⟩ := List.append_of_mem hf
  have hne : ∀ g ∈ l1 ++ l2, g.1 ≠ f.1 := fun g hg e => by
    have hp : ((l1 ++ f :: l2).map (·.1)).Perm (f.1 :: (l1 ++ l2).map (·.1)) := (List.perm_middle (a := f) (l₁ := l1) (l₂ := l2)).map (·.1)
    have := (List.nodup_cons.1 (hp.nodup_iff.1 hn)).1
    exact this (e ▸ List.mem_map_of_mem hg)
  have hs : ∀ l : List Fi, (∀ g ∈ l, g.1 ≠ f.1) → comeF l (fun z => left z && !z.sameKey (.string f.1.data.toList)) = comeF l left := fun l h => by
    unfold comeF
    refine List.filter_congr fun g hg => ?_
    dsimp only
    rw [lit_same]
    simp [h g hg]
  have e1 := hs l1 (fun g hg => hne g (List.mem_append.2 (.inl hg)))
  have e2 := hs l2 (fun g hg => hne g (List.mem_append.2 (.inr hg)))
  have h0 : comeF (l1 ++ f :: l2) (fun z => left z && !z.sameKey (.string f.1.data.toList)) = comeF l1 left ++ f :: comeF l2 left := by
    have : comeF (l1 ++ f :: l2) (fun z => left z && !z.sameKey (.string f.1.data.toList)) = comeF l1 (fun z => left z && !z.sameKey (.string f.1.data.toList)) ++ comeF (f :: l2) (fun z => left z && !z.sameKey (.string f.1.data.toList)) := List.filter_append _ _
    rw [this, e1]
    congr 1
    unfold comeF at e2 ⊢
    rw [List.filter_cons_of_pos (by simp [lit_same]), e2]
  have h1 : comeF (l1 ++ f :: l2) left = comeF l1 left ++ comeF l2 left := by
    unfold comeF
    rw [List.filter_append, List.filter_cons_of_neg (by simp [hl])]
  rw [h0, h1]
  refine List.perm_middle.trans ?_
  exact (List.perm_append_comm (l₁ := [f])).trans (by simp)
/-- files that are told, their bytes in memory of their own -/
structure Told (base : Nat) (w : World) (W : List Fo) : Prop where
  own : ∀ o ∈ W, Ob base w o.2 o.1.2.1
  apt : W.Pairwise fun a b => ∀ g, a.2.ownBlock = some g → b.2.ownBlock ≠ some g
theorem Told.nil (base : Nat) (w : World) : Told base w [] := ⟨by simp, by simp⟩
theorem Told.perm {base : Nat} {w : World} {W W' : List Fo} (h : Told base w W) (hp : W.Perm W') : Told base w W' :=
  ⟨fun o ho => h.own o (hp.mem_iff.2 ho), (hp.pairwise_iff (fun h g hb ha => h g ha hb)).1 h.apt⟩
theorem Told.keep {base : Nat} {w w' : World} {W : List Fo} (h : Told base w W) (hk : ∀ o ∈ W, ∀ g, o.2.ownBlock = some g → w'.heap[g]? = w.heap[g]?) : Told base w' W :=
  ⟨fun o ho => (h.own o ho).at_same (hk o ho), h.apt⟩
theorem Told.below {base : Nat} {w w' : World} {W : List Fo} (h : Told base w W) (hb : Below w.heap.size w w') : Told base w' W := h.keep (fun o ho g hg => hb.block g ((h.own o ho).lt g hg).2)
theorem Told.mono {base b2 : Nat} {w : World} {W : List Fo} (h : Told base w W) (hb : b2 ≤ base) : Told b2 w W := ⟨fun o ho => (h.own o ho).mono hb, h.apt⟩
theorem Told.push {base : Nat} {w : World} {W : List Fo} (h : Told base w W) {o : Fo} {B : Nat} (ho : Ob base w o.2 o.1.2.1) (hB : ∀ g, o.2.ownBlock = some g → B ≤ g) (hW : ∀ q ∈ W, ∀ g, q.2.ownBlock = some g → g < B) : Told base w (W ++ [o]) := by
  refine ⟨fun q hq => ?_, List.pairwise_append.2 ⟨h.apt, by simp, fun a ha b hb g hg hbg => ?_⟩⟩
  · rcases List.mem_append.1 hq with hq | hq
    · exact h.own q hq
    · rw [List.mem_singleton.1 hq]; exact ho
  · rw [List.mem_singleton.1 hb] at hbg
    have := hB g hbg
    have := hW a ha g hg
    omega
/-- a row of files is no row of bytes -/
theorem Told.apart {base b2 : Nat} {w : World} {W U : List Fo} {v : Value} (h : Told base w W) (hw : Wy FK w b2 v U) {o : Fo} (ho : o ∈ W) {g : Nat} (hg : o.2.ownBlock = some g) : v.ownBlock ≠ some g := by
  intro hv
  obtain ⟨cur, h1⟩ := hw.typ hv
  obtain ⟨cs, fr, h2⟩ := (h.own o ho).blk hg
  rw [h1] at h2
  simp [FK] at h2
theorem leaves_put {P : Program} {fn : Func} {R : Ending → World → Prop} {t : Nat} (hr : fn.results = #[.tmp t]) {d : Nat} (hd : d ≠ t) (v : Value) : ∀ (ds : List Deferred) (u : FrameMode) (w : World) (tmps : Array Value), Leaves P fn (tmps.setIfInBounds d v) R ds u w → Leaves P fn tmps R ds u w := by
  intro ds
  induction ds with
  | nil =>
    intro u w tmps h
    cases u with
    | run => exact h
    | returning =>
      obtain ⟨x, h1, h2⟩ := h
      refine ⟨x, ?_, h2⟩
      rw [results_tmp hr] at h1 ⊢
      rw [← h1]
      congr 1
      simp [Array.getD_eq_getD_getElem?, Array.getElem?_setIfInBounds_ne hd]
    | panicking chain => exact h
  | cons e ds ih =>
    intro u w tmps h
    obtain ⟨h1, fv, cap, f, args, h2, h3, h4⟩ := h
    refine ⟨h1, fv, cap, f, args, h2, h3, h4.mono ?_⟩
    intro e' u' w' h5
    cases e' with
    | returned x => exact ih _ _ _ h5
    | panicked c => exact ih _ _ _ h5
    | outgrown => exact h5
def enc3 (k : ByteArray) (v : Value) (s : Nat) : Array Value := #[.string k, v, .int .i64 (s : Int)]
theorem enc_slice (k : ByteArray) (l : List Nat) (s : Nat) (a : Option Addr) (n c : Nat) : (⟨FK.enc ((k, l, s), .slice a n c)⟩ : Array Value) = #[.string k, .slice a n c, .int .i64 (s : Int)] := rfl
set_option maxHeartbeats 8000000 in
set_option maxRecDepth 100000 in
theorem files_any (S : Nat → Prop) (w : World) (d : Nat) (x : Dx) (F : List Fi) (hD : DD S w d x F) (hn : F.length ≤ 2000000000000) :
    Calls Try.prog 19 #[.pointer (some ⟨d, 0, none⟩)] w fun e w' => ∃ v W, e = .returned v ∧ Wy FK w' w.heap.size v W ∧ (W.map (·.1)).Perm F ∧ SrtF W ∧ Told w.heap.size w' W ∧ Dsk (fun k => S k ∧ k < w.heap.size) w' d x F ∧ Kp S w w' := by
  obtain ⟨c0, f0, hD1, hk1⟩ := hD.lock
  have HSD : Hid (S d) := hD.dsk.sd
  have HLK : Hid (x.lk = 0) := hD.lk
  have HO := hide hD.ok
  obtain ⟨m, E, rfl, hD1⟩ := hD1
  have c2 : (w.setCell ⟨d, 0, none⟩ (.int .i32 1)).cell? ⟨d, 2, none⟩ = some (.map (some m)) := hD1.cell 2 _ rfl
  have hz : (w.setCell ⟨d, 0, none⟩ (.int .i32 1)).heap.size = w.heap.size := by simp
  have hD1' : DkS (fun k => S k ∧ k < w.heap.size) (w.setCell ⟨d, 0, none⟩ (.int .i32 1)) d m { x with lk := 1 } E := by have := hD1.lts; rw [hz] at this; exact this
  obtain ⟨w1, hw1⟩ : ∃ w1, w1 = w.setCell ⟨d, 0, none⟩ (.int .i32 1) := ⟨_, rfl⟩
  rw [← hw1] at c2 hz hD1' hk1
  have HW1 := hide hw1
  have HD1 := hide hD1'
  have HK1 := hide hk1
  have hnm : ((E.map En.f).map (·.1)).Nodup := by rw [List.map_map]; exact hD1.names
  have HNM := hide hnm
  clear hD hD1 hk1 hD1' hw1 hnm
  -- the end
  have HEND : Hid (∀ (wr : World) (v : Value) (W : List Fo), Below w.heap.size w1 wr → Wy FK wr (w.heap.size + 1) v W → (W.map (·.1)).Perm (E.map En.f) → Told (w.heap.size + 1) wr W → Calls Try.prog 54 #[v, .func (.func 55) #[] #[]] wr fun e w' => e = .returned (.tuple #[]) ∧ w'.cell? ⟨d, 0, none⟩ = some (.int .i32 1) ∧ w'.frozen? ⟨d, 0, none⟩ = false ∧ ∃ W', Wy FK (w'.setCell ⟨d, 0, none⟩ (.int .i32 0)) w.heap.size v W' ∧ (W'.map (·.1)).Perm (E.map En.f) ∧ SrtF W' ∧ Told w.heap.size (w'.setCell ⟨d, 0, none⟩ (.int .i32 0)) W' ∧ Dsk (fun k => S k ∧ k < w.heap.size) (w'.setCell ⟨d, 0, none⟩ (.int .i32 0)) d x (E.map En.f) ∧ Kp S w (w'.setCell ⟨d, 0, none⟩ (.int .i32 0))) := fun wr v W hb hwy hp ht => by
    have hzr : w.heap.size ≤ wr.heap.size := by have := hb.size; omega
    have hlen : W.length ≤ 140737488355328 := by have := hp.length_eq; simp only [List.length_map] at this hn; omega
    have hwy0 : Wy FK wr w.heap.size v W := by
      rcases hwy with h | ⟨g, off, cap, cur, e, h1, h2⟩
      · exact .inl h
      · exact .inr ⟨g, off, cap, cur, e, by omega, h2⟩
    refine (sortF_way W w.heap.size v wr hwy0 hzr hlen).mono ?_
    rintro e w' ⟨rfl, W', hp', hs', hwy', hk'⟩
    have hbv : ∀ q, q < w.heap.size → ¬ v.ownBlock = some q := fun q hq hv => by have := (hwy0.lt hv).1; omega
    have hb' : ∀ q, q < w.heap.size → w'.heap[q]? = w1.heap[q]? := fun q hq => (hk'.block (by omega) (hbv q hq)).trans (hb.block q hq)
    have hD' : DkS (fun k => S k ∧ k < w.heap.size) w' d m { x with lk := 1 } E := HD1.out.keep (fun q hq => hb' q hq.2)
    have hdlt : d < w.heap.size := hD'.sd.2
    have hset : ∀ g, w.heap.size ≤ g → (w'.setCell ⟨d, 0, none⟩ (.int .i32 0)).heap[g]? = w'.heap[g]? := fun g hg => blk_set_other _ _ _ _ (fun e => by have e : g = d := e; omega)
    have ht' : Told (w.heap.size + 1) w' W := ht.keep (fun o ho g hg => hk'.block ((ht.own o ho).lt g hg).2 (ht.apart hwy ho hg))
    refine ⟨rfl, hD'.cell 0 _ rfl, hD'.frozen 0, W', hwy'.at (fun g hg => hset g (hwy'.lt hg).1), (hp'.map _).trans hp, hs', ?_, ?_, ?_⟩
    · refine Told.keep (w := w') ((ht'.perm hp'.symm).mono (Nat.le_succ _)) (fun o ho g hg => hset g ?_)
      have := (((ht'.perm hp'.symm).own o ho).lt g hg).1
      omega
    · have h5 := hD'.lk 0
      have e1 : ({ ({ x with lk := 1 } : Dx) with lk := 0 } : Dx) = x := lk_self HLK.out
      rw [e1] at h5
      exact h5.dsk
    · refine Kp.setCell ?_ HSD.out _
      refine HK1.out.trans ⟨hk'.1.trans hb.os, hk'.2.1.trans hb.tape, hk'.2.2.1.trans hb.output, by rw [hz]; exact Nat.le_trans hzr hk'.size, fun q hq _ => hb' q (by omega)⟩
  go_enter_defers Try.func19, Try.ntmps19
  go_wp2_with (first | (go_at_call 41; refine (lock_free Try.muLib ⟨d, 0, none⟩ _ c0 f0).mono ?_; rintro e w' ⟨rfl, hq⟩; rw [← HW1.out] at hq; rw [hq]; clear hq w') | (at_range; refine range_T rfl _ rfl m rfl (tbl E) HD1.out.tab ?_; intro w2 D hRp hrg hg2 hs2))
  rw [hz] at hrg hs2 ⊢
  have HRp := hide hRp
  have HRg := hide hrg
  have HB2 : Hid (Below w.heap.size w1 w2) := (Below.refl _ _).grown hg2 (by omega) (fun k hk => by cases hk)
  have HALL : Hid (∀ f ∈ E.map En.f, Maps.has D (.string f.1.data.toList) = true) := fun f hf => by
    rw [hRp.has, any_iff]
    obtain ⟨e, he, rfl⟩ := List.mem_map.1 hf
    unfold tbl
    rw [List.map_map]
    exact List.mem_map.2 ⟨e, he, rfl⟩
  clear hRp hrg hg2
  go_frame
  go_loopw [3] (fun v wr => ∃ left cnt W, wr.ranges Try.prog 9 rH m w.heap.size (tbl E).length D left cnt ∧ Wy FK wr (w.heap.size + 1) v W ∧ Hid ((W.map (·.1)).Perm (comeF (E.map En.f) left)) ∧ Hid (Told (w.heap.size + 1) wr W) ∧ Below w.heap.size w1 wr ∧ w.heap.size + 1 ≤ wr.heap.size) (fun _ wr => wr.rangeLeft m w.heap.size)
  case atStart => exact ⟨_, _, [], HRg.out, .inl ⟨rfl, rfl⟩, by rw [comeF_none HALL.out]; exact .refl _, Told.nil _ _, HB2.out, by omega⟩
  case round =>
    obtain ⟨left, cnt, W, hrg, hwy, HP, HT, hb, hlt⟩ := hrel
    obtain ⟨va, vc, rfl⟩ := hwy.shape
    have HRr := hide hrg
    have HWy := hide hwy
    have HB := hide hb
    have HLn : Hid (W.length ≤ 2000000000000) := by
      show W.length ≤ 2000000000000
      have h1 := HP.out.length_eq
      have h2 := comeF_len (E.map En.f) left
      rw [List.length_map] at h1
      omega
    clear hrg hwy hb
    go_wp2_with (at_next; go_loud (refine next_T rfl _ rfl m w.heap.size _ D _ left cnt rfl HRp.out HRr.out ?_ ?_))
    · intro hl0
      have HQ : Hid ((W.map (·.1)).Perm (E.map En.f)) := by
        have := HP.out
        rw [comeF_done hl0] at this
        exact this
      have HE := hide (HEND.out wr _ W HB.out HWy.out HQ.out HT.out)
      go_wp2_with fail
      refine HE.out.mono ?_
      rintro e3 w3 ⟨rfl, q1, q2, W', q3⟩
      have HF : Hid (w3.cell? ⟨d, 0, none⟩ = some (.int .i32 1) ∧ w3.frozen? ⟨d, 0, none⟩ = false) := ⟨q1, q2⟩
      have HF0 := hide q3
      clear q1 q2 q3
      go_wp2
      refine leaves_cons (f := 42) (args := #[.pointer (some ⟨d, 0, none⟩)]) (by simp) (by simp [go_sem]) ?_
      refine (unlock_deferred Try.muLib ⟨d, 0, none⟩ .returning _ (HF.out).1 (HF.out).2).mono ?_
      rintro e u' w'' ⟨rfl, rfl, rfl⟩
      exact ⟨_, results_tmp rfl _ _ _, _, W', rfl, by simpa using HF0.out⟩
    · intro y p wn cntn hm hlx hrgn hltn hgn hsn hen
      obtain ⟨e, he, hee⟩ := List.mem_map.1 hm
      simp only [Prod.mk.injEq] at hee
      obtain ⟨rfl, rfl⟩ := hee
      have hst := hide (comeF_step (left := left) HNM.out (List.mem_map_of_mem (f := En.f) he) hlx)
      have HBn : Hid (Below w.heap.size w1 wn) := HB.out.grown hgn (by omega) (fun k hk => by cases hk; exact Nat.le_refl _)
      have HWn : Hid (Wy FK wn (w.heap.size + 1) (.slice va W.length vc) W) := HWy.out.at fun k hk => hgn.block k (HWy.out.lt hk).2 (fun e => by cases e; have := (HWy.out.lt hk).1; omega)
      have HTn : Hid (Told (w.heap.size + 1) wn W) := HT.out.keep fun o ho g hg => hgn.block g ((HT.out.own o ho).lt g hg).2 (fun e => by cases e; have := ((HT.out.own o ho).lt _ hg).1; omega)
      have HRn := hide hrgn
      have hDn : DkS (fun k => S k ∧ k < w.heap.size) wn d m { x with lk := 1 } E := HD1.out.keep (fun q hq => HBn.out.block q hq.2)
      have hEn := hDn.ens e he
      obtain ⟨a0, k0, hv, _⟩ := hEn.2.2.1.slice
      have q0 := cellOf hEn.2.1 0 e.v rfl
      rw [hv] at q0
      have q1 : wn.cell? ⟨e.p, 1, none⟩ = some (.int .i64 (e.f.2.2 : Int)) := cellOf hEn.2.1 1 _ rfl
      have hplt : e.p < w.heap.size := hEn.1.2
      have hr := hEn.2.2.1.rb
      rw [hv] at hr
      have hlen : e.f.2.1.length ≤ 140737488355328 := by
        have := le_usd (List.mem_map_of_mem (f := En.f) he)
        have := HO.out.usd_le
        omega
      have HOW : Hid (Calls Try.prog 53 #[.slice a0 e.f.2.1.length k0] wn.drew fun e' w' => ∃ v', e' = .returned v' ∧ Ob wn.heap.size w' v' e.f.2.1 ∧ Below wn.heap.size wn w') := by
        refine (own_any _ _ wn.drew (hr.below (drew_below wn)) hlen).mono ?_
        rintro e' w' ⟨v', rfl, h1, h2⟩
        exact ⟨v', rfl, h1, belOn (drew_below wn) (Nat.le_refl _) h2⟩
      obtain ⟨n0, hn0⟩ : ∃ n0, n0 = e.f.2.1.length := ⟨_, rfl⟩
      obtain ⟨p, hp⟩ : ∃ p, p = e.p := ⟨_, rfl⟩
      obtain ⟨s0, hs0⟩ : ∃ s0, s0 = e.f.2.2 := ⟨_, rfl⟩
      rw [← hn0] at HOW q0
      rw [← hp] at q0 q1 hplt hen ⊢
      rw [← hs0] at q1
      have HN0 := hide hn0
      have HS0 := hide hs0
      have HNn : Hid (w.heap.size + 1 ≤ wn.heap.size) := by show _ ≤ wn.heap.size; omega
      clear hm hlx hrgn hgn hr hv hEn hDn he hlen hn0 hp hs0
      unfold pV at hen ⊢
      go_wp2_with fail
      refine wp_region_held_drew (S := fun V => V.cell? ⟨p, 0, none⟩ = some (.slice a0 n0 k0) ∧ V.cell? ⟨p, 1, none⟩ = some (.int .i64 (s0 : Int))) (by kernel_rfl) ⟨q0, q1⟩ (fun hHeld => ?_)
      refine take_do (i := 0) (d := 23) (v := ?_) rfl rfl (by kernel_rfl) (by kernel_rfl) (by kernel_rfl) (fun _ _ _ h => leaves_put (t := 2) rfl (by decide) _ _ _ _ _ h) rfl ?_ (by assumption) ?_
      rotate_left
      · intro W hSw
        try dsimp only at hSw
        go_simp
        try with_reducible rfl
      try simp only [List.setIfInBounds_toArray, List.set_cons_zero, List.set_cons_succ]
      refine take_do (i := 1) (d := 24) (v := ?_) rfl rfl (by kernel_rfl) (by kernel_rfl) (by kernel_rfl) (fun _ _ _ h => leaves_put (t := 2) rfl (by decide) _ _ _ _ _ h) rfl ?_ (by assumption) ?_
      rotate_left
      · intro W hSw
        try dsimp only at hSw
        go_simp
        try with_reducible rfl
      try simp only [List.setIfInBounds_toArray, List.set_cons_zero, List.set_cons_succ]
      refine take_do (i := 2) (d := 25) (v := ?_) rfl rfl (by kernel_rfl) (by kernel_rfl) (by kernel_rfl) (fun _ _ _ h => leaves_put (t := 2) rfl (by decide) _ _ _ _ _ h) rfl ?_ (by assumption) ?_
      rotate_left
      · intro W hSw
        try dsimp only at hSw
        go_simp
        try with_reducible rfl
      try simp only [List.setIfInBounds_toArray, List.set_cons_zero, List.set_cons_succ]
      refine take_do (i := 3) (d := 26) (v := ?_) rfl rfl (by kernel_rfl) (by kernel_rfl) (by kernel_rfl) (fun _ _ _ h => leaves_put (t := 2) rfl (by decide) _ _ _ _ _ h) rfl ?_ (by assumption) ?_
      rotate_left
      · intro W hSw
        try dsimp only at hSw
        go_simp
        try with_reducible rfl
      try simp only [List.setIfInBounds_toArray, List.set_cons_zero, List.set_cons_succ]
      refine take_do (i := 4) (d := 27) (v := ?_) rfl rfl (by kernel_rfl) (by kernel_rfl) (by kernel_rfl) (fun _ _ _ h => leaves_put (t := 2) rfl (by decide) _ _ _ _ _ h) rfl ?_ (by assumption) ?_
      rotate_left
      · intro W hSw
        try dsimp only at hSw
        go_simp
        try with_reducible rfl
      try simp only [List.setIfInBounds_toArray, List.set_cons_zero, List.set_cons_succ]
      refine take_do (i := 5) (d := 28) (v := ?_) rfl rfl (by kernel_rfl) (by kernel_rfl) (by kernel_rfl) (fun _ _ _ h => leaves_put (t := 2) rfl (by decide) _ _ _ _ _ h) rfl ?_ (by assumption) ?_
      rotate_left
      · intro W hSw
        try dsimp only at hSw
        obtain ⟨h0, h1⟩ := hSw
        go_simp
        try with_reducible rfl
      try simp only [List.setIfInBounds_toArray, List.set_cons_zero, List.set_cons_succ]
      refine take_do (i := 7) (d := 30) (v := ?_) rfl rfl (by kernel_rfl) (by kernel_rfl) (by kernel_rfl) (fun _ _ _ h => leaves_put (t := 2) rfl (by decide) _ _ _ _ _ h) rfl ?_ (by assumption) ?_
      rotate_left
      · intro W hSw
        try dsimp only at hSw
        go_simp
        try with_reducible rfl
      try simp only [List.setIfInBounds_toArray, List.set_cons_zero, List.set_cons_succ]
      refine take_do (i := 8) (d := 31) (v := ?_) rfl rfl (by kernel_rfl) (by kernel_rfl) (by kernel_rfl) (fun _ _ _ h => leaves_put (t := 2) rfl (by decide) _ _ _ _ _ h) rfl ?_ (by assumption) ?_
      rotate_left
      · intro W hSw
        try dsimp only at hSw
        go_simp
        try with_reducible rfl
      try simp only [List.setIfInBounds_toArray, List.set_cons_zero, List.set_cons_succ]
      refine take_do (i := 9) (d := 32) (v := ?_) rfl rfl (by kernel_rfl) (by kernel_rfl) (by kernel_rfl) (fun _ _ _ h => leaves_put (t := 2) rfl (by decide) _ _ _ _ _ h) rfl ?_ (by assumption) ?_
      rotate_left
      · intro W hSw
        try dsimp only at hSw
        go_simp
        try with_reducible rfl
      try simp only [List.setIfInBounds_toArray, List.set_cons_zero, List.set_cons_succ]
      refine take_do (i := 10) (d := 33) (v := ?_) rfl rfl (by kernel_rfl) (by kernel_rfl) (by kernel_rfl) (fun _ _ _ h => leaves_put (t := 2) rfl (by decide) _ _ _ _ _ h) rfl ?_ (by assumption) ?_
      rotate_left
      · intro W hSw
        try dsimp only at hSw
        obtain ⟨h0, h1⟩ := hSw
        go_simp
        try with_reducible rfl
      try simp only [List.setIfInBounds_toArray, List.set_cons_zero, List.set_cons_succ]
      refine wpAnyH_ready (rs := [6]) (by kernel_rfl) (by simp) ?_
      refine AllReadyH.cons rfl (fun K hK => ?_) AllReadyH.nil
      go_simp
      go_wp2_with (go_at_call 53; refine HOW.out.mono ?_; rintro e3 w3 ⟨v3, rfl, ho3, hb3⟩)
      have HHE : Hid (∀ V : World, Below w.heap.size wn V → V.cell? ⟨p, 0, none⟩ = some (.slice a0 n0 k0) ∧ V.cell? ⟨p, 1, none⟩ = some (.int .i64 (s0 : Int))) := fun V hV => ⟨(hV.cell (p := ⟨p, 0, none⟩) hplt).trans q0, (hV.cell (p := ⟨p, 1, none⟩) hplt).trans q1⟩
      have hz3 : wn.heap.size ≤ w3.heap.size := hb3.size
      obtain ⟨a3, k3, rfl, _⟩ := ho3.slice
      refine hK.out _ _ (HHE.out w3 (hb3.mono (by have := HNn.out; omega))) (fun hHeld => ?_)
      clear hK K
      try simp only [List.getElem_toArray, List.getElem_cons_succ, List.getElem_cons_zero]
      try simp only [Act.put, List.setIfInBounds_toArray, List.set_cons_zero, List.set_cons_succ]
      rw [← HN0.out]
      refine take_do (i := 11) (d := 34) (v := ?_) rfl rfl (by kernel_rfl) (by kernel_rfl) (by kernel_rfl) (fun _ _ _ h => leaves_put (t := 2) rfl (by decide) _ _ _ _ _ h) rfl ?_ (by assumption) ?_
      rotate_left
      · intro W hSw
        try dsimp only at hSw
        go_simp
        try with_reducible rfl
      try simp only [List.setIfInBounds_toArray, List.set_cons_zero, List.set_cons_succ]
      refine wpAnyH_ready (rs := [12]) (by kernel_rfl) (by simp) ?_
      refine AllReadyH.cons rfl (fun K hK => ?_) AllReadyH.nil
      rw [if_pos (by kernel_rfl)]
      have hb4 : Below wn.heap.size wn (w3.alloc (.cells ⟨FK.enc (e.f, .slice a3 n0 k3)⟩ 44)) := bel1 hb3 hz3 _
      refine wp_build_one fkOk (.tmp 34) rfl (e.f, .slice a3 n0 k3) (by rw [HS0.out]; rfl) ?_
      refine hK.out _ _ (HHE.out _ (hb4.mono (by have := HNn.out; omega))) (fun hHeld => ?_)
      clear hK K
      try simp only [List.getElem_toArray, List.getElem_cons_succ, List.getElem_cons_zero]
      try simp only [Act.put, List.setIfInBounds_toArray, List.set_cons_zero, List.set_cons_succ]
      obtain ⟨w4, hw4⟩ : ∃ w4, w4 = w3.alloc (.cells ⟨FK.enc (e.f, .slice a3 n0 k3)⟩ 44) := ⟨_, rfl⟩
      have hB4 : w4.heap[w3.heap.size]? = some (.cells ⟨FK.enc (e.f, .slice a3 n0 k3)⟩ FK.t (0, 0)) := by rw [hw4]; exact heap_new _ _
      have hz4 : w4.heap.size = w3.heap.size + 1 := by rw [hw4]; simp
      change wpAnyH Try.prog _ _ _ _ _ _ _ (w3.alloc (.cells ⟨FK.enc (e.f, .slice a3 n0 k3)⟩ 44))
      rw [← hw4] at hb4 ⊢
      have hW4 : Wy FK w4 (w.heap.size + 1) (.slice va W.length vc) W := HWn.out.at fun k hk => hb4.block k (HWn.out.lt hk).2
      rw [← HN0.out] at ho3
      have hn4 : (W.length + 1) * FK.bs ≤ 140737488355328 := by
        have := HLn.out
        show (W.length + 1) * 48 ≤ _
        omega
      refine wpAnyH_ready (rs := [13]) (by kernel_rfl) (by simp) ?_
      refine AllReadyH.cons rfl (fun K hK => ?_) AllReadyH.nil
      rw [if_pos (by kernel_rfl)]
      refine wp_append_way fkOk _ (.tmp 23) (.tmp 35) rfl (w.heap.size + 1) _ W (e.f, .slice a3 n0 k3) rfl hW4 w3.heap.size 1 rfl hB4 (by have := HNn.out; omega) hn4 (fun v5 w5 h1 h2 h3 => ?_)
      have hb5 : Below w.heap.size wn w5 := (hb4.mono (by have := HNn.out; omega)).grown h2 (by have := HNn.out; omega) (fun k hk => by have := (hW4.lt hk).1; omega)
      refine hK.out _ _ (HHE.out w5 hb5) (fun hHeld => ?_)
      clear hK K
      obtain ⟨va5, vc5, rfl⟩ := h1.shape
      try simp only [List.getElem_toArray, List.getElem_cons_succ, List.getElem_cons_zero]
      try simp only [Act.put, List.setIfInBounds_toArray, List.set_cons_zero, List.set_cons_succ]
      refine take_do (i := 14) (d := 3) (v := ?_) rfl rfl (by kernel_rfl) (by kernel_rfl) (by kernel_rfl) (fun _ _ _ h => leaves_put (t := 2) rfl (by decide) _ _ _ _ _ h) rfl ?_ (by assumption) ?_
      rotate_left
      · intro W hSw
        try dsimp only at hSw
        go_simp
        try with_reducible rfl
      try simp only [List.setIfInBounds_toArray, List.set_cons_zero, List.set_cons_succ]
      refine wpAnyH_done (by kernel_rfl) ?_ _
      have HW5 := hide h1
      have HB5 : Hid (Below w.heap.size w1 w5) := HBn.out.trans hb5
      have HR5 : Hid (w5.ranges Try.prog 9 rH m w.heap.size (tbl E).length D (fun z => left z && !z.sameKey (.string e.f.1.data.toList)) cntn) := by
        have hr4 := HRn.out.kept (row := none) (w' := w4) ⟨hb4.os, hb4.tape, hb4.output, hb4.size, fun k hk _ => hb4.block k hk⟩ (by simp) (by simp)
        refine hr4.kept h2 (fun h => ?_) (fun h => ?_)
        · have := (hW4.lt h.symm).1
          have := HD1.out.sm.2
          omega
        · have := (hW4.lt h.symm).1
          omega
      have HQ : Hid (((W ++ [(e.f, Value.slice a3 n0 k3)]).map (·.1)).Perm (comeF (E.map En.f) (fun z => left z && !z.sameKey (.string e.f.1.data.toList)))) := by
        show List.Perm _ _
        rw [List.map_append]
        exact (HP.out.append_right _).trans hst.out.symm
      have HT5 : Hid (Told (w.heap.size + 1) w5 (W ++ [(e.f, Value.slice a3 n0 k3)])) := by
        have t4 := HTn.out.below hb4
        have t5 : Told (w.heap.size + 1) w5 W := t4.keep (fun o ho g hg => h2.block g ((t4.own o ho).lt g hg).2 (fun h => t4.apart hW4 ho hg h.symm))
        have o5 : Ob wn.heap.size w5 (.slice a3 n0 k3) e.f.2.1 := by
          refine ho3.at_same (fun g hg => ?_)
          have hgl := ho3.lt g hg
          have e1 : w4.heap[g]? = w3.heap[g]? := by rw [hw4]; exact Below.heap_alloc _ _ _ hgl.2
          rw [← e1]
          refine h2.block g (by omega) (fun h => ?_)
          have := (HWn.out.lt h.symm).2
          omega
        exact t5.push (B := wn.heap.size) (o5.mono HNn.out) (fun g hg => (o5.lt g hg).1) (fun q hq g hg => ((HTn.out.own q hq).lt g hg).2)
      have HZ5 : Hid (w.heap.size + 1 ≤ w5.heap.size) := by
        show _ ≤ w5.heap.size
        have := h2.size
        have := HNn.out
        omega
      clear h1 h2 h3 hb5 hb4 hW4 hB4 hw4 ho3 hb3 HOW HHE hst hen
      go_wp2
      go_roundw
      case rel => exact ⟨_, cntn, _, HR5.out, by simpa using HW5.out, HQ, HT5, HB5.out, HZ5.out⟩
      case measure => rw [HR5.out.left_eq, HRr.out.left_eq]; exact hltn
end Go.Proofs.Ytgkdecjlanbmhaa
