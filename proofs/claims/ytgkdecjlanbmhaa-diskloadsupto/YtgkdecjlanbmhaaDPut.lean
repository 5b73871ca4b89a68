
/- Stage 19: put, drop, lay. -/
import Derived.Test.YtgkdecjlanbmhaaDFind
import Derived.Test.YtgkdecjlanbmhaaShelf
import Derived.Test.YtgkdecjlanbmhaaDTake
namespace Go.Proofs.Ytgkdecjlanbmhaa
open Go.RowKit Go.Maps
set_option linter.unusedVariables false
set_option linter.unusedSimpArgs false
theorem clone_any (s : ByteArray) (hs : s.size ≤ 281474976710656) (w : World) : Calls Try.prog 75 #[.string s] w fun e w' => e = .returned (.string s) ∧ Below w.heap.size w w' := by
  go_enter Try.func75, Try.ntmps75
  go_wp2_with fail
  refine (Try.stringslite_Clone s w hs).mono ?_
  rintro e w' ⟨rfl, hb⟩
  have HB := hide hb
  clear hb
  go_wp2
  go_ret
  exact ⟨rfl, HB.out⟩
theorem wp_put_T {o : Oper} {a : Act} {w : World} {K : Act → World → Prop} {Q : Exit → Act → World → Prop} (m x v : Operand) (hop : o.op = Op.mapUpdate 66 m x v) (b : Nat) (hm : a.eval m = .map (some b)) (k : ByteArray) (p : Nat) (hx : a.eval x = .string k) (hv : a.eval v = pV p) (l : List (ByteArray × Nat)) (hT : Tb w b l) (hk : k.size ≤ maxLen) (hn : l.length + 1 ≤ maxLen)
    (hK : ∀ w', Tb w' b ((k, p) :: l.filter fun p => !decide (p.1 = k)) → Kp (fun q => q = b) w w' → w'.heap.size = w.heap.size → K (a.put o.dst undef) w') : o.wp Try.prog a w K Q := by
  obtain ⟨D, h1, h2⟩ := hT
  obtain ⟨w', hrun, r1, r2⟩ := h1.store Try.skeyed Try.underlying66 hn (keyS hk) (val := pV p) (d := .held (pV p)) (ps := []) rfl
  unfold Oper.wp
  simp [execOp, hop, hm, hx, hv, hrun, Result.andThen]
  exact hK w' (Tb.mk r1 (h2.put k p)) (grown_kp r2) (turned_size r2)
theorem nm_16 {s : ByteArray} (h : nm s = true) : s.size ≤ 16 := by
  simp [nm] at h
  omega
def tbl (E : List En) : List (ByteArray × Nat) := E.map fun e => (e.f.1, e.p)
def wo (k : ByteArray) (E : List En) : List En := E.filter fun e => !decide (e.f.1 = k)
theorem tbl_wo (k : ByteArray) (E : List En) : ((tbl E).filter fun p => !decide (p.1 = k)) = tbl (wo k E) := by
  unfold tbl wo
  rw [List.filter_map]
  rfl
theorem wo_self {k : ByteArray} {E : List En} (h : k ∉ E.map (·.f.1)) : wo k E = E := by
  unfold wo
  rw [List.filter_eq_self]
  intro e he
  simp only [Bool.not_eq_true', decide_eq_false_iff_not]
  exact fun e' => h (e' ▸ List.mem_map_of_mem he)
theorem wo_cons {k : ByteArray} {e : En} {E : List En} (he : e.f.1 = k) (hn : ((e :: E).map (·.f.1)).Nodup) : wo k (e :: E) = E := by
  have h := (List.nodup_cons.1 (by simpa using hn : (e.f.1 :: E.map (·.f.1)).Nodup)).1
  rw [he] at h
  have h2 := wo_self h
  unfold wo at h2 ⊢
  rw [List.filter_cons_of_neg (by simp [he])]
  exact h2
theorem wo_perm {k : ByteArray} {E E' : List En} (h : E.Perm E') : (wo k E).Perm (wo k E') := h.filter _
theorem wo_not {k : ByteArray} {E : List En} : k ∉ (wo k E).map (·.f.1) := by
  intro h
  obtain ⟨e, he, rfl⟩ := List.mem_map.1 h
  have := (List.mem_filter.1 he).2
  simp at this
section
variable {S T : Nat → Prop} {w w' : World} {d m : Nat} {x : Dx} {E : List En} {k : ByteArray}
theorem DkS.others (h : DkS S w d m x E) (hK : Kp (fun q => q = m) w w') : w'.heap[d]? = some (.cells (dkA m x) 77 (0, 0)) ∧ ∀ e ∈ E, EnS S w' e := by
  refine ⟨(hK.block h.lt (fun e => h.md e.symm)).trans h.blk, fun e he => ?_⟩
  have he := h.ens e he
  exact ⟨he.1, (hK.block he.lt (he.ne_m h)).trans he.2.1, he.2.2.1.at_same (fun g hg => hK.block (he.2.2.1.lt g hg).2 (he.g_m hg h)), he.2.2.2⟩
/-- a name goes out of the table -/
theorem DkS.del (h : DkS S w d m x E) (hT : Tb w' m (tbl (wo k E))) (hK : Kp (fun q => q = m) w w') : DkS S w' d m x (wo k E) := by
  obtain ⟨h1, h2⟩ := h.others hK
  have hs : (wo k E).Sublist E := List.filter_sublist
  exact ⟨h.sd, h.sm, h1, hT, fun e he => h2 e (hs.subset he), (hs.map _).nodup h.ps, h.apt.sublist hs⟩
/-- a file comes into the table -/
theorem DkS.add (h : DkS S w d m x E) (e : En) (hT : Tb w' m (tbl (e :: E))) (hK : Kp (fun q => q = m) w w') (hE : EnS S w e) (hp : e.p ∉ E.map (·.p)) (ha : ∀ q ∈ E, Apt e q) : DkS S w' d m x (e :: E) := by
  obtain ⟨h1, h2⟩ := h.others hK
  refine ⟨h.sd, h.sm, h1, hT, fun q hq => ?_, ?_, List.pairwise_cons.2 ⟨ha, h.apt⟩⟩
  · rcases List.mem_cons.1 hq with rfl | hq
    · exact ⟨hE.1, (hK.block hE.lt (hE.ne_m h)).trans hE.2.1, hE.2.2.1.at_same (fun g hg => hK.block (hE.2.2.1.lt g hg).2 (hE.g_m hg h)), hE.2.2.2⟩
    · exact h2 q hq
  · simp only [List.map_cons, List.nodup_cons]
    exact ⟨hp, h.ps⟩
end
set_option maxHeartbeats 2000000 in
set_option maxRecDepth 100000 in
theorem put_any (S : Nat → Prop) (w : World) (d m : Nat) (x : Dx) (E : List En) (hD : DkS S w d m x E) (k : ByteArray) (hk : nm k = true) (p : Nat) (hn : E.length + 1 ≤ maxLen) :
    Calls Try.prog 62 #[.pointer (some ⟨d, 0, none⟩), .string k, pV p] w fun e w' => e = .returned (.tuple #[]) ∧ Tb w' m ((k, p) :: tbl (wo k E)) ∧ Kp (fun q => q = m) w w' := by
  have c2 : w.cell? ⟨d, 2, none⟩ = some (.map (some m)) := hD.cell 2 _ rfl
  have hlt := hD.lt
  have hmd : d ≠ m := hD.md.symm
  have HT : Hid (Tb w m (tbl E)) := hD.tab
  have hk16 := nm_16 hk
  have HKM : Hid (k.size ≤ maxLen) := nm_size hk
  have HN : Hid ((tbl E).length + 1 ≤ maxLen) := by show (tbl E).length + 1 ≤ maxLen; unfold tbl; rw [List.length_map]; exact hn
  have hmlt := hD.tab.lt
  clear hD hn
  go_enter Try.func62, Try.ntmps62
  go_wp2_with fail
  refine wp_region_held_drew (S := fun W => W.cell? ⟨d, 2, none⟩ = some (.map (some m))) (by kernel_rfl) c2 (fun hHeld => ?_)
  refine take_do (i := 0) (d := 6) (v := ?_) rfl rfl (by kernel_rfl) (by kernel_rfl) (by kernel_rfl) (fun _ _ _ h => h) rfl ?_ (by assumption) ?_
  rotate_left
  · intro W hSw
    try dsimp only at hSw
    go_simp
    try with_reducible rfl
  try simp only [List.setIfInBounds_toArray, List.set_cons_zero, List.set_cons_succ]
  refine take_do (i := 1) (d := 7) (v := ?_) rfl rfl (by kernel_rfl) (by kernel_rfl) (by kernel_rfl) (fun _ _ _ h => h) rfl ?_ (by assumption) ?_
  rotate_left
  · intro W hSw
    try dsimp only at hSw
    go_simp
    try with_reducible rfl
  try simp only [List.setIfInBounds_toArray, List.set_cons_zero, List.set_cons_succ]
  refine take_do (i := 2) (d := 8) (v := ?_) rfl rfl (by kernel_rfl) (by kernel_rfl) (by kernel_rfl) (fun _ _ _ h => h) rfl ?_ (by assumption) ?_
  rotate_left
  · intro W hSw
    try dsimp only at hSw
    go_simp
    try with_reducible rfl
  try simp only [List.setIfInBounds_toArray, List.set_cons_zero, List.set_cons_succ]
  refine take_do (i := 3) (d := 9) (v := ?_) rfl rfl (by kernel_rfl) (by kernel_rfl) (by kernel_rfl) (fun _ _ _ h => h) rfl ?_ (by assumption) ?_
  rotate_left
  · intro W hSw
    try dsimp only at hSw
    go_simp
    try with_reducible rfl
  try simp only [List.setIfInBounds_toArray, List.set_cons_zero, List.set_cons_succ]
  refine take_do (i := 4) (d := 10) (v := ?_) rfl rfl (by kernel_rfl) (by kernel_rfl) (by kernel_rfl) (fun _ _ _ h => h) rfl ?_ (by assumption) ?_
  rotate_left
  · intro W hSw
    try dsimp only at hSw
    go_simp
    try with_reducible rfl
  try simp only [List.setIfInBounds_toArray, List.set_cons_zero, List.set_cons_succ]
  refine take_do (i := 6) (d := 12) (v := ?_) rfl rfl (by kernel_rfl) (by kernel_rfl) (by kernel_rfl) (fun _ _ _ h => h) rfl ?_ (by assumption) ?_
  rotate_left
  · intro W hSw
    try dsimp only at hSw
    go_simp
    try with_reducible rfl
  try simp only [List.setIfInBounds_toArray, List.set_cons_zero, List.set_cons_succ]
  refine wpAnyH_ready (rs := [5]) (by kernel_rfl) (by simp) ?_
  refine AllReadyH.cons rfl (fun K hK => ?_) AllReadyH.nil
  go_simp
  go_wp2_with (go_at_call 75; refine (clone_any k (by omega) _).mono ?_; rintro e3 w3 ⟨rfl, hb3⟩)
  have hb4 : Below w.heap.size w w3 := belOn (drew_below w) (Nat.le_refl _) hb3
  have h4 : w3.cell? ⟨d, 2, none⟩ = some (.map (some m)) := (hb4.cell (p := ⟨d, 2, none⟩) hlt).trans c2
  have HT3 : Hid (Tb w3 m (tbl E)) := HT.out.at (hb4.block m hmlt)
  refine hK.out _ _ h4 (fun hHeld => ?_)
  clear hK K
  try simp only [Act.put, List.setIfInBounds_toArray, List.set_cons_zero, List.set_cons_succ]
  refine wpAnyH_ready (rs := [7]) (by kernel_rfl) (by simp) ?_
  refine AllReadyH.cons rfl (fun K hK => ?_) AllReadyH.nil
  rw [if_pos (by kernel_rfl)]
  refine wp_put_T (.tmp 9) (.tmp 11) (.tmp 12) rfl m rfl k p rfl rfl (tbl E) HT3.out HKM.out HN.out ?_
  intro w5 hT5 hK5 hS5
  have h5 : w5.cell? ⟨d, 2, none⟩ = some (.map (some m)) := (hK5.cell (Nat.lt_of_lt_of_le hlt hb4.size) hmd).trans h4
  refine hK.out _ _ h5 (fun hHeld => ?_)
  clear hK K
  refine wpAnyH_done (by kernel_rfl) ?_ _
  rw [tbl_wo] at hT5
  have HT5 := hide hT5
  have HK5 : Hid (Kp (fun q => q = m) w w5) := (Kp.ofBelow hb4).trans hK5
  clear hT5 hK5 hb3 hb4 h4 h5
  go_wp2
  go_end0
  exact ⟨rfl, HT5.out, HK5.out⟩
theorem cell_u8 {w : World} {d m : Nat} {x : Dx} (h : w.heap[d]? = some (.cells (dkA m x) 77 (0, 0))) (off : Nat) (c : Int) : w.cell? ⟨d, off, none⟩ ≠ some (.int .u8 c) := by
  simp only [World.cell?, h, dkA]
  rcases off with _ | _ | _ | _ | _ | _ | _ | _ | off <;> simp
theorem Tb.cell_none {w : World} {m : Nat} {l : List (ByteArray × Nat)} (h : Tb w m l) (off : Nat) : w.cell? ⟨m, off, none⟩ = none := by
  obtain ⟨D, ⟨es, c, h1, _⟩, _⟩ := h
  simp [World.cell?, h1]
theorem Rb.kp {T : Nat → Prop} {w w' : World} {u : Value} {t : List Nat} (hr : Rb w u t) (hk : Kp T w w') (hT : ∀ b off c, T b → w.cell? ⟨b, off, none⟩ ≠ some (.int .u8 c)) : Rb w' u t := by
  obtain ⟨a, cap, e, h1, h2, h3, h4, h5⟩ := hr
  refine ⟨a, cap, e, h1, h2, h3, h4, fun h0 => ?_⟩
  obtain ⟨b, off, ha, hb, hc⟩ := h5 h0
  have hnb : ¬ T b := fun hTb => hT b _ _ hTb (hc 0 h0)
  exact ⟨b, off, ha, Nat.lt_of_lt_of_le hb hk.size, fun j hj => (hk.cell hb hnb).trans (hc j hj)⟩
/-- how many bytes the file of that name has -/
def lenOf (k : ByteArray) (F : List Fi) : Nat := match F.find? (fun f => decide (f.1 = k)) with | some f => f.2.1.length | none => 0
theorem lenOf_none {k : ByteArray} {F : List Fi} (h : k ∉ F.map (·.1)) : lenOf k F = 0 := by
  unfold lenOf
  rw [List.find?_eq_none.2 (fun x hx => by simp only [decide_eq_true_eq]; exact fun e => h (e ▸ List.mem_map_of_mem hx))]
theorem find_mem {k : ByteArray} {F : List Fi} {f : Fi} (hn : (F.map (·.1)).Nodup) (h : f ∈ F) (hk : f.1 = k) : F.find? (fun f => decide (f.1 = k)) = some f := by
  induction F with
  | nil => simp at h
  | cons x t ih =>
    simp only [List.map_cons, List.nodup_cons] at hn
    rw [List.find?_cons]
    by_cases hx : x.1 = k
    · simp only [hx, decide_true]
      rcases List.mem_cons.1 h with rfl | h
      · rfl
      · exact absurd (hx.trans hk.symm ▸ List.mem_map_of_mem (f := (·.1)) h) hn.1
    · simp only [hx, decide_false]
      rcases List.mem_cons.1 h with rfl | h
      · exact absurd hk hx
      · exact ih hn.2 h
theorem lenOf_mem {k : ByteArray} {F : List Fi} {f : Fi} (hn : (F.map (·.1)).Nodup) (h : f ∈ F) (hk : f.1 = k) : lenOf k F = f.2.1.length := by
  unfold lenOf
  rw [find_mem hn h hk]
theorem lenOf_le {k : ByteArray} {F : List Fi} (hn : (F.map (·.1)).Nodup) : lenOf k F ≤ usd F := by
  by_cases h : k ∈ F.map (·.1)
  · obtain ⟨f, hf, e⟩ := List.mem_map.1 h
    rw [lenOf_mem hn hf e]
    exact le_usd hf
  · rw [lenOf_none h]
    exact Nat.zero_le _
set_option maxHeartbeats 2000000 in
set_option maxRecDepth 100000 in
theorem drop_any (S : Nat → Prop) (w : World) (d m : Nat) (x : Dx) (E : List En) (hD : DkS S w d m x E) (k : ByteArray) (hk : nm k = true) (hu : x.used = (usd (E.map En.f) : Int)) (hm : usd (E.map En.f) ≤ 16777216) :
    Calls Try.prog 61 #[.pointer (some ⟨d, 0, none⟩), .string k] w fun e w' => e = .returned (.tuple #[]) ∧ DkS S w' d m { x with used := x.used - (lenOf k (E.map En.f) : Int) } (wo k E) ∧ Kp S w w' := by
  have HD := hide hD
  have c2 : w.cell? ⟨d, 2, none⟩ = some (.map (some m)) := hD.cell 2 _ rfl
  have hlk := look_run hD.tab (nm_size hk)
  have hnm : ((E.map En.f).map (·.1)).Nodup := by rw [List.map_map]; exact hD.names
  rcases luV_cases (E.map fun e => (e.f.1, e.p)) k hD.tab.nodup with ⟨q1, q2⟩ | ⟨p, q1, q2⟩
  · rw [q2] at hlk
    rw [List.map_map] at q1
    have hl0 : lenOf k (E.map En.f) = 0 := lenOf_none (by rw [List.map_map]; exact q1)
    have HQ : Hid (DkS S w d m { x with used := x.used - (lenOf k (E.map En.f) : Int) } (wo k E)) := by
      show DkS S w d m _ _
      rw [hl0, wo_self q1]
      have e : ({ x with used := x.used - ((0 : Nat) : Int) } : Dx) = x := by cases x; simp
      rw [e]
      exact HD.out
    clear q1 q2 hD hk hu hm hl0 hnm
    go_enter Try.func61, Try.ntmps61
    go_wp2
    go_end0
    exact ⟨rfl, HQ.out, Kp.refl _ _⟩
  · obtain ⟨e, he, hp⟩ := List.mem_map.1 q1
    simp only [Prod.mk.injEq] at hp
    obtain ⟨hek, rfl⟩ := hp
    have hen := hD.ens e he
    have hlen : lenOf k (E.map En.f) = e.f.2.1.length := lenOf_mem hnm (List.mem_map_of_mem he) hek
    have hle := lenOf_le (k := k) hnm
    obtain ⟨a, c, hv, hc⟩ := hen.2.2.1.slice
    have c0 : w.cell? ⟨e.p, 0, none⟩ = some (.slice a e.f.2.1.length c) := by
      have := cellOf hen.2.1 0 e.v rfl
      rw [← hv]
      exact this
    have c4 : w.cell? ⟨d, 4, none⟩ = some (.int .i64 x.used) := hD.cell 4 _ rfl
    have f4 : w.frozen? ⟨d, 4, none⟩ = false := hD.frozen 4
    have hpd := hen.ne_d hD
    have hw1 : IntKind.i64.wrap (x.used - (e.f.2.1.length : Int)) = x.used - (e.f.2.1.length : Int) := by rw [IntKind.wrap_i64]; omega
    rw [q2] at hlk
    rw [hlen]
    have hD2 : DkS S (w.setCell ⟨d, 4, none⟩ (.int .i64 (x.used - (e.f.2.1.length : Int)))) d m { x with used := x.used - (e.f.2.1.length : Int) } E := hD.setx 4 _ _ rfl
    have HD2 : Hid (DkS S (w.setCell ⟨d, 4, none⟩ (.int .i64 (x.used - (e.f.2.1.length : Int)))).drew d m { x with used := x.used - (e.f.2.1.length : Int) } E) := hD2.keep (fun _ _ => rfl)
    have HK2 : Hid (Kp S w (w.setCell ⟨d, 4, none⟩ (.int .i64 (x.used - (e.f.2.1.length : Int)))).drew) := ((Kp.refl S w).setCell hD.sd _).below (drew_below _)
    have HSM : Hid (S m) := hD.sm
    have HKM : Hid (k.size ≤ maxLen) := nm_size hk
    have d2 : (w.setCell ⟨d, 4, none⟩ (.int .i64 (x.used - (e.f.2.1.length : Int)))).drew.cell? ⟨d, 2, none⟩ = some (.map (some m)) := HD2.out.cell 2 _ rfl
    clear q1 q2 hD hk hu hm hnm hD2 hen hv he hlen hle
    generalize e.p = p at *
    generalize e.f.2.1.length = n at *
    unfold pV at *
    go_enter Try.func61, Try.ntmps61
    go_wp2_with fail
    go_region
    obtain ⟨W2, hW2⟩ : ∃ W2, W2 = (w.setCell ⟨d, 4, none⟩ (.int .i64 (x.used - (n : Int)))).drew := ⟨_, rfl⟩
    rw [← hW2] at HD2 HK2 d2
    try rw [← hW2]
    clear hW2 hlk c0 c2 c4 f4
    go_wp2_with (at_delete; go_loud (refine del_T rfl _ _ rfl m rfl k rfl (tbl E) HD2.out.tab HKM.out ?_; intro w3 r1 r2 r3; have HT3 := hide r1; have HK3 := hide r2; clear r1 r2 r3))
    go_end0
    have h1 := HT3.out
    rw [tbl_wo] at h1
    exact ⟨rfl, HD2.out.del h1 HK3.out, HK2.out.trans (HK3.out.mono fun q e => by rw [e]; exact HSM.out)⟩
end Go.Proofs.Ytgkdecjlanbmhaa
