import Derived.Test.YtdcoafpenkofoaaGreatDoorDFindM9
import Derived.Test.YtdcoafpenkofoaaGreatDoorShelf
import Derived.Test.YtdcoafpenkofoaaGreatDoorDTake

/- Stage 19: put, drop, lay. -/
namespace Go.Proofs.YtdcoafpenkofoaaGreatDoor
open Go.RowKit Go.Maps
set_option linter.unusedVariables false
set_option linter.unusedSimpArgs false
theorem clone_any (s : ByteArray) (hs : s.size ≤ 281474976710656) (w : World) : Calls Tryz.prog 124 #[.string s] w fun e w' => e = .returned (.string s) ∧ Below w.heap.size w w' := by
  go_enter Tryz.func124, Tryz.ntmps124
  go_wp2_with fail
  refine (Tryz.stringslite_Clone s w hs).mono ?_
  rintro e w' ⟨rfl, hb⟩
  have HB := hide hb
  clear hb
  go_wp2
  go_ret
  exact ⟨rfl, HB.out⟩
theorem wp_put_T {o : Oper} {a : Act} {w : World} {K : Act → World → Prop} {Q : Exit → Act → World → Prop} (m x v : Operand) (hop : o.op = Op.mapUpdate 100 m x v) (b : Nat) (hm : a.eval m = .map (some b)) (k : ByteArray) (p : Nat) (hx : a.eval x = .string k) (hv : a.eval v = pV p) (l : List (ByteArray × Nat)) (hT : Tb w b l) (hk : k.size ≤ maxLen) (hn : l.length + 1 ≤ maxLen)
    (hK : ∀ w', Tb w' b ((k, p) :: l.filter fun p => !decide (p.1 = k)) → Kp (fun q => q = b) w w' → w'.heap.size = w.heap.size → K (a.put o.dst undef) w') : o.wp Tryz.prog a w K Q := by
  obtain ⟨D, h1, h2⟩ := hT
  obtain ⟨w', hrun, r1, r2⟩ := h1.store Tryz.skeyed Tryz.underlying100 hn (keyS hk) (val := pV p) (d := .held (pV p)) (ps := []) rfl
  unfold Oper.wp
  simp [execOp, hop, hm, hx, hv, hrun, Result.andThen]
  exact hK w' (Tb.mk r1 (h2.put k p)) (grown_kp r2) (turned_size r2)
theorem nm_16 {s : ByteArray} (h : nm s = true) : s.size ≤ 16 := by
  simp [nm] at h
  omega
def tbl (E : List En) : List (ByteArray × Nat) := E.map fun e => (e.f.1, e.p)
def wo (k : ByteArray) (E : List En) : List En := E.filter fun e => !decide (e.f.1 = k)
theorem tbl_wo (k : ByteArray) (E : List En) : ((tbl E).filter fun p => !decide (p.1 = k)) = tbl (wo k E) := by
  unfold tbl wo
  rw [List.filter_map]
  rfl
theorem wo_self {k : ByteArray} {E : List En} (h : k ∉ E.map (·.f.1)) : wo k E = E := by
  unfold wo
  rw [List.filter_eq_self]
  intro e he
  simp only [Bool.not_eq_true', decide_eq_false_iff_not]
  exact fun e' => h (e' ▸ List.mem_map_of_mem he)
theorem wo_cons {k : ByteArray} {e : En} {E : List En} (he : e.f.1 = k) (hn : ((e :: E).map (·.f.1)).Nodup) : wo k (e :: E) = E := by
  have h := (List.nodup_cons.1 (by simpa using hn : (e.f.1 :: E.map (·.f.1)).Nodup)).1
  rw [he] at h
  have h2 := wo_self h
  unfold wo at h2 ⊢
  rw [List.filter_cons_of_neg (by simp [he])]
  exact h2
theorem wo_perm {k : ByteArray} {E E' : List En} (h : E.Perm E') : (wo k E).Perm (wo k E') := h.filter _
theorem wo_not {k : ByteArray} {E : List En} : k ∉ (wo k E).map (·.f.1) := by
  intro h
  obtain ⟨e, he, rfl⟩ := List.mem_map.1 h
  have := (List.mem_filter.1 he).2
  simp at this
section
variable {S T : Nat → Prop} {w w' : World} {d m : Nat} {x : Dx} {E : List En} {k : ByteArray}
theorem DkS.others (h : DkS S w d m x E) (hK : Kp (fun q => q = m) w w') : w'.heap[d]? = some (.cells (dkA m x) 104 (0, 0)) ∧ ∀ e ∈ E, EnS S w' e := by
  refine ⟨(hK.block h.lt (fun e => h.md e.symm)).trans h.blk, fun e he => ?_⟩
  have he := h.ens e he
  exact ⟨he.1, (hK.block he.lt (he.ne_m h)).trans he.2.1, he.2.2.1.at_same (fun g hg => hK.block (he.2.2.1.lt g hg).2 (he.g_m hg h)), he.2.2.2⟩
/-- a name goes out of the table -/
theorem DkS.del (h : DkS S w d m x E) (hT : Tb w' m (tbl (wo k E))) (hK : Kp (fun q => q = m) w w') : DkS S w' d m x (wo k E) := by
  obtain ⟨h1, h2⟩ := h.others hK
  have hs : (wo k E).Sublist E := List.filter_sublist
  exact ⟨h.sd, h.sm, h1, hT, fun e he => h2 e (hs.subset he), (hs.map _).nodup h.ps, h.apt.sublist hs⟩
/-- a file comes into the table -/
theorem DkS.add (h : DkS S w d m x E) (e : En) (hT : Tb w' m (tbl (e :: E))) (hK : Kp (fun q => q = m) w w') (hE : EnS S w e) (hp : e.p ∉ E.map (·.p)) (ha : ∀ q ∈ E, Apt e q) : DkS S w' d m x (e :: E) := by
  obtain ⟨h1, h2⟩ := h.others hK
  refine ⟨h.sd, h.sm, h1, hT, fun q hq => ?_, ?_, List.pairwise_cons.2 ⟨ha, h.apt⟩⟩
  · rcases List.mem_cons.1 hq with rfl | hq
    · exact ⟨hE.1, (hK.block hE.lt (hE.ne_m h)).trans hE.2.1, hE.2.2.1.at_same (fun g hg => hK.block (hE.2.2.1.lt g hg).2 (hE.g_m hg h)), hE.2.2.2⟩
    · exact h2 q hq
  · simp only [List.map_cons, List.nodup_cons]
    exact ⟨hp, h.ps⟩
end
set_option maxHeartbeats 2000000 in
set_option maxRecDepth 100000 in
theorem put_any (S : Nat → Prop) (w : World) (d m : Nat) (x : Dx) (E : List En) (hD : DkS S w d m x E) (k : ByteArray) (hk : nm k = true) (p : Nat) (hn : E.length + 1 ≤ maxLen) :
    Calls Tryz.prog 86 #[.pointer (some ⟨d, 0, none⟩), .string k, pV p] w fun e w' => e = .returned (.tuple #[]) ∧ Tb w' m ((k, p) :: tbl (wo k E)) ∧ Kp (fun q => q = m) w w' := by
  have c2 : w.cell? ⟨d, 2, none⟩ = some (.map (some m)) := hD.cell 2 _ rfl
  have hlt := hD.lt
  have hmd : d ≠ m := hD.md.symm
  have HT : Hid (Tb w m (tbl E)) := hD.tab
  have hk16 := nm_16 hk
  have HKM : Hid (k.size ≤ maxLen) := nm_size hk
  have HN : Hid ((tbl E).length + 1 ≤ maxLen) := by show (tbl E).length + 1 ≤ maxLen; unfold tbl; rw [List.length_map]; exact hn
  have hmlt := hD.tab.lt
  clear hD hn
  go_enter Tryz.func86, Tryz.ntmps86
  go_wp2_with fail
  refine wp_region_held_drew (S := fun W => W.cell? ⟨d, 2, none⟩ = some (.map (some m))) (by kernel_rfl) c2 (fun hHeld => ?_)
  refine take_do (i := 0) (d := 6) (v := ?_) rfl rfl (by kernel_rfl) (by kernel_rfl) (by kernel_rfl) (fun _ _ _ h => h) rfl ?_ (by assumption) ?_
  rotate_left
  · intro W hSw
    try dsimp only at hSw
    go_simp
    try with_reducible rfl
  try simp only [List.setIfInBounds_toArray, List.set_cons_zero, List.set_cons_succ]
  refine take_do (i := 1) (d := 7) (v := ?_) rfl rfl (by kernel_rfl) (by kernel_rfl) (by kernel_rfl) (fun _ _ _ h => h) rfl ?_ (by assumption) ?_
  rotate_left
  · intro W hSw
    try dsimp only at hSw
    go_simp
    try with_reducible rfl
  try simp only [List.setIfInBounds_toArray, List.set_cons_zero, List.set_cons_succ]
  refine take_do (i := 2) (d := 8) (v := ?_) rfl rfl (by kernel_rfl) (by kernel_rfl) (by kernel_rfl) (fun _ _ _ h => h) rfl ?_ (by assumption) ?_
  rotate_left
  · intro W hSw
    try dsimp only at hSw
    go_simp
    try with_reducible rfl
  try simp only [List.setIfInBounds_toArray, List.set_cons_zero, List.set_cons_succ]
  refine take_do (i := 3) (d := 9) (v := ?_) rfl rfl (by kernel_rfl) (by kernel_rfl) (by kernel_rfl) (fun _ _ _ h => h) rfl ?_ (by assumption) ?_
  rotate_left
  · intro W hSw
    try dsimp only at hSw
    go_simp
    try with_reducible rfl
  try simp only [List.setIfInBounds_toArray, List.set_cons_zero, List.set_cons_succ]
  refine take_do (i := 4) (d := 10) (v := ?_) rfl rfl (by kernel_rfl) (by kernel_rfl) (by kernel_rfl) (fun _ _ _ h => h) rfl ?_ (by assumption) ?_
  rotate_left
  · intro W hSw
    try dsimp only at hSw
    go_simp
    try with_reducible rfl
  try simp only [List.setIfInBounds_toArray, List.set_cons_zero, List.set_cons_succ]
  refine take_do (i := 6) (d := 12) (v := ?_) rfl rfl (by kernel_rfl) (by kernel_rfl) (by kernel_rfl) (fun _ _ _ h => h) rfl ?_ (by assumption) ?_
  rotate_left
  · intro W hSw
    try dsimp only at hSw
    go_simp
    try with_reducible rfl
  try simp only [List.setIfInBounds_toArray, List.set_cons_zero, List.set_cons_succ]
  refine wpAnyH_ready (rs := [5]) (by kernel_rfl) (by simp) ?_
  refine AllReadyH.cons rfl (fun K hK => ?_) AllReadyH.nil
  go_simp
  go_wp2_with (go_at_call 124; refine (clone_any k (by omega) _).mono ?_; rintro e3 w3 ⟨rfl, hb3⟩)
  have hb4 : Below w.heap.size w w3 := belOn (drew_below w) (Nat.le_refl _) hb3
  have h4 : w3.cell? ⟨d, 2, none⟩ = some (.map (some m)) := (hb4.cell (p := ⟨d, 2, none⟩) hlt).trans c2
  have HT3 : Hid (Tb w3 m (tbl E)) := HT.out.at (hb4.block m hmlt)
  refine hK.out _ _ h4 (fun hHeld => ?_)
  clear hK K
  try simp only [Act.put, List.setIfInBounds_toArray, List.set_cons_zero, List.set_cons_succ]
  refine wpAnyH_ready (rs := [7]) (by kernel_rfl) (by simp) ?_
  refine AllReadyH.cons rfl (fun K hK => ?_) AllReadyH.nil
  rw [if_pos (by kernel_rfl)]
  refine wp_put_T (.tmp 9) (.tmp 11) (.tmp 12) rfl m rfl k p rfl rfl (tbl E) HT3.out HKM.out HN.out ?_
  intro w5 hT5 hK5 hS5
  have h5 : w5.cell? ⟨d, 2, none⟩ = some (.map (some m)) := (hK5.cell (Nat.lt_of_lt_of_le hlt hb4.size) hmd).trans h4
  refine hK.out _ _ h5 (fun hHeld => ?_)
  clear hK K
  refine wpAnyH_done (by kernel_rfl) ?_ _
  rw [tbl_wo] at hT5
  have HT5 := hide hT5
  have HK5 : Hid (Kp (fun q => q = m) w w5) := (Kp.ofBelow hb4).trans hK5
  clear hT5 hK5 hb3 hb4 h4 h5
  go_wp2
  go_end0
  exact ⟨rfl, HT5.out, HK5.out⟩
theorem cell_u8 {w : World} {d m : Nat} {x : Dx} (h : w.heap[d]? = some (.cells (dkA m x) 104 (0, 0))) (off : Nat) (c : Int) : w.cell? ⟨d, off, none⟩ ≠ some (.int .u8 c) := by
  simp only [World.cell?, h, dkA]
  rcases off with _ | _ | _ | _ | _ | _ | _ | _ | off <;> simp
theorem Tb.cell_none {w : World} {m : Nat} {l : List (ByteArray × Nat)} (h : Tb w m l) (off : Nat) : w.cell? ⟨m, off, none⟩ = none := by
  obtain ⟨D, ⟨es, c, h1, _⟩, _⟩ := h
  simp [World.cell?, h1]
theorem Rb.kp {T : Nat → Prop} {w w' : World} {u : Value} {t : List Nat} (hr : Rb w u t) (hk : Kp T w w') (hT : ∀ b off c, T b → w.cell? ⟨b, off, none⟩ ≠ some (.int .u8 c)) : Rb w' u t := by
  obtain ⟨a, cap, e, h1, h2, h3, h4, h5⟩ := hr
  refine ⟨a, cap, e, h1, h2, h3, h4, fun h0 => ?_⟩
  obtain ⟨b, off, ha, hb, hc⟩ := h5 h0
  have hnb : ¬ T b := fun hTb => hT b _ _ hTb (hc 0 h0)
  exact ⟨b, off, ha, Nat.lt_of_lt_of_le hb hk.size, fun j hj => (hk.cell hb hnb).trans (hc j hj)⟩
/-- how many bytes the file of that name has -/
def lenOf (k : ByteArray) (F : List Fi) : Nat := match F.find? (fun f => decide (f.1 = k)) with | some f => f.2.1.length | none => 0
theorem lenOf_none {k : ByteArray} {F : List Fi} (h : k ∉ F.map (·.1)) : lenOf k F = 0 := by
  unfold lenOf
  rw [List.find?_eq_none.2 (fun x hx => by simp only [decide_eq_true_eq]; exact fun e => h (e ▸ List.mem_map_of_mem hx))]
theorem find_mem {k : ByteArray} {F : List Fi} {f : Fi} (hn : (F.map (·.1)).Nodup) (h : f ∈ F) (hk : f.1 = k) : F.find? (fun f => decide (f.1 = k)) = some f := by
  induction F with
  | nil => simp at h
  | cons x t ih =>
    simp only [List.map_cons, List.nodup_cons] at hn
    rw [List.find?_cons]
    by_cases hx : x.1 = k
    · simp only [hx, decide_true]
      rcases List.mem_cons.1 h with rfl | h
      · rfl
      · exact absurd (hx.trans hk.symm ▸ List.mem_map_of_mem (f := (·.1)) h) hn.1
    · simp only [hx, decide_false]
      rcases List.mem_cons.1 h with rfl | h
      · exact absurd hk hx
      · exact ih hn.2 h
theorem lenOf_mem {k : ByteArray} {F : List Fi} {f : Fi} (hn : (F.map (·.1)).Nodup) (h : f ∈ F) (hk : f.1 = k) : lenOf k F = f.2.1.length := by
  unfold lenOf
  rw [find_mem hn h hk]
theorem lenOf_le {k : ByteArray} {F : List Fi} (hn : (F.map (·.1)).Nodup) : lenOf k F ≤ usd F := by
  by_cases h : k ∈ F.map (·.1)
  · obtain ⟨f, hf, e⟩ := List.mem_map.1 h
    rw [lenOf_mem hn hf e]
    exact le_usd hf
  · rw [lenOf_none h]
    exact Nat.zero_le _
set_option maxHeartbeats 2000000 in
set_option maxRecDepth 100000 in
theorem drop_any (S : Nat → Prop) (w : World) (d m : Nat) (x : Dx) (E : List En) (hD : DkS S w d m x E) (k : ByteArray) (hk : nm k = true) (hu : x.used = (usd (E.map En.f) : Int)) (hm : usd (E.map En.f) ≤ 16777216) :
    Calls Tryz.prog 159 #[.pointer (some ⟨d, 0, none⟩), .string k] w fun e w' => e = .returned (.tuple #[]) ∧ DkS S w' d m { x with used := x.used - (lenOf k (E.map En.f) : Int) } (wo k E) ∧ Kp S w w' := by
  have HD := hide hD
  have c2 : w.cell? ⟨d, 2, none⟩ = some (.map (some m)) := hD.cell 2 _ rfl
  have hlk := look_run hD.tab (nm_size hk)
  have hnm : ((E.map En.f).map (·.1)).Nodup := by rw [List.map_map]; exact hD.names
  rcases luV_cases (E.map fun e => (e.f.1, e.p)) k hD.tab.nodup with ⟨q1, q2⟩ | ⟨p, q1, q2⟩
  · rw [q2] at hlk
    rw [List.map_map] at q1
    have hl0 : lenOf k (E.map En.f) = 0 := lenOf_none (by rw [List.map_map]; exact q1)
    have HQ : Hid (DkS S w d m { x with used := x.used - (lenOf k (E.map En.f) : Int) } (wo k E)) := by
      show DkS S w d m _ _
      rw [hl0, wo_self q1]
      have e : ({ x with used := x.used - ((0 : Nat) : Int) } : Dx) = x := by cases x; simp
      rw [e]
      exact HD.out
    clear q1 q2 hD hk hu hm hl0 hnm
    go_enter Tryz.func159, Tryz.ntmps159
    go_wp2
    go_end0
    exact ⟨rfl, HQ.out, Kp.refl _ _⟩
  · obtain ⟨e, he, hp⟩ := List.mem_map.1 q1
    simp only [Prod.mk.injEq] at hp
    obtain ⟨hek, rfl⟩ := hp
    have hen := hD.ens e he
    have hlen : lenOf k (E.map En.f) = e.f.2.1.length := lenOf_mem hnm (List.mem_map_of_mem he) hek
    have hle := lenOf_le (k := k) hnm
    obtain ⟨a, c, hv, hc⟩ := hen.2.2.1.slice
    have c0 : w.cell? ⟨e.p, 0, none⟩ = some (.slice a e.f.2.1.length c) := by
      have := cellOf hen.2.1 0 e.v rfl
      rw [← hv]
      exact this
    have c4 : w.cell? ⟨d, 4, none⟩ = some (.int .i64 x.used) := hD.cell 4 _ rfl
    have f4 : w.frozen? ⟨d, 4, none⟩ = false := hD.frozen 4
    have hpd := hen.ne_d hD
    have hw1 : IntKind.i64.wrap (x.used - (e.f.2.1.length : Int)) = x.used - (e.f.2.1.length : Int) := by rw [IntKind.wrap_i64]; omega
    rw [q2] at hlk
    rw [hlen]
    have hD2 : DkS S (w.setCell ⟨d, 4, none⟩ (.int .i64 (x.used - (e.f.2.1.length : Int)))) d m { x with used := x.used - (e.f.2.1.length : Int) } E := hD.setx 4 _ _ rfl
    have HD2 : Hid (DkS S (w.setCell ⟨d, 4, none⟩ (.int .i64 (x.used - (e.f.2.1.length : Int)))).drew d m { x with used := x.used - (e.f.2.1.length : Int) } E) := hD2.keep (fun _ _ => rfl)
    have HK2 : Hid (Kp S w (w.setCell ⟨d, 4, none⟩ (.int .i64 (x.used - (e.f.2.1.length : Int)))).drew) := ((Kp.refl S w).setCell hD.sd _).below (drew_below _)
    have HSM : Hid (S m) := hD.sm
    have HKM : Hid (k.size ≤ maxLen) := nm_size hk
    have d2 : (w.setCell ⟨d, 4, none⟩ (.int .i64 (x.used - (e.f.2.1.length : Int)))).drew.cell? ⟨d, 2, none⟩ = some (.map (some m)) := HD2.out.cell 2 _ rfl
    clear q1 q2 hD hk hu hm hnm hD2 hen hv he hlen hle
    generalize e.p = p at *
    generalize e.f.2.1.length = n at *
    unfold pV at *
    go_enter Tryz.func159, Tryz.ntmps159
    go_wp2_with fail
    go_region
    obtain ⟨W2, hW2⟩ : ∃ W2, W2 = (w.setCell ⟨d, 4, none⟩ (.int .i64 (x.used - (n : Int)))).drew := ⟨_, rfl⟩
    rw [← hW2] at HD2 HK2 d2
    try rw [← hW2]
    clear hW2 hlk c0 c2 c4 f4
    go_wp2_with (at_delete; go_loud (refine del_T rfl _ _ rfl m rfl k rfl (tbl E) HD2.out.tab HKM.out ?_; intro w3 r1 r2 r3; have HT3 := hide r1; have HK3 := hide r2; clear r1 r2 r3))
    go_end0
    have h1 := HT3.out
    rw [tbl_wo] at h1
    exact ⟨rfl, HD2.out.del h1 HK3.out, HK2.out.trans (HK3.out.mono fun q e => by rw [e]; exact HSM.out)⟩
end Go.Proofs.YtdcoafpenkofoaaGreatDoor


/- Stage 19: bytes are laid behind a file's end. -/
namespace Go.Proofs.YtdcoafpenkofoaaGreatDoor
open Go.RowKit Go.Maps
set_option linter.unusedVariables false
set_option linter.unusedSimpArgs false
/-- the bytes of the file of that name, and how many of them are safe -/
def dat (k : ByteArray) (F : List Fi) : List Nat × Nat := match F.find? (fun f => decide (f.1 = k)) with | some f => f.2 | none => ([], 0)
theorem dat_none {k : ByteArray} {F : List Fi} (h : k ∉ F.map (·.1)) : dat k F = ([], 0) := by
  unfold dat
  rw [List.find?_eq_none.2 (fun x hx => by simp only [decide_eq_true_eq]; exact fun e => h (e ▸ List.mem_map_of_mem hx))]
theorem dat_mem {k : ByteArray} {F : List Fi} {f : Fi} (hn : (F.map (·.1)).Nodup) (h : f ∈ F) (hk : f.1 = k) : dat k F = f.2 := by
  unfold dat
  rw [find_mem hn h hk]
section
variable {S T : Nat → Prop} {w w' : World} {d m : Nat} {x : Dx} {E : List En} {k : ByteArray} {e : En}
theorem lay_app (hD : DkS S w d m x (e :: E)) (t : List Nat) : ∀ v' w3, Ob 0 w3 v' (e.f.2.1 ++ t) → w.grownBy w3 e.v.ownBlock → Whe w e.v v' →
    FB w3 e.p e.v e.f.2.2 ∧ w3.cell? ⟨d, 4, none⟩ = some (.int .i64 x.used) ∧ w3.frozen? ⟨d, 4, none⟩ = false ∧
    DkS (Sx S w w3) ((w3.setCell ⟨e.p, 0, none⟩ v').setCell ⟨d, 4, none⟩ (.int .i64 (x.used + (t.length : Int)))) d m { x with used := x.used + (t.length : Int) } (⟨(e.f.1, e.f.2.1 ++ t, e.f.2.2), e.p, v'⟩ :: E) ∧
    Kp S w ((w3.setCell ⟨e.p, 0, none⟩ v').setCell ⟨d, 4, none⟩ (.int .i64 (x.used + (t.length : Int)))) := by
  intro v' w3 h1 h2 h3
  have he := hD.ens e List.mem_cons_self
  have hFB : FB w e.p e.v e.f.2.2 := he.2.1
  have hp3 : w3.heap[e.p]? = w.heap[e.p]? := h2.block e.p he.lt (fun e' => he.g_ne e'.symm he.2.1 (by decide) rfl)
  have hd3 : w3.heap[d]? = w.heap[d]? := h2.block d hD.lt (fun e' => he.g_ne e'.symm hD.blk (by decide) rfl)
  have hFB3 : FB w3 e.p e.v e.f.2.2 := hp3.trans hFB
  have hst : ∀ q, S q → Sx S w w3 q := fun q h => .inl h
  have hD4 : DkS (Sx S w w3) (w3.setCell ⟨e.p, 0, none⟩ v') d m x (⟨(e.f.1, e.f.2.1 ++ t, e.f.2.2), e.p, v'⟩ :: E) := by
    refine hD.setf rfl rfl hst ⟨hst _ he.1, hFB3.set0 v', ob_set h1 hFB3 0 _, fun g hg => ?_, he.2.2.2.2⟩ h3 (fun q hq hqp hqg => ?_)
    · rcases h3 g hg with h | h
      · exact hst _ (he.2.2.2.1 g h)
      · exact .inr ⟨h, (h1.lt g hg).2⟩
    · rw [blk_set_other _ _ _ _ hqp]
      exact h2.block q hq (fun e' => hqg e'.symm)
  refine ⟨hFB3, ?_, ?_, hD4.setx 4 _ _ rfl, ?_⟩
  · exact (World.cell?_of_block (a := ⟨d, 4, none⟩) hd3).trans (hD.cell 4 _ rfl)
  · exact frozen_of (hd3.trans hD.blk) 4
  · refine (((Kp.refl S w).grown h2 (fun j hj => .inl (he.2.2.2.1 j hj))).setCell he.1 _).setCell hD.sd _
end
/-- what a lay leaves -/
def Laid (S : Nat → Prop) (w : World) (d m : Nat) (x : Dx) (E : List En) (k : ByteArray) (t : List Nat) (p : Nat) (w' : World) : Prop :=
  ∃ v', DkS (Sx S w w') w' d m { x with used := x.used + (t.length : Int) } (⟨(k, (dat k (E.map En.f)).1 ++ t, (dat k (E.map En.f)).2), p, v'⟩ :: wo k E) ∧ Kp S w w'
theorem Sx.trans {S : Nat → Prop} {w w1 w2 : World} (h1 : w.heap.size ≤ w1.heap.size) (h2 : w1.heap.size ≤ w2.heap.size) {k : Nat} (h : Sx (Sx S w w1) w1 w2 k) : Sx S w w2 k := by
  rcases h with (h | h) | h
  · exact .inl h
  · exact .inr ⟨h.1, by omega⟩
  · exact .inr ⟨by omega, h.2⟩
set_option maxHeartbeats 4000000 in
set_option maxRecDepth 100000 in
theorem lay_any (S : Nat → Prop) (w : World) (d m : Nat) (x : Dx) (E : List En) (hD : DkS S w d m x E) (hS : ∀ k, S k → k < w.heap.size) (k : ByteArray) (hk : nm k = true) (u : Value) (t : List Nat) (hr : Rb w u t) (hu : x.used = (usd (E.map En.f) : Int)) (hm : usd (E.map En.f) + t.length ≤ 16777216) (hn : E.length + 1 ≤ maxLen) :
    Calls Tryz.prog 46 #[.pointer (some ⟨d, 0, none⟩), .string k, u] w fun e w' => ∃ p, e = .returned (pV p) ∧ Laid S w d m x E k t p w' := by
  have hlk := look_run hD.tab (nm_size hk)
  have c2 : w.cell? ⟨d, 2, none⟩ = some (.map (some m)) := hD.cell 2 _ rfl
  have hnm : ((E.map En.f).map (·.1)).Nodup := by rw [List.map_map]; exact hD.names
  have hw1 : IntKind.i64.wrap (x.used + (t.length : Int)) = x.used + (t.length : Int) := by rw [IntKind.wrap_i64]; omega
  obtain ⟨ua, uc, rfl, _⟩ : ∃ a c, u = .slice a t.length c ∧ True := by obtain ⟨a, c, e, _⟩ := hr; exact ⟨a, c, e, trivial⟩
  rcases luV_cases (E.map fun e => (e.f.1, e.p)) k hD.tab.nodup with ⟨q1, q2⟩ | ⟨p, q1, q2⟩
  · rw [q2] at hlk
    rw [List.map_map] at q1
    have q3 : k ∉ (E.map En.f).map (·.1) := by rw [List.map_map]; exact q1
    have hdat := dat_none q3
    obtain ⟨W1, hW1⟩ : ∃ W1, W1 = w.alloc (.cells #[.slice none 0 0, .int .i64 0] 106) := ⟨_, rfl⟩
    have hz1 : W1.heap.size = w.heap.size + 1 := by rw [hW1]; simp
    have hb1 : Below w.heap.size w W1 := by rw [hW1]; exact bel1 (Below.refl _ _) (Nat.le_refl _) _
    have hB1 : W1.heap[w.heap.size]? = some (.cells (flA (.slice none 0 0) 0) 106 (0, 0)) := by rw [hW1]; exact heap_new _ _
    have hD1 : DkS (Sx S w W1) W1 d m x E := (hD.keep (fun q hq => hb1.block q (hS q hq))).mono (fun q hq => .inl hq)
    have hE1 : EnS (Sx S w W1) W1 ⟨(k, [], 0), w.heap.size, .slice none 0 0⟩ := ⟨.inr ⟨Nat.le_refl _, by show w.heap.size < W1.heap.size; omega⟩, hB1, Ob.nil _ _, (fun g hg => by cases hg), hk⟩
    have HPU := hide (put_any (Sx S w W1) W1 d m x E hD1 k hk w.heap.size hn)
    have HQ : Hid (∀ w2, Tb w2 m ((k, w.heap.size) :: tbl (wo k E)) → Kp (fun q => q = m) W1 w2 → DkS (Sx S w W1) w2 d m x (⟨(k, [], 0), w.heap.size, .slice none 0 0⟩ :: E) ∧ Rb w2 (.slice ua t.length uc) t ∧ Kp S w w2) := fun w2 g1 g2 => by
      rw [wo_self q1] at g1
      refine ⟨hD1.add ⟨(k, [], 0), w.heap.size, .slice none 0 0⟩ g1 g2 hE1 (fun hc => ?_) (fun q hq g hg => by cases hg), ?_, ?_⟩
      · obtain ⟨e, he, he2⟩ := List.mem_map.1 hc
        have h9 := hS _ (hD.ens e he).1
        have h8 : e.p = w.heap.size := he2
        omega
      · refine (hr.below hb1).kp g2 (fun b off c hb => ?_)
        subst hb
        rw [hD1.tab.cell_none]
        simp
      · exact (Kp.ofBelow hb1).transN g2 (fun q e => by subst e; exact .inl hD.sm)
    have HW1 := hide hW1
    have HZ1 := hide hz1
    have HWO : Hid (wo k E = E) := wo_self q1
    have HDT := hide hdat
    clear q1 q2 q3 hD hk hu hnm hD1 hE1 hB1 hb1 hW1 hz1 hr hn hdat
    go_enter Tryz.func46, Tryz.ntmps46
    go_wp2_with fail
    rw [← HW1.out]
    refine HPU.out.mono ?_
    rintro e w2 ⟨rfl, g1, g2⟩
    have hz2 : W1.heap.size ≤ w2.heap.size := g2.size
    obtain ⟨hD2, hr2, hk2⟩ := HQ.out w2 g1 g2
    have hE0 := hD2.ens _ List.mem_cons_self
    have HO : Hid (Ob 0 w2 (.slice none 0 0) []) := hE0.2.2.1
    have hpd : w.heap.size ≠ d := hE0.ne_d hD2
    have HLA : Hid (∀ v' w3, Ob 0 w3 v' ([] ++ t) → w2.grownBy w3 (Value.slice none 0 0).ownBlock → Whe w2 (.slice none 0 0) v' → FB w3 w.heap.size (.slice none 0 0) 0 ∧ w3.cell? ⟨d, 4, none⟩ = some (.int .i64 x.used) ∧ w3.frozen? ⟨d, 4, none⟩ = false ∧
      DkS (Sx (Sx S w W1) w2 w3) ((w3.setCell ⟨w.heap.size, 0, none⟩ v').setCell ⟨d, 4, none⟩ (.int .i64 (x.used + (t.length : Int)))) d m { x with used := x.used + (t.length : Int) } (⟨(k, [] ++ t, 0), w.heap.size, v'⟩ :: E) ∧
      Kp (Sx S w W1) w2 ((w3.setCell ⟨w.heap.size, 0, none⟩ v').setCell ⟨d, 4, none⟩ (.int .i64 (x.used + (t.length : Int))))) := lay_app hD2 t
    have c0 : w2.cell? ⟨w.heap.size, 0, none⟩ = some (.slice none 0 0) := cellOf hE0.2.1 0 _ rfl
    have HRB := hide hr2
    have HK2 := hide hk2
    have HZ2 := hide hz2
    have HL2 : Hid (([] : List Nat).length + t.length ≤ 140737488355328) := by show ([] : List Nat).length + t.length ≤ 140737488355328; simp; omega
    obtain ⟨pp, hpp⟩ : ∃ pp, pp = w.heap.size := ⟨_, rfl⟩
    rw [← hpp] at c0 hpd HLA ⊢
    have HPP := hide hpp
    clear hD2 hr2 hk2 hE0 g1 g2 HQ HPU hz2 hpp
    go_wp2_with (at_builtin; go_loud (refine wpList_app _ rfl (.tmp 26) (.tmp 27) rfl 0 _ [] rfl HO.out _ t rfl HRB.out HL2.out (Nat.zero_le _) ?_; intro v' w3 r1 r2 r3; obtain ⟨a', c', rfl, hc'⟩ := r1.slice; obtain ⟨s1, s2, s3, s4, s5⟩ := HLA.out _ w3 r1 r2 r3; have d0 := s1.c0; have g0 := s1.frozen 0; simp only [List.nil_append, List.length_append] at s4 s5; have HS4 := hide s4; have HS5 := hide s5; have HZ3 := hide r2.size; clear s1 s4 s5 r1 r2 r3))
    go_ret
    refine ⟨_, rfl, .slice a' t.length c', DkS.mono (S := Sx (Sx S w W1) w2 w3) ?_ (fun q hq => ?_), ?_⟩
    · rw [HDT.out, HWO.out]
      exact HS4.out
    · have h1 := HZ1.out; have h2 := HZ2.out; have h3 := HZ3.out
      rcases hq with (h | h) | h
      · exact .inl h
      · exact .inr ⟨h.1, by simp; omega⟩
      · exact .inr ⟨by omega, by simpa using h.2⟩
    · refine HK2.out.transN HS5.out (fun q hq => ?_)
      rcases hq with h | h
      · exact .inl h
      · exact .inr h.1
  · obtain ⟨e, he, hp⟩ := List.mem_map.1 q1
    simp only [Prod.mk.injEq] at hp
    obtain ⟨hek, rfl⟩ := hp
    have hdat := dat_mem hnm (List.mem_map_of_mem he) hek
    obtain ⟨l1, l2, hEl⟩ := List.append_of_mem he
    have hpm : E.Perm (e :: (l1 ++ l2)) := by rw [hEl]; exact List.perm_middle
    have hD1 := hD.perm hpm
    have hwo : (wo k E).Perm (l1 ++ l2) := by
      have := wo_perm (k := k) hpm
      rw [wo_cons hek hD1.names] at this
      exact this
    have hE0 := hD1.ens e List.mem_cons_self
    have HO := hide hE0.2.2.1
    have hpd := hE0.ne_d hD1
    have HLA := hide (lay_app hD1 t)
    have HDT := hide hdat
    have HWO := hide hwo
    have HEK := hide hek
    have HRB := hide hr
    have hl2 : e.f.2.1.length + t.length ≤ 140737488355328 := by
      have := le_usd (List.mem_map_of_mem (f := En.f) he)
      omega
    have HL2 := hide hl2
    have c0 : w.cell? ⟨e.p, 0, none⟩ = some e.v := cellOf hE0.2.1 0 _ rfl
    rw [q2] at hlk
    clear q1 q2 hD hk hu hnm hD1 hr hn hdat hpm hwo hE0 hek he hEl hl2 hS
    obtain ⟨pp, hpp⟩ : ∃ pp, pp = e.p := ⟨_, rfl⟩
    obtain ⟨va, vc, hv, _⟩ := HO.out.slice
    rw [← hpp] at hlk c0 hpd HLA
    rw [hv] at c0 HO HLA
    have HPP := hide hpp
    have HV := hide hv
    clear hpp hv
    unfold pV at *
    go_enter Tryz.func46, Tryz.ntmps46
    go_wp2_with (at_builtin; go_loud (refine wpList_app _ rfl (.tmp 26) (.tmp 27) rfl 0 _ e.f.2.1 rfl HO.out _ t rfl HRB.out HL2.out (Nat.zero_le _) ?_; intro v' w3 r1 r2 r3; obtain ⟨a', c', rfl, hc'⟩ := r1.slice; obtain ⟨s1, s2, s3, s4, s5⟩ := HLA.out _ w3 r1 r2 r3; have d0 := s1.c0; have g0 := s1.frozen 0; simp only [List.nil_append, List.length_append] at s4 s5; have HS4 := hide s4; have HS5 := hide s5; have HZ3 := hide r2.size; clear s1 s4 s5 r1 r2 r3))
    go_ret
    refine ⟨_, rfl, .slice a' (e.f.2.1.length + t.length) c', DkS.mono (S := Sx S w w3) ?_ (fun q hq => ?_), HS5.out⟩
    · rw [HDT.out, ← HEK.out]
      have h := HS4.out.perm (HWO.out.symm.cons _)
      rw [← HEK.out] at h
      exact h
    · rcases hq with h | h
      · exact .inl h
      · exact .inr ⟨h.1, by simpa using h.2⟩
end Go.Proofs.YtdcoafpenkofoaaGreatDoor
