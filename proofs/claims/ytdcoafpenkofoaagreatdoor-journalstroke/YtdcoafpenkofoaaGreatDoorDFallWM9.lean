import Derived.Test.YtdcoafpenkofoaaGreatDoorDFlM9

/- Stage 19: a disk falls. -/
namespace Go.Proofs.YtdcoafpenkofoaaGreatDoor
open Go.RowKit Go.Maps
set_option linter.unusedVariables false
set_option linter.unusedSimpArgs false
/-- a file that has fallen -/
def fl (keep : Int) (f : Fi) : Fi := (f.1, f.2.1.take (stay f.2.1.length f.2.2 keep), stay f.2.1.length f.2.2 keep)
theorem stay_le {n s : Nat} (h : s ≤ n) (keep : Int) : stay n s keep ≤ n := by unfold stay; omega
def gp (e : En) : Fi × Nat := (e.f, e.p)
def updB (keep : Int) (lft : Lit → Bool) (b : Fi × Nat) : Fi × Nat := (if lft (.string b.1.1.data.toList) = true then b.1 else fl keep b.1, b.2)
def usB (keep : Int) (lft : Lit → Bool) (B : List (Fi × Nat)) : Nat := (B.map fun b => if lft (.string b.1.1.data.toList) = true then 0 else (fl keep b.1).2.1.length).sum
/-- the blocks of S, and those that were laid since -/
def Sx (S : Nat → Prop) (w w' : World) (k : Nat) : Prop := S k ∨ (w.heap.size ≤ k ∧ k < w'.heap.size)
theorem usB_perm {keep : Int} {lft : Lit → Bool} {B C : List (Fi × Nat)} (h : B.Perm C) : usB keep lft B = usB keep lft C := (h.map _).sum_nat
theorem updB_all {keep : Int} {lft : Lit → Bool} {B : List (Fi × Nat)} (h : ∀ b ∈ B, lft (.string b.1.1.data.toList) = true) : B.map (updB keep lft) = B := by
  conv => rhs; rw [← List.map_id B]
  refine List.map_congr_left fun b hb => ?_
  simp [updB, h b hb]
theorem usB_all {keep : Int} {lft : Lit → Bool} {B : List (Fi × Nat)} (h : ∀ b ∈ B, lft (.string b.1.1.data.toList) = true) : usB keep lft B = 0 := by
  unfold usB
  rw [List.map_congr_left (g := fun _ => 0) (fun b hb => by simp [h b hb])]
  clear h
  induction B with
  | nil => rfl
  | cons b B ih => simpa using ih
theorem updB_none {keep : Int} {lft : Lit → Bool} {B : List (Fi × Nat)} (h : ∀ k : ByteArray, lft (.string k.data.toList) = false) : B.map (updB keep lft) = B.map fun b => (fl keep b.1, b.2) := by
  refine List.map_congr_left fun b hb => ?_
  simp [updB, h b.1.1]
theorem usB_none {keep : Int} {lft : Lit → Bool} {B : List (Fi × Nat)} (h : ∀ k : ByteArray, lft (.string k.data.toList) = false) : usB keep lft B = usd (B.map fun b => fl keep b.1) := by
  unfold usB usd
  rw [List.map_map]
  congr 1
  refine List.map_congr_left fun b hb => ?_
  simp [h b.1.1]
theorem usB_le (keep : Int) (lft : Lit → Bool) : ∀ (B : List (Fi × Nat)), usB keep lft B ≤ usd (B.map (·.1))
  | [] => by simp [usB, usd]
  | b :: B => by
    have := usB_le keep lft B
    have h1 : usB keep lft (b :: B) = (if lft (.string b.1.1.data.toList) = true then 0 else (fl keep b.1).2.1.length) + usB keep lft B := by simp [usB]
    have h2 : usd ((b :: B).map (·.1)) = b.1.2.1.length + usd (B.map (·.1)) := usd_cons _ _
    have h3 : (fl keep b.1).2.1.length ≤ b.1.2.1.length := by simp [fl]; omega
    rw [h1, h2]
    split <;> omega
/-- one file more has fallen -/
theorem step_B {keep : Int} {lft : Lit → Bool} {b : Fi × Nat} {B : List (Fi × Nat)} (hn : ((b :: B).map (·.1.1)).Nodup) (hl : lft (.string b.1.1.data.toList) = true) :
    (b :: B).map (updB keep lft) = b :: B.map (updB keep lft) ∧
    (b :: B).map (updB keep fun z => lft z && !z.sameKey (.string b.1.1.data.toList)) = (fl keep b.1, b.2) :: B.map (updB keep lft) ∧
    usB keep (fun z => lft z && !z.sameKey (.string b.1.1.data.toList)) (b :: B) = usB keep lft (b :: B) + (fl keep b.1).2.1.length := by
  have hx : ∀ c ∈ B, (!(Lit.string c.1.1.data.toList).sameKey (.string b.1.1.data.toList)) = true := fun c hc => by
    rw [lit_same]
    have : c.1.1 ≠ b.1.1 := fun e => (List.nodup_cons.1 (by simpa using hn : (b.1.1 :: B.map (·.1.1)).Nodup)).1 (e ▸ List.mem_map_of_mem hc)
    simp [this]
  refine ⟨?_, ?_, ?_⟩
  · simp [updB, hl]
  · rw [List.map_cons]
    congr 1
    · simp [updB, lit_same]
    · refine List.map_congr_left fun c hc => ?_
      simp only [updB, hx c hc, Bool.and_true]
  · unfold usB
    rw [List.map_cons, List.map_cons, List.sum_cons, List.sum_cons, List.map_congr_left (l := B) (g := fun b => if lft (.string b.1.1.data.toList) = true then 0 else (fl keep b.1).2.1.length) (fun c hc => by simp only [hx c hc, Bool.and_true])]
    simp [lit_same, hl]
    omega
theorem Kp.gr {p : Nat} {w w' : World} (h : Kp (fun k => k = p) w w') : w.grownBy w' (some p) := ⟨h.1, h.2.1, h.2.2.1, h.2.2.2.1, fun k hk he => h.2.2.2.2 k hk (fun e => he (by rw [e]))⟩
theorem DkS.lts {S : Nat → Prop} {w : World} {d m : Nat} {x : Dx} {E : List En} (h : DkS S w d m x E) : DkS (fun k => S k ∧ k < w.heap.size) w d m x E :=
  ⟨⟨h.sd, h.lt⟩, ⟨h.sm, h.tab.lt⟩, h.blk, h.tab, fun e he => ⟨⟨(h.ens e he).1, (h.ens e he).lt⟩, (h.ens e he).2.1, (h.ens e he).2.2.1, fun g hg => ⟨(h.ens e he).2.2.2.1 g hg, ((h.ens e he).2.2.1.lt g hg).2⟩, (h.ens e he).2.2.2.2⟩, h.ps, h.apt⟩
/-- a disk that is falling: w0: as the range began -/
def Flg (S : Nat → Prop) (d m : Nat) (x : Dx) (keep : Int) (B : List (Fi × Nat)) (w0 : World) (lft : Lit → Bool) (wr : World) : Prop :=
  ∃ E, DkS (Sx S w0 wr) wr d m { x with used := (usB keep lft B : Int) } E ∧ (E.map gp).Perm (B.map (updB keep lft))
theorem Flg.first {S : Nat → Prop} {d m : Nat} {x : Dx} {keep : Int} {b : Fi × Nat} {B : List (Fi × Nat)} {w0 : World} {lft : Lit → Bool} {wr : World} (h : Flg S d m x keep (b :: B) w0 lft wr) (hn : ((b :: B).map (·.1.1)).Nodup) (hl : lft (.string b.1.1.data.toList) = true) :
    ∃ e E, gp e = b ∧ E.map gp = B.map (updB keep lft) ∧ DkS (Sx S w0 wr) wr d m { x with used := (usB keep lft (b :: B) : Int) } (e :: E) := by
  obtain ⟨E, h1, h2⟩ := h
  rw [(step_B hn hl).1] at h2
  obtain ⟨E', h3, h4⟩ := perm_lift _ _ h2
  cases E' with
  | nil => simp at h4
  | cons e E' =>
    simp only [List.map_cons, List.cons.injEq] at h4
    exact ⟨e, E', h4.1, h4.2, h1.perm h3⟩
section
variable {S : Nat → Prop} {d m : Nat} {x : Dx} {keep : Int} {b : Fi × Nat} {B B' : List (Fi × Nat)} {w0 wr wn : World} {lft : Lit → Bool}
theorem Flg.perm (h : Flg S d m x keep B w0 lft wr) (hp : B.Perm B') : Flg S d m x keep B' w0 lft wr := by
  obtain ⟨E, h1, h2⟩ := h
  exact ⟨E, by rw [← usB_perm hp]; exact h1, h2.trans (hp.map _)⟩
theorem Flg.kept (h : Flg S d m x keep B w0 lft wr) {r : Nat} (hg : wr.grownBy wn (some r)) (hs : wn.heap.size = wr.heap.size) (hr : r < w0.heap.size) (hS : ∀ k, S k → k < r) (h0 : w0.heap.size ≤ wr.heap.size) : Flg S d m x keep B w0 lft wn := by
  obtain ⟨E, h1, h2⟩ := h
  have e : Sx S w0 wn = Sx S w0 wr := by funext k; simp [Sx, hs]
  refine ⟨E, ?_, h2⟩
  rw [e]
  refine h1.keep fun k hk => ?_
  rcases hk with hk | ⟨hk, hk2⟩
  · exact hg.block k (by have := hS k hk; omega) (fun e => by have := hS k hk; cases e; omega)
  · exact hg.block k hk2 (fun e => by cases e; omega)
/-- one file falls -/
theorem Flg.next (h : Flg S d m x keep (b :: B) w0 lft wn) (hn : ((b :: B).map (·.1.1)).Nodup) (hl : lft (.string b.1.1.data.toList) = true) (h0 : w0.heap.size ≤ wn.heap.size) :
    ∃ v, FB wn b.2 v b.1.2.2 ∧ Ob 0 wn v b.1.2.1 ∧ b.2 ≠ d ∧ wn.cell? ⟨d, 4, none⟩ = some (.int .i64 (usB keep lft (b :: B) : Int)) ∧ wn.frozen? ⟨d, 4, none⟩ = false ∧ d < wn.heap.size ∧ m < wn.heap.size ∧ b.2 ≠ m ∧ d ≠ m ∧ Sx S w0 wn b.2 ∧
      ∀ w5 v' (n : Nat), n = (fl keep b.1).2.1.length → FB w5 b.2 v' (fl keep b.1).2.2 → Ob 0 w5 v' (fl keep b.1).2.1 → Whe wn v v' → Kp (fun k => k = b.2) wn w5 →
        w5.cell? ⟨d, 4, none⟩ = some (.int .i64 (usB keep lft (b :: B) : Int)) ∧ w5.frozen? ⟨d, 4, none⟩ = false ∧
        Flg S d m x keep (b :: B) w0 (fun z => lft z && !z.sameKey (.string b.1.1.data.toList)) (w5.setCell ⟨d, 4, none⟩ (.int .i64 ((usB keep lft (b :: B) : Int) + (n : Int)))) := by
  obtain ⟨e, E, rfl, hE, hD⟩ := h.first hn hl
  have he := hD.ens e List.mem_cons_self
  refine ⟨e.v, he.2.1, he.2.2.1, he.ne_d hD, hD.cell 4 _ rfl, hD.frozen 4, hD.lt, hD.tab.lt, he.ne_m hD, hD.md.symm, he.1, fun w5 v' n hn5 hb ho hw hk => ?_⟩
  have hsz : wn.heap.size ≤ w5.heap.size := hk.size
  have hST : ∀ k, Sx S w0 wn k → Sx S w0 w5 k := fun k h => h.imp id (fun h => ⟨h.1, by omega⟩)
  have hD5 : DkS (Sx S w0 w5) w5 d m { x with used := (usB keep lft (gp e :: B) : Int) } (⟨fl keep e.f, e.p, v'⟩ :: E) := by
    refine hD.setf rfl rfl hST ⟨hST _ he.1, hb, ho, fun g hg => ?_, he.2.2.2.2⟩ hw (fun k hkl hkp _ => hk.block hkl hkp)
    rcases hw g hg with h1 | h1
    · exact hST _ (he.2.2.2.1 g h1)
    · exact .inr ⟨by omega, (ho.lt g hg).2⟩
  have hst := step_B (keep := keep) (lft := lft) hn hl
  refine ⟨hD5.cell 4 _ rfl, hD5.frozen 4, ⟨fl keep e.f, e.p, v'⟩ :: E, ?_, ?_⟩
  · have e6 : Sx S w0 (w5.setCell ⟨d, 4, none⟩ (.int .i64 ((usB keep lft (gp e :: B) : Int) + (n : Int)))) = Sx S w0 w5 := by funext k; simp [Sx]
    rw [e6, hst.2.2]
    refine hD5.setx 4 _ _ ?_
    rw [hn5]
    rfl
  · rw [hst.2.1, List.map_cons, hE]
    exact .refl _
end
end Go.Proofs.YtdcoafpenkofoaaGreatDoor


/- Stage 19: a disk falls: the walk. -/
namespace Go.Proofs.YtdcoafpenkofoaaGreatDoor
open Go.RowKit Go.Maps
set_option linter.unusedVariables false
set_option linter.unusedSimpArgs false
theorem le_usd {f : Fi} : ∀ {F : List Fi}, f ∈ F → f.2.1.length ≤ usd F
  | g :: F, h => by
    rw [usd_cons]
    rcases List.mem_cons.1 h with rfl | h
    · omega
    · have := le_usd h
      omega
set_option maxHeartbeats 4000000 in
theorem dfall_any (S : Nat → Prop) (w : World) (d m : Nat) (x : Dx) (E0 : List En) (keep : Int) (hD : DkS S w d m x E0) (hS : ∀ k, S k → k < w.heap.size) (hk : -9223372036854775808 ≤ keep ∧ keep < 9223372036854775808)
    (hF : ∀ e ∈ E0, e.f.2.2 ≤ e.f.2.1.length) (hu : usd (E0.map En.f) ≤ 16777216) :
    Calls Tryz.prog 74 #[.pointer (some ⟨d, 0, none⟩), .int .i64 keep] w fun e w' => e = .returned (.tuple #[]) ∧
      Dsk (Sx S w w') w' d { x with down := true, left := -1, used := (usd ((E0.map En.f).map (fl keep)) : Int) } ((E0.map En.f).map (fl keep)) ∧ Kp S w w' := by
  have HD := hide hD
  have c2 : w.cell? ⟨d, 2, none⟩ = some (.map (some m)) := hD.cell 2 _ rfl
  have c4 : w.cell? ⟨d, 4, none⟩ = some (.int .i64 x.used) := hD.cell 4 _ rfl
  have c5 : w.cell? ⟨d, 5, none⟩ = some (.bool x.down) := hD.cell 5 _ rfl
  have c6 : w.cell? ⟨d, 6, none⟩ = some (.int .i64 x.left) := hD.cell 6 _ rfl
  have f4 : w.frozen? ⟨d, 4, none⟩ = false := hD.frozen 4
  have f5 : w.frozen? ⟨d, 5, none⟩ = false := hD.frozen 5
  have f6 : w.frozen? ⟨d, 6, none⟩ = false := hD.frozen 6
  have HS := hide hS
  have HF := hide hF
  have HU := hide hu
  have HD3 : Hid (DkS S (((w.setCell ⟨d, 5, none⟩ (.bool true)).setCell ⟨d, 6, none⟩ (.int .i64 (-1))).setCell ⟨d, 4, none⟩ (.int .i64 0)) d m { x with down := true, left := -1, used := 0 } E0) :=
    ((hD.setx 5 (.bool true) { x with down := true } rfl).setx 6 (.int .i64 (-1)) { x with down := true, left := -1 } rfl).setx 4 (.int .i64 0) { x with down := true, left := -1, used := 0 } rfl
  have HK3 : Hid (Kp S w (((w.setCell ⟨d, 5, none⟩ (.bool true)).setCell ⟨d, 6, none⟩ (.int .i64 (-1))).setCell ⟨d, 4, none⟩ (.int .i64 0))) := (((Kp.refl S w).setCell hD.sd _).setCell hD.sd _).setCell hD.sd _
  clear hD hS hF hu
  go_enter Tryz.func74, Tryz.ntmps74
  go_wp2_with (at_range; refine range_T rfl _ rfl m rfl (E0.map fun e => (e.f.1, e.p)) HD3.out.tab ?_; intro w2 D hRp hrg hg2 hs2)
  have es : (((w.setCell ⟨d, 5, none⟩ (.bool true)).setCell ⟨d, 6, none⟩ (.int .i64 (-1))).setCell ⟨d, 4, none⟩ (.int .i64 0)).heap.size = w.heap.size := by simp
  rw [es] at hrg hs2
  rw [es]
  obtain ⟨L, hL⟩ : ∃ L, L = E0.map fun e => (e.f.1, e.p) := ⟨_, rfl⟩
  rw [← hL] at hRp hrg
  obtain ⟨B, hB⟩ : ∃ B, B = E0.map gp := ⟨_, rfl⟩
  have hBn : (B.map (·.1.1)).Nodup := by rw [hB, List.map_map]; exact HD.out.names
  have hBu : usd (B.map (·.1)) ≤ 16777216 := by
    rw [hB, List.map_map]
    exact HU.out
  have hBs : ∀ b ∈ B, b.1.2.2 ≤ b.1.2.1.length ∧ b.1.2.1.length ≤ 16777216 := fun b hb => by
    rw [hB] at hb
    obtain ⟨e, he, rfl⟩ := List.mem_map.1 hb
    refine ⟨HF.out e he, Nat.le_trans ?_ HU.out⟩
    exact le_usd (List.mem_map_of_mem he)
  have HBn := hide hBn
  have HBu := hide hBu
  have HBs := hide hBs
  have HL : Hid (L = B.map fun b => (b.1.1, b.2)) := by show _ = _; rw [hL, hB, List.map_map]; rfl
  have HFin : Hid ((B.map fun b => fl keep b.1) = (E0.map En.f).map (fl keep)) := by show _ = _; rw [hB, List.map_map, List.map_map]; rfl
  have HRp := hide hRp
  have HRg := hide hrg
  have HK2 : Hid (Kp S w w2) := HK3.out.grown hg2 (fun j hj => by cases hj)
  have HG2 : Hid (Flg S d m { x with down := true, left := -1 } keep B w2 (Maps.has D) w2) := by
    have hall : ∀ b ∈ B, Maps.has D (.string b.1.1.data.toList) = true := fun b hb => by
      rw [hRp.has, any_iff, HL.out, List.map_map]
      exact List.mem_map.2 ⟨b, hb, rfl⟩
    refine ⟨E0, ?_, by rw [updB_all hall, hB]⟩
    rw [usB_all hall]
    refine (HD3.out.keep (w' := w2) (fun k hk => hg2.block k (by rw [es]; exact HS.out k hk) (by simp))).mono fun k hk => .inl hk
  have hw2s : w2.heap.size = w.heap.size + 1 := hs2
  clear hL hB hBn hBu hBs hRp hrg hg2 hs2
  go_frame
  go_loopw [] (fun wr => ∃ left cnt, wr.ranges Tryz.prog 9 rH m w.heap.size L.length D left cnt ∧ Hid (Flg S d m { x with down := true, left := -1 } keep B w2 left wr) ∧ Kp S w wr ∧ w2.heap.size ≤ wr.heap.size) (fun wr => wr.rangeLeft m w.heap.size)
  case atStart => exact ⟨_, _, HRg.out, HG2, HK2.out, Nat.le_refl _⟩
  case round =>
    obtain ⟨left, cnt, hrg, HG, hkr, hle⟩ := hrel
    have HRr := hide hrg
    have HKr := hide hkr
    clear hrg hkr
    go_wp2_with (at_next; go_loud (refine next_T rfl _ rfl m w.heap.size _ D _ left cnt rfl HRp.out HRr.out ?_ ?_))
    · intro hl0
      have HQ : Hid (Dsk (Sx S w wr) wr d { x with down := true, left := -1, used := (usd ((E0.map En.f).map (fl keep)) : Int) } ((E0.map En.f).map (fl keep))) := by
        obtain ⟨E, h1, h2⟩ := HG.out
        rw [usB_none hl0, HFin.out] at h1
        rw [updB_none hl0] at h2
        refine Dsk.perm (F := E.map En.f) ⟨m, E, rfl, h1.mono (fun k hk => hk.imp id (fun h => ⟨by omega, h.2⟩))⟩ ?_
        have h3 := h2.map (·.1)
        rw [List.map_map, List.map_map] at h3
        rw [← HFin.out]
        exact h3
      go_wp2
      go_end0
      exact ⟨rfl, HQ.out, HKr.out⟩
    · intro y p wn cntn hm hlx hrgn hltn hgn hsn hen
      rw [HL.out] at hm
      obtain ⟨b, hb, e⟩ := List.mem_map.1 hm
      simp only [Prod.mk.injEq] at e
      obtain ⟨rfl, rfl⟩ := e
      obtain ⟨l1, l2, hBl⟩ := List.append_of_mem hb
      have hp : B.Perm (b :: (l1 ++ l2)) := by rw [hBl]; exact List.perm_middle
      have HGn : Hid (Flg S d m { x with down := true, left := -1 } keep (b :: (l1 ++ l2)) w2 left wn) := (HG.out.kept hgn hsn (by omega) HS.out hle).perm hp
      have hnd : ((b :: (l1 ++ l2)).map (·.1.1)).Nodup := (hp.map _).nodup_iff.1 HBn.out
      obtain ⟨v, hFB, hOb, hpd, hc4, hf4, hdl, hml, hpm, hdm, hSp, hnext⟩ := HGn.out.next hnd hlx (by omega)
      obtain ⟨hs1, hs2⟩ := HBs.out b hb
      have hub : usB keep left (b :: (l1 ++ l2)) ≤ 16777216 := by
        rw [← usB_perm hp]
        exact Nat.le_trans (usB_le keep left B) HBu.out
      have hub5 : (fl keep b.1).2.1.length ≤ 16777216 := by simp [fl]; omega
      have hbp : Hid (S b.2 ∨ w2.heap.size ≤ b.2) := hSp.imp id (·.1)
      have HKn : Hid (Kp S w wn) := HKr.out.grown hgn (fun j hj => by cases hj; exact .inr (Nat.le_refl _))
      have HFF := hide (ffall_any b.2 v b.1.2.1 b.1.2.2 keep wn hk hFB hOb hs1 hs2)
      have HRn := hide hrgn
      have HNx := hide hnext
      have HPr := hide hp
      obtain ⟨n, hn⟩ : ∃ n, n = (fl keep b.1).2.1.length := ⟨_, rfl⟩
      rw [← hn] at hub5
      have hst : stay b.1.2.1.length b.1.2.2 keep = n := by rw [hn]; simp [fl]; have := stay_le hs1 keep; omega
      have HN := hide hn
      have HST := hide hst
      obtain ⟨U, hU⟩ : ∃ U, U = usB keep left (b :: (l1 ++ l2)) := ⟨_, rfl⟩
      rw [← hU] at hub
      have HU := hide hU
      have hbn : ∀ W : World, Hid (w.heap.size ≤ b.2 → w2.heap.size ≤ b.2) := fun _ h => by rcases hbp.out with h1 | h1; (have := HS.out _ h1; omega); exact h1
      clear hm hgn hrgn hnext hFB hOb hc4 hf4 hlx hp hnd hSp hBl hb hn hst hU hbn
      go_wp2_with fail
      refine HFF.out.mono ?_
      rintro e5 w5 ⟨rfl, v', hFB5, hOb5, hWhe, hK5⟩
      rw [HST.out] at hFB5 hOb5
      have hlen : (b.1.2.1.take n).length = n := by rw [List.length_take]; have := HST.out; have := stay_le hs1 keep; omega
      obtain ⟨a', c', rfl, hc'⟩ := hOb5.slice
      rw [hlen] at hOb5 hFB5 hWhe hc'
      obtain ⟨hc45, hf45, hG5⟩ := HNx.out w5 _ n HN.out (by rw [← HST.out] at hFB5 ⊢; exact hFB5) (by rw [← HST.out] at hOb5 ⊢; exact hOb5) hWhe hK5
      rw [← HU.out] at hc45 hG5
      have c50 := hFB5.c0
      have HG5 := hide hG5
      have hps : Hid (w5.heap.size ≥ wn.heap.size) := hK5.size
      have HK5 : Hid (Kp S w w5) := HKn.out.transN hK5 (fun k e => by subst e; exact hbp.out.imp id (fun h => by omega))
      have HR5 : Hid (w5.ranges Tryz.prog 9 rH m w.heap.size L.length D (fun z => left z && !z.sameKey (.string b.1.1.data.toList)) cntn) := HRn.out.kept hK5.gr (fun e => hpm (by simpa using e.symm)) (fun e => by
        have e1 : w.heap.size = b.2 := by simpa using e
        rcases hbp.out with h | h
        · have := HS.out _ h; omega
        · omega)
      have k6 : Kp (fun k => k = d) w5 (w5.setCell ⟨d, 4, none⟩ (.int .i64 ((U : Int) + (n : Int)))).drew := (kp_self (Kp.refl _ w5) 4 _).below (drew_below _)
      have HR6 : Hid ((w5.setCell ⟨d, 4, none⟩ (.int .i64 ((U : Int) + (n : Int)))).drew.ranges Tryz.prog 9 rH m w.heap.size L.length D (fun z => left z && !z.sameKey (.string b.1.1.data.toList)) cntn) := HR5.out.kept k6.gr (fun e => hdm (by simpa using e.symm)) (fun e => by exact absurd (HS.out _ HD.out.sd) (by have e1 : w.heap.size = d := (by simpa using e); omega))
      have HG6 : Hid (Flg S d m { x with down := true, left := -1 } keep B w2 (fun z => left z && !z.sameKey (.string b.1.1.data.toList)) (w5.setCell ⟨d, 4, none⟩ (.int .i64 ((U : Int) + (n : Int)))).drew) := by
        obtain ⟨E, h1, h2⟩ := HG5.out.perm HPr.out.symm
        exact ⟨E, h1.keep (fun k _ => rfl), h2⟩
      have HK6 : Hid (Kp S w (w5.setCell ⟨d, 4, none⟩ (.int .i64 ((U : Int) + (n : Int)))).drew) := (HK5.out.setCell HD.out.sd _).below (drew_below _)
      have HZ6 : Hid (w2.heap.size ≤ (w5.setCell ⟨d, 4, none⟩ (.int .i64 ((U : Int) + (n : Int)))).drew.heap.size) := by
        have := hps.out
        have := k6.size
        show w2.heap.size ≤ _
        omega
      clear hG5 hFB5 hOb5 hWhe hK5 hlen k6
      go_wp2_with fail
      unfold pV
      go_region
      go_roundw
      case rel => exact ⟨_, _, _, _, _, _, _, _, _, _, _, _, _, _, _, _, _, _, _, _, ⟨_, _, HR6.out, HG6, HK6.out, HZ6.out⟩, rfl⟩
      case measure => rw [HR6.out.left_eq, HRr.out.left_eq]; exact hltn
end Go.Proofs.YtdcoafpenkofoaaGreatDoor
