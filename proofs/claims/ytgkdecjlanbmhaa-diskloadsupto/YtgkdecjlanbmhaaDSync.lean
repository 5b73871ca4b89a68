
/- Stage 19: Sync, Delete, Read. -/
import Derived.Test.YtgkdecjlanbmhaaDSml
namespace Go.Proofs.Ytgkdecjlanbmhaa
open Go.RowKit Go.Maps Go.MuLone
set_option linter.unusedVariables false
set_option linter.unusedSimpArgs false
/-- the file of that name stands first -/
theorem DkS.got {S : Nat → Prop} {w : World} {d m : Nat} {x : Dx} {E : List En} (h : DkS S w d m x E) {k : ByteArray} (hk : k ∈ E.map (·.f.1)) :
    ∃ e E', E.Perm (e :: E') ∧ e.f.1 = k ∧ luV (tbl E) k = pV e.p ∧ DkS S w d m x (e :: E') ∧ (wo k E).Perm E' ∧ dat k (E.map En.f) = e.f.2 ∧ e ∈ E := by
  obtain ⟨e, he, hk2⟩ := List.mem_map.1 hk
  obtain ⟨l1, l2, rfl⟩ := List.append_of_mem he
  have hp : (l1 ++ e :: l2).Perm (e :: (l1 ++ l2)) := List.perm_middle
  have h1 := h.perm hp
  refine ⟨e, l1 ++ l2, hp, hk2, luV_mem h.tab.nodup (List.mem_map.2 ⟨e, he, by rw [hk2]⟩), h1, ?_, ?_, he⟩
  · have := wo_perm (k := k) hp
    rw [wo_cons hk2 h1.names] at this
    exact this
  · refine dat_mem ?_ (List.mem_map_of_mem he) hk2
    rw [List.map_map]
    exact h.names
theorem DkS.safe {S : Nat → Prop} {w : World} {d m : Nat} {x : Dx} {e : En} {E : List En} (h : DkS S w d m x (e :: E)) (n : Nat) : DkS S (w.setCell ⟨e.p, 1, none⟩ (.int .i64 (n : Int))) d m x (⟨(e.f.1, e.f.2.1, n), e.p, e.v⟩ :: E) := by
  have he := h.ens e List.mem_cons_self
  have hFB : FB w e.p e.v e.f.2.2 := he.2.1
  exact h.setf rfl rfl (fun _ h => h) ⟨he.1, hFB.set1 n, ob_set he.2.2.1 hFB 1 _, he.2.2.2⟩ (fun g hg => .inl hg) (fun q hq hqp _ => blk_set_other _ _ _ _ hqp)
theorem actX_ne {x : Dx} (h : x.left ≠ 0) (F G : List Fi) : actX x F = actX x G := by
  unfold actX
  by_cases h1 : x.left = -1
  · rw [if_pos h1, if_pos h1]
  · rw [if_neg h1, if_neg h1, if_neg h, if_neg h]
/-- find, of a disk that is held -/
theorem find_n (S : Nat → Prop) (w : World) (d m : Nat) (x : Dx) (E : List En) (hD : DkS S w d m x E) (k : ByteArray) (v : Value) (L : List ByteArray) (hL : Sr w v L) (hl : L.length ≤ 281474976710656) :
    Calls Try.prog 59 #[.pointer (some ⟨d, 0, none⟩), .string k, v] w fun e w' => e = .returned (.tuple #[fP E k (findE x.down (E.map (·.f.1)) k L), .int .i64 (findE x.down (E.map (·.f.1)) k L)]) ∧ DkS (fun k => S k ∧ k < w.heap.size) w' d m x E ∧ Below w.heap.size w w' := by
  refine (find_any _ w d m x E hD.lts (fun k h => h.2) k v L hL hl).mono ?_
  rintro e w' ⟨rfl, h⟩
  exact ⟨rfl, hD.lts.keep (fun q hq => h.block q hq.2), h⟩
theorem map_fst (E : List En) : (E.map En.f).map (·.1) = E.map (·.f.1) := by rw [List.map_map]; rfl
def dSync (x : Dx) (F : List Fi) (k : ByteArray) : Int × Dx × List Fi :=
  if findE x.down (F.map (·.1)) k [] ≠ 0 then (findE x.down (F.map (·.1)) k [], x, F) else if x.left = 0 then (3, actX x F, actF x F) else (0, actX x F, (k, (dat k F).1, (dat k F).1.length) :: woF k F)
def dDel (x : Dx) (F : List Fi) (k : ByteArray) : Int × Dx × List Fi :=
  if findE x.down (F.map (·.1)) k [] ≠ 0 then (findE x.down (F.map (·.1)) k [], x, F) else if x.left = 0 then (3, actX x F, actF x F) else (0, { actX x F with used := x.used - (lenOf k F : Int) }, woF k F)
theorem actX_used {x : Dx} (h : x.left ≠ 0) (F : List Fi) : (actX x F).used = x.used ∧ (actX x F).down = x.down := by
  unfold actX
  by_cases h1 : x.left = -1
  · rw [if_pos h1]
    exact ⟨rfl, rfl⟩
  · rw [if_neg h1, if_neg h]
    exact ⟨rfl, rfl⟩
set_option maxHeartbeats 2000000 in
set_option maxRecDepth 100000 in
theorem sync_any (S : Nat → Prop) (w : World) (d : Nat) (x : Dx) (F : List Fi) (hD : DD S w d x F) (k : ByteArray) :
    Calls Try.prog 27 #[.pointer (some ⟨d, 0, none⟩), .string k] w fun e w' => e = .returned (.int .i64 (dSync x F k).1) ∧ Beh S w d (dSync x F k).2.1 (dSync x F k).2.2 w' := by
  obtain ⟨c0, f0, hD1, hk1⟩ := hD.lock
  have HSD : Hid (S d) := hD.dsk.sd
  have HLK : Hid (x.lk = 0) := hD.lk
  have HO := hide hD.ok
  obtain ⟨m, E, rfl, hD1⟩ := hD1
  have hO1 := HO.out.lk 1
  have HFI := hide (find_n S _ d m _ E hD1 k (.slice none 0 0) [] (Sr.nil _ _ _) (by simp))
  dsimp only at HFI
  have HK1 := hide hk1
  have HO1 := hide hO1
  clear hD hD1 hk1 hO1
  by_cases h1 : findE x.down (E.map (·.f.1)) k [] = 0
  · have hin := hasN_iff.1 ((find_dn (.inl h1)).2.2.2.2 h1)
    have hnk := (find_dn (.inl h1)).2.1
    rw [h1] at HFI
    have hfp : fP E k 0 = luV (tbl E) k := rfl
    rw [hfp] at HFI
    by_cases h2 : x.left = 0
    · have hres : dSync x (E.map En.f) k = (3, actX x (E.map En.f), actF x (E.map En.f)) := by unfold dSync; rw [map_fst, if_neg (by rw [h1]; simp), if_pos h2]
      rw [hres]
      have HFI2 : Hid (Calls Try.prog 59 #[.pointer (some ⟨d, 0, none⟩), .string k, .slice none 0 0] (w.setCell ⟨d, 0, none⟩ (.int .i32 1)) fun e w' => ∃ p, e = .returned (.tuple #[pV p, .int .i64 0]) ∧ Calls Try.prog 58 #[.pointer (some ⟨d, 0, none⟩)] w' fun e w' => e = .returned (.int .i64 3) ∧ w'.cell? ⟨d, 0, none⟩ = some (.int .i32 1) ∧ w'.frozen? ⟨d, 0, none⟩ = false ∧ Beh S w d (actX x (E.map En.f)) (actF x (E.map En.f)) (w'.setCell ⟨d, 0, none⟩ (.int .i32 0))) := by
        refine HFI.out.mono ?_
        rintro e w2 ⟨rfl, hD2, hb2⟩
        obtain ⟨e0, E', hpm, hek, hlu, hD3, hwo, hdat, hmem⟩ := hD2.got hin
        refine ⟨e0.p, by rw [hlu], ?_⟩
        have hK2 : Kp S w w2 := HK1.out.below hb2
        have hB2 : Beh S w d { x with lk := 1 } (E.map En.f) w2 := Beh.of hK2 (hD2.mono (fun k h => h.1)).dsk
        refine (act_n _ w2 d _ _ hB2.1 HO1.out).mono ?_
        rintro e w3 ⟨rfl, h⟩
        have h9 := (hB2.next h).fin HSD.out (actX_fields _ _).1
        refine ⟨by rw [show actE ({ x with lk := 1 } : Dx) = 3 from if_pos h2], h9.1, h9.2.1, ?_⟩
        have h10 := h9.2.2
        rw [actX_lk] at h10
        have e1 : ({ ({ actX x (E.map En.f) with lk := 1 } : Dx) with lk := 0 } : Dx) = actX x (E.map En.f) := lk_self ((actX_fields _ _).1.trans HLK.out)
        rw [e1] at h10
        exact h10
      clear hres HFI h1 h2 hin hnk hfp
      go_enter_defers Try.func27, Try.ntmps27
      go_wp2_with (go_at_call 41; refine (lock_free Try.muLib ⟨d, 0, none⟩ _ c0 f0).mono ?_; rintro e w' ⟨rfl, rfl⟩)
      refine HFI2.out.mono ?_
      rintro e w2 ⟨p, rfl, hc⟩
      have HC := hide hc
      clear hc
      unfold pV
      go_wp2_with fail
      refine HC.out.mono ?_
      rintro e w3 ⟨rfl, hf⟩
      have HF := hide hf
      clear hf
      go_wp2
      refine leaves_cons (f := 42) (args := #[.pointer (some ⟨d, 0, none⟩)]) (by simp) (by simp [go_sem]) ?_
      refine (unlock_deferred Try.muLib ⟨d, 0, none⟩ .returning _ (HF.out).1 (HF.out).2.1).mono ?_
      rintro e u' w'' ⟨rfl, rfl, rfl⟩
      exact ⟨_, results_tmp rfl _ _ _, rfl, (HF.out).2.2⟩
    · have hres : dSync x (E.map En.f) k = (0, actX x (E.map En.f), (k, (dat k (E.map En.f)).1, (dat k (E.map En.f)).1.length) :: woF k (E.map En.f)) := by unfold dSync; rw [map_fst, if_neg (by rw [h1]; simp), if_neg h2]
      rw [hres]
      have HFI2 : Hid (Calls Try.prog 59 #[.pointer (some ⟨d, 0, none⟩), .string k, .slice none 0 0] (w.setCell ⟨d, 0, none⟩ (.int .i32 1)) fun e w' => ∃ p, e = .returned (.tuple #[.pointer (some ⟨p, 0, none⟩), .int .i64 0]) ∧ Calls Try.prog 58 #[.pointer (some ⟨d, 0, none⟩)] w' fun e w' => e = .returned (.int .i64 0) ∧ ∃ a n c s, w'.cell? ⟨p, 0, none⟩ = some (.slice a n c) ∧ w'.cell? ⟨p, 1, none⟩ = some (.int .i64 s) ∧ w'.frozen? ⟨p, 1, none⟩ = false ∧ Hid ((w'.setCell ⟨p, 1, none⟩ (.int .i64 (n : Int))).cell? ⟨d, 0, none⟩ = some (.int .i32 1) ∧ (w'.setCell ⟨p, 1, none⟩ (.int .i64 (n : Int))).frozen? ⟨d, 0, none⟩ = false ∧ Beh S w d (actX x (E.map En.f)) ((k, (dat k (E.map En.f)).1, (dat k (E.map En.f)).1.length) :: woF k (E.map En.f)) ((w'.setCell ⟨p, 1, none⟩ (.int .i64 (n : Int))).setCell ⟨d, 0, none⟩ (.int .i32 0)))) := by
        refine HFI.out.mono ?_
        rintro e w2 ⟨rfl, hD2, hb2⟩
        obtain ⟨e0, E', hpm, hek, hlu, hD3, hwo, hdat, hmem⟩ := hD2.got hin
        refine ⟨e0.p, by rw [hlu]; rfl, ?_⟩
        have hK2 : Kp S w w2 := HK1.out.below hb2
        have hO3 : DOk { x with lk := 1 } ((e0 :: E').map En.f) := by
          have h := HO1.out
          exact ⟨by rw [← usd_perm (hpm.map En.f)]; exact h.used, by rw [← usd_perm (hpm.map En.f)]; exact h.room, h.most, fun f hf => h.safe f ((hpm.map En.f).mem_iff.2 hf), h.left0, h.left1, h.keep0, h.keep1⟩
        refine (act_ok _ w2 d m _ _ hD3 hO3 h2).mono ?_
        rintro e w3 ⟨rfl, hD4, hK4⟩
        have he4 := hD4.ens e0 List.mem_cons_self
        obtain ⟨a, c, hv, _⟩ := he4.2.2.1.slice
        have q0 := cellOf he4.2.1 0 e0.v rfl
        rw [hv] at q0
        refine ⟨rfl, a, _, c, (e0.f.2.2 : Int), q0, cellOf he4.2.1 1 _ rfl, frozen_of he4.2.1 1, ?_⟩
        have hD5 := hD4.safe e0.f.2.1.length
        have hD6 : Dsk S (w3.setCell ⟨e0.p, 1, none⟩ (.int .i64 (e0.f.2.1.length : Int))) d (actX { x with lk := 1 } ((e0 :: E').map En.f)) ((k, (dat k (E.map En.f)).1, (dat k (E.map En.f)).1.length) :: woF k (E.map En.f)) := by
          refine ⟨m, _, ?_, (hD5.perm (hwo.symm.cons _)).mono (fun k h => h.1)⟩
          rw [List.map_cons, map_wo, hdat, hek]
        have hK5 : Kp S w (w3.setCell ⟨e0.p, 1, none⟩ (.int .i64 (e0.f.2.1.length : Int))) := (hK2.trans (hK4.mono fun k h => h.1)).setCell he4.1.1 _
        have h9 := (Beh.of hK5 hD6).fin HSD.out (actX_fields _ _).1
        refine ⟨h9.1, h9.2.1, ?_⟩
        have h10 := h9.2.2
        rw [actX_lk, actX_ne h2 _ (E.map En.f)] at h10
        have e1 : ({ ({ actX x (E.map En.f) with lk := 1 } : Dx) with lk := 0 } : Dx) = actX x (E.map En.f) := lk_self ((actX_fields _ _).1.trans HLK.out)
        rw [e1] at h10
        exact h10
      clear hres HFI h1 h2 hin hnk hfp
      go_enter_defers Try.func27, Try.ntmps27
      go_wp2_with (go_at_call 41; refine (lock_free Try.muLib ⟨d, 0, none⟩ _ c0 f0).mono ?_; rintro e w' ⟨rfl, rfl⟩)
      refine HFI2.out.mono ?_
      rintro e w2 ⟨p, rfl, hc⟩
      have HC := hide hc
      clear hc
      go_wp2_with fail
      refine HC.out.mono ?_
      rintro e w3 ⟨rfl, a, n, c, s, q0, q1, q2, HF⟩
      go_wp2
      refine leaves_cons (f := 42) (args := #[.pointer (some ⟨d, 0, none⟩)]) (by simp) (by simp [go_sem]) ?_
      refine (unlock_deferred Try.muLib ⟨d, 0, none⟩ .returning _ (HF.out).1 (HF.out).2.1).mono ?_
      rintro e u' w'' ⟨rfl, rfl, rfl⟩
      exact ⟨_, results_tmp rfl _ _ _, rfl, (HF.out).2.2⟩
  · have hres : dSync x (E.map En.f) k = (findE x.down (E.map (·.f.1)) k [], x, E.map En.f) := by unfold dSync; rw [map_fst, if_pos h1]
    rw [hres]
    have hfp : fP E k (findE x.down (E.map (·.f.1)) k []) = .pointer none := if_neg h1
    rw [hfp] at HFI
    have HFI2 : Hid (Calls Try.prog 59 #[.pointer (some ⟨d, 0, none⟩), .string k, .slice none 0 0] (w.setCell ⟨d, 0, none⟩ (.int .i32 1)) fun e w' => e = .returned (.tuple #[.pointer none, .int .i64 (findE x.down (E.map (·.f.1)) k [])]) ∧ w'.cell? ⟨d, 0, none⟩ = some (.int .i32 1) ∧ w'.frozen? ⟨d, 0, none⟩ = false ∧ Beh S w d x (E.map En.f) (w'.setCell ⟨d, 0, none⟩ (.int .i32 0))) := by
      refine HFI.out.mono ?_
      rintro e w2 ⟨rfl, hD2, hb2⟩
      have h9 := (Beh.of (HK1.out.below hb2) (hD2.mono (fun k h => h.1)).dsk).fin HSD.out rfl
      exact ⟨rfl, h9.1, h9.2.1, lk_back HLK.out h9.2.2⟩
    generalize findE x.down (E.map (·.f.1)) k [] = r at *
    clear hres HFI hfp
    go_enter_defers Try.func27, Try.ntmps27
    go_wp2_with (go_at_call 41; refine (lock_free Try.muLib ⟨d, 0, none⟩ _ c0 f0).mono ?_; rintro e w' ⟨rfl, rfl⟩)
    refine HFI2.out.mono ?_
    rintro e w2 ⟨rfl, hf⟩
    have HF := hide hf
    clear hf
    go_wp2
    refine leaves_cons (f := 42) (args := #[.pointer (some ⟨d, 0, none⟩)]) (by simp) (by simp [go_sem]) ?_
    refine (unlock_deferred Try.muLib ⟨d, 0, none⟩ .returning _ (HF.out).1 (HF.out).2.1).mono ?_
    rintro e u' w'' ⟨rfl, rfl, rfl⟩
    exact ⟨_, results_tmp rfl _ _ _, rfl, (HF.out).2.2⟩
set_option maxHeartbeats 2000000 in
set_option maxRecDepth 100000 in
theorem delete_any (S : Nat → Prop) (w : World) (d : Nat) (x : Dx) (F : List Fi) (hD : DD S w d x F) (k : ByteArray) :
    Calls Try.prog 34 #[.pointer (some ⟨d, 0, none⟩), .string k] w fun e w' => e = .returned (.int .i64 (dDel x F k).1) ∧ Beh S w d (dDel x F k).2.1 (dDel x F k).2.2 w' := by
  obtain ⟨c0, f0, hD1, hk1⟩ := hD.lock
  have HSD : Hid (S d) := hD.dsk.sd
  have HLK : Hid (x.lk = 0) := hD.lk
  have HO := hide hD.ok
  obtain ⟨m, E, rfl, hD1⟩ := hD1
  have hO1 := HO.out.lk 1
  have HFI := hide (find_n S _ d m _ E hD1 k (.slice none 0 0) [] (Sr.nil _ _ _) (by simp))
  dsimp only at HFI
  have HK1 := hide hk1
  have HO1 := hide hO1
  clear hD hD1 hk1 hO1
  by_cases h1 : findE x.down (E.map (·.f.1)) k [] = 0
  · have hin := hasN_iff.1 ((find_dn (.inl h1)).2.2.2.2 h1)
    have hnk := (find_dn (.inl h1)).2.1
    rw [h1] at HFI
    have hfp : fP E k 0 = luV (tbl E) k := rfl
    rw [hfp] at HFI
    by_cases h2 : x.left = 0
    · have hres : dDel x (E.map En.f) k = (3, actX x (E.map En.f), actF x (E.map En.f)) := by unfold dDel; rw [map_fst, if_neg (by rw [h1]; simp), if_pos h2]
      rw [hres]
      have HFI2 : Hid (Calls Try.prog 59 #[.pointer (some ⟨d, 0, none⟩), .string k, .slice none 0 0] (w.setCell ⟨d, 0, none⟩ (.int .i32 1)) fun e w' => ∃ p, e = .returned (.tuple #[pV p, .int .i64 0]) ∧ Calls Try.prog 58 #[.pointer (some ⟨d, 0, none⟩)] w' fun e w' => e = .returned (.int .i64 3) ∧ w'.cell? ⟨d, 0, none⟩ = some (.int .i32 1) ∧ w'.frozen? ⟨d, 0, none⟩ = false ∧ Beh S w d (actX x (E.map En.f)) (actF x (E.map En.f)) (w'.setCell ⟨d, 0, none⟩ (.int .i32 0))) := by
        refine HFI.out.mono ?_
        rintro e w2 ⟨rfl, hD2, hb2⟩
        obtain ⟨e0, E', hpm, hek, hlu, hD3, hwo, hdat, hmem⟩ := hD2.got hin
        refine ⟨e0.p, by rw [hlu], ?_⟩
        have hK2 : Kp S w w2 := HK1.out.below hb2
        have hB2 : Beh S w d { x with lk := 1 } (E.map En.f) w2 := Beh.of hK2 (hD2.mono (fun k h => h.1)).dsk
        refine (act_n _ w2 d _ _ hB2.1 HO1.out).mono ?_
        rintro e w3 ⟨rfl, h⟩
        have h9 := (hB2.next h).fin HSD.out (actX_fields _ _).1
        refine ⟨by rw [show actE ({ x with lk := 1 } : Dx) = 3 from if_pos h2], h9.1, h9.2.1, ?_⟩
        have h10 := h9.2.2
        rw [actX_lk] at h10
        have e1 : ({ ({ actX x (E.map En.f) with lk := 1 } : Dx) with lk := 0 } : Dx) = actX x (E.map En.f) := lk_self ((actX_fields _ _).1.trans HLK.out)
        rw [e1] at h10
        exact h10
      clear hres HFI h1 h2 hin hnk hfp
      go_enter_defers Try.func34, Try.ntmps34
      go_wp2_with (go_at_call 41; refine (lock_free Try.muLib ⟨d, 0, none⟩ _ c0 f0).mono ?_; rintro e w' ⟨rfl, rfl⟩)
      refine HFI2.out.mono ?_
      rintro e w2 ⟨p, rfl, hc⟩
      have HC := hide hc
      clear hc
      unfold pV
      go_wp2_with fail
      refine HC.out.mono ?_
      rintro e w3 ⟨rfl, hf⟩
      have HF := hide hf
      clear hf
      go_wp2
      refine leaves_cons (f := 42) (args := #[.pointer (some ⟨d, 0, none⟩)]) (by simp) (by simp [go_sem]) ?_
      refine (unlock_deferred Try.muLib ⟨d, 0, none⟩ .returning _ (HF.out).1 (HF.out).2.1).mono ?_
      rintro e u' w'' ⟨rfl, rfl, rfl⟩
      exact ⟨_, results_tmp rfl _ _ _, rfl, (HF.out).2.2⟩
    · have hres : dDel x (E.map En.f) k = (0, { actX x (E.map En.f) with used := x.used - (lenOf k (E.map En.f) : Int) }, woF k (E.map En.f)) := by unfold dDel; rw [map_fst, if_neg (by rw [h1]; simp), if_neg h2]
      rw [hres]
      have HFI2 : Hid (Calls Try.prog 59 #[.pointer (some ⟨d, 0, none⟩), .string k, .slice none 0 0] (w.setCell ⟨d, 0, none⟩ (.int .i32 1)) fun e w' => ∃ p, e = .returned (.tuple #[.pointer (some ⟨p, 0, none⟩), .int .i64 0]) ∧ Calls Try.prog 58 #[.pointer (some ⟨d, 0, none⟩)] w' fun e w' => e = .returned (.int .i64 0) ∧ Calls Try.prog 61 #[.pointer (some ⟨d, 0, none⟩), .string k] w' fun e w' => e = .returned (.tuple #[]) ∧ w'.cell? ⟨d, 0, none⟩ = some (.int .i32 1) ∧ w'.frozen? ⟨d, 0, none⟩ = false ∧ Beh S w d { actX x (E.map En.f) with used := x.used - (lenOf k (E.map En.f) : Int) } (woF k (E.map En.f)) (w'.setCell ⟨d, 0, none⟩ (.int .i32 0))) := by
        refine HFI.out.mono ?_
        rintro e w2 ⟨rfl, hD2, hb2⟩
        obtain ⟨e0, E', hpm, hek, hlu, hD3, hwo, hdat, hmem⟩ := hD2.got hin
        refine ⟨e0.p, by rw [hlu]; rfl, ?_⟩
        have hK2 : Kp S w w2 := HK1.out.below hb2
        refine (act_ok _ w2 d m _ _ hD2 HO1.out h2).mono ?_
        rintro e w3 ⟨rfl, hD4, hK4⟩
        refine ⟨rfl, ?_⟩
        have hus := actX_used (x := { x with lk := 1 }) h2 (E.map En.f)
        refine (drop_any _ w3 d m _ E hD4 k hnk (hus.1.trans HO1.out.used) HO1.out.usd_le).mono ?_
        rintro e w4 ⟨rfl, hD5, hK5⟩
        have hD6 : Dsk S w4 d _ (woF k (E.map En.f)) := ⟨m, _, map_wo k E, hD5.mono (fun k h => h.1)⟩
        have h9 := (Beh.of ((hK2.trans (hK4.mono fun k h => h.1)).trans (hK5.mono fun k h => h.1)) hD6).fin HSD.out (actX_fields _ _).1
        refine ⟨rfl, h9.1, h9.2.1, ?_⟩
        have h10 := h9.2.2
        rw [hus.1, actX_lk] at h10
        have e1 : ({ ({ ({ actX x (E.map En.f) with lk := 1 } : Dx) with used := ({ x with lk := 1 } : Dx).used - (lenOf k (E.map En.f) : Int) } : Dx) with lk := 0 } : Dx) = { actX x (E.map En.f) with used := x.used - (lenOf k (E.map En.f) : Int) } := lk_self (x := { actX x (E.map En.f) with used := x.used - (lenOf k (E.map En.f) : Int) }) ((actX_fields _ _).1.trans HLK.out)
        rw [e1] at h10
        exact h10
      clear hres HFI h1 h2 hin hnk hfp
      go_enter_defers Try.func34, Try.ntmps34
      go_wp2_with (go_at_call 41; refine (lock_free Try.muLib ⟨d, 0, none⟩ _ c0 f0).mono ?_; rintro e w' ⟨rfl, rfl⟩)
      refine HFI2.out.mono ?_
      rintro e w2 ⟨p, rfl, hc⟩
      have HC := hide hc
      clear hc
      go_wp2_with fail
      refine HC.out.mono ?_
      rintro e w3 ⟨rfl, hc⟩
      have HC3 := hide hc
      clear hc
      go_wp2_with fail
      refine HC3.out.mono ?_
      rintro e w4 ⟨rfl, hf⟩
      have HF := hide hf
      clear hf
      go_wp2
      refine leaves_cons (f := 42) (args := #[.pointer (some ⟨d, 0, none⟩)]) (by simp) (by simp [go_sem]) ?_
      refine (unlock_deferred Try.muLib ⟨d, 0, none⟩ .returning _ (HF.out).1 (HF.out).2.1).mono ?_
      rintro e u' w'' ⟨rfl, rfl, rfl⟩
      exact ⟨_, results_tmp rfl _ _ _, rfl, (HF.out).2.2⟩
  · have hres : dDel x (E.map En.f) k = (findE x.down (E.map (·.f.1)) k [], x, E.map En.f) := by unfold dDel; rw [map_fst, if_pos h1]
    rw [hres]
    have hfp : fP E k (findE x.down (E.map (·.f.1)) k []) = .pointer none := if_neg h1
    rw [hfp] at HFI
    have HFI2 : Hid (Calls Try.prog 59 #[.pointer (some ⟨d, 0, none⟩), .string k, .slice none 0 0] (w.setCell ⟨d, 0, none⟩ (.int .i32 1)) fun e w' => e = .returned (.tuple #[.pointer none, .int .i64 (findE x.down (E.map (·.f.1)) k [])]) ∧ w'.cell? ⟨d, 0, none⟩ = some (.int .i32 1) ∧ w'.frozen? ⟨d, 0, none⟩ = false ∧ Beh S w d x (E.map En.f) (w'.setCell ⟨d, 0, none⟩ (.int .i32 0))) := by
      refine HFI.out.mono ?_
      rintro e w2 ⟨rfl, hD2, hb2⟩
      have h9 := (Beh.of (HK1.out.below hb2) (hD2.mono (fun k h => h.1)).dsk).fin HSD.out rfl
      exact ⟨rfl, h9.1, h9.2.1, lk_back HLK.out h9.2.2⟩
    generalize findE x.down (E.map (·.f.1)) k [] = r at *
    clear hres HFI hfp
    go_enter_defers Try.func34, Try.ntmps34
    go_wp2_with (go_at_call 41; refine (lock_free Try.muLib ⟨d, 0, none⟩ _ c0 f0).mono ?_; rintro e w' ⟨rfl, rfl⟩)
    refine HFI2.out.mono ?_
    rintro e w2 ⟨rfl, hf⟩
    have HF := hide hf
    clear hf
    go_wp2
    refine leaves_cons (f := 42) (args := #[.pointer (some ⟨d, 0, none⟩)]) (by simp) (by simp [go_sem]) ?_
    refine (unlock_deferred Try.muLib ⟨d, 0, none⟩ .returning _ (HF.out).1 (HF.out).2.1).mono ?_
    rintro e u' w'' ⟨rfl, rfl, rfl⟩
    exact ⟨_, results_tmp rfl _ _ _, rfl, (HF.out).2.2⟩
set_option maxHeartbeats 2000000 in
set_option maxRecDepth 100000 in
theorem read_any (S : Nat → Prop) (w : World) (d : Nat) (x : Dx) (F : List Fi) (hD : DD S w d x F) (k : ByteArray) :
    Calls Try.prog 30 #[.pointer (some ⟨d, 0, none⟩), .string k] w fun e w' => ∃ v, e = .returned (.tuple #[v, .int .i64 (findE x.down (F.map (·.1)) k [])]) ∧ Ob w.heap.size w' v (if findE x.down (F.map (·.1)) k [] = 0 then (dat k F).1 else []) ∧ Dsk (fun k => S k ∧ k < w.heap.size) w' d x F ∧ Kp S w w' := by
  obtain ⟨c0, f0, hD1, hk1⟩ := hD.lock
  have HSD : Hid (S d) := hD.dsk.sd
  have HLK : Hid (x.lk = 0) := hD.lk
  have HO := hide hD.ok
  obtain ⟨m, E, rfl, hD1⟩ := hD1
  have hz : (w.setCell ⟨d, 0, none⟩ (.int .i32 1)).heap.size = w.heap.size := by simp
  have HFI := hide (find_n S _ d m _ E hD1 k (.slice none 0 0) [] (Sr.nil _ _ _) (by simp))
  dsimp only at HFI
  have HK1 := hide hk1
  have HZ := hide hz
  clear hD hD1 hk1 hz
  rw [map_fst]
  by_cases h1 : findE x.down (E.map (·.f.1)) k [] = 0
  · have hin := hasN_iff.1 ((find_dn (.inl h1)).2.2.2.2 h1)
    rw [h1] at HFI ⊢
    rw [if_pos rfl]
    have hfp : fP E k 0 = luV (tbl E) k := rfl
    rw [hfp] at HFI
    have HFI2 : Hid (Calls Try.prog 59 #[.pointer (some ⟨d, 0, none⟩), .string k, .slice none 0 0] (w.setCell ⟨d, 0, none⟩ (.int .i32 1)) fun e w' => ∃ p, e = .returned (.tuple #[.pointer (some ⟨p, 0, none⟩), .int .i64 0]) ∧ ∃ a n c, w'.cell? ⟨p, 0, none⟩ = some (.slice a n c) ∧ Calls Try.prog 53 #[.slice a n c] w' fun e w' => ∃ v, e = .returned v ∧ w'.cell? ⟨d, 0, none⟩ = some (.int .i32 1) ∧ w'.frozen? ⟨d, 0, none⟩ = false ∧ Ob w.heap.size (w'.setCell ⟨d, 0, none⟩ (.int .i32 0)) v (dat k (E.map En.f)).1 ∧ Dsk (fun k => S k ∧ k < w.heap.size) (w'.setCell ⟨d, 0, none⟩ (.int .i32 0)) d x (E.map En.f) ∧ Kp S w (w'.setCell ⟨d, 0, none⟩ (.int .i32 0))) := by
      refine HFI.out.mono ?_
      rintro e w2 ⟨rfl, hD2, hb2⟩
      obtain ⟨e0, E', hpm, hek, hlu, hD3, hwo, hdat, hmem⟩ := hD2.got hin
      have hz := HZ.out
      rw [hz] at hD2 hb2
      have he := hD2.ens e0 hmem
      obtain ⟨a, c, hv, _⟩ := he.2.2.1.slice
      have q0 := cellOf he.2.1 0 e0.v rfl
      rw [hv] at q0
      have hK2 : Kp S w w2 := HK1.out.below (by rw [hz]; exact hb2)
      refine ⟨e0.p, by rw [hlu]; rfl, a, _, c, q0, ?_⟩
      have hr := he.2.2.1.rb
      rw [hv] at hr
      have hlen : e0.f.2.1.length ≤ 140737488355328 := by
        have := le_usd (List.mem_map_of_mem (f := En.f) hmem)
        have := HO.out.usd_le
        omega
      refine (own_any _ _ w2 hr hlen).mono ?_
      rintro e w3 ⟨v', rfl, ho3, hb3⟩
      have hD4 : DkS (fun k => S k ∧ k < w.heap.size) w3 d m { x with lk := 1 } E := hD2.keep (fun q hq => hb3.block q (Nat.lt_of_lt_of_le hq.2 hK2.size))
      have hz2 := hK2.size
      have hdlt : d < w.heap.size := (hD4.sd).2
      refine ⟨v', rfl, hD4.cell 0 _ rfl, hD4.frozen 0, ?_, ?_, ?_⟩
      · rw [hdat]
        refine (ho3.mono hz2).at_same (fun g hg => blk_set_other _ _ _ _ (fun e => ?_))
        have := (ho3.lt g hg).1
        have e : g = d := e
        omega
      · have h5 := hD4.lk 0
        have e1 : ({ ({ x with lk := 1 } : Dx) with lk := 0 } : Dx) = x := lk_self HLK.out
        rw [e1] at h5
        exact h5.dsk
      · exact (hK2.below hb3).setCell HSD.out _
    clear HFI h1 hin hfp
    go_enter_defers Try.func30, Try.ntmps30
    go_wp2_with (go_at_call 41; refine (lock_free Try.muLib ⟨d, 0, none⟩ _ c0 f0).mono ?_; rintro e w' ⟨rfl, rfl⟩)
    refine HFI2.out.mono ?_
    rintro e w2 ⟨p, rfl, a, n, c, q0, hc⟩
    have HC := hide hc
    clear hc
    go_wp2_with fail
    refine HC.out.mono ?_
    rintro e w3 ⟨v, rfl, hf⟩
    have HF0 := hide hf
    clear hf
    have HF : Hid (w3.cell? ⟨d, 0, none⟩ = some (.int .i32 1) ∧ w3.frozen? ⟨d, 0, none⟩ = false) := ⟨HF0.out.1, HF0.out.2.1⟩
    go_wp2
    refine leaves_cons (f := 42) (args := #[.pointer (some ⟨d, 0, none⟩)]) (by simp) (by simp [go_sem]) ?_
    refine (unlock_deferred Try.muLib ⟨d, 0, none⟩ .returning _ (HF.out).1 (HF.out).2).mono ?_
    rintro e u' w'' ⟨rfl, rfl, rfl⟩
    exact ⟨_, results_tmp2 rfl _ _ _, _, rfl, HF0.out.2.2⟩
  · have hfp : fP E k (findE x.down (E.map (·.f.1)) k []) = .pointer none := if_neg h1
    rw [hfp] at HFI
    rw [if_neg h1]
    have HFI2 : Hid (Calls Try.prog 59 #[.pointer (some ⟨d, 0, none⟩), .string k, .slice none 0 0] (w.setCell ⟨d, 0, none⟩ (.int .i32 1)) fun e w' => e = .returned (.tuple #[.pointer none, .int .i64 (findE x.down (E.map (·.f.1)) k [])]) ∧ w'.cell? ⟨d, 0, none⟩ = some (.int .i32 1) ∧ w'.frozen? ⟨d, 0, none⟩ = false ∧ Dsk (fun k => S k ∧ k < w.heap.size) (w'.setCell ⟨d, 0, none⟩ (.int .i32 0)) d x (E.map En.f) ∧ Kp S w (w'.setCell ⟨d, 0, none⟩ (.int .i32 0))) := by
      refine HFI.out.mono ?_
      rintro e w2 ⟨rfl, hD2, hb2⟩
      have hz := HZ.out
      rw [hz] at hD2
      refine ⟨rfl, hD2.cell 0 _ rfl, hD2.frozen 0, ?_, (HK1.out.below hb2).setCell HSD.out _⟩
      have h5 := hD2.lk 0
      have e1 : ({ ({ x with lk := 1 } : Dx) with lk := 0 } : Dx) = x := lk_self HLK.out
      rw [e1] at h5
      exact h5.dsk
    generalize findE x.down (E.map (·.f.1)) k [] = r at *
    clear HFI hfp
    go_enter_defers Try.func30, Try.ntmps30
    go_wp2_with (go_at_call 41; refine (lock_free Try.muLib ⟨d, 0, none⟩ _ c0 f0).mono ?_; rintro e w' ⟨rfl, rfl⟩)
    refine HFI2.out.mono ?_
    rintro e w2 ⟨rfl, hf⟩
    have HF := hide hf
    clear hf
    go_wp2
    refine leaves_cons (f := 42) (args := #[.pointer (some ⟨d, 0, none⟩)]) (by simp) (by simp [go_sem]) ?_
    refine (unlock_deferred Try.muLib ⟨d, 0, none⟩ .returning _ (HF.out).1 (HF.out).2.1).mono ?_
    rintro e u' w'' ⟨rfl, rfl, rfl⟩
    exact ⟨_, results_tmp2 rfl _ _ _, _, rfl, Ob.nil _ _, (HF.out).2.2⟩
end Go.Proofs.Ytgkdecjlanbmhaa
