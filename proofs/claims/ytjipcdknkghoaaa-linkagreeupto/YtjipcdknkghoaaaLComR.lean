
/- LinkAgree: what is under way to the receiver comes. -/
import Derived.Test.YtjipcdknkghoaaaLAgI
import Derived.Deep.RegionHeld
namespace Go.Proofs.Ytjipcdknkghoaaa
open Go.RowKit Go.Maps
set_option linter.unusedVariables false
set_option linter.unusedSimpArgs false

section
variable {z : Nat} {w0 : World} {k gs gr N M : Nat} {sec : Bool} {md n0 e L a b : Int} {s : Lk} {Ts : List (ByteArray × Dv)} {vB : Value} {B : List Itm}
set_option maxRecDepth 100000 in
set_option maxHeartbeats 16000000 in
theorem comesR (n : Int) (w : World) (m0 : Nat) (h : InvR z w0 k gs gr N M sec md s Ts vB B n0 e L a b w m0) (hM : M ≤ 1000000000) (hm0 : m0 ≤ 1000000000) :
    Calls Try.prog 8 #[.pointer (some ⟨k, 0, none⟩), .int .i64 n, .bool false] w fun e1 w' => e1 = .returned (.bool true) ∧ ∃ m, InvR z w0 k gs gr N M sec md s Ts vB B n0 e L a b w' m ∧ (m = 0 ∨ n + m ≤ m0) := by
  have HX0 := hide h
  have HM := hide hM
  have HM0 := hide hm0
  clear h hM hm0
  go_enter Try.func8, Try.ntmps8
  go_wp2
  go_loopw [7] (fun i wr => ∃ j m : Nat, i = .int .i64 (j : Int) ∧ Hid (j + m = m0) ∧ InvR z w0 k gs gr N M sec md s Ts vB B n0 e L a b wr m) (fun _ wr => wlenC wr k 2)
  case atStart => exact ⟨0, m0, rfl, Nat.zero_add _, HX0.out⟩
  case round =>
    clear HX0
    obtain ⟨j, m, rfl, hjm, hinv⟩ := hrel
    have HLen := hide hinv.len
    have hjb : (j : Int) ≤ 1000000000 := by have := hjm.out; have := HM0.out; omega
    by_cases hjn : (j : Int) < n
    rotate_left
    · have HI := hide hinv
      clear hinv
      go_wp2
      go_ret
      exact ⟨rfl, m, HI.out, .inr (by have := hjm.out; omega)⟩
    obtain ⟨r, Tr, vO, vG, O, G, p, hm, h, ha⟩ := hinv
    obtain ⟨c0, c1, c2, c3, c4, c5, cf, cl⟩ := h.facts
    cases O with
    | nil =>
      obtain ⟨ax, cx, hsh⟩ : ∃ ax cx, vO = Value.slice ax 0 cx := h.wo.shape
      rw [hsh] at c2
      have HP := hide h
      have HA := hide ha
      clear h ha hsh hm
      go_wp2
      go_ret
      exact ⟨rfl, 0, ⟨r, Tr, vO, vG, [], G, p, rfl, HP.out.go (bel1 (Below.refl _ _) (Nat.le_refl _) _), HA.out⟩, .inl rfl⟩
    | cons x O =>
      obtain ⟨g, off, cap, av, cv, hv, hcap, hgl, hrg, hcut, hwy, hown⟩ := h.wo.cut itOk
      rw [hv] at c2 hcut
      change ∀ u, (Instr.slice 29 _ _ _ _).run Try.prog u = _ at hcut
      obtain ⟨V1, hV1⟩ : ∃ V1, wr.alloc (.cells ⟨x.enc⟩ 86) = V1 := ⟨_, rfl⟩
      have hb1 : Below wr.heap.size wr V1 := hV1 ▸ bel1 (Below.refl _ _) (Nat.le_refl _) _
      have h1 := h.go hb1
      have hwy1 : Wy itK V1 z (.slice av O.length cv) O := hwy.at fun q e => hb1.block q (hwy.lt e).2
      have hp := h1.popO hwy1 hown
      obtain ⟨V2, hV2⟩ : ∃ V2, V1.setCell ⟨k, 2, none⟩ (.slice av O.length cv) = V2 := ⟨_, rfl⟩
      rw [hV2] at hp
      obtain ⟨d0, d1, d2, d3, d4, d5, df, dl⟩ := h1.facts
      rw [hv] at d2
      have hPk : wr.heap.size ≠ k := fun e => by omega
      have hN1 : V1.heap[wr.heap.size]? = some (.cells ⟨x.enc⟩ 86 (0, 0)) := hV1 ▸ heap_alloc_last wr _
      have hN2 : V2.heap[wr.heap.size]? = some (.cells ⟨x.enc⟩ 86 (0, 0)) := hV2 ▸ (blk_set_other _ _ _ _ hPk).trans hN1
      obtain ⟨kd, kt, kf, kl⟩ := it_cells hN2
      obtain ⟨g0, g1, g2, g3, g4, g5, gf, gl⟩ := hp.facts
      have hgi : tyB V2 wr.heap.size = some 86 := ty_cells hN2
      have hgg : tyB V2 gr = some 84 := ty_cells hp.lr.lb
      have hgm : tyB V2 r.dm = none := hp.lr.tb.ty
      have hNg : wr.heap.size ≠ gr := ne_ty hgi hgg (by decide)
      have hNm : wr.heap.size ≠ r.dm := ne_ty hgi hgm (by decide)
      have hkg : k ≠ gr := ne_ty hp.ty hgg (by decide)
      have hkm : k ≠ r.dm := ne_ty hp.ty hgm (by decide)
      have HV1 := hide hV1
      have HV2 := hide hV2
      have HN2 := hide hN2
      have HRg : Hid (∀ o : Obj, (wr.alloc o).rangeAt g off x.enc) := fun o q v hv => (World.cell?_alloc_lt wr o ⟨g, off + q, none⟩ hgl).trans (hrg q v hv)
      have H2 := hide (hp.go (bel_drew V2))
      have HA := hide ha
      have HMl : Hid (m = O.length + 1) := hm.symm
      have hSn : (keys Ts).Nodup := h.ls.tb.nodup
      have hTr : Hid (Tr.length ≤ 1000000000) := by show _ ≤ _; have := ha.tg.len; have := ha.ln; have := HM.out; omega
      have hGl : Hid (G.length ≤ 1000000000) := by show _ ≤ _; have := ha.lo; have := HM.out; omega
      have hk12 : x.k = 2 ∨ x.k = 1 := by
        rcases ha.tg.oW x (by simp) with ⟨e1, _⟩ | ⟨e1, _⟩
        · exact .inr e1
        · exact .inl e1
      clear h hV1 hV2 hb1 h1 hwy hwy1 hp hown hv hrg hm hgi hgg hgm hN1 hN2
      rcases hk12 with hk2 | hk1
      · obtain ⟨f, f1, f2, f3, f4, f5, f6, f7, q, hAl⟩ := ha.drained hk2
        rw [hk2] at kd
        have hfA : x.fA = f.flow 5 := by unfold Itm.fA; rw [f1, f2]; rfl
        have hPf : PfL x.fA 19 f.ct f.cr 0 f.dr := by
          have := Lk.flow_pf f 5
          rw [f3, f4] at this
          rw [hfA]
          exact this
        have HG : Hid (Calls Try.prog 21 #[.pointer (some ⟨gr, 0, none⟩), .agg x.fA] V2.drew fun e1 w3 => e1 = .returned (.int .i64 0) ∧ Hid (LB w3 gr (({ r with av := 0 % 4294967296 } : Lk).on (gapZ r.ct f.ct)) ∧ Kp (fun q => q = gr) V2.drew w3) ∧ (w3.cell? ⟨k, 1, none⟩ = some (.pointer (some ⟨gr, 0, none⟩)) ∧ w3.heap[wr.heap.size]? = some (.cells ⟨x.enc⟩ 86 (0, 0)))) :=
          (flow_got gr r x.fA f.ct f.cr 0 f.dr V2.drew H2.out.lr.lb hPf (by rw [Try.infoPf, fA_size]) ha.lf.rr (by decide) (by omega) f6 f7 ha.ag.rcb).mono fun e1 w3 ⟨e2, s1, k1⟩ => ⟨e2, ⟨s1, k1⟩, (k1.cell (b := k) (o := 1) gl hkg).trans g1, (k1.block (k := wr.heap.size) kl hNg).trans HN2.out⟩
        have HS2 : Hid (V2.drew.cell? ⟨k, 1, none⟩ = some (.pointer (some ⟨gr, 0, none⟩)) ∧ V2.drew.heap[wr.heap.size]? = some (.cells ⟨x.enc⟩ 86 (0, 0))) := ⟨g1, HN2.out⟩
        have HAl := hide hAl
        clear ha f1 f2 f3 f4 f5 f6 f7 hAl hk2 hPf hfA hSn hNg hNm hkg hkm
        go_wp2_with (first | rw [HV2.out] | (refine wpList_load_mid rfl 86 (.tmp 76) rfl g off rfl x.enc _ (HRg.out _) Try.underlying86 rfl (by rw [Try.infoIs, it_len]) ?_) | (refine wpList_store_row rfl 86 (.tmp 8) (.tmp 77) rfl wr.heap.size ⟨x.enc⟩ rfl rfl 86 _ (heap_alloc_last wr _) (by rw [Try.infoIs, it_size]) (by rw [it_size]; rfl) (itA_all x) ?_; rw [World.setRow_alloc_new, HV1.out]))
        refine wp_region_held_drew (S := fun W => W.cell? ⟨k, 1, none⟩ = some (.pointer (some ⟨gr, 0, none⟩)) ∧ W.heap[wr.heap.size]? = some (.cells ⟨x.enc⟩ 86 (0, 0))) (by kernel_rfl) HS2.out (fun hHeld => ?_)
        refine take_do (i := 0) (d := 89) (v := ?_) rfl rfl (by kernel_rfl) (by kernel_rfl) (by kernel_rfl) (fun _ _ _ h => h) rfl ?_ (by assumption) ?_
        rotate_left
        · intro W hSw
          try dsimp only at hSw
          go_simp
          try with_reducible rfl
        try simp only [List.setIfInBounds_toArray, List.set_cons_zero, List.set_cons_succ]
        refine take_do (i := 1) (d := 90) (v := ?_) rfl rfl (by kernel_rfl) (by kernel_rfl) (by kernel_rfl) (fun _ _ _ h => h) rfl ?_ (by assumption) ?_
        rotate_left
        · intro W hSw
          try dsimp only at hSw
          go_simp
          try with_reducible rfl
        try simp only [List.setIfInBounds_toArray, List.set_cons_zero, List.set_cons_succ]
        refine take_do (i := 2) (d := 91) (v := ?_) rfl rfl (by kernel_rfl) (by kernel_rfl) (by kernel_rfl) (fun _ _ _ h => h) rfl ?_ (by assumption) ?_
        rotate_left
        · intro W hSw
          try dsimp only at hSw
          go_simp
          try with_reducible rfl
        try simp only [List.setIfInBounds_toArray, List.set_cons_zero, List.set_cons_succ]
        refine take_do (i := 3) (d := 92) (v := ?_) rfl rfl (by kernel_rfl) (by kernel_rfl) (by kernel_rfl) (fun _ _ _ h => h) rfl ?_ (by assumption) ?_
        rotate_left
        · intro W hSw
          try dsimp only at hSw
          go_simp
          try with_reducible rfl
        try simp only [List.setIfInBounds_toArray, List.set_cons_zero, List.set_cons_succ]
        refine take_do (i := 4) (d := 93) (v := ?_) rfl rfl (by kernel_rfl) (by kernel_rfl) (by kernel_rfl) (fun _ _ _ h => h) rfl ?_ (by assumption) ?_
        rotate_left
        · intro W hSw
          try dsimp only at hSw
          go_simp
          try with_reducible rfl
        try simp only [List.setIfInBounds_toArray, List.set_cons_zero, List.set_cons_succ]
        refine take_do (i := 5) (d := 94) (v := ?_) rfl rfl (by kernel_rfl) (by kernel_rfl) (by kernel_rfl) (fun _ _ _ h => h) rfl ?_ (by assumption) ?_
        rotate_left
        · intro W hSw
          refine (mid_run W _ 57 (.tmp 93) ?_ wr.heap.size 1 x.fA.toList ?_ (it_range hSw.2) _ Try.underlying57 rfl (fA_len x)).trans ?_ <;> rfl
        try simp only [List.setIfInBounds_toArray, List.set_cons_zero, List.set_cons_succ]
        refine wpAnyH_ready (rs := [6]) (by kernel_rfl) (by simp) ?_
        refine AllReadyH.cons rfl (fun K hK => ?_) AllReadyH.nil
        go_simp
        go_wp2_with (go_at_call 21; refine HG.out.mono ?_; rintro e3 w3 ⟨rfl, hM3, hs3⟩)
        refine hK.out _ _ hs3 (fun hHeld => ?_)
        clear hK K
        try simp only [Act.put, List.setIfInBounds_toArray, List.set_cons_zero, List.set_cons_succ]
        refine take_do (i := 7) (d := 11) (v := ?_) rfl rfl (by kernel_rfl) (by kernel_rfl) (by kernel_rfl) (fun _ _ _ h => h) rfl ?_ (by assumption) ?_
        rotate_left
        · intro W hSw
          try dsimp only at hSw
          go_simp
          try with_reducible rfl
        try simp only [List.setIfInBounds_toArray, List.set_cons_zero, List.set_cons_succ]
        refine wpAnyH_done (by kernel_rfl) ?_ _
        have H3 := hide (H2.out.recv (H2.out.lr.turn hM3.out.1 rfl hM3.out.2) rfl (kpL hM3.out.2))
        have HI : Hid (InvR z w0 k gs gr N M sec md s Ts vB B n0 e L a b w3 O.length) := ⟨_, Tr, _, vG, O, G, q, rfl, H3.out, HAl.out⟩
        clear hM3 hs3 HG HS2
        go_wp2
        go_roundw
        case rel => exact ⟨j + 1, O.length, by go_num, by show _ = _; have := hjm.out; have := HMl.out; omega, HI.out⟩
        case measure => rw [HI.out.len, HLen.out, HMl.out]; omega
      · have hft : x.fg = true ∨ x.fg = false := by cases x.fg <;> simp
        rcases hft with hfg | hfg
        · obtain ⟨t1, t2, t3, t4, hAl⟩ := ha.gotS hk1 hfg
          rw [hk1] at kd
          rw [hfg] at kf
          have HG : Hid (Calls Try.prog 23 #[.pointer (some ⟨gr, 0, none⟩), .string x.tg, .bool true] V2.drew fun e1 w3 => e1 = .returned (.int .i64 0) ∧ Hid (Lnk w3 gr r.one Tr ∧ Kp (fun q => q = gr) V2.drew w3) ∧ (w3.cell? ⟨k, 1, none⟩ = some (.pointer (some ⟨gr, 0, none⟩)) ∧ w3.cell? ⟨wr.heap.size, 129, none⟩ = some (.string x.tg) ∧ w3.cell? ⟨wr.heap.size, 130, none⟩ = some (.bool true))) :=
            (got_settled gr r Tr x.tg V2.drew H2.out.lr ha.lf.rr t4 (by omega) (by omega) t1 (by rw [ha.lf.rm]; exact t3) ha.ag.rcb (by rw [ha.lf.ra]; decide) (by rw [ha.lf.ra]; decide)).mono fun e1 w3 ⟨e2, s1, k1⟩ => ⟨e2, ⟨s1, k1⟩, (k1.cell (b := k) (o := 1) gl hkg).trans g1, (k1.cell (b := wr.heap.size) (o := 129) kl hNg).trans kt, (k1.cell (b := wr.heap.size) (o := 130) kl hNg).trans kf⟩
          have HAl := hide hAl
          clear ha t1 t2 t3 t4 hAl hk1 hSn hNg hNm hkg hkm hfg
          go_wp2_with (first | rw [HV2.out] | (refine wpList_load_mid rfl 86 (.tmp 76) rfl g off rfl x.enc _ (HRg.out _) Try.underlying86 rfl (by rw [Try.infoIs, it_len]) ?_) | (refine wpList_store_row rfl 86 (.tmp 8) (.tmp 77) rfl wr.heap.size ⟨x.enc⟩ rfl rfl 86 _ (heap_alloc_last wr _) (by rw [Try.infoIs, it_size]) (by rw [it_size]; rfl) (itA_all x) ?_; rw [World.setRow_alloc_new, HV1.out]))
          go_region_held (fun W => W.cell? ⟨k, 1, none⟩ = some (.pointer (some ⟨gr, 0, none⟩)) ∧ W.cell? ⟨wr.heap.size, 129, none⟩ = some (.string x.tg) ∧ W.cell? ⟨wr.heap.size, 130, none⟩ = some (.bool true)) (first | assumption | go_keep) (first | (go_at_call 23; refine Calls.mono HG.out ?_; rintro e3 w3 ⟨rfl, hM3, hs3⟩))
          have H3 := hide (H2.out.recv hM3.out.1 rfl (kpL hM3.out.2))
          have HI : Hid (InvR z w0 k gs gr N M sec md s Ts vB B n0 e L a b w3 O.length) := ⟨_, Tr, _, vG, O, G, _, rfl, H3.out, HAl.out⟩
          have q3 := hs3.2.2
          have kl3 : wr.heap.size < w3.heap.size := Nat.lt_of_lt_of_le kl hM3.out.2.size
          clear hM3 hs3 HG
          go_wp2
          go_roundw
          case rel => exact ⟨j + 1, O.length, by go_num, by show _ = _; have := hjm.out; have := HMl.out; omega, HI.out⟩
          case measure => rw [HI.out.len, HLen.out, HMl.out]; omega
        · obtain ⟨t1, t2, t3, t4, hAl⟩ := ha.gotO hSn hk1 hfg
          rw [hk1] at kd
          rw [hfg] at kf
          have HG : Hid (Calls Try.prog 23 #[.pointer (some ⟨gr, 0, none⟩), .string x.tg, .bool false] V2.drew fun e1 w3 => e1 = .returned (.int .i64 0) ∧ Hid (Lnk w3 gr r.one ((x.tg, dv0) :: Tr) ∧ Kp (inL gr r) V2.drew w3) ∧ (w3.cell? ⟨k, 1, none⟩ = some (.pointer (some ⟨gr, 0, none⟩)) ∧ w3.cell? ⟨wr.heap.size, 129, none⟩ = some (.string x.tg) ∧ w3.cell? ⟨wr.heap.size, 130, none⟩ = some (.bool false))) :=
            (got_open gr r Tr x.tg V2.drew H2.out.lr ha.lf.rr t4 (by omega) (by omega) t1 (by rw [ha.lf.rm]; exact t3) ha.ag.rcb (by rw [ha.lf.ra]; decide) (by rw [ha.lf.ra]; decide) (by have := hTr.out; unfold maxLen; omega)).mono fun e1 w3 ⟨e2, s1, k1⟩ => ⟨e2, ⟨s1, k1⟩, (k1.cell (b := k) (o := 1) gl (fun e => e.elim hkg hkm)).trans g1, (k1.cell (b := wr.heap.size) (o := 129) kl (fun e => e.elim hNg hNm)).trans kt, (k1.cell (b := wr.heap.size) (o := 130) kl (fun e => e.elim hNg hNm)).trans kf⟩
          have HAl := hide hAl
          clear ha t1 t2 t3 t4 hAl hk1 hSn hNg hNm hkg hkm hfg
          go_wp2_with (first | rw [HV2.out] | (refine wpList_load_mid rfl 86 (.tmp 76) rfl g off rfl x.enc _ (HRg.out _) Try.underlying86 rfl (by rw [Try.infoIs, it_len]) ?_) | (refine wpList_store_row rfl 86 (.tmp 8) (.tmp 77) rfl wr.heap.size ⟨x.enc⟩ rfl rfl 86 _ (heap_alloc_last wr _) (by rw [Try.infoIs, it_size]) (by rw [it_size]; rfl) (itA_all x) ?_; rw [World.setRow_alloc_new, HV1.out]))
          go_region_held (fun W => W.cell? ⟨k, 1, none⟩ = some (.pointer (some ⟨gr, 0, none⟩)) ∧ W.cell? ⟨wr.heap.size, 129, none⟩ = some (.string x.tg) ∧ W.cell? ⟨wr.heap.size, 130, none⟩ = some (.bool false)) (first | assumption | go_keep) (first | (go_at_call 23; refine Calls.mono HG.out ?_; rintro e3 w3 ⟨rfl, hM3, hs3⟩))
          have h3 := H2.out.recv hM3.out.1 rfl hM3.out.2
          have H3 := hide (h3.go (bel_drew w3))
          obtain ⟨r0, r1, r2, r3, r4, r5, rf, rl⟩ := h3.facts
          obtain ⟨ag, cg, hsg⟩ := h3.wg.shape
          have HSg := hide hsg
          rw [hsg] at r5
          obtain ⟨q1, q2, q3⟩ := hs3
          have kl3 : wr.heap.size < w3.heap.size := Nat.lt_of_lt_of_le kl hM3.out.2.size
          have hni : tyB w3 wr.heap.size = some 86 := by
            have := HN2.out
            have h9 : w3.heap[wr.heap.size]? = V2.drew.heap[wr.heap.size]? := by
              refine hM3.out.2.block kl ?_
              rintro (e | e)
              · exact ne_ty (ty_cells HN2.out) (ty_cells H2.out.lr.lb : tyB V2 gr = _) (by decide) e
              · exact ne_ty (ty_cells HN2.out) (H2.out.lr.tb.ty : tyB V2 r.dm = _) (by decide) e
            exact ty_cells (h9.trans this)
          have HNo : Hid (vG.ownBlock ≠ some wr.heap.size) := fun e => ne_ty (h3.wg.ty e) hni (by decide) rfl
          have HNk : Hid (wr.heap.size ≠ k) := ne_ty hni h3.ty (by decide)
          have HKP : Hid (∀ L W', W'.cell? ⟨k, 5, none⟩ = some (.slice ag G.length cg) → W'.cell? ⟨wr.heap.size, 129, none⟩ = some (.string x.tg) → Kept (fun W => W.cell? ⟨wr.heap.size, 129, none⟩ = some (.string x.tg)) (fun z W => z = 8 → W.cell? ⟨k, 5, none⟩ = some (.slice ag G.length cg)) L W') := fun L W' e1 e2 => ⟨e2, fun z _ _ => e1⟩
          have r5d : w3.drew.cell? ⟨k, 5, none⟩ = some (.slice ag G.length cg) := r5
          have q2d : w3.drew.cell? ⟨wr.heap.size, 129, none⟩ = some (.string x.tg) := q2
          clear hM3 HG h3 hsg r0 r1 r2 r3 r4 hni q1
          go_wp2
          refine wp_region_Z (S := fun W => W.cell? ⟨wr.heap.size, 129, none⟩ = some (.string x.tg)) (C := fun z W => z = 8 → W.cell? ⟨k, 5, none⟩ = some (.slice ag G.length cg)) (by kernel_rfl) (HKP.out _ _ r5d q2d) (fun hHeld => ?_)
          refine Z_take (i := 0) (d := 112) (v := ?_) (Zs := []) rfl rfl (by kernel_rfl) (by kernel_rfl) (by kernel_rfl) (fun _ _ _ h => h) (fun _ h => absurd h (by decide)) (by kernel_rfl) rfl ?_ (HKP.out _ _ r5d q2d) ?_
          rotate_left
          · intro W hSw hC
            try dsimp only at hSw
            go_simp
            try with_reducible rfl
          try simp only [List.setIfInBounds_toArray, List.set_cons_zero, List.set_cons_succ]
          refine Z_take (i := 1) (d := 113) (v := ?_) (Zs := []) rfl rfl (by kernel_rfl) (by kernel_rfl) (by kernel_rfl) (fun _ _ _ h => h) (fun _ h => absurd h (by decide)) (by kernel_rfl) rfl ?_ (HKP.out _ _ r5d q2d) ?_
          rotate_left
          · intro W hSw hC
            try dsimp only at hSw
            go_simp
            try with_reducible rfl
          try simp only [List.setIfInBounds_toArray, List.set_cons_zero, List.set_cons_succ]
          refine Z_take (i := 2) (d := 114) (v := ?_) (Zs := []) rfl rfl (by kernel_rfl) (by kernel_rfl) (by kernel_rfl) (fun _ _ _ h => h) (fun _ h => absurd h (by decide)) (by kernel_rfl) rfl ?_ (HKP.out _ _ r5d q2d) ?_
          rotate_left
          · intro W hSw hC
            try dsimp only at hSw
            go_simp
            try with_reducible rfl
          try simp only [List.setIfInBounds_toArray, List.set_cons_zero, List.set_cons_succ]
          refine Z_take (i := 3) (d := 115) (v := ?_) (Zs := []) rfl rfl (by kernel_rfl) (by kernel_rfl) (by kernel_rfl) (fun _ _ _ h => h) (fun _ h => absurd h (by decide)) (by kernel_rfl) rfl ?_ (HKP.out _ _ r5d q2d) ?_
          rotate_left
          · intro W hSw hC
            try dsimp only at hSw
            go_simp
            try with_reducible rfl
          try simp only [List.setIfInBounds_toArray, List.set_cons_zero, List.set_cons_succ]
          refine Z_take (i := 4) (d := 116) (v := ?_) (Zs := [8]) rfl rfl (by kernel_rfl) (by kernel_rfl) (by kernel_rfl) (fun _ _ _ h => h) (fun _ h => absurd h (by decide)) (by kernel_rfl) rfl ?_ (HKP.out _ _ r5d q2d) ?_
          rotate_left
          · intro W hSw hC
            have hC8 := hC 8 (by simp) rfl; try dsimp only at hSw
            go_simp
            try with_reducible rfl
          try simp only [List.setIfInBounds_toArray, List.set_cons_zero, List.set_cons_succ]
          refine Z_take (i := 5) (d := 117) (v := ?_) (Zs := []) rfl rfl (by kernel_rfl) (by kernel_rfl) (by kernel_rfl) (fun _ _ _ h => h) (fun _ h => absurd h (by decide)) (by kernel_rfl) rfl ?_ (HKP.out _ _ r5d q2d) ?_
          rotate_left
          · intro W hSw hC
            try dsimp only at hSw
            go_simp
            try with_reducible rfl
          try simp only [List.setIfInBounds_toArray, List.set_cons_zero, List.set_cons_succ]
          refine Z_take (i := 6) (d := 118) (v := ?_) (Zs := []) rfl rfl (by kernel_rfl) (by kernel_rfl) (by kernel_rfl) (fun _ _ _ h => h) (fun _ h => absurd h (by decide)) (by kernel_rfl) rfl ?_ (HKP.out _ _ r5d q2d) ?_
          rotate_left
          · intro W hSw hC
            try dsimp only at hSw
            go_simp
            try with_reducible rfl
          try simp only [List.setIfInBounds_toArray, List.set_cons_zero, List.set_cons_succ]
          refine wpAnyZ_ready (rs := [7]) (by kernel_rfl) (by simp) ?_
          refine AllReadyZ.cons rfl (fun K hK => ?_) AllReadyZ.nil
          go_simp
          try go_wp2
          have r5a : ∀ o : Obj, (w3.drew.alloc o).cell? ⟨k, 5, none⟩ = some (.slice ag G.length cg) := fun o => (World.cell?_alloc_lt w3.drew o ⟨k, 5, none⟩ rl).trans r5d
          have q2a : ∀ o : Obj, (w3.drew.alloc o).cell? ⟨wr.heap.size, 129, none⟩ = some (.string x.tg) := fun o => (World.cell?_alloc_lt w3.drew o ⟨wr.heap.size, 129, none⟩ kl3).trans q2d
          refine hK.out _ _ (HKP.out _ _ (r5a _) (q2a _)) (fun hHeld => ?_)
          clear hK K hHeld
          try simp only [Act.put, List.setIfInBounds_toArray, List.set_cons_zero, List.set_cons_succ]
          refine wpAnyZ_ready (rs := [8]) (by kernel_rfl) (by simp) ?_
          refine AllReadyZ.cons rfl (fun K hK => ?_) AllReadyZ.nil
          rw [if_pos (by kernel_rfl)]
          refine wp_append_way stOk _ (.tmp 116) (.tmp 119) rfl z vG G x.tg HSg.out.symm (H3.out.wg.at fun q e => Below.heap_alloc _ _ _ (H3.out.wg.lt e).2) w3.heap.size 1 rfl (heap_alloc_last w3.drew _) (by have := H3.out.zz; show z ≤ (w3.drew.alloc _).heap.size; simp; exact Nat.le_trans this (Nat.le_succ _)) hGl.out ?_
          intro v' w4 ho hg hat
          obtain ⟨a', n', c', hv'⟩ : ∃ a' n' c', v' = Value.slice a' n' c' := by obtain ⟨a1, c1, e1⟩ := ho.shape; exact ⟨a1, _, c1, e1⟩
          subst hv'
          have hp4 := H3.out.pushG ho hg hat
          have z1 : w4.cell? ⟨k, 5, none⟩ = some (.slice ag G.length cg) := (World.cell?_of_block (a := ⟨k, 5, none⟩) hp4.2.1).trans r5d
          have z2 : ∀ o, w4.frozen? ⟨k, o, none⟩ = false := fun o => (World.frozen?_of_block (a := ⟨k, o, none⟩) hp4.2.1).trans (rf o)
          have z3 : k < w4.heap.size := by have := hp4.2.2; have h9 : w3.drew.heap.size = w3.heap.size := rfl; omega
          have z4 : w4.cell? ⟨wr.heap.size, 129, none⟩ = some (.string x.tg) := (World.cell?_of_block (a := ⟨wr.heap.size, 129, none⟩) (hg.block _ (by show _ < (w3.drew.alloc _).heap.size; have h9 : w3.drew.heap.size = w3.heap.size := rfl; simp; omega) (fun e => HNo.out e.symm))).trans (q2a _)
          have HI : Hid (InvR z w0 k gs gr N M sec md s Ts vB B n0 e L a b (w4.setCell ⟨k, 5, none⟩ (.slice a' n' c')) O.length) := ⟨_, _, _, _, O, _, _, rfl, hp4.1, HAl.out⟩
          have z5 : (w4.setCell ⟨k, 5, none⟩ (.slice a' n' c')).cell? ⟨wr.heap.size, 129, none⟩ = some (.string x.tg) := (World.cell?_of_block (a := ⟨wr.heap.size, 129, none⟩) (blk_set_other _ _ _ _ HNk.out)).trans z4
          refine hK.out _ _ (HKP.out _ _ z1 z4) (fun hHeld => ?_)
          clear hK K hp4 ho hg hat hHeld r5a q2a
          try simp only [Act.put, List.setIfInBounds_toArray, List.set_cons_zero, List.set_cons_succ]
          refine Z_take (i := 9) (d := 121) (v := ?_) (Zs := []) rfl rfl (by kernel_rfl) (by kernel_rfl) (by kernel_rfl) (fun _ _ _ h => h) (fun _ h => absurd h (by decide)) (by kernel_rfl) rfl ?_ (HKP.out _ _ z1 z4) ?_
          rotate_left
          · intro W hSw hC
            try dsimp only at hSw
            go_simp
            try with_reducible rfl
          try simp only [List.setIfInBounds_toArray, List.set_cons_zero, List.set_cons_succ]
          refine Z_take (i := 10) (d := 122) (v := ?_) (Zs := []) rfl rfl (by kernel_rfl) (by kernel_rfl) (by kernel_rfl) (fun _ _ _ h => h) (fun _ h => absurd h (by decide)) (by kernel_rfl) rfl ?_ (HKP.out _ _ z1 z4) ?_
          rotate_left
          · intro W hSw hC
            try dsimp only at hSw
            go_simp
            try with_reducible rfl
          try simp only [List.setIfInBounds_toArray, List.set_cons_zero, List.set_cons_succ]
          refine wpAnyZ_ready (rs := [11]) (by kernel_rfl) (by simp) ?_
          refine AllReadyZ.cons rfl (fun K hK => ?_) AllReadyZ.nil
          go_simp
          try go_wp2
          refine hK.out _ _ ⟨z5, fun q hq e => by subst e; exact absurd (show (true : Bool) = false from hq) (by decide)⟩ (fun hHeld => ?_)
          clear hK K hHeld
          try simp only [Act.put, List.setIfInBounds_toArray, List.set_cons_zero, List.set_cons_succ]
          refine wpAnyZ_done (by kernel_rfl) ?_ _
          go_wp2
          go_roundw
          case rel => exact ⟨j + 1, O.length, by go_num, by show _ = _; have := hjm.out; have := HMl.out; omega, HI.out⟩
          case measure => rw [HI.out.len, HLen.out, HMl.out]; omega
end
end Go.Proofs.Ytjipcdknkghoaaa
