
/- LinkAgree: what is under way to the sender comes. -/
import Derived.Test.YtjipcdknkghoaaaLAgI
import Derived.Deep.RegionHeld
namespace Go.Proofs.Ytjipcdknkghoaaa
open Go.RowKit Go.Maps
set_option linter.unusedVariables false
set_option linter.unusedSimpArgs false

section
variable {z : Nat} {w0 : World} {k gs gr N M : Nat} {sec : Bool} {md n0 e p L b : Int} {r : Lk} {Tr : List (ByteArray × Dv)} {vO vG : Value} {O : List Itm} {G : List ByteArray}
set_option maxRecDepth 100000 in
set_option maxHeartbeats 16000000 in
theorem comesS (n : Int) (w : World) (m0 : Nat) (h : InvS z w0 k gs gr N M sec md r Tr vO vG O G n0 e p L b w m0) (hM : M ≤ 1000000000) (hm0 : m0 ≤ 1000000000) :
    Calls Try.prog 8 #[.pointer (some ⟨k, 0, none⟩), .int .i64 n, .bool true] w fun e1 w' => e1 = .returned (.bool true) ∧ ∃ m, InvS z w0 k gs gr N M sec md r Tr vO vG O G n0 e p L b w' m ∧ (m = 0 ∨ n + m ≤ m0) := by
  have HX0 := hide h
  have HM := hide hM
  have HM0 := hide hm0
  clear h hM hm0
  go_enter Try.func8, Try.ntmps8
  go_wp2
  go_loopw [7] (fun i wr => ∃ j m : Nat, i = .int .i64 (j : Int) ∧ Hid (j + m = m0) ∧ InvS z w0 k gs gr N M sec md r Tr vO vG O G n0 e p L b wr m) (fun _ wr => wlenC wr k 3)
  case atStart => exact ⟨0, m0, rfl, Nat.zero_add _, HX0.out⟩
  case round =>
    clear HX0
    obtain ⟨j, m, rfl, hjm, hinv⟩ := hrel
    have HLen := hide hinv.len
    have hjb : (j : Int) ≤ 1000000000 := by have := hjm.out; have := HM0.out; omega
    by_cases hjn : (j : Int) < n
    rotate_left
    · have HI := hide hinv
      clear hinv
      go_wp2
      go_ret
      exact ⟨rfl, m, HI.out, .inr (by have := hjm.out; omega)⟩
    obtain ⟨s, Ts, vB, B, a, hm, h, ha⟩ := hinv
    obtain ⟨c0, c1, c2, c3, c4, c5, cf, cl⟩ := h.facts
    cases B with
    | nil =>
      obtain ⟨ax, cx, hsh⟩ : ∃ ax cx, vB = Value.slice ax 0 cx := h.wb.shape
      rw [hsh] at c3
      have HP := hide h
      have HA := hide ha
      clear h ha hsh hm
      go_wp2
      go_ret
      exact ⟨rfl, 0, ⟨s, Ts, vB, [], a, rfl, HP.out.go (bel1 (Below.refl _ _) (Nat.le_refl _) _), HA.out⟩, .inl rfl⟩
    | cons x B =>
      obtain ⟨g, off, cap, av, cv, hv, hcap, hgl, hrg, hcut, hwy, hown⟩ := h.wb.cut itOk
      rw [hv] at c3 hcut
      change ∀ u, (Instr.slice 29 _ _ _ _).run Try.prog u = _ at hcut
      obtain ⟨V1, hV1⟩ : ∃ V1, wr.alloc (.cells ⟨x.enc⟩ 86) = V1 := ⟨_, rfl⟩
      have hb1 : Below wr.heap.size wr V1 := hV1 ▸ bel1 (Below.refl _ _) (Nat.le_refl _) _
      have h1 := h.go hb1
      have hwy1 : Wy itK V1 z (.slice av B.length cv) B := hwy.at fun q e => hb1.block q (hwy.lt e).2
      have hp := h1.popB hwy1 hown
      obtain ⟨V2, hV2⟩ : ∃ V2, V1.setCell ⟨k, 3, none⟩ (.slice av B.length cv) = V2 := ⟨_, rfl⟩
      rw [hV2] at hp
      obtain ⟨d0, d1, d2, d3, d4, d5, df, dl⟩ := h1.facts
      rw [hv] at d3
      have hPk : wr.heap.size ≠ k := fun e => by omega
      have hN1 : V1.heap[wr.heap.size]? = some (.cells ⟨x.enc⟩ 86 (0, 0)) := hV1 ▸ heap_alloc_last wr _
      have hN2 : V2.heap[wr.heap.size]? = some (.cells ⟨x.enc⟩ 86 (0, 0)) := hV2 ▸ (blk_set_other _ _ _ _ hPk).trans hN1
      obtain ⟨kd, kt, kf, kl⟩ := it_cells hN2
      obtain ⟨g0, g1, g2, g3, g4, g5, gf, gl⟩ := hp.facts
      have hgi : tyB V2 wr.heap.size = some 86 := ty_cells hN2
      have hgg : tyB V2 gs = some 84 := ty_cells hp.ls.lb
      have hgm : tyB V2 s.dm = none := hp.ls.tb.ty
      have hNg : wr.heap.size ≠ gs := ne_ty hgi hgg (by decide)
      have hNm : wr.heap.size ≠ s.dm := ne_ty hgi hgm (by decide)
      have hkg : k ≠ gs := ne_ty hp.ty hgg (by decide)
      have hkm : k ≠ s.dm := ne_ty hp.ty hgm (by decide)
      have HV1 := hide hV1
      have HV2 := hide hV2
      have HN2 := hide hN2
      have HRg : Hid (∀ o : Obj, (wr.alloc o).rangeAt g off x.enc) := fun o q v hv => (World.cell?_alloc_lt wr o ⟨g, off + q, none⟩ hgl).trans (hrg q v hv)
      have H2 := hide (hp.go (bel_drew V2))
      have HMl : Hid (m = B.length + 1) := hm.symm
      have hSn : (keys Ts).Nodup := h.ls.tb.nodup
      have hTs : Hid (Ts.length ≤ 1000000000) := by show _ ≤ _; have := ha.tg.lt; have := ha.ln; have := HM.out; omega
      have hk05 : x.k = 0 ∨ x.k = 5 := by
        rcases ha.tg.bW x (by simp) with ⟨e1, _⟩ | ⟨e1, _⟩
        · exact .inr e1
        · exact .inl e1
      clear h hV1 hV2 hb1 h1 hwy hwy1 hp hown hv hrg hm hgi hgg hgm hN1 hN2
      rcases hk05 with hk0 | hk5
      · obtain ⟨f, f1, f2, f3, f4, a', hAl⟩ := ha.heard hk0
        rw [hk0] at kd
        have hfA : x.fA = f.flow 3 := by unfold Itm.fA; rw [f1, f2]; rfl
        have hPf : PfL x.fA 19 f.ct f.cr (if f.rc then -1 else f.av) f.dr := by
          rw [hfA]
          exact Lk.flow_pf f 3
        have HG : Hid (Calls Try.prog 21 #[.pointer (some ⟨gs, 0, none⟩), .agg x.fA] V2.drew fun e1 w3 => e1 = .returned (.int .i64 0) ∧ Hid (LB w3 gs (s.hearR f.ct f.cr f.dr) ∧ Kp (fun q => q = gs) V2.drew w3) ∧ (w3.cell? ⟨k, 0, none⟩ = some (.pointer (some ⟨gs, 0, none⟩)) ∧ w3.heap[wr.heap.size]? = some (.cells ⟨x.enc⟩ 86 (0, 0)))) :=
          (flow_send gs s x.fA f.ct f.cr _ f.dr V2.drew H2.out.ls.lb hPf (by rw [Try.infoPf, fA_size]) ha.lf.sr (by omega) (by omega)).mono fun e1 w3 ⟨e2, s1, k1⟩ => ⟨e2, ⟨s1, k1⟩, (k1.cell (b := k) (o := 0) gl hkg).trans g0, (k1.block (k := wr.heap.size) kl hNg).trans HN2.out⟩
        have HS2 : Hid (V2.drew.cell? ⟨k, 0, none⟩ = some (.pointer (some ⟨gs, 0, none⟩)) ∧ V2.drew.heap[wr.heap.size]? = some (.cells ⟨x.enc⟩ 86 (0, 0))) := ⟨g0, HN2.out⟩
        have HAl := hide hAl
        clear ha f1 f2 f3 f4 hAl hk0 hPf hfA hSn hNg hNm hkg hkm
        go_wp2_with (first | rw [HV2.out] | (refine wpList_load_mid rfl 86 (.tmp 29) rfl g off rfl x.enc _ (HRg.out _) Try.underlying86 rfl (by rw [Try.infoIs, it_len]) ?_) | (refine wpList_store_row rfl 86 (.tmp 8) (.tmp 30) rfl wr.heap.size ⟨x.enc⟩ rfl rfl 86 _ (heap_alloc_last wr _) (by rw [Try.infoIs, it_size]) (by rw [it_size]; rfl) (itA_all x) ?_; rw [World.setRow_alloc_new, HV1.out]))
        refine wp_region_held_drew (S := fun W => W.cell? ⟨k, 0, none⟩ = some (.pointer (some ⟨gs, 0, none⟩)) ∧ W.heap[wr.heap.size]? = some (.cells ⟨x.enc⟩ 86 (0, 0))) (by kernel_rfl) HS2.out (fun hHeld => ?_)
        refine take_do (i := 0) (d := 42) (v := ?_) rfl rfl (by kernel_rfl) (by kernel_rfl) (by kernel_rfl) (fun _ _ _ h => h) rfl ?_ (by assumption) ?_
        rotate_left
        · intro W hSw
          try dsimp only at hSw
          go_simp
          try with_reducible rfl
        try simp only [List.setIfInBounds_toArray, List.set_cons_zero, List.set_cons_succ]
        refine take_do (i := 1) (d := 43) (v := ?_) rfl rfl (by kernel_rfl) (by kernel_rfl) (by kernel_rfl) (fun _ _ _ h => h) rfl ?_ (by assumption) ?_
        rotate_left
        · intro W hSw
          try dsimp only at hSw
          go_simp
          try with_reducible rfl
        try simp only [List.setIfInBounds_toArray, List.set_cons_zero, List.set_cons_succ]
        refine take_do (i := 2) (d := 44) (v := ?_) rfl rfl (by kernel_rfl) (by kernel_rfl) (by kernel_rfl) (fun _ _ _ h => h) rfl ?_ (by assumption) ?_
        rotate_left
        · intro W hSw
          try dsimp only at hSw
          go_simp
          try with_reducible rfl
        try simp only [List.setIfInBounds_toArray, List.set_cons_zero, List.set_cons_succ]
        refine take_do (i := 3) (d := 45) (v := ?_) rfl rfl (by kernel_rfl) (by kernel_rfl) (by kernel_rfl) (fun _ _ _ h => h) rfl ?_ (by assumption) ?_
        rotate_left
        · intro W hSw
          try dsimp only at hSw
          go_simp
          try with_reducible rfl
        try simp only [List.setIfInBounds_toArray, List.set_cons_zero, List.set_cons_succ]
        refine take_do (i := 4) (d := 46) (v := ?_) rfl rfl (by kernel_rfl) (by kernel_rfl) (by kernel_rfl) (fun _ _ _ h => h) rfl ?_ (by assumption) ?_
        rotate_left
        · intro W hSw
          try dsimp only at hSw
          go_simp
          try with_reducible rfl
        try simp only [List.setIfInBounds_toArray, List.set_cons_zero, List.set_cons_succ]
        refine take_do (i := 5) (d := 47) (v := ?_) rfl rfl (by kernel_rfl) (by kernel_rfl) (by kernel_rfl) (fun _ _ _ h => h) rfl ?_ (by assumption) ?_
        rotate_left
        · intro W hSw
          refine (mid_run W _ 57 (.tmp 46) ?_ wr.heap.size 1 x.fA.toList ?_ (it_range hSw.2) _ Try.underlying57 rfl (fA_len x)).trans ?_ <;> rfl
        try simp only [List.setIfInBounds_toArray, List.set_cons_zero, List.set_cons_succ]
        refine wpAnyH_ready (rs := [6]) (by kernel_rfl) (by simp) ?_
        refine AllReadyH.cons rfl (fun K hK => ?_) AllReadyH.nil
        go_simp
        go_wp2_with (go_at_call 21; refine HG.out.mono ?_; rintro e3 w3 ⟨rfl, hM3, hs3⟩)
        refine hK.out _ _ hs3 (fun hHeld => ?_)
        clear hK K
        try simp only [Act.put, List.setIfInBounds_toArray, List.set_cons_zero, List.set_cons_succ]
        refine take_do (i := 7) (d := 9) (v := ?_) rfl rfl (by kernel_rfl) (by kernel_rfl) (by kernel_rfl) (fun _ _ _ h => h) rfl ?_ (by assumption) ?_
        rotate_left
        · intro W hSw
          try dsimp only at hSw
          go_simp
          try with_reducible rfl
        try simp only [List.setIfInBounds_toArray, List.set_cons_zero, List.set_cons_succ]
        refine wpAnyH_done (by kernel_rfl) ?_ _
        have H3 := hide (H2.out.sender (H2.out.ls.turn hM3.out.1 rfl hM3.out.2) rfl (kpL hM3.out.2))
        have HI : Hid (InvS z w0 k gs gr N M sec md r Tr vO vG O G n0 e p L b w3 B.length) := ⟨_, Ts, _, B, a', rfl, H3.out, HAl.out⟩
        clear hM3 hs3 HG HS2
        go_wp2
        go_roundw
        case rel => exact ⟨j + 1, B.length, by go_num, by show _ = _; have := hjm.out; have := HMl.out; omega, HI.out⟩
        case measure => rw [HI.out.len, HLen.out, HMl.out]; omega
      · obtain ⟨hfl, hfg, t1, t2, ⟨q, t3⟩, t4, t5⟩ := ha.said hSn hk5
        rw [hk5] at kd
        have hsc : sec = false ∨ sec = true := by cases sec <;> simp
        rcases hsc with hs | hs
        · have hAl := t4 hs
          have hrm : s.rm ≠ 1 := by rw [ha.lf.sq, hs]; decide
          rw [hfg, hs] at kf
          clear t5 t4
          have t4 := hs
          change V2.cell? ⟨wr.heap.size, 130, none⟩ = some (.bool true) at kf
          have HG : Hid (Calls Try.prog 25 #[.pointer (some ⟨gs, 0, none⟩), .string x.tg, .agg (stA 36), .bool true] V2.drew fun e1 w3 => e1 = .returned (.tuple #[.bool true, .int .i64 0]) ∧ Hid (Lnk w3 gs s (del Ts x.tg) ∧ Kp (fun q => q = s.dm) V2.drew w3) ∧ (w3.cell? ⟨k, 0, none⟩ = some (.pointer (some ⟨gs, 0, none⟩)) ∧ w3.cell? ⟨wr.heap.size, 129, none⟩ = some (.string x.tg) ∧ w3.cell? ⟨wr.heap.size, 130, none⟩ = some (.bool true))) :=
            (peer_settled gs s Ts x.tg q 0 36 V2.drew H2.out.ls (by unfold maxLen; omega) t2 t3 (by decide) ha.lf.sr hrm).mono fun e1 w3 ⟨e2, s1, k1⟩ => ⟨e2, ⟨s1, k1⟩, (k1.cell (b := k) (o := 0) gl hkm).trans g0, (k1.cell (b := wr.heap.size) (o := 129) kl hNm).trans kt, (k1.cell (b := wr.heap.size) (o := 130) kl hNm).trans kf⟩
          have HS2 : Hid (V2.drew.cell? ⟨k, 0, none⟩ = some (.pointer (some ⟨gs, 0, none⟩)) ∧ V2.drew.cell? ⟨wr.heap.size, 129, none⟩ = some (.string x.tg) ∧ V2.drew.cell? ⟨wr.heap.size, 130, none⟩ = some (.bool true)) := ⟨g0, kt, kf⟩
          have HAl := hide hAl
          clear ha t1 t2 t3 t4 hAl hk5 hSn hNg hNm hkg hkm hfg hfl
          go_wp2_with (first | rw [HV2.out] | (refine wpList_load_mid rfl 86 (.tmp 29) rfl g off rfl x.enc _ (HRg.out _) Try.underlying86 rfl (by rw [Try.infoIs, it_len]) ?_) | (refine wpList_store_row rfl 86 (.tmp 8) (.tmp 30) rfl wr.heap.size ⟨x.enc⟩ rfl rfl 86 _ (heap_alloc_last wr _) (by rw [Try.infoIs, it_size]) (by rw [it_size]; rfl) (itA_all x) ?_; rw [World.setRow_alloc_new, HV1.out]))
          refine wp_region_held_drew (S := fun W => W.cell? ⟨k, 0, none⟩ = some (.pointer (some ⟨gs, 0, none⟩)) ∧ W.cell? ⟨wr.heap.size, 129, none⟩ = some (.string x.tg) ∧ W.cell? ⟨wr.heap.size, 130, none⟩ = some (.bool true)) (by kernel_rfl) HS2.out (fun hHeld => ?_)
          refine take_do (i := 0) (d := 50) (v := ?_) rfl rfl (by kernel_rfl) (by kernel_rfl) (by kernel_rfl) (fun _ _ _ h => h) rfl ?_ (by assumption) ?_
          rotate_left
          · intro W hSw
            try dsimp only at hSw
            go_simp
            try with_reducible rfl
          try simp only [List.setIfInBounds_toArray, List.set_cons_zero, List.set_cons_succ]
          refine take_do (i := 1) (d := 51) (v := ?_) rfl rfl (by kernel_rfl) (by kernel_rfl) (by kernel_rfl) (fun _ _ _ h => h) rfl ?_ (by assumption) ?_
          rotate_left
          · intro W hSw
            try dsimp only at hSw
            go_simp
            try with_reducible rfl
          try simp only [List.setIfInBounds_toArray, List.set_cons_zero, List.set_cons_succ]
          refine take_do (i := 2) (d := 52) (v := ?_) rfl rfl (by kernel_rfl) (by kernel_rfl) (by kernel_rfl) (fun _ _ _ h => h) rfl ?_ (by assumption) ?_
          rotate_left
          · intro W hSw
            try dsimp only at hSw
            go_simp
            try with_reducible rfl
          try simp only [List.setIfInBounds_toArray, List.set_cons_zero, List.set_cons_succ]
          refine take_do (i := 3) (d := 53) (v := ?_) rfl rfl (by kernel_rfl) (by kernel_rfl) (by kernel_rfl) (fun _ _ _ h => h) rfl ?_ (by assumption) ?_
          rotate_left
          · intro W hSw
            try dsimp only at hSw
            go_simp
            try with_reducible rfl
          try simp only [List.setIfInBounds_toArray, List.set_cons_zero, List.set_cons_succ]
          refine take_do (i := 4) (d := 54) (v := ?_) rfl rfl (by kernel_rfl) (by kernel_rfl) (by kernel_rfl) (fun _ _ _ h => h) rfl ?_ (by assumption) ?_
          rotate_left
          · intro W hSw
            try dsimp only at hSw
            go_simp
            try with_reducible rfl
          try simp only [List.setIfInBounds_toArray, List.set_cons_zero, List.set_cons_succ]
          refine take_do (i := 5) (d := 55) (v := ?_) rfl rfl (by kernel_rfl) (by kernel_rfl) (by kernel_rfl) (fun _ _ _ h => h) rfl ?_ (by assumption) ?_
          rotate_left
          · intro W hSw
            try dsimp only at hSw
            go_simp
            try with_reducible rfl
          try simp only [List.setIfInBounds_toArray, List.set_cons_zero, List.set_cons_succ]
          refine take_do (i := 6) (d := 56) (v := .agg (stA 36)) rfl rfl (by kernel_rfl) (by kernel_rfl) (by kernel_rfl) (fun _ _ _ h => h) rfl ?_ (by assumption) ?_
          · intro W hSw
            exact built_run W 53 _ _ (by kernel_rfl)
          try simp only [List.setIfInBounds_toArray, List.set_cons_zero, List.set_cons_succ]
          refine take_do (i := 7) (d := 57) (v := ?_) rfl rfl (by kernel_rfl) (by kernel_rfl) (by kernel_rfl) (fun _ _ _ h => h) rfl ?_ (by assumption) ?_
          rotate_left
          · intro W hSw
            try dsimp only at hSw
            go_simp
            try with_reducible rfl
          try simp only [List.setIfInBounds_toArray, List.set_cons_zero, List.set_cons_succ]
          refine take_do (i := 8) (d := 58) (v := ?_) rfl rfl (by kernel_rfl) (by kernel_rfl) (by kernel_rfl) (fun _ _ _ h => h) rfl ?_ (by assumption) ?_
          rotate_left
          · intro W hSw
            try dsimp only at hSw
            go_simp
            try with_reducible rfl
          try simp only [List.setIfInBounds_toArray, List.set_cons_zero, List.set_cons_succ]
          refine wpAnyH_ready (rs := [9]) (by kernel_rfl) (by simp) ?_
          refine AllReadyH.cons rfl (fun K hK => ?_) AllReadyH.nil
          go_simp
          go_wp2_with (go_at_call 25; refine HG.out.mono ?_; rintro e3 w3 ⟨rfl, hM3, hs3⟩)
          refine hK.out _ _ hs3 (fun hHeld => ?_)
          clear hK K
          try simp only [Act.put, List.setIfInBounds_toArray, List.set_cons_zero, List.set_cons_succ]
          refine take_do (i := 10) (d := 49) (v := ?_) rfl rfl (by kernel_rfl) (by kernel_rfl) (by kernel_rfl) (fun _ _ _ h => h) rfl ?_ (by assumption) ?_
          rotate_left
          · intro W hSw
            try dsimp only at hSw
            go_simp
            try with_reducible rfl
          try simp only [List.setIfInBounds_toArray, List.set_cons_zero, List.set_cons_succ]
          refine take_do (i := 11) (d := 60) (v := ?_) rfl rfl (by kernel_rfl) (by kernel_rfl) (by kernel_rfl) (fun _ _ _ h => h) rfl ?_ (by assumption) ?_
          rotate_left
          · intro W hSw
            try dsimp only at hSw
            go_simp
            try with_reducible rfl
          try simp only [List.setIfInBounds_toArray, List.set_cons_zero, List.set_cons_succ]
          refine take_do (i := 12) (d := 61) (v := ?_) rfl rfl (by kernel_rfl) (by kernel_rfl) (by kernel_rfl) (fun _ _ _ h => h) rfl ?_ (by assumption) ?_
          rotate_left
          · intro W hSw
            try dsimp only at hSw
            go_simp
            try with_reducible rfl
          try simp only [List.setIfInBounds_toArray, List.set_cons_zero, List.set_cons_succ]
          refine take_do (i := 13) (d := 10) (v := ?_) rfl rfl (by kernel_rfl) (by kernel_rfl) (by kernel_rfl) (fun _ _ _ h => h) rfl ?_ (by assumption) ?_
          rotate_left
          · intro W hSw
            try dsimp only at hSw
            go_simp
            try with_reducible rfl
          try simp only [List.setIfInBounds_toArray, List.set_cons_zero, List.set_cons_succ]
          refine take_do (i := 14) (d := 9) (v := ?_) rfl rfl (by kernel_rfl) (by kernel_rfl) (by kernel_rfl) (fun _ _ _ h => h) rfl ?_ (by assumption) ?_
          rotate_left
          · intro W hSw
            try dsimp only at hSw
            go_simp
            try with_reducible rfl
          try simp only [List.setIfInBounds_toArray, List.set_cons_zero, List.set_cons_succ]
          refine wpAnyH_done (by kernel_rfl) ?_ _
          have H3 := hide (H2.out.sender hM3.out.1 rfl (hM3.out.2.mono fun _ e => .inr e))
          have HI : Hid (InvS z w0 k gs gr N M sec md r Tr vO vG O G n0 e p L b w3 B.length) := ⟨s, _, _, B, a, rfl, H3.out, HAl.out⟩
          clear hM3 hs3 HG HS2
          go_wp2
          go_roundw
          case rel => exact ⟨j + 1, B.length, by go_num, by show _ = _; have := hjm.out; have := HMl.out; omega, HI.out⟩
          case measure => rw [HI.out.len, HLen.out, HMl.out]; omega
        · have hAl := t5 hs (q, 36)
          rw [hfg, hs] at kf
          clear t5 t4
          have t4 := hs
          change V2.cell? ⟨wr.heap.size, 130, none⟩ = some (.bool false) at kf
          have HG : Hid (Calls Try.prog 25 #[.pointer (some ⟨gs, 0, none⟩), .string x.tg, .agg (stA 36), .bool false] V2.drew fun e1 w3 => e1 = .returned (.tuple #[.bool true, .int .i64 0]) ∧ Hid (Lnk w3 gs s ((x.tg, (q, 36)) :: del Ts x.tg) ∧ Kp (fun q => q = s.dm) V2.drew w3) ∧ (w3.cell? ⟨k, 0, none⟩ = some (.pointer (some ⟨gs, 0, none⟩)) ∧ w3.cell? ⟨wr.heap.size, 129, none⟩ = some (.string x.tg) ∧ w3.cell? ⟨wr.heap.size, 130, none⟩ = some (.bool false))) :=
            (peer_open gs s Ts x.tg q 0 36 V2.drew H2.out.ls (by unfold maxLen; omega) t2 t3 (by decide) (by decide) (by have := hTs.out; unfold maxLen; omega)).mono fun e1 w3 ⟨e2, s1, k1⟩ => ⟨e2, ⟨s1, k1⟩, (k1.cell (b := k) (o := 0) gl hkm).trans g0, (k1.cell (b := wr.heap.size) (o := 129) kl hNm).trans kt, (k1.cell (b := wr.heap.size) (o := 130) kl hNm).trans kf⟩
          have HS2 : Hid (V2.drew.cell? ⟨k, 0, none⟩ = some (.pointer (some ⟨gs, 0, none⟩)) ∧ V2.drew.cell? ⟨wr.heap.size, 129, none⟩ = some (.string x.tg) ∧ V2.drew.cell? ⟨wr.heap.size, 130, none⟩ = some (.bool false)) := ⟨g0, kt, kf⟩
          have HAl := hide hAl
          clear ha t1 t2 t3 t4 hAl hk5 hSn hNg hNm hkg hkm hfg hfl
          go_wp2_with (first | rw [HV2.out] | (refine wpList_load_mid rfl 86 (.tmp 29) rfl g off rfl x.enc _ (HRg.out _) Try.underlying86 rfl (by rw [Try.infoIs, it_len]) ?_) | (refine wpList_store_row rfl 86 (.tmp 8) (.tmp 30) rfl wr.heap.size ⟨x.enc⟩ rfl rfl 86 _ (heap_alloc_last wr _) (by rw [Try.infoIs, it_size]) (by rw [it_size]; rfl) (itA_all x) ?_; rw [World.setRow_alloc_new, HV1.out]))
          refine wp_region_held_drew (S := fun W => W.cell? ⟨k, 0, none⟩ = some (.pointer (some ⟨gs, 0, none⟩)) ∧ W.cell? ⟨wr.heap.size, 129, none⟩ = some (.string x.tg) ∧ W.cell? ⟨wr.heap.size, 130, none⟩ = some (.bool false)) (by kernel_rfl) HS2.out (fun hHeld => ?_)
          refine take_do (i := 0) (d := 50) (v := ?_) rfl rfl (by kernel_rfl) (by kernel_rfl) (by kernel_rfl) (fun _ _ _ h => h) rfl ?_ (by assumption) ?_
          rotate_left
          · intro W hSw
            try dsimp only at hSw
            go_simp
            try with_reducible rfl
          try simp only [List.setIfInBounds_toArray, List.set_cons_zero, List.set_cons_succ]
          refine take_do (i := 1) (d := 51) (v := ?_) rfl rfl (by kernel_rfl) (by kernel_rfl) (by kernel_rfl) (fun _ _ _ h => h) rfl ?_ (by assumption) ?_
          rotate_left
          · intro W hSw
            try dsimp only at hSw
            go_simp
            try with_reducible rfl
          try simp only [List.setIfInBounds_toArray, List.set_cons_zero, List.set_cons_succ]
          refine take_do (i := 2) (d := 52) (v := ?_) rfl rfl (by kernel_rfl) (by kernel_rfl) (by kernel_rfl) (fun _ _ _ h => h) rfl ?_ (by assumption) ?_
          rotate_left
          · intro W hSw
            try dsimp only at hSw
            go_simp
            try with_reducible rfl
          try simp only [List.setIfInBounds_toArray, List.set_cons_zero, List.set_cons_succ]
          refine take_do (i := 3) (d := 53) (v := ?_) rfl rfl (by kernel_rfl) (by kernel_rfl) (by kernel_rfl) (fun _ _ _ h => h) rfl ?_ (by assumption) ?_
          rotate_left
          · intro W hSw
            try dsimp only at hSw
            go_simp
            try with_reducible rfl
          try simp only [List.setIfInBounds_toArray, List.set_cons_zero, List.set_cons_succ]
          refine take_do (i := 4) (d := 54) (v := ?_) rfl rfl (by kernel_rfl) (by kernel_rfl) (by kernel_rfl) (fun _ _ _ h => h) rfl ?_ (by assumption) ?_
          rotate_left
          · intro W hSw
            try dsimp only at hSw
            go_simp
            try with_reducible rfl
          try simp only [List.setIfInBounds_toArray, List.set_cons_zero, List.set_cons_succ]
          refine take_do (i := 5) (d := 55) (v := ?_) rfl rfl (by kernel_rfl) (by kernel_rfl) (by kernel_rfl) (fun _ _ _ h => h) rfl ?_ (by assumption) ?_
          rotate_left
          · intro W hSw
            try dsimp only at hSw
            go_simp
            try with_reducible rfl
          try simp only [List.setIfInBounds_toArray, List.set_cons_zero, List.set_cons_succ]
          refine take_do (i := 6) (d := 56) (v := .agg (stA 36)) rfl rfl (by kernel_rfl) (by kernel_rfl) (by kernel_rfl) (fun _ _ _ h => h) rfl ?_ (by assumption) ?_
          · intro W hSw
            exact built_run W 53 _ _ (by kernel_rfl)
          try simp only [List.setIfInBounds_toArray, List.set_cons_zero, List.set_cons_succ]
          refine take_do (i := 7) (d := 57) (v := ?_) rfl rfl (by kernel_rfl) (by kernel_rfl) (by kernel_rfl) (fun _ _ _ h => h) rfl ?_ (by assumption) ?_
          rotate_left
          · intro W hSw
            try dsimp only at hSw
            go_simp
            try with_reducible rfl
          try simp only [List.setIfInBounds_toArray, List.set_cons_zero, List.set_cons_succ]
          refine take_do (i := 8) (d := 58) (v := ?_) rfl rfl (by kernel_rfl) (by kernel_rfl) (by kernel_rfl) (fun _ _ _ h => h) rfl ?_ (by assumption) ?_
          rotate_left
          · intro W hSw
            try dsimp only at hSw
            go_simp
            try with_reducible rfl
          try simp only [List.setIfInBounds_toArray, List.set_cons_zero, List.set_cons_succ]
          refine wpAnyH_ready (rs := [9]) (by kernel_rfl) (by simp) ?_
          refine AllReadyH.cons rfl (fun K hK => ?_) AllReadyH.nil
          go_simp
          go_wp2_with (go_at_call 25; refine HG.out.mono ?_; rintro e3 w3 ⟨rfl, hM3, hs3⟩)
          refine hK.out _ _ hs3 (fun hHeld => ?_)
          clear hK K
          try simp only [Act.put, List.setIfInBounds_toArray, List.set_cons_zero, List.set_cons_succ]
          refine take_do (i := 10) (d := 49) (v := ?_) rfl rfl (by kernel_rfl) (by kernel_rfl) (by kernel_rfl) (fun _ _ _ h => h) rfl ?_ (by assumption) ?_
          rotate_left
          · intro W hSw
            try dsimp only at hSw
            go_simp
            try with_reducible rfl
          try simp only [List.setIfInBounds_toArray, List.set_cons_zero, List.set_cons_succ]
          refine take_do (i := 11) (d := 60) (v := ?_) rfl rfl (by kernel_rfl) (by kernel_rfl) (by kernel_rfl) (fun _ _ _ h => h) rfl ?_ (by assumption) ?_
          rotate_left
          · intro W hSw
            try dsimp only at hSw
            go_simp
            try with_reducible rfl
          try simp only [List.setIfInBounds_toArray, List.set_cons_zero, List.set_cons_succ]
          refine take_do (i := 12) (d := 61) (v := ?_) rfl rfl (by kernel_rfl) (by kernel_rfl) (by kernel_rfl) (fun _ _ _ h => h) rfl ?_ (by assumption) ?_
          rotate_left
          · intro W hSw
            try dsimp only at hSw
            go_simp
            try with_reducible rfl
          try simp only [List.setIfInBounds_toArray, List.set_cons_zero, List.set_cons_succ]
          refine take_do (i := 13) (d := 10) (v := ?_) rfl rfl (by kernel_rfl) (by kernel_rfl) (by kernel_rfl) (fun _ _ _ h => h) rfl ?_ (by assumption) ?_
          rotate_left
          · intro W hSw
            try dsimp only at hSw
            go_simp
            try with_reducible rfl
          try simp only [List.setIfInBounds_toArray, List.set_cons_zero, List.set_cons_succ]
          refine take_do (i := 14) (d := 9) (v := ?_) rfl rfl (by kernel_rfl) (by kernel_rfl) (by kernel_rfl) (fun _ _ _ h => h) rfl ?_ (by assumption) ?_
          rotate_left
          · intro W hSw
            try dsimp only at hSw
            go_simp
            try with_reducible rfl
          try simp only [List.setIfInBounds_toArray, List.set_cons_zero, List.set_cons_succ]
          refine wpAnyH_done (by kernel_rfl) ?_ _
          have H3 := hide (H2.out.sender hM3.out.1 rfl (hM3.out.2.mono fun _ e => .inr e))
          have HI : Hid (InvS z w0 k gs gr N M sec md r Tr vO vG O G n0 e p L b w3 B.length) := ⟨s, _, _, B, a, rfl, H3.out, HAl.out⟩
          clear hM3 hs3 HG HS2
          go_wp2
          go_roundw
          case rel => exact ⟨j + 1, B.length, by go_num, by show _ = _; have := hjm.out; have := HMl.out; omega, HI.out⟩
          case measure => rw [HI.out.len, HLen.out, HMl.out]; omega
end
end Go.Proofs.Ytjipcdknkghoaaa
