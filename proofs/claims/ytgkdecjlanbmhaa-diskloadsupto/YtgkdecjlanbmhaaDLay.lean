
/- Stage 19: bytes are laid behind a file's end. -/
import Derived.Test.YtgkdecjlanbmhaaDPut
namespace Go.Proofs.Ytgkdecjlanbmhaa
open Go.RowKit Go.Maps
set_option linter.unusedVariables false
set_option linter.unusedSimpArgs false
/-- the bytes of the file of that name, and how many of them are safe -/
def dat (k : ByteArray) (F : List Fi) : List Nat × Nat := match F.find? (fun f => decide (f.1 = k)) with | some f => f.2 | none => ([], 0)
theorem dat_none {k : ByteArray} {F : List Fi} (h : k ∉ F.map (·.1)) : dat k F = ([], 0) := by
  unfold dat
  rw [List.find?_eq_none.2 (fun x hx => by simp only [decide_eq_true_eq]; exact fun e => h (e ▸ List.mem_map_of_mem hx))]
theorem dat_mem {k : ByteArray} {F : List Fi} {f : Fi} (hn : (F.map (·.1)).Nodup) (h : f ∈ F) (hk : f.1 = k) : dat k F = f.2 := by
  unfold dat
  rw [find_mem hn h hk]
section
variable {S T : Nat → Prop} {w w' : World} {d m : Nat} {x : Dx} {E : List En} {k : ByteArray} {e : En}
theorem lay_app (hD : DkS S w d m x (e :: E)) (t : List Nat) : ∀ v' w3, Ob 0 w3 v' (e.f.2.1 ++ t) → w.grownBy w3 e.v.ownBlock → Whe w e.v v' →
    FB w3 e.p e.v e.f.2.2 ∧ w3.cell? ⟨d, 4, none⟩ = some (.int .i64 x.used) ∧ w3.frozen? ⟨d, 4, none⟩ = false ∧
    DkS (Sx S w w3) ((w3.setCell ⟨e.p, 0, none⟩ v').setCell ⟨d, 4, none⟩ (.int .i64 (x.used + (t.length : Int)))) d m { x with used := x.used + (t.length : Int) } (⟨(e.f.1, e.f.2.1 ++ t, e.f.2.2), e.p, v'⟩ :: E) ∧
    Kp S w ((w3.setCell ⟨e.p, 0, none⟩ v').setCell ⟨d, 4, none⟩ (.int .i64 (x.used + (t.length : Int)))) := by
  intro v' w3 h1 h2 h3
  have he := hD.ens e List.mem_cons_self
  have hFB : FB w e.p e.v e.f.2.2 := he.2.1
  have hp3 : w3.heap[e.p]? = w.heap[e.p]? := h2.block e.p he.lt (fun e' => he.g_ne e'.symm he.2.1 (by decide) rfl)
  have hd3 : w3.heap[d]? = w.heap[d]? := h2.block d hD.lt (fun e' => he.g_ne e'.symm hD.blk (by decide) rfl)
  have hFB3 : FB w3 e.p e.v e.f.2.2 := hp3.trans hFB
  have hst : ∀ q, S q → Sx S w w3 q := fun q h => .inl h
  have hD4 : DkS (Sx S w w3) (w3.setCell ⟨e.p, 0, none⟩ v') d m x (⟨(e.f.1, e.f.2.1 ++ t, e.f.2.2), e.p, v'⟩ :: E) := by
    refine hD.setf rfl rfl hst ⟨hst _ he.1, hFB3.set0 v', ob_set h1 hFB3 0 _, fun g hg => ?_, he.2.2.2.2⟩ h3 (fun q hq hqp hqg => ?_)
    · rcases h3 g hg with h | h
      · exact hst _ (he.2.2.2.1 g h)
      · exact .inr ⟨h, (h1.lt g hg).2⟩
    · rw [blk_set_other _ _ _ _ hqp]
      exact h2.block q hq (fun e' => hqg e'.symm)
  refine ⟨hFB3, ?_, ?_, hD4.setx 4 _ _ rfl, ?_⟩
  · exact (World.cell?_of_block (a := ⟨d, 4, none⟩) hd3).trans (hD.cell 4 _ rfl)
  · exact frozen_of (hd3.trans hD.blk) 4
  · refine (((Kp.refl S w).grown h2 (fun j hj => .inl (he.2.2.2.1 j hj))).setCell he.1 _).setCell hD.sd _
end
/-- what a lay leaves -/
def Laid (S : Nat → Prop) (w : World) (d m : Nat) (x : Dx) (E : List En) (k : ByteArray) (t : List Nat) (p : Nat) (w' : World) : Prop :=
  ∃ v', DkS (Sx S w w') w' d m { x with used := x.used + (t.length : Int) } (⟨(k, (dat k (E.map En.f)).1 ++ t, (dat k (E.map En.f)).2), p, v'⟩ :: wo k E) ∧ Kp S w w'
theorem Sx.trans {S : Nat → Prop} {w w1 w2 : World} (h1 : w.heap.size ≤ w1.heap.size) (h2 : w1.heap.size ≤ w2.heap.size) {k : Nat} (h : Sx (Sx S w w1) w1 w2 k) : Sx S w w2 k := by
  rcases h with (h | h) | h
  · exact .inl h
  · exact .inr ⟨h.1, by omega⟩
  · exact .inr ⟨by omega, h.2⟩
set_option maxHeartbeats 4000000 in
set_option maxRecDepth 100000 in
theorem lay_any (S : Nat → Prop) (w : World) (d m : Nat) (x : Dx) (E : List En) (hD : DkS S w d m x E) (hS : ∀ k, S k → k < w.heap.size) (k : ByteArray) (hk : nm k = true) (u : Value) (t : List Nat) (hr : Rb w u t) (hu : x.used = (usd (E.map En.f) : Int)) (hm : usd (E.map En.f) + t.length ≤ 16777216) (hn : E.length + 1 ≤ maxLen) :
    Calls Try.prog 51 #[.pointer (some ⟨d, 0, none⟩), .string k, u] w fun e w' => ∃ p, e = .returned (pV p) ∧ Laid S w d m x E k t p w' := by
  have hlk := look_run hD.tab (nm_size hk)
  have c2 : w.cell? ⟨d, 2, none⟩ = some (.map (some m)) := hD.cell 2 _ rfl
  have hnm : ((E.map En.f).map (·.1)).Nodup := by rw [List.map_map]; exact hD.names
  have hw1 : IntKind.i64.wrap (x.used + (t.length : Int)) = x.used + (t.length : Int) := by rw [IntKind.wrap_i64]; omega
  obtain ⟨ua, uc, rfl, _⟩ : ∃ a c, u = .slice a t.length c ∧ True := by obtain ⟨a, c, e, _⟩ := hr; exact ⟨a, c, e, trivial⟩
  rcases luV_cases (E.map fun e => (e.f.1, e.p)) k hD.tab.nodup with ⟨q1, q2⟩ | ⟨p, q1, q2⟩
  · rw [q2] at hlk
    rw [List.map_map] at q1
    have q3 : k ∉ (E.map En.f).map (·.1) := by rw [List.map_map]; exact q1
    have hdat := dat_none q3
    obtain ⟨W1, hW1⟩ : ∃ W1, W1 = w.alloc (.cells #[.slice none 0 0, .int .i64 0] 91) := ⟨_, rfl⟩
    have hz1 : W1.heap.size = w.heap.size + 1 := by rw [hW1]; simp
    have hb1 : Below w.heap.size w W1 := by rw [hW1]; exact bel1 (Below.refl _ _) (Nat.le_refl _) _
    have hB1 : W1.heap[w.heap.size]? = some (.cells (flA (.slice none 0 0) 0) 91 (0, 0)) := by rw [hW1]; exact heap_new _ _
    have hD1 : DkS (Sx S w W1) W1 d m x E := (hD.keep (fun q hq => hb1.block q (hS q hq))).mono (fun q hq => .inl hq)
    have hE1 : EnS (Sx S w W1) W1 ⟨(k, [], 0), w.heap.size, .slice none 0 0⟩ := ⟨.inr ⟨Nat.le_refl _, by show w.heap.size < W1.heap.size; omega⟩, hB1, Ob.nil _ _, (fun g hg => by cases hg), hk⟩
    have HPU := hide (put_any (Sx S w W1) W1 d m x E hD1 k hk w.heap.size hn)
    have HQ : Hid (∀ w2, Tb w2 m ((k, w.heap.size) :: tbl (wo k E)) → Kp (fun q => q = m) W1 w2 → DkS (Sx S w W1) w2 d m x (⟨(k, [], 0), w.heap.size, .slice none 0 0⟩ :: E) ∧ Rb w2 (.slice ua t.length uc) t ∧ Kp S w w2) := fun w2 g1 g2 => by
      rw [wo_self q1] at g1
      refine ⟨hD1.add ⟨(k, [], 0), w.heap.size, .slice none 0 0⟩ g1 g2 hE1 (fun hc => ?_) (fun q hq g hg => by cases hg), ?_, ?_⟩
      · obtain ⟨e, he, he2⟩ := List.mem_map.1 hc
        have h9 := hS _ (hD.ens e he).1
        have h8 : e.p = w.heap.size := he2
        omega
      · refine (hr.below hb1).kp g2 (fun b off c hb => ?_)
        subst hb
        rw [hD1.tab.cell_none]
        simp
      · exact (Kp.ofBelow hb1).transN g2 (fun q e => by subst e; exact .inl hD.sm)
    have HW1 := hide hW1
    have HZ1 := hide hz1
    have HWO : Hid (wo k E = E) := wo_self q1
    have HDT := hide hdat
    clear q1 q2 q3 hD hk hu hnm hD1 hE1 hB1 hb1 hW1 hz1 hr hn hdat
    go_enter Try.func51, Try.ntmps51
    go_wp2_with fail
    rw [← HW1.out]
    refine HPU.out.mono ?_
    rintro e w2 ⟨rfl, g1, g2⟩
    have hz2 : W1.heap.size ≤ w2.heap.size := g2.size
    obtain ⟨hD2, hr2, hk2⟩ := HQ.out w2 g1 g2
    have hE0 := hD2.ens _ List.mem_cons_self
    have HO : Hid (Ob 0 w2 (.slice none 0 0) []) := hE0.2.2.1
    have hpd : w.heap.size ≠ d := hE0.ne_d hD2
    have HLA : Hid (∀ v' w3, Ob 0 w3 v' ([] ++ t) → w2.grownBy w3 (Value.slice none 0 0).ownBlock → Whe w2 (.slice none 0 0) v' → FB w3 w.heap.size (.slice none 0 0) 0 ∧ w3.cell? ⟨d, 4, none⟩ = some (.int .i64 x.used) ∧ w3.frozen? ⟨d, 4, none⟩ = false ∧
      DkS (Sx (Sx S w W1) w2 w3) ((w3.setCell ⟨w.heap.size, 0, none⟩ v').setCell ⟨d, 4, none⟩ (.int .i64 (x.used + (t.length : Int)))) d m { x with used := x.used + (t.length : Int) } (⟨(k, [] ++ t, 0), w.heap.size, v'⟩ :: E) ∧
      Kp (Sx S w W1) w2 ((w3.setCell ⟨w.heap.size, 0, none⟩ v').setCell ⟨d, 4, none⟩ (.int .i64 (x.used + (t.length : Int))))) := lay_app hD2 t
    have c0 : w2.cell? ⟨w.heap.size, 0, none⟩ = some (.slice none 0 0) := cellOf hE0.2.1 0 _ rfl
    have HRB := hide hr2
    have HK2 := hide hk2
    have HZ2 := hide hz2
    have HL2 : Hid (([] : List Nat).length + t.length ≤ 140737488355328) := by show ([] : List Nat).length + t.length ≤ 140737488355328; simp; omega
    obtain ⟨pp, hpp⟩ : ∃ pp, pp = w.heap.size := ⟨_, rfl⟩
    rw [← hpp] at c0 hpd HLA ⊢
    have HPP := hide hpp
    clear hD2 hr2 hk2 hE0 g1 g2 HQ HPU hz2 hpp
    go_wp2_with (at_builtin; go_loud (refine wpList_app _ rfl (.tmp 26) (.tmp 27) rfl 0 _ [] rfl HO.out _ t rfl HRB.out HL2.out (Nat.zero_le _) ?_; intro v' w3 r1 r2 r3; obtain ⟨a', c', rfl, hc'⟩ := r1.slice; obtain ⟨s1, s2, s3, s4, s5⟩ := HLA.out _ w3 r1 r2 r3; have d0 := s1.c0; have g0 := s1.frozen 0; simp only [List.nil_append, List.length_append] at s4 s5; have HS4 := hide s4; have HS5 := hide s5; have HZ3 := hide r2.size; clear s1 s4 s5 r1 r2 r3))
    go_ret
    refine ⟨_, rfl, .slice a' t.length c', DkS.mono (S := Sx (Sx S w W1) w2 w3) ?_ (fun q hq => ?_), ?_⟩
    · rw [HDT.out, HWO.out]
      exact HS4.out
    · have h1 := HZ1.out; have h2 := HZ2.out; have h3 := HZ3.out
      rcases hq with (h | h) | h
      · exact .inl h
      · exact .inr ⟨h.1, by simp; omega⟩
      · exact .inr ⟨by omega, by simpa using h.2⟩
    · refine HK2.out.transN HS5.out (fun q hq => ?_)
      rcases hq with h | h
      · exact .inl h
      · exact .inr h.1
  · obtain ⟨e, he, hp⟩ := List.mem_map.1 q1
    simp only [Prod.mk.injEq] at hp
    obtain ⟨hek, rfl⟩ := hp
    have hdat := dat_mem hnm (List.mem_map_of_mem he) hek
    obtain ⟨l1, l2, hEl⟩ := List.append_of_mem he
    have hpm : E.Perm (e :: (l1 ++ l2)) := by rw [hEl]; exact List.perm_middle
    have hD1 := hD.perm hpm
    have hwo : (wo k E).Perm (l1 ++ l2) := by
      have := wo_perm (k := k) hpm
      rw [wo_cons hek hD1.names] at this
      exact this
    have hE0 := hD1.ens e List.mem_cons_self
    have HO := hide hE0.2.2.1
    have hpd := hE0.ne_d hD1
    have HLA := hide (lay_app hD1 t)
    have HDT := hide hdat
    have HWO := hide hwo
    have HEK := hide hek
    have HRB := hide hr
    have hl2 : e.f.2.1.length + t.length ≤ 140737488355328 := by
      have := le_usd (List.mem_map_of_mem (f := En.f) he)
      omega
    have HL2 := hide hl2
    have c0 : w.cell? ⟨e.p, 0, none⟩ = some e.v := cellOf hE0.2.1 0 _ rfl
    rw [q2] at hlk
    clear q1 q2 hD hk hu hnm hD1 hr hn hdat hpm hwo hE0 hek he hEl hl2 hS
    obtain ⟨pp, hpp⟩ : ∃ pp, pp = e.p := ⟨_, rfl⟩
    obtain ⟨va, vc, hv, _⟩ := HO.out.slice
    rw [← hpp] at hlk c0 hpd HLA
    rw [hv] at c0 HO HLA
    have HPP := hide hpp
    have HV := hide hv
    clear hpp hv
    unfold pV at *
    go_enter Try.func51, Try.ntmps51
    go_wp2_with (at_builtin; go_loud (refine wpList_app _ rfl (.tmp 26) (.tmp 27) rfl 0 _ e.f.2.1 rfl HO.out _ t rfl HRB.out HL2.out (Nat.zero_le _) ?_; intro v' w3 r1 r2 r3; obtain ⟨a', c', rfl, hc'⟩ := r1.slice; obtain ⟨s1, s2, s3, s4, s5⟩ := HLA.out _ w3 r1 r2 r3; have d0 := s1.c0; have g0 := s1.frozen 0; simp only [List.nil_append, List.length_append] at s4 s5; have HS4 := hide s4; have HS5 := hide s5; have HZ3 := hide r2.size; clear s1 s4 s5 r1 r2 r3))
    go_ret
    refine ⟨_, rfl, .slice a' (e.f.2.1.length + t.length) c', DkS.mono (S := Sx S w w3) ?_ (fun q hq => ?_), HS5.out⟩
    · rw [HDT.out, ← HEK.out]
      have h := HS4.out.perm (HWO.out.symm.cons _)
      rw [← HEK.out] at h
      exact h
    · rcases hq with h | h
      · exact .inl h
      · exact .inr ⟨h.1, by simpa using h.2⟩
end Go.Proofs.Ytgkdecjlanbmhaa
