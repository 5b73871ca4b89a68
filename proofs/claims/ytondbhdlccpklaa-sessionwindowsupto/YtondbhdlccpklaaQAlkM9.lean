import Derived.Test.YtondbhdlccpklaaQPairM9
import Derived.Test.YtondbhdlccpklaaQLflM9

/- Stage 13: a session of the program's and one of the document's that stand alike. -/
namespace Go.Proofs.Ytondbhdlccpklaa
open Go.RowKit Go.Maps
set_option linter.unusedVariables false
set_option linter.unusedSimpArgs false

/-- tables and lists tell the same -/
structure Alike (H R : List (Int × Int)) (S C : List (Int × Pd)) (hs : List Int) (rs : List (Int × Int)) (Sr Cr : List Pd) : Prop where
  ph : hs.Perm (H.map (·.1))
  pr : rs.Perm R
  ps : Sr.Perm (S.map (·.2))
  pc : Cr.Perm (C.map (·.2))
  nh : (H.map (·.1)).Nodup
  nr : (R.map (·.1)).Nodup
  ns : (S.map (·.1)).Nodup
  nc : (C.map (·.1)).Nodup
  gs : Reg S
  gc : Reg C
  ws : Words S
  wc : Words C
  lk : ∀ h r : Int, (h, r) ∈ H → r ≠ -1 → (r, h) ∈ R
  kl : ∀ r h : Int, (r, h) ∈ R → (h, r) ∈ H ∧ r ≠ -1
  wr : Words R
/-- the program's blocks -/
def SeB (g : Nat) (s : Sn) (k : Nat) : Prop := k = g ∨ k = s.bh ∨ k = s.br ∨ k = s.bs ∨ k = s.bc
structure Two (w : World) (g g' : Nat) (s : Sn) (H R : List (Int × Int)) (S C : List (Int × Pd)) (vh vr vs va : Value) (hs : List Int) (rs : List (Int × Int)) (Sr Cr : List Pd) : Prop where
  a : Ses w g s H R S C
  b : RS w g' s vh vr vs va hs rs Sr Cr
  ap : ∀ k, RSb g' vh vr vs va k → ¬ SeB g s k
  ok : s.ok
  al : Alike H R S C hs rs Sr Cr
section
variable {w w1 w2 : World} {g g' : Nat} {s s' : Sn} {H R H' R' : List (Int × Int)} {S C S' C' : List (Int × Pd)} {vh vr vs va n1 n2 n3 n4 : Value} {hs hs' : List Int} {rs rs' : List (Int × Int)} {Sr Cr Sr' Cr' : List Pd}
theorem Ses.ltB (h : Ses w g s H R S C) {k : Nat} (hk : SeB g s k) : k < w.heap.size := by
  rcases hk with rfl | rfl | rfl | rfl | rfl
  · exact h.sb.lt
  · exact h.th.lt
  · exact h.tr.lt
  · exact h.ts.lt
  · exact h.tc.lt
/-- behind the program's call the document's session stands as it did -/
theorem Two.mid (t : Two w g g' s H R S C vh vr vs va hs rs Sr Cr) (hk : Kp (SeB g s) w w1) : RS w1 g' s vh vr vs va hs rs Sr Cr :=
  t.b.at fun k hk' => hk.block (t.b.lt hk') (t.ap k hk')
/-- behind both calls -/
theorem Two.on (t : Two w g g' s H R S C vh vr vs va hs rs Sr Cr) (hk : Kp (SeB g s) w w1) (h1 : Ses w1 g s' H' R' S' C') (hq : ∀ k, SeB g s' k ↔ SeB g s k) (h2 : RS w2 g' s' n1 n2 n3 n4 hs' rs' Sr' Cr') (hk2 : Kp (RSb g' vh vr vs va) w1 w2) (hn : ∀ k, RSb g' n1 n2 n3 n4 k → RSb g' vh vr vs va k ∨ w1.heap.size ≤ k) (hok : s'.ok) (hal : Alike H' R' S' C' hs' rs' Sr' Cr') :
    Two w2 g g' s' H' R' S' C' n1 n2 n3 n4 hs' rs' Sr' Cr' ∧ Kp (fun k => SeB g s k ∨ RSb g' vh vr vs va k) w w2 ∧ ∀ k, (SeB g s' k ∨ RSb g' n1 n2 n3 n4 k) → (SeB g s k ∨ RSb g' vh vr vs va k) ∨ w.heap.size ≤ k := by
  have keep : ∀ k, SeB g s' k → w2.heap[k]? = w1.heap[k]? := fun k hk' => hk2.block (h1.ltB hk') (fun e => t.ap k e ((hq k).1 hk'))
  refine ⟨⟨h1.at (fun k hk' => keep k ?_), h2, fun k e e' => ?_, hok, hal⟩, ?_, fun k e => ?_⟩
  · exact hk'
  · rcases hn k e with e1 | e1
    · exact t.ap k e1 ((hq k).1 e')
    · have := h1.ltB e'
      omega
  · exact (hk.mono fun k e => .inl e).trans (hk2.mono fun k e => .inr e)
  · rcases e with e | e
    · exact .inl (.inl ((hq k).1 e))
    · rcases hn k e with e1 | e1
      · exact .inl (.inr e1)
      · exact .inr (Nat.le_trans hk.size e1)
end
end Go.Proofs.Ytondbhdlccpklaa


/- Stage 13: tables and lists go on alike. -/
namespace Go.Proofs.Ytondbhdlccpklaa
open Go.RowKit Go.Maps
set_option linter.unusedVariables false
set_option linter.unusedSimpArgs false

section
variable {H R : List (Int × Int)} {S C : List (Int × Pd)} {hs : List Int} {rs : List (Int × Int)} {Sr Cr : List Pd}
theorem perm_snoc {A : Type} {l m : List A} (h : l.Perm m) (x : A) : (l ++ [x]).Perm (x :: m) := List.perm_append_comm.trans (List.Perm.cons x h)
theorem map_filter2 {L : List (Int × Pd)} (q : Pd → Bool) : (L.filter fun p => q p.2).map (·.2) = (L.map (·.2)).filter q := by
  rw [List.filter_map]
  rfl
theorem reg_filter {L : List (Int × Pd)} (h : Reg L) (q : Int × Pd → Bool) : Reg (L.filter q) := fun p hp => h p (List.mem_filter.1 hp).1
theorem words_filter {L : List (Int × Pd)} (h : Words L) (q : Int × Pd → Bool) : Words (L.filter q) := fun p hp => h p (List.mem_filter.1 hp).1
theorem key_filter {L : List (Int × Pd)} (h : Reg L) (id : Int) : (L.filter fun p => p.1 != id) = L.filter fun p => p.2.1 != id := List.filter_congr fun p hp => by rw [h p hp]
theorem Alike.arrive (h : Alike H R S C hs rs Sr Cr) {id x : Int} {t : ByteArray} (hi : 0 ≤ id ∧ id ≤ 4294967295) (hn : hasK C id = false) : Alike H R S ((id, (id, x, t)) :: C) hs rs Sr (Cr ++ ([(id, x, t)] : List Pd)) :=
  ⟨h.ph, h.pr, h.ps, perm_snoc h.pc _, h.nh, h.nr, h.ns, by rw [List.map_cons, List.nodup_cons]; exact ⟨any_not.1 hn, h.nc⟩, h.gs, fun p hp => by
    rcases List.mem_cons.1 hp with rfl | e
    · rfl
    · exact h.gc p e, h.ws, fun p hp => by
    rcases List.mem_cons.1 hp with rfl | e
    · exact hi
    · exact h.wc p e, h.lk, h.kl, h.wr⟩
theorem Alike.deliver (h : Alike H R S C hs rs Sr Cr) {id x : Int} {t : ByteArray} (hi : 0 ≤ id ∧ id ≤ 4294967295) (hn : hasK S id = false) : Alike H R ((id, (id, x, t)) :: S) C hs rs (Sr ++ ([(id, x, t)] : List Pd)) Cr :=
  ⟨h.ph, h.pr, perm_snoc h.ps _, h.pc, h.nh, h.nr, by rw [List.map_cons, List.nodup_cons]; exact ⟨any_not.1 hn, h.ns⟩, h.nc, fun p hp => by
    rcases List.mem_cons.1 hp with rfl | e
    · rfl
    · exact h.gs p e, h.gc, fun p hp => by
    rcases List.mem_cons.1 hp with rfl | e
    · exact hi
    · exact h.ws p e, h.wc, h.lk, h.kl, h.wr⟩
theorem Alike.forget_s (h : Alike H R S C hs rs Sr Cr) (id : Int) : Alike H R (S.filter fun p => p.1 != id) C hs rs (Sr.filter fun p => p.1 != id) Cr :=
  ⟨h.ph, h.pr, by rw [key_filter h.gs, map_filter2 (fun p => p.1 != id)]; exact h.ps.filter _, h.pc, h.nh, h.nr, nodup_filter h.ns _, h.nc, reg_filter h.gs _, h.gc, words_filter h.ws _, h.wc, h.lk, h.kl, h.wr⟩
theorem Alike.forget_c (h : Alike H R S C hs rs Sr Cr) (id : Int) : Alike H R S (C.filter fun p => p.1 != id) hs rs Sr (Cr.filter fun p => p.1 != id) :=
  ⟨h.ph, h.pr, h.ps, by rw [key_filter h.gc, map_filter2 (fun p => p.1 != id)]; exact h.pc.filter _, h.nh, h.nr, h.ns, nodup_filter h.nc _, h.gs, reg_filter h.gc _, h.ws, words_filter h.wc _, h.lk, h.kl, h.wr⟩
theorem Alike.handle (h : Alike H R S C hs rs Sr Cr) {x : Int} (hn : hasK H x = false) : Alike ((x, -1) :: H) R S C (hs ++ [x]) rs Sr Cr := by
  refine ⟨perm_snoc h.ph _, h.pr, h.ps, h.pc, ?_, h.nr, h.ns, h.nc, h.gs, h.gc, h.ws, h.wc, fun a r hm hr => ?_, fun r a hm => ?_, h.wr⟩
  · rw [List.map_cons, List.nodup_cons]
    exact ⟨any_not.1 hn, h.nh⟩
  · rcases List.mem_cons.1 hm with e | e
    · cases e
      exact absurd rfl hr
    · exact h.lk a r e hr
  · exact ⟨List.mem_cons_of_mem _ (h.kl r a hm).1, (h.kl r a hm).2⟩
theorem Alike.remote (h : Alike H R S C hs rs Sr Cr) {x r : Int} (hr : 0 ≤ r) (hr2 : r ≤ 4294967295) (h2 : hasK R r = false) (h3 : hasK H x = true) (h4 : lu 0 H x = -1) : Alike ((x, r) :: H.filter fun p => p.1 != x) ((r, x) :: R) S C hs (rs ++ [(r, x)]) Sr Cr := by
  have hm := lu_mem (d := 0) h3
  rw [h4] at hm
  have hone : ∀ y, (x, y) ∈ H → y = -1 := fun y hy => by
    have := lu_at (d := 0) h.nh hy
    omega
  refine ⟨?_, perm_snoc h.pr _, h.ps, h.pc, ?_, ?_, h.ns, h.nc, h.gs, h.gc, h.ws, h.wc, fun a b hm' hb => ?_, fun b a hm' => ?_, fun p hp => ?_⟩
  · refine h.ph.trans ?_
    rw [List.perm_ext_iff_of_nodup h.nh]
    · intro y
      constructor
      · intro hy
        obtain ⟨p, hp, rfl⟩ := List.mem_map.1 hy
        by_cases e : p.1 = x
        · rw [List.map_cons]
          exact List.mem_cons.2 (.inl e)
        · exact List.mem_map.2 ⟨p, List.mem_cons_of_mem _ (List.mem_filter.2 ⟨hp, by simp [e]⟩), rfl⟩
      · intro hy
        obtain ⟨p, hp, rfl⟩ := List.mem_map.1 hy
        rcases List.mem_cons.1 hp with rfl | e
        · exact List.mem_map.2 ⟨_, hm, rfl⟩
        · exact List.mem_map.2 ⟨p, (List.mem_filter.1 e).1, rfl⟩
    · rw [List.map_cons, List.nodup_cons]
      refine ⟨fun e => ?_, nodup_filter h.nh _⟩
      obtain ⟨p, hp, e⟩ := List.mem_map.1 e
      have := (List.mem_filter.1 hp).2
      simp at this
      exact this e
  · rw [List.map_cons, List.nodup_cons]
    refine ⟨fun e => ?_, nodup_filter h.nh _⟩
    obtain ⟨p, hp, e⟩ := List.mem_map.1 e
    have := (List.mem_filter.1 hp).2
    simp at this
    exact this e
  · rw [List.map_cons, List.nodup_cons]
    exact ⟨any_not.1 h2, h.nr⟩
  · rcases List.mem_cons.1 hm' with e | e
    · cases e
      exact List.mem_cons_self ..
    · exact List.mem_cons_of_mem _ (h.lk a b (List.mem_filter.1 e).1 hb)
  · rcases List.mem_cons.1 hm' with e | e
    · cases e
      exact ⟨List.mem_cons_self .., by omega⟩
    · have := h.kl b a e
      refine ⟨List.mem_cons_of_mem _ (List.mem_filter.2 ⟨this.1, ?_⟩), this.2⟩
      simp
      intro e'
      subst e'
      exact this.2 (hone b this.1)
  · rcases List.mem_cons.1 hp with rfl | e
    · exact ⟨hr, hr2⟩
    · exact h.wr p e
theorem Alike.free (h : Alike H R S C hs rs Sr Cr) {x : Int} (h3 : hasK H x = true) : Alike (H.filter fun p => p.1 != x) (R.filter fun p => p.1 != lu 0 H x) (S.filter fun p => p.2.2.1 != x) (C.filter fun p => p.2.2.1 != x) (hs.filter fun y => y != x) (rs.filter fun p => p.2 != x) (Sr.filter fun p => p.2.1 != x) (Cr.filter fun p => p.2.1 != x) := by
  have hm := lu_mem (d := 0) h3
  have hR : (R.filter fun p => p.1 != lu 0 H x) = R.filter fun p => p.2 != x := List.filter_congr fun p hp => by
    have hk := h.kl p.1 p.2 hp
    by_cases e : p.2 = x
    · rw [e] at hk
      have := lu_at (d := 0) h.nh hk.1
      simp [e, this]
    · have hne : p.1 ≠ lu 0 H x := fun e' => by
        by_cases hm1 : lu 0 H x = -1
        · exact hk.2 (e'.trans hm1)
        · have h5 := h.lk x _ hm hm1
          rw [← e'] at h5
          have h6 := lu_at (d := 0) h.nr h5
          have h7 := lu_at (d := 0) h.nr (show (p.1, p.2) ∈ R from hp)
          exact e (h7.symm.trans h6)
      rw [bne_iff_ne.2 hne, bne_iff_ne.2 e]
  rw [hR]
  refine ⟨?_, h.pr.filter _, ?_, ?_, nodup_filter h.nh _, nodup_filter h.nr _, nodup_filter h.ns _, nodup_filter h.nc _, reg_filter h.gs _, reg_filter h.gc _, words_filter h.ws _, words_filter h.wc _, fun a r hm' hr => ?_, fun r a hm' => ?_, fun p hp => h.wr p (List.mem_filter.1 hp).1⟩
  · have : (H.filter fun p => p.1 != x).map (·.1) = (H.map (·.1)).filter fun y => y != x := by rw [List.filter_map]; rfl
    rw [this]
    exact h.ph.filter _
  · rw [map_filter2 (fun p => p.2.1 != x)]
    exact h.ps.filter _
  · rw [map_filter2 (fun p => p.2.1 != x)]
    exact h.pc.filter _
  · have h1 := List.mem_filter.1 hm'
    exact List.mem_filter.2 ⟨h.lk a r h1.1 hr, by simpa using h1.2⟩
  · have h1 := List.mem_filter.1 hm'
    exact ⟨List.mem_filter.2 ⟨(h.kl r a h1.1).1, by simpa using h1.2⟩, (h.kl r a h1.1).2⟩
/-- is a Remote refused? at both -/
theorem Alike.refused (h : Alike H R S C hs rs Sr Cr) (r x : Int) (h3 : hasK H x = true) : takenR rs r x = true ↔ (hasK R r = true ∨ lu 0 H x ≠ -1) := by
  have hm := lu_mem (d := 0) h3
  unfold takenR
  rw [List.any_eq_true]
  constructor
  · rintro ⟨p, hp, e⟩
    have hp' := h.pr.mem_iff.1 hp
    simp at e
    rcases e with e | e
    · exact .inl (hasK_mem.2 ⟨p.2, by rw [← e]; exact hp'⟩)
    · have hk := h.kl p.1 p.2 hp'
      rw [e] at hk
      rw [lu_at (d := 0) h.nh hk.1]
      exact .inr hk.2
  · rintro (e | e)
    · obtain ⟨y, hy⟩ := hasK_mem.1 e
      exact ⟨_, h.pr.mem_iff.2 hy, by simp⟩
    · exact ⟨_, h.pr.mem_iff.2 (h.lk x _ hm e), by simp⟩
/-- what stands behind a handle is a word or none -/
theorem Alike.val (h : Alike H R S C hs rs Sr Cr) {x : Int} (h3 : hasK H x = true) : wf64 (lu 0 H x) := by
  have hm := lu_mem (d := 0) h3
  by_cases e : lu 0 H x = -1
  · rw [e]
    exact wf_of (by omega) (by omega)
  · have := h.wr _ (h.lk x _ hm e)
    exact wf_of (by omega) (by omega)
theorem Alike.rlen (h : Alike H R S C hs rs Sr Cr) : rs.length ≤ H.length := by
  rw [h.pr.length_eq]
  have hn : (R.map (·.2)).Nodup := by
    have := h.nr
    rw [List.Nodup, List.pairwise_map] at this ⊢
    refine this.imp_of_mem fun {a b} ha hb hne e => hne ?_
    have h1 := lu_at (d := 0) h.nh (h.kl a.1 a.2 ha).1
    have h2 := lu_at (d := 0) h.nh (h.kl b.1 b.2 hb).1
    rw [e] at h1
    exact h1.symm.trans h2
  have := sub_len hn (fun x hx => by
    obtain ⟨p, hp, rfl⟩ := List.mem_map.1 hx
    exact List.mem_map.2 ⟨_, (h.kl p.1 p.2 hp).1, rfl⟩ : R.map (·.2) ⊆ H.map (·.1))
  simpa using this
theorem Alike.local (h : Alike H R S C hs rs Sr Cr) (r : Int) : lu 0 rs r = lu 0 R r ∧ hasK rs r = hasK R r := by
  have hn : (rs.map (·.1)).Nodup := (h.pr.map _).nodup_iff.2 h.nr
  have hk : hasK rs r = hasK R r := by
    rw [Bool.eq_iff_iff, hasK_mem, hasK_mem]
    exact ⟨fun ⟨x, hx⟩ => ⟨x, h.pr.mem_iff.1 hx⟩, fun ⟨x, hx⟩ => ⟨x, h.pr.mem_iff.2 hx⟩⟩
  refine ⟨?_, hk⟩
  cases hx : hasK R r
  · rw [hx] at hk
    have n1 : ∀ (l : List (Int × Int)), hasK l r = false → lu 0 l r = 0 := fun l hl => (lu_miss (fun x hx' e => by
      have := any_not.1 hl
      exact this (List.mem_map.2 ⟨_, List.getElem_mem hx', e⟩))).1
    rw [n1 rs hk, n1 R hx]
  · have hm := lu_mem (d := 0) hx
    exact lu_at hn (h.pr.mem_iff.2 hm)
end
end Go.Proofs.Ytondbhdlccpklaa
