import Derived.Test.YtondbhdlccpklaaQRArrM9

/- Stage 13: the document's lists are grown, or put anew. -/
namespace Go.Proofs.Ytondbhdlccpklaa
open Go.RowKit Go.Maps
set_option linter.unusedVariables false
set_option linter.unusedSimpArgs false

theorem flatR_snoc (rs : List (Int × Int)) (p : Int × Int) : ((rs ++ [p]).flatMap fun p => [Value.int .i64 p.1, .int .i64 p.2]) = (rs.flatMap fun p => [Value.int .i64 p.1, .int .i64 p.2]) ++ [.int .i64 p.1, .int .i64 p.2] := by simp
section
variable {w w' w1 : World} {g : Nat} {s : Sn} {vh vr vs va : Value} {hs : List Int} {rs : List (Int × Int)} {S C : List Pd}
theorem own_lowerX {w : World} {base base' : Nat} {e : TypeId} {size : Nat} {v : Value} {n : Nat} {xs : List Value} (h : w.ownsRow base e size v n xs) (hb : base' ≤ base) : w.ownsRow base' e size v n xs := by
  refine ⟨h.1, ?_⟩
  rcases h.2 with h2 | ⟨g, cap, cur, h1, h2, h3⟩
  · exact .inl h2
  · exact .inr ⟨g, cap, cur, h1, by omega, h3⟩
theorem RS.grown_vh (h : RS w g s vh vr vs va hs rs S C) (p : Int) {v' : Value} {o : Obj} (ho : w1.ownsRow (g + 1) 3 1 v' (hs.length + 1) (hs.map (Value.int .i64) ++ [.int .i64 p])) (hg : (w.alloc o).grownBy w1 vh.ownBlock) (hat : v'.ownBlock = vh.ownBlock ∨ v'.ownBlock = some (w.alloc o).heap.size) :
    RS (w1.setCell ⟨g, 13, none⟩ v') g s v' vr vs va (hs ++ [p]) rs S C ∧ Kp (RSb g vh vr vs va) w (w1.setCell ⟨g, 13, none⟩ v') ∧ ∀ k, RSb g v' vr vs va k → RSb g vh vr vs va k ∨ w.heap.size ≤ k := by
  have hgn := h.gone
  have hs1 : (w.alloc o).heap.size = w.heap.size + 1 := by simp
  have old : ∀ k, k < w.heap.size → vh.ownBlock ≠ some k → w1.heap[k]? = w.heap[k]? := fun k hk hne => by
    rw [hg.block k (by omega) (fun e => hne e.symm)]
    exact (bel1 (Below.refl w.heap.size w) (Nat.le_refl _) o).block k hk
  have set : ∀ k, k ≠ g → (w1.setCell ⟨g, 13, none⟩ v').heap[k]? = w1.heap[k]? := fun k hk => blk_set_other _ _ _ _ hk
  have hv : ∀ k, v'.ownBlock = some k → vh.ownBlock = some k ∨ w.heap.size ≤ k := fun k e => by
    rcases hat with e' | e'
    · exact .inl (e' ▸ e)
    · rw [e'] at e
      cases e
      exact .inr (by omega)
  have hap : ∀ {x : Value}, apartV x vh → (∀ k, x.ownBlock = some k → k < w.heap.size) → apartV x v' := fun ha hl k e1 e2 => by
    rcases hv k e2 with e | e
    · exact ha k e1 e
    · have := hl k e1
      omega
  have hkeep : ∀ {x : Value}, apartV x vh → (∀ k, x.ownBlock = some k → k < w.heap.size ∧ k ≠ g) → ∀ k, x.ownBlock = some k → (w1.setCell ⟨g, 13, none⟩ v').heap[k]? = w.heap[k]? := fun ha hl k e => (set k (hl k e).2).trans (old k (hl k e).1 (ha k e))
  refine ⟨⟨(h.rb.at (old g h.rb.lt (fun e => hgn.1 g e rfl))).set_vh v', ?_, own_at h.og (hkeep (h.hr).symm fun k e => ⟨(h.og.lt k e).2, hgn.2.1 k e⟩), own_at h.os (hkeep (h.h2).symm fun k e => ⟨(h.os.lt k e).2, hgn.2.2.1 k e⟩), own_at h.oc (hkeep (h.hc).symm fun k e => ⟨(h.oc.lt k e).2, hgn.2.2.2 k e⟩), (hap (h.hr).symm (fun k e => (h.og.lt k e).2)).symm, (hap (h.h2).symm (fun k e => (h.os.lt k e).2)).symm, (hap (h.hc).symm (fun k e => (h.oc.lt k e).2)).symm, h.r2, h.rc, h.sc⟩, ?_, ?_⟩
  · have this : OwnI w1 (g + 1) v' (hs ++ [p]) := by
      unfold OwnI
      rw [List.map_append]
      simpa using ho
    exact own_at this fun k e => set k (by have := (this.lt k e).1; omega)
  · refine ⟨hg.os, hg.tape, hg.output, ?_, fun k hk hn => ?_⟩
    · have := hg.size
      simp at this ⊢
      omega
    · exact (set k (fun e => hn (.inl e))).trans (old k hk (fun e => hn (.inr (.inl e))))
  · rintro k (e | e | e | e | e)
    · exact .inl (.inl e)
    · rcases hv k e with e | e
      · exact .inl (.inr (.inl e))
      · exact .inr e
    · exact .inl (.inr (.inr (.inl e)))
    · exact .inl (.inr (.inr (.inr (.inl e))))
    · exact .inl (.inr (.inr (.inr (.inr e))))
theorem RS.grown_vr (h : RS w g s vh vr vs va hs rs S C) (p : Int × Int) {v' : Value} {o : Obj} (ho : w1.ownsRow (g + 1) 110 2 v' (rs.length + 1) ((rs.flatMap fun p => [Value.int .i64 p.1, .int .i64 p.2]) ++ [.int .i64 p.1, .int .i64 p.2])) (hg : (w.alloc o).grownBy w1 vr.ownBlock) (hat : v'.ownBlock = vr.ownBlock ∨ v'.ownBlock = some (w.alloc o).heap.size) :
    RS (w1.setCell ⟨g, 14, none⟩ v') g s vh v' vs va hs (rs ++ [p]) S C ∧ Kp (RSb g vh vr vs va) w (w1.setCell ⟨g, 14, none⟩ v') ∧ ∀ k, RSb g vh v' vs va k → RSb g vh vr vs va k ∨ w.heap.size ≤ k := by
  have hgn := h.gone
  have hs1 : (w.alloc o).heap.size = w.heap.size + 1 := by simp
  have old : ∀ k, k < w.heap.size → vr.ownBlock ≠ some k → w1.heap[k]? = w.heap[k]? := fun k hk hne => by
    rw [hg.block k (by omega) (fun e => hne e.symm)]
    exact (bel1 (Below.refl w.heap.size w) (Nat.le_refl _) o).block k hk
  have set : ∀ k, k ≠ g → (w1.setCell ⟨g, 14, none⟩ v').heap[k]? = w1.heap[k]? := fun k hk => blk_set_other _ _ _ _ hk
  have hv : ∀ k, v'.ownBlock = some k → vr.ownBlock = some k ∨ w.heap.size ≤ k := fun k e => by
    rcases hat with e' | e'
    · exact .inl (e' ▸ e)
    · rw [e'] at e
      cases e
      exact .inr (by omega)
  have hap : ∀ {x : Value}, apartV x vr → (∀ k, x.ownBlock = some k → k < w.heap.size) → apartV x v' := fun ha hl k e1 e2 => by
    rcases hv k e2 with e | e
    · exact ha k e1 e
    · have := hl k e1
      omega
  have hkeep : ∀ {x : Value}, apartV x vr → (∀ k, x.ownBlock = some k → k < w.heap.size ∧ k ≠ g) → ∀ k, x.ownBlock = some k → (w1.setCell ⟨g, 14, none⟩ v').heap[k]? = w.heap[k]? := fun ha hl k e => (set k (hl k e).2).trans (old k (hl k e).1 (ha k e))
  refine ⟨⟨(h.rb.at (old g h.rb.lt (fun e => hgn.2.1 g e rfl))).set_vr v', own_at h.oh (hkeep h.hr fun k e => ⟨(h.oh.lt k e).2, hgn.1 k e⟩), ?_, own_at h.os (hkeep (h.r2).symm fun k e => ⟨(h.os.lt k e).2, hgn.2.2.1 k e⟩), own_at h.oc (hkeep (h.rc).symm fun k e => ⟨(h.oc.lt k e).2, hgn.2.2.2 k e⟩), hap h.hr (fun k e => (h.oh.lt k e).2), h.h2, h.hc, (hap (h.r2).symm (fun k e => (h.os.lt k e).2)).symm, (hap (h.rc).symm (fun k e => (h.oc.lt k e).2)).symm, h.sc⟩, ?_, ?_⟩
  · have this : OwnR w1 (g + 1) v' (rs ++ [p]) := by
      unfold OwnR
      rw [flatR_snoc]
      simpa using ho
    exact own_at this fun k e => set k (by have := (this.lt k e).1; omega)
  · refine ⟨hg.os, hg.tape, hg.output, ?_, fun k hk hn => ?_⟩
    · have := hg.size
      simp at this ⊢
      omega
    · exact (set k (fun e => hn (.inl e))).trans (old k hk (fun e => hn (.inr (.inr (.inl e)))))
  · rintro k (e | e | e | e | e)
    · exact .inl (.inl e)
    · exact .inl (.inr (.inl e))
    · rcases hv k e with e | e
      · exact .inl (.inr (.inr (.inl e)))
      · exact .inr e
    · exact .inl (.inr (.inr (.inr (.inl e))))
    · exact .inl (.inr (.inr (.inr (.inr e))))
theorem RS.grown_vs (h : RS w g s vh vr vs va hs rs S C) (p : Pd) {v' : Value} {o : Obj} (ho : w1.ownsRow (g + 1) 75 3 v' (S.length + 1) (flatP S ++ pdL p)) (hg : (w.alloc o).grownBy w1 vs.ownBlock) (hat : v'.ownBlock = vs.ownBlock ∨ v'.ownBlock = some (w.alloc o).heap.size) :
    RS (w1.setCell ⟨g, 15, none⟩ v') g s vh vr v' va hs rs (S ++ [p]) C ∧ Kp (RSb g vh vr vs va) w (w1.setCell ⟨g, 15, none⟩ v') ∧ ∀ k, RSb g vh vr v' va k → RSb g vh vr vs va k ∨ w.heap.size ≤ k := by
  have hgn := h.gone
  have hs1 : (w.alloc o).heap.size = w.heap.size + 1 := by simp
  have old : ∀ k, k < w.heap.size → vs.ownBlock ≠ some k → w1.heap[k]? = w.heap[k]? := fun k hk hne => by
    rw [hg.block k (by omega) (fun e => hne e.symm)]
    exact (bel1 (Below.refl w.heap.size w) (Nat.le_refl _) o).block k hk
  have set : ∀ k, k ≠ g → (w1.setCell ⟨g, 15, none⟩ v').heap[k]? = w1.heap[k]? := fun k hk => blk_set_other _ _ _ _ hk
  have hv : ∀ k, v'.ownBlock = some k → vs.ownBlock = some k ∨ w.heap.size ≤ k := fun k e => by
    rcases hat with e' | e'
    · exact .inl (e' ▸ e)
    · rw [e'] at e
      cases e
      exact .inr (by omega)
  have hap : ∀ {x : Value}, apartV x vs → (∀ k, x.ownBlock = some k → k < w.heap.size) → apartV x v' := fun ha hl k e1 e2 => by
    rcases hv k e2 with e | e
    · exact ha k e1 e
    · have := hl k e1
      omega
  have hkeep : ∀ {x : Value}, apartV x vs → (∀ k, x.ownBlock = some k → k < w.heap.size ∧ k ≠ g) → ∀ k, x.ownBlock = some k → (w1.setCell ⟨g, 15, none⟩ v').heap[k]? = w.heap[k]? := fun ha hl k e => (set k (hl k e).2).trans (old k (hl k e).1 (ha k e))
  refine ⟨⟨(h.rb.at (old g h.rb.lt (fun e => hgn.2.2.1 g e rfl))).set_vs v', own_at h.oh (hkeep h.h2 fun k e => ⟨(h.oh.lt k e).2, hgn.1 k e⟩), own_at h.og (hkeep h.r2 fun k e => ⟨(h.og.lt k e).2, hgn.2.1 k e⟩), ?_, own_at h.oc (hkeep (h.sc).symm fun k e => ⟨(h.oc.lt k e).2, hgn.2.2.2 k e⟩), h.hr, hap h.h2 (fun k e => (h.oh.lt k e).2), h.hc, hap h.r2 (fun k e => (h.og.lt k e).2), h.rc, (hap (h.sc).symm (fun k e => (h.oc.lt k e).2)).symm⟩, ?_, ?_⟩
  · have this : OwnP w1 (g + 1) v' (S ++ [p]) := by
      unfold OwnP
      rw [flatP_snoc]
      simpa using ho
    exact own_at this fun k e => set k (by have := (this.lt k e).1; omega)
  · refine ⟨hg.os, hg.tape, hg.output, ?_, fun k hk hn => ?_⟩
    · have := hg.size
      simp at this ⊢
      omega
    · exact (set k (fun e => hn (.inl e))).trans (old k hk (fun e => hn (.inr (.inr (.inr (.inl e))))))
  · rintro k (e | e | e | e | e)
    · exact .inl (.inl e)
    · exact .inl (.inr (.inl e))
    · exact .inl (.inr (.inr (.inl e)))
    · rcases hv k e with e | e
      · exact .inl (.inr (.inr (.inr (.inl e))))
      · exact .inr e
    · exact .inl (.inr (.inr (.inr (.inr e))))
theorem RS.grown_va (h : RS w g s vh vr vs va hs rs S C) (p : Pd) {v' : Value} {o : Obj} (ho : w1.ownsRow (g + 1) 75 3 v' (C.length + 1) (flatP C ++ pdL p)) (hg : (w.alloc o).grownBy w1 va.ownBlock) (hat : v'.ownBlock = va.ownBlock ∨ v'.ownBlock = some (w.alloc o).heap.size) :
    RS (w1.setCell ⟨g, 16, none⟩ v') g s vh vr vs v' hs rs S (C ++ [p]) ∧ Kp (RSb g vh vr vs va) w (w1.setCell ⟨g, 16, none⟩ v') ∧ ∀ k, RSb g vh vr vs v' k → RSb g vh vr vs va k ∨ w.heap.size ≤ k := by
  have hgn := h.gone
  have hs1 : (w.alloc o).heap.size = w.heap.size + 1 := by simp
  have old : ∀ k, k < w.heap.size → va.ownBlock ≠ some k → w1.heap[k]? = w.heap[k]? := fun k hk hne => by
    rw [hg.block k (by omega) (fun e => hne e.symm)]
    exact (bel1 (Below.refl w.heap.size w) (Nat.le_refl _) o).block k hk
  have set : ∀ k, k ≠ g → (w1.setCell ⟨g, 16, none⟩ v').heap[k]? = w1.heap[k]? := fun k hk => blk_set_other _ _ _ _ hk
  have hv : ∀ k, v'.ownBlock = some k → va.ownBlock = some k ∨ w.heap.size ≤ k := fun k e => by
    rcases hat with e' | e'
    · exact .inl (e' ▸ e)
    · rw [e'] at e
      cases e
      exact .inr (by omega)
  have hap : ∀ {x : Value}, apartV x va → (∀ k, x.ownBlock = some k → k < w.heap.size) → apartV x v' := fun ha hl k e1 e2 => by
    rcases hv k e2 with e | e
    · exact ha k e1 e
    · have := hl k e1
      omega
  have hkeep : ∀ {x : Value}, apartV x va → (∀ k, x.ownBlock = some k → k < w.heap.size ∧ k ≠ g) → ∀ k, x.ownBlock = some k → (w1.setCell ⟨g, 16, none⟩ v').heap[k]? = w.heap[k]? := fun ha hl k e => (set k (hl k e).2).trans (old k (hl k e).1 (ha k e))
  refine ⟨⟨(h.rb.at (old g h.rb.lt (fun e => hgn.2.2.2 g e rfl))).set_va v', own_at h.oh (hkeep h.hc fun k e => ⟨(h.oh.lt k e).2, hgn.1 k e⟩), own_at h.og (hkeep h.rc fun k e => ⟨(h.og.lt k e).2, hgn.2.1 k e⟩), own_at h.os (hkeep h.sc fun k e => ⟨(h.os.lt k e).2, hgn.2.2.1 k e⟩), ?_, h.hr, h.h2, hap h.hc (fun k e => (h.oh.lt k e).2), h.r2, hap h.rc (fun k e => (h.og.lt k e).2), hap h.sc (fun k e => (h.os.lt k e).2)⟩, ?_, ?_⟩
  · have this : OwnP w1 (g + 1) v' (C ++ [p]) := by
      unfold OwnP
      rw [flatP_snoc]
      simpa using ho
    exact own_at this fun k e => set k (by have := (this.lt k e).1; omega)
  · refine ⟨hg.os, hg.tape, hg.output, ?_, fun k hk hn => ?_⟩
    · have := hg.size
      simp at this ⊢
      omega
    · exact (set k (fun e => hn (.inl e))).trans (old k hk (fun e => hn (.inr (.inr (.inr (.inr e))))))
  · rintro k (e | e | e | e | e)
    · exact .inl (.inl e)
    · exact .inl (.inr (.inl e))
    · exact .inl (.inr (.inr (.inl e)))
    · exact .inl (.inr (.inr (.inr (.inl e))))
    · rcases hv k e with e | e
      · exact .inl (.inr (.inr (.inr (.inr e))))
      · exact .inr e
/-- a list of its own takes the place -/
theorem RS.put_vh (h : RS w g s vh vr vs va hs rs S C) (l : List (Int)) {v' : Value} {base : Nat} (hb : Below w.heap.size w w1) (hbase : w.heap.size ≤ base) (ho : OwnI w1 base v' l) :
    RS (w1.setCell ⟨g, 13, none⟩ v') g s v' vr vs va l rs S C ∧ Kp (RSb g vh vr vs va) w (w1.setCell ⟨g, 13, none⟩ v') ∧ ∀ k, RSb g v' vr vs va k → RSb g vh vr vs va k ∨ w.heap.size ≤ k := by
  have hgn := h.gone
  have old : ∀ k, k < w.heap.size → vh.ownBlock ≠ some k → w1.heap[k]? = w.heap[k]? := fun k hk _ => hb.block k hk
  have set : ∀ k, k ≠ g → (w1.setCell ⟨g, 13, none⟩ v').heap[k]? = w1.heap[k]? := fun k hk => blk_set_other _ _ _ _ hk
  have hv : ∀ k, v'.ownBlock = some k → vh.ownBlock = some k ∨ w.heap.size ≤ k := fun k e => .inr (Nat.le_trans hbase (ho.lt k e).1)
  have hap : ∀ {x : Value}, apartV x vh → (∀ k, x.ownBlock = some k → k < w.heap.size) → apartV x v' := fun ha hl k e1 e2 => by
    rcases hv k e2 with e | e
    · exact ha k e1 e
    · have := hl k e1
      omega
  have hkeep : ∀ {x : Value}, apartV x vh → (∀ k, x.ownBlock = some k → k < w.heap.size ∧ k ≠ g) → ∀ k, x.ownBlock = some k → (w1.setCell ⟨g, 13, none⟩ v').heap[k]? = w.heap[k]? := fun ha hl k e => (set k (hl k e).2).trans (old k (hl k e).1 (ha k e))
  refine ⟨⟨(h.rb.at (old g h.rb.lt (fun e => hgn.1 g e rfl))).set_vh v', ?_, own_at h.og (hkeep (h.hr).symm fun k e => ⟨(h.og.lt k e).2, hgn.2.1 k e⟩), own_at h.os (hkeep (h.h2).symm fun k e => ⟨(h.os.lt k e).2, hgn.2.2.1 k e⟩), own_at h.oc (hkeep (h.hc).symm fun k e => ⟨(h.oc.lt k e).2, hgn.2.2.2 k e⟩), (hap (h.hr).symm (fun k e => (h.og.lt k e).2)).symm, (hap (h.h2).symm (fun k e => (h.os.lt k e).2)).symm, (hap (h.hc).symm (fun k e => (h.oc.lt k e).2)).symm, h.r2, h.rc, h.sc⟩, ?_, ?_⟩
  · have hgl := h.rb.lt
    have this : OwnI w1 (g + 1) v' l := own_lowerX ho (by omega)
    exact own_at this fun k e => set k (by have := (this.lt k e).1; omega)
  · refine ⟨hb.os, hb.tape, hb.output, ?_, fun k hk hn => ?_⟩
    · have := hb.size
      simpa using this
    · exact (set k (fun e => hn (.inl e))).trans (old k hk (fun e => hn (.inr (.inl e))))
  · rintro k (e | e | e | e | e)
    · exact .inl (.inl e)
    · rcases hv k e with e | e
      · exact .inl (.inr (.inl e))
      · exact .inr e
    · exact .inl (.inr (.inr (.inl e)))
    · exact .inl (.inr (.inr (.inr (.inl e))))
    · exact .inl (.inr (.inr (.inr (.inr e))))
/-- a list of its own takes the place -/
theorem RS.put_vr (h : RS w g s vh vr vs va hs rs S C) (l : List (Int × Int)) {v' : Value} {base : Nat} (hb : Below w.heap.size w w1) (hbase : w.heap.size ≤ base) (ho : OwnR w1 base v' l) :
    RS (w1.setCell ⟨g, 14, none⟩ v') g s vh v' vs va hs l S C ∧ Kp (RSb g vh vr vs va) w (w1.setCell ⟨g, 14, none⟩ v') ∧ ∀ k, RSb g vh v' vs va k → RSb g vh vr vs va k ∨ w.heap.size ≤ k := by
  have hgn := h.gone
  have old : ∀ k, k < w.heap.size → vr.ownBlock ≠ some k → w1.heap[k]? = w.heap[k]? := fun k hk _ => hb.block k hk
  have set : ∀ k, k ≠ g → (w1.setCell ⟨g, 14, none⟩ v').heap[k]? = w1.heap[k]? := fun k hk => blk_set_other _ _ _ _ hk
  have hv : ∀ k, v'.ownBlock = some k → vr.ownBlock = some k ∨ w.heap.size ≤ k := fun k e => .inr (Nat.le_trans hbase (ho.lt k e).1)
  have hap : ∀ {x : Value}, apartV x vr → (∀ k, x.ownBlock = some k → k < w.heap.size) → apartV x v' := fun ha hl k e1 e2 => by
    rcases hv k e2 with e | e
    · exact ha k e1 e
    · have := hl k e1
      omega
  have hkeep : ∀ {x : Value}, apartV x vr → (∀ k, x.ownBlock = some k → k < w.heap.size ∧ k ≠ g) → ∀ k, x.ownBlock = some k → (w1.setCell ⟨g, 14, none⟩ v').heap[k]? = w.heap[k]? := fun ha hl k e => (set k (hl k e).2).trans (old k (hl k e).1 (ha k e))
  refine ⟨⟨(h.rb.at (old g h.rb.lt (fun e => hgn.2.1 g e rfl))).set_vr v', own_at h.oh (hkeep h.hr fun k e => ⟨(h.oh.lt k e).2, hgn.1 k e⟩), ?_, own_at h.os (hkeep (h.r2).symm fun k e => ⟨(h.os.lt k e).2, hgn.2.2.1 k e⟩), own_at h.oc (hkeep (h.rc).symm fun k e => ⟨(h.oc.lt k e).2, hgn.2.2.2 k e⟩), hap h.hr (fun k e => (h.oh.lt k e).2), h.h2, h.hc, (hap (h.r2).symm (fun k e => (h.os.lt k e).2)).symm, (hap (h.rc).symm (fun k e => (h.oc.lt k e).2)).symm, h.sc⟩, ?_, ?_⟩
  · have hgl := h.rb.lt
    have this : OwnR w1 (g + 1) v' l := own_lowerX ho (by omega)
    exact own_at this fun k e => set k (by have := (this.lt k e).1; omega)
  · refine ⟨hb.os, hb.tape, hb.output, ?_, fun k hk hn => ?_⟩
    · have := hb.size
      simpa using this
    · exact (set k (fun e => hn (.inl e))).trans (old k hk (fun e => hn (.inr (.inr (.inl e)))))
  · rintro k (e | e | e | e | e)
    · exact .inl (.inl e)
    · exact .inl (.inr (.inl e))
    · rcases hv k e with e | e
      · exact .inl (.inr (.inr (.inl e)))
      · exact .inr e
    · exact .inl (.inr (.inr (.inr (.inl e))))
    · exact .inl (.inr (.inr (.inr (.inr e))))
/-- a list of its own takes the place -/
theorem RS.put_vs (h : RS w g s vh vr vs va hs rs S C) (l : List (Pd)) {v' : Value} {base : Nat} (hb : Below w.heap.size w w1) (hbase : w.heap.size ≤ base) (ho : OwnP w1 base v' l) :
    RS (w1.setCell ⟨g, 15, none⟩ v') g s vh vr v' va hs rs l C ∧ Kp (RSb g vh vr vs va) w (w1.setCell ⟨g, 15, none⟩ v') ∧ ∀ k, RSb g vh vr v' va k → RSb g vh vr vs va k ∨ w.heap.size ≤ k := by
  have hgn := h.gone
  have old : ∀ k, k < w.heap.size → vs.ownBlock ≠ some k → w1.heap[k]? = w.heap[k]? := fun k hk _ => hb.block k hk
  have set : ∀ k, k ≠ g → (w1.setCell ⟨g, 15, none⟩ v').heap[k]? = w1.heap[k]? := fun k hk => blk_set_other _ _ _ _ hk
  have hv : ∀ k, v'.ownBlock = some k → vs.ownBlock = some k ∨ w.heap.size ≤ k := fun k e => .inr (Nat.le_trans hbase (ho.lt k e).1)
  have hap : ∀ {x : Value}, apartV x vs → (∀ k, x.ownBlock = some k → k < w.heap.size) → apartV x v' := fun ha hl k e1 e2 => by
    rcases hv k e2 with e | e
    · exact ha k e1 e
    · have := hl k e1
      omega
  have hkeep : ∀ {x : Value}, apartV x vs → (∀ k, x.ownBlock = some k → k < w.heap.size ∧ k ≠ g) → ∀ k, x.ownBlock = some k → (w1.setCell ⟨g, 15, none⟩ v').heap[k]? = w.heap[k]? := fun ha hl k e => (set k (hl k e).2).trans (old k (hl k e).1 (ha k e))
  refine ⟨⟨(h.rb.at (old g h.rb.lt (fun e => hgn.2.2.1 g e rfl))).set_vs v', own_at h.oh (hkeep h.h2 fun k e => ⟨(h.oh.lt k e).2, hgn.1 k e⟩), own_at h.og (hkeep h.r2 fun k e => ⟨(h.og.lt k e).2, hgn.2.1 k e⟩), ?_, own_at h.oc (hkeep (h.sc).symm fun k e => ⟨(h.oc.lt k e).2, hgn.2.2.2 k e⟩), h.hr, hap h.h2 (fun k e => (h.oh.lt k e).2), h.hc, hap h.r2 (fun k e => (h.og.lt k e).2), h.rc, (hap (h.sc).symm (fun k e => (h.oc.lt k e).2)).symm⟩, ?_, ?_⟩
  · have hgl := h.rb.lt
    have this : OwnP w1 (g + 1) v' l := own_lowerX ho (by omega)
    exact own_at this fun k e => set k (by have := (this.lt k e).1; omega)
  · refine ⟨hb.os, hb.tape, hb.output, ?_, fun k hk hn => ?_⟩
    · have := hb.size
      simpa using this
    · exact (set k (fun e => hn (.inl e))).trans (old k hk (fun e => hn (.inr (.inr (.inr (.inl e))))))
  · rintro k (e | e | e | e | e)
    · exact .inl (.inl e)
    · exact .inl (.inr (.inl e))
    · exact .inl (.inr (.inr (.inl e)))
    · rcases hv k e with e | e
      · exact .inl (.inr (.inr (.inr (.inl e))))
      · exact .inr e
    · exact .inl (.inr (.inr (.inr (.inr e))))
/-- a list of its own takes the place -/
theorem RS.put_va (h : RS w g s vh vr vs va hs rs S C) (l : List (Pd)) {v' : Value} {base : Nat} (hb : Below w.heap.size w w1) (hbase : w.heap.size ≤ base) (ho : OwnP w1 base v' l) :
    RS (w1.setCell ⟨g, 16, none⟩ v') g s vh vr vs v' hs rs S l ∧ Kp (RSb g vh vr vs va) w (w1.setCell ⟨g, 16, none⟩ v') ∧ ∀ k, RSb g vh vr vs v' k → RSb g vh vr vs va k ∨ w.heap.size ≤ k := by
  have hgn := h.gone
  have old : ∀ k, k < w.heap.size → va.ownBlock ≠ some k → w1.heap[k]? = w.heap[k]? := fun k hk _ => hb.block k hk
  have set : ∀ k, k ≠ g → (w1.setCell ⟨g, 16, none⟩ v').heap[k]? = w1.heap[k]? := fun k hk => blk_set_other _ _ _ _ hk
  have hv : ∀ k, v'.ownBlock = some k → va.ownBlock = some k ∨ w.heap.size ≤ k := fun k e => .inr (Nat.le_trans hbase (ho.lt k e).1)
  have hap : ∀ {x : Value}, apartV x va → (∀ k, x.ownBlock = some k → k < w.heap.size) → apartV x v' := fun ha hl k e1 e2 => by
    rcases hv k e2 with e | e
    · exact ha k e1 e
    · have := hl k e1
      omega
  have hkeep : ∀ {x : Value}, apartV x va → (∀ k, x.ownBlock = some k → k < w.heap.size ∧ k ≠ g) → ∀ k, x.ownBlock = some k → (w1.setCell ⟨g, 16, none⟩ v').heap[k]? = w.heap[k]? := fun ha hl k e => (set k (hl k e).2).trans (old k (hl k e).1 (ha k e))
  refine ⟨⟨(h.rb.at (old g h.rb.lt (fun e => hgn.2.2.2 g e rfl))).set_va v', own_at h.oh (hkeep h.hc fun k e => ⟨(h.oh.lt k e).2, hgn.1 k e⟩), own_at h.og (hkeep h.rc fun k e => ⟨(h.og.lt k e).2, hgn.2.1 k e⟩), own_at h.os (hkeep h.sc fun k e => ⟨(h.os.lt k e).2, hgn.2.2.1 k e⟩), ?_, h.hr, h.h2, hap h.hc (fun k e => (h.oh.lt k e).2), h.r2, hap h.rc (fun k e => (h.og.lt k e).2), hap h.sc (fun k e => (h.os.lt k e).2)⟩, ?_, ?_⟩
  · have hgl := h.rb.lt
    have this : OwnP w1 (g + 1) v' l := own_lowerX ho (by omega)
    exact own_at this fun k e => set k (by have := (this.lt k e).1; omega)
  · refine ⟨hb.os, hb.tape, hb.output, ?_, fun k hk hn => ?_⟩
    · have := hb.size
      simpa using this
    · exact (set k (fun e => hn (.inl e))).trans (old k hk (fun e => hn (.inr (.inr (.inr (.inr e))))))
  · rintro k (e | e | e | e | e)
    · exact .inl (.inl e)
    · exact .inl (.inr (.inl e))
    · exact .inl (.inr (.inr (.inl e)))
    · exact .inl (.inr (.inr (.inr (.inl e))))
    · rcases hv k e with e | e
      · exact .inl (.inr (.inr (.inr (.inr e))))
      · exact .inr e
end
end Go.Proofs.Ytondbhdlccpklaa
