/- What is written are bytes: no program. Two values have the same bytes just if they are the same; no bytes are a beginning of another's: no program. -/
import Derived.Test.YtdclmgcaeagphabDoorCRead
import Derived.Test.YtdclmgcaeagphabDoorVEq
namespace Go.Proofs.YtdclmgcaeagphabDoor
set_option linter.unusedVariables false
set_option linter.unusedSimpArgs false
theorem flat_lt' {l : List V} {f : V → List Nat} (h : ∀ x ∈ l, ∀ c ∈ f x, c < 256) : ∀ c ∈ (l.map f).flatten, c < 256 := by
  intro c hc
  obtain ⟨k, hk, hck⟩ := List.mem_flatten.1 hc
  obtain ⟨x, hx, rfl⟩ := List.mem_map.1 hk
  exact h x hx c hck
theorem app_lt {x y : List Nat} (hx : ∀ c ∈ x, c < 256) (hy : ∀ c ∈ y, c < 256) : ∀ c ∈ x ++ y, c < 256 := fun c hc => (List.mem_append.1 hc).elim (hx c) (hy c)
theorem cons_lt {a : Nat} {y : List Nat} (ha : a < 256) (hy : ∀ c ∈ y, c < 256) : ∀ c ∈ a :: y, c < 256 := fun c hc => (List.mem_cons.1 hc).elim (fun e => by rw [e]; exact ha) (hy c)
theorem pick_lt' (k : Nat) (b : Bool) : pickC k b < 256 := by
  by_cases h : k < 25
  · exact pick_lt k h b
  · have h1 : codeS[k]? = none := List.getElem?_eq_none (by simp [codeS]; omega)
    have h2 : codeL[k]? = none := List.getElem?_eq_none (by simp [codeL]; omega)
    unfold pickC
    rw [List.getD_eq_getElem?_getD, List.getD_eq_getElem?_getD, h1, h2]
    cases b <;> simp
theorem code_lt (t : T) : T.code t < 256 := by
  unfold T.code codeG
  split
  · split <;> omega
  split
  · omega
  split
  · omega
  split
  · omega
  · exact pick_lt' _ _
theorem data_lt : ∀ t : T, ∀ c0, ∀ c ∈ T.data t c0, c < 256 := by
  refine V.ind ?_
  intro k n s a cc e l ih c0
  rw [data_of]
  have henc : ∀ c ∈ encs l, c < 256 := flat_lt' (fun x hx => cons_lt (code_lt x) (ih x hx _))
  have hdat : ∀ q, ∀ c ∈ datas q l, c < 256 := fun q => flat_lt' (fun x hx => ih x hx q)
  have hac : T.acode (V.of k n s a cc e l) < 256 := pick_lt' _ _
  split
  · simp
  split
  · exact app_lt (digs_lt _ _) (txt_lt s)
  split
  · exact app_lt (digs_lt _ _) (txt_lt s)
  split
  · exact txt_lt s
  split
  · exact app_lt (digs_lt _ _) (app_lt (digs_lt _ _) (cons_lt hac (hdat _)))
  split
  · exact app_lt (digs_lt _ _) (app_lt (digs_lt _ _) (cons_lt hac (hdat _)))
  split
  · exact app_lt (digs_lt _ _) (app_lt (digs_lt _ _) henc)
  split
  · exact app_lt (digs_lt _ _) (app_lt (digs_lt _ _) henc)
  split
  · exact henc
  · exact digs_lt _ _
theorem enc_lt (t : T) : ∀ c ∈ T.enc t, c < 256 := cons_lt (code_lt t) (data_lt t _)
end Go.Proofs.YtdclmgcaeagphabDoor
namespace Go.Proofs.YtdclmgcaeagphabDoor
set_option linter.unusedVariables false
set_option linter.unusedSimpArgs false
theorem toList_inj {s s' : ByteArray} (h : s.toList = s'.toList) : s = s' := by
  rw [ByteArray.toList_eq, ByteArray.toList_eq] at h
  cases s
  cases s'
  simp only at h
  rw [Array.toList_inj.1 h]
theorem ords_nil {l m : List T} (ih : ∀ x ∈ l, ∀ y, T.ord x y = 0 → (∃ b : V, y = b.t) → x = y) (hm : ∀ y ∈ m, ∃ b : V, y = b.t) (h : T.ords l m = 0) : l = m := by
  induction l generalizing m with
  | nil => cases m with
    | nil => rfl
    | cons y m => simp [T.ords] at h
  | cons x l ihl => cases m with
    | nil => simp [T.ords] at h
    | cons y m =>
      rw [T.ords, lex_zero] at h
      rw [ih x (by simp) y h.1 (hm y (by simp)), ihl (fun z hz => ih z (by simp [hz])) (fun z hz => hm z (by simp [hz])) h.2]
theorem ord_eq : ∀ v : V, ∀ w : V, T.ord v.t w.t = 0 → v.t = w.t := by
  refine V.ind ?_
  intro k n s a c e l ih w h
  obtain ⟨k', n', s', a', c', e', l', rfl⟩ := V.ex w
  rw [V.t_of, V.t_of, T.of, T.of, T.ord_of, V.l_of] at h
  simp only [lex_zero, cmpZ_zero, cmpB_zero, V.k_of, V.n_of, V.s_of, V.e_of] at h
  obtain ⟨h1, h2, h3, h4, h5⟩ := h
  rw [V.t_of, V.t_of, h1, h2, toList_inj h3, h5]
  have : V.ts l = V.ts l' := by
    refine ords_nil (fun x hx y hxy hy => ?_) (fun y hy => ?_) h4
    · obtain ⟨z, hz, rfl⟩ := t_mem hx
      obtain ⟨b, rfl⟩ := hy
      exact ih z hz b hxy
    · obtain ⟨z, hz, rfl⟩ := t_mem hy
      exact ⟨z, rfl⟩
  rw [this]
theorem eqT_iff (v w : V) : eqT v.t w.t = true ↔ v.t = w.t := by
  unfold eqT
  rw [decide_eq_true_eq]
  refine ⟨ord_eq v w, fun h => ?_⟩
  rw [h]
  have := neg_ord w.t w.t
  omega
theorem pre_same (B : Nat → ByteArray → Int) (W : List T → Bool) (v w : V) (hv : Gd B W v.t 32) (hw : Gd B W w.t 32) (bv : T.body v.t + 16 < 4294967296) (bw : T.body w.t + 16 < 4294967296) (h : T.enc v.t <+: T.enc w.t) : v.t = w.t := by
  have h1 := val_back B W v 32 0 (T.enc w.t).length (-1) (T.enc w.t) hv bv (by simpa using h) (by simpa using h.length_le)
  have h2 := val_back B W w 32 0 (T.enc w.t).length (-1) (T.enc w.t) hw bw (by simp) (by simp)
  rw [h1] at h2
  simp only [Except.ok.injEq, Prod.mk.injEq] at h2
  exact h2.1
theorem apart_take (B : Nat → ByteArray → Int) (W : List T → Bool) (v w : V) (hv : Gd B W v.t 32) (hw : Gd B W w.t 32) (bv : T.body v.t + 16 < 4294967296) (bw : T.body w.t + 16 < 4294967296) :
    ((T.enc v.t).take (min (T.enc v.t).length (T.enc w.t).length) = (T.enc w.t).take (min (T.enc v.t).length (T.enc w.t).length)) ↔ v.t = w.t := by
  constructor
  · intro h
    rcases Nat.le_total (T.enc v.t).length (T.enc w.t).length with hle | hle
    · rw [Nat.min_eq_left hle, List.take_length] at h
      exact pre_same B W v w hv hw bv bw (List.prefix_iff_eq_take.2 h)
    · rw [Nat.min_eq_right hle, List.take_length] at h
      exact (pre_same B W w v hw hv bw bv (List.prefix_iff_eq_take.2 h.symm)).symm
  · intro h
    rw [h]
theorem apart_eq (B : Nat → ByteArray → Int) (W : List T → Bool) (v w : V) (hv : Gd B W v.t 32) (hw : Gd B W w.t 32) (bv : T.body v.t + 16 < 4294967296) (bw : T.body w.t + 16 < 4294967296) : T.enc v.t = T.enc w.t ↔ v.t = w.t :=
  ⟨fun h => pre_same B W v w hv hw bv bw (by rw [h]; exact List.prefix_rfl), fun h => by rw [h]⟩
end Go.Proofs.YtdclmgcaeagphabDoor
