/- HFlM -/
import Derived.Test.YtgldcchleoklcaaGreatDoorF32
import Derived.Test.YtgldcchleoklcaaGreatDoorF31
namespace Go.Proofs.YtgldcchleoklcaaGreatDoor
open Go.RowKit
set_option linter.unusedVariables false
set_option linter.unusedSimpArgs false
structure El where
  ty : TypeId
  sz : Nat
  m : Nat → List Value
structure El.Ok (E : El) : Prop where
  pos : 0 < E.sz
  len : ∀ i, (E.m i).length = E.sz
  one : ∀ i, ∀ u ∈ E.m i, u.oneCell' = true
def El.row (E : El) (n i : Nat) : List Value := (List.replicate n (E.m i)).flatten
theorem rowE_succ (E : El) (n i : Nat) : E.row (n + 1) i = E.row n i ++ E.m i := by
  unfold El.row
  rw [List.replicate_succ', List.flatten_append]
  simp
theorem rowE_len {E : El} (h : E.Ok) (n i : Nat) : (E.row n i).length = n * E.sz := by
  induction n with
  | zero => simp [El.row]
  | succ n ih => rw [rowE_succ, List.length_append, ih, h.len, Nat.succ_mul]
theorem rowE_get {E : El} (h : E.Ok) {n i j t : Nat} (hj : j < n) (ht : t < E.sz) : (E.row n i)[j * E.sz + t]? = (E.m i)[t]? := by
  induction n with
  | zero => omega
  | succ n ih =>
    rw [rowE_succ]
    by_cases e : j < n
    · have h1 : (j + 1) * E.sz ≤ n * E.sz := Nat.mul_le_mul_right _ e
      rw [Nat.succ_mul] at h1
      rw [List.getElem?_append_left (by rw [rowE_len h]; omega), ih e]
    · obtain rfl : j = n := by omega
      rw [List.getElem?_append_right (by rw [rowE_len h]; omega), rowE_len h, Nat.add_sub_cancel_left]
def RdE (E : El) (w : World) (g n i : Nat) : Prop := ∀ j t, j < n → t < E.sz → w.cell? ⟨g, j * E.sz + t, none⟩ = (E.m i)[t]?
theorem RdE.same {E : El} {w w' : World} {g n i : Nat} (h : RdE E w g n i) (hs : w'.heap[g]? = w.heap[g]?) : RdE E w' g n i := fun j t hj ht => (World.cell?_of_block (a := ⟨g, j * E.sz + t, none⟩) hs).trans (h j t hj ht)
theorem RdE.less {E : El} {w : World} {g n m i : Nat} (h : RdE E w g n i) (hm : m ≤ n) : RdE E w g m i := fun j t hj ht => h j t (by omega) ht
theorem rdE_own {E : El} (hE : E.Ok) {w : World} {base g n cap i : Nat} (h : w.ownsRow base E.ty E.sz (.slice (some ⟨g, 0, none⟩) n cap) n (E.row n i)) : RdE E w g n i := by
  rcases h.2 with ⟨e, _⟩ | ⟨g', cap', cur, e, hb, hg, hc, hm, hs, ht⟩
  · cases e
  · cases e
    intro j t hj hts
    have h1 : (j + 1) * E.sz ≤ n * E.sz := Nat.mul_le_mul_right _ hj
    rw [Nat.succ_mul] at h1
    unfold World.cell?
    simp only [hg]
    rw [← Array.getElem?_toList, ← List.getElem?_take_of_lt (show j * E.sz + t < n * E.sz by omega), ht, rowE_get hE hj hts]
    rfl
theorem own_rdE {E : El} (hE : E.Ok) {w : World} {base g n i : Nat} (hb : Blk w g E.ty (n * E.sz)) (hr : RdE E w g n i) (hn : n ≤ maxLen) (hlo : base ≤ g) : w.ownsRow base E.ty E.sz (.slice (some ⟨g, 0, none⟩) n n) n (E.row n i) := by
  obtain ⟨cs, h1, h2⟩ := hb
  refine ⟨rowE_len hE n i, .inr ⟨g, n, cs, rfl, hlo, h1, Nat.le_refl _, hn, h2, ?_⟩⟩
  refine List.ext_getElem? (fun k => ?_)
  by_cases hk : k < n * E.sz
  · rw [List.getElem?_take_of_lt hk, Array.getElem?_toList]
    have hd := Nat.div_add_mod k E.sz
    have hq : k % E.sz < E.sz := Nat.mod_lt _ hE.pos
    have hi : k / E.sz < n := (Nat.div_lt_iff_lt_mul hE.pos).2 hk
    have e : k / E.sz * E.sz + k % E.sz = k := by rw [Nat.mul_comm]; exact hd
    have h3 := hr (k / E.sz) (k % E.sz) hi hq
    have h4 := rowE_get hE (i := i) hi hq
    rw [e] at h3 h4
    rw [h4, ← h3]
    unfold World.cell?
    simp only [h1]
    rfl
  · rw [List.getElem?_eq_none (by rw [List.length_take]; omega), List.getElem?_eq_none (by rw [rowE_len hE]; omega)]
theorem setCs_size (b : Nat) : ∀ (vs : List Value) (o : Nat) (w : World), (w.setCells b o vs).heap.size = w.heap.size := by
  intro vs
  induction vs with
  | nil => intro o w; rfl
  | cons v vs ih => intro o w; rw [World.setCells, ih]; simp [World.setCell]
theorem setCs_far {b b' : Nat} (h : b' ≠ b) : ∀ (vs : List Value) (o : Nat) (w : World), (w.setCells b o vs).heap[b']? = w.heap[b']? := by
  intro vs
  induction vs with
  | nil => intro o w; rfl
  | cons v vs ih => intro o w; rw [World.setCells, ih]; exact Below.heap_setCell _ _ _ _ (by exact h)
theorem setCs_blk {b : Nat} {t : TypeId} {m : Nat} : ∀ (vs : List Value) (o : Nat) (w : World), Blk w b t m → Blk (w.setCells b o vs) b t m := by
  intro vs
  induction vs with
  | nil => intro o w h; exact h
  | cons v vs ih => intro o w h; rw [World.setCells]; exact ih _ _ (h.setCell _ _)
theorem setCs_three (b : Nat) : ∀ (vs : List Value) (o : Nat) (w : World), (w.setCells b o vs).os = w.os ∧ (w.setCells b o vs).tape = w.tape ∧ (w.setCells b o vs).output = w.output := by
  intro vs
  induction vs with
  | nil => intro o w; exact ⟨rfl, rfl, rfl⟩
  | cons v vs ih => intro o w; rw [World.setCells]; exact ih _ _
theorem RdE.put {E : El} (hE : E.Ok) {w : World} {g n k i : Nat} (hb : Blk w g E.ty (n * E.sz)) (hk : k < n) (hr : RdE E w g k i) : RdE E (w.setCells g (k * E.sz) (E.m i)) g (k + 1) i := by
  intro j t hj ht
  by_cases e : j < k
  · have h1 : (j + 1) * E.sz ≤ k * E.sz := Nat.mul_le_mul_right _ e
    rw [Nat.succ_mul] at h1
    rw [World.cell?_setCells_out g (E.m i) _ w _ (fun _ _ => .inl (by show j * E.sz + t < _; omega))]
    exact hr j t e ht
  · obtain rfl : j = k := by omega
    have h1 : (j + 1) * E.sz ≤ n * E.sz := Nat.mul_le_mul_right _ hk
    rw [Nat.succ_mul] at h1
    have := World.cell?_setCells_in g (E.m i) (j * E.sz) w (fun q hq => by
      rw [hE.len] at hq
      obtain ⟨v, hv⟩ := hb.some (j * E.sz + q) (by omega)
      rw [hv]
      rfl) t (by rw [hE.len]; exact ht)
    rw [this, List.getElem?_eq_getElem]
def OwnsE (E : El) (w : World) (S : List Value) : Prop := (∀ s ∈ S, s = .slice none 0 0 ∨ ∃ g n, s = .slice (some ⟨g, 0, none⟩) n n ∧ n ≤ 100 ∧ Blk w g E.ty (n * E.sz)) ∧ (blocksOf S).Nodup
theorem OwnsE.lt {E : El} {w : World} {S : List Value} (h : OwnsE E w S) {g : Nat} (hg : g ∈ blocksOf S) : g < w.heap.size := by
  obtain ⟨s, hs, e⟩ := List.mem_filterMap.1 hg
  rcases h.1 s hs with rfl | ⟨g', n, rfl, _, q⟩
  · cases e
  · cases e
    exact q.lt
theorem OwnsE.keep {E : El} {w w' : World} {S : List Value} (h : OwnsE E w S) (hk : ∀ g, g ∈ blocksOf S → w'.heap[g]? = w.heap[g]?) : OwnsE E w' S := by
  refine ⟨fun s hs => ?_, h.2⟩
  rcases h.1 s hs with e | ⟨g, n, e, hn, cs, q3, q4⟩
  · exact .inl e
  · exact .inr ⟨g, n, e, hn, cs, (hk g (mem_blocks hs (by rw [e]; rfl))).trans q3, q4⟩
theorem OwnsE.apart {E : El} {w : World} {S : List Value} (h : OwnsE E w S) {i j g : Nat} (hi' : i < S.length) (hj : j < S.length) (hne : i ≠ j) (e : S[i].ownBlock = some g) : S[j].ownBlock ≠ some g := by
  have hp := h.2
  unfold blocksOf List.Nodup at hp
  rw [List.pairwise_filterMap] at hp
  rw [List.pairwise_iff_getElem] at hp
  intro e'
  rcases Nat.lt_or_gt_of_ne hne with hlt | hlt
  · exact hp i j hi' hj hlt g e g e' rfl
  · exact hp j i hj hi' hlt g e' g e rfl
structure MarksE (E : El) (S : List Value) (i : Nat) (w wr : World) : Prop where
  turns : TurnS S w wr
  owns : OwnsE E wr S
  full : ∀ j (h : j < S.length), j < i → ∀ g n c, S[j] = .slice (some ⟨g, 0, none⟩) n c → RdE E wr g n j
theorem MarksE.start {E : El} {S : List Value} {w : World} (h : OwnsE E w S) : MarksE E S 0 w w := ⟨TurnS.refl _ _, h, fun _ _ h => by omega⟩
theorem TurnS.putCs {S : List Value} {a b : World} (h : TurnS S a b) {g : Nat} (hg : g ∈ blocksOf S) (o : Nat) (vs : List Value) : TurnS S a (b.setCells g o vs) :=
  ⟨(setCs_three g vs o b).1.trans h.os, (setCs_three g vs o b).2.1.trans h.tape, (setCs_three g vs o b).2.2.trans h.output, by rw [setCs_size]; exact h.size, fun k hk hn => (setCs_far (b := g) (b' := k) (fun e => hn (by rw [e]; exact hg)) vs o b).trans (h.block k hk hn)⟩
theorem MarksE.put {E : El} (hE : E.Ok) {S : List Value} {i k g n : Nat} {w wr : World} (h : MarksE E S i w wr) (hi' : i < S.length) (e : S[i] = .slice (some ⟨g, 0, none⟩) n n) (hk : k < n) (hr : RdE E wr g k i) : MarksE E S i w (wr.setCells g (k * E.sz) (E.m i)) ∧ RdE E (wr.setCells g (k * E.sz) (E.m i)) g (k + 1) i := by
  have hgm : g ∈ blocksOf S := mem_blocks (List.getElem_mem hi') (by rw [e]; rfl)
  have hblk : Blk wr g E.ty (n * E.sz) := by
    rcases h.owns.1 _ (List.getElem_mem hi') with e' | ⟨g', n', e', _, q⟩
    · rw [e] at e'; cases e'
    · rw [e] at e'; cases e'; exact q
  refine ⟨⟨h.turns.putCs hgm _ _, ⟨fun s hs => ?_, h.owns.2⟩, fun j hj hji g' n' c' e' => (h.full j hj hji g' n' c' e').same (setCs_far (fun eq => ?_) _ _ _)⟩, hr.put hE hblk hk⟩
  · rcases h.owns.1 s hs with e | ⟨g', n', e, hn, p3⟩
    · exact .inl e
    · refine .inr ⟨g', n', e, hn, ?_⟩
      by_cases hg : g' = g
      · subst hg
        exact setCs_blk _ _ _ p3
      · obtain ⟨cs, c1, c2⟩ := p3
        exact ⟨cs, (setCs_far hg _ _ _).trans c1, c2⟩
  · subst eq
    exact h.owns.apart hj hi' (by omega) (by rw [e']; rfl) (by rw [e]; rfl)
theorem MarksE.next {E : El} {S : List Value} {i : Nat} {w wr : World} (h : MarksE E S i w wr) (hi' : i < S.length) (hr : ∀ g n c, S[i] = .slice (some ⟨g, 0, none⟩) n c → RdE E wr g n i) : MarksE E S (i + 1) w wr := by
  refine ⟨h.turns, h.owns, fun j hj hji g n c e => ?_⟩
  by_cases hj' : j = i
  · subst hj'
    exact hr g n c e
  · exact h.full j hj (by omega) g n c e
end Go.Proofs.YtgldcchleoklcaaGreatDoor
