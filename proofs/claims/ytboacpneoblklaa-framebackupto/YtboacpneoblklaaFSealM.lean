/- FrameSeals: a frame is laid into its variable in a region that draws its order. -/
import Derived.Test.YtboacpneoblklaaFOpensM
import Derived.Test.YtboacpneoblklaaFSealA
import Derived.Test.YtboacpneoblklaaFTurn
namespace Go.Proofs.Ytboacpneoblklaa
open Go.RowKit Go.Deep
set_option linter.unusedVariables false
set_option linter.unusedSimpArgs false

theorem set4_other (W : World) (R : Nat) (v0 v1 v2 v3 : Value) (k : Nat) (h : k ≠ R) : ((((W.setCell ⟨R, 0, none⟩ v0).setCell ⟨R, 1, none⟩ v1).setCell ⟨R, 2, none⟩ v2).setCell ⟨R, 3, none⟩ v3).heap[k]? = W.heap[k]? := by
  have h' : R ≠ k := fun e => h e.symm
  simp [World.setCell, Array.getElem?_modify, h']
theorem Lentb.block {w w' : World} {B g n cap : Nat} {l : List Nat} (h : Lentb w B g n cap l) (he : w'.heap[g]? = w.heap[g]?) : Lentb w' B g n cap l := by
  obtain ⟨g1, r1, g2, g3, g4, g5, g6⟩ := h
  exact ⟨g1, r1, g2, g3, g4.block he, g5, g6⟩
theorem Lentb.mono {w : World} {B B' g n cap : Nat} {l : List Nat} (h : Lentb w B g n cap l) (hB : B' ≤ B) : Lentb w B' g n cap l := by
  obtain ⟨g1, g2⟩ := h
  exact ⟨Nat.le_trans hB g1, g2⟩
/-- what stays when a frame is laid -/
def Stay (w4 W : World) (F : Nat) : Prop := W.os = w4.os ∧ W.tape = w4.tape ∧ W.output = w4.output ∧ w4.heap.size ≤ W.heap.size ∧ ∀ k, k < w4.heap.size → k ≠ F → W.heap[k]? = w4.heap[k]?
theorem Stay.lentb {w4 W : World} {F B g n cap : Nat} {l : List Nat} (h : Stay w4 W F) (hl : Lentb w4 B g n cap l) (hne : g ≠ F) : Lentb W B g n cap l := hl.block (h.2.2.2.2 g (hl.room).2.2 hne)
theorem Stay.rd {w4 W : World} {F : Nat} {a : Option Addr} {n : Nat} {l : List Nat} (h : Stay w4 W F) (hr : Rd w4 a n l) (hg : ∀ b o, a = some ⟨b, o, none⟩ → b ≠ F) : Rd W a n l := by
  obtain ⟨h1, h2, h3⟩ := hr
  refine ⟨h1, h2, fun hn => ?_⟩
  obtain ⟨b, off, ha, hlt, hc⟩ := h3 hn
  exact ⟨b, off, ha, Nat.lt_of_lt_of_le hlt h.2.2.2.1, fun j hj => (World.cell?_of_block (a := ⟨b, off + j, none⟩) (h.2.2.2.2 b hlt (hg b off ha))).trans (hc j hj)⟩
theorem Stay.below {w0 w4 W : World} {F B : Nat} (h : Stay w4 W F) (hb : Below B w0 w4) (hB : B ≤ w4.heap.size) (hF : B ≤ F) : Below B w0 W :=
  hb.trans ⟨h.1, h.2.1, h.2.2.1, h.2.2.2.1, fun k hk => h.2.2.2.2 k (by omega) (by omega)⟩
theorem lay_last (w4 W : World) (v0 v1 v2 v3 : Value) (e1 : W.heap = (w4.alloc (.cells #[v0, v1, v2, v3] 24)).heap) (e2 : W.os = w4.os) (e3 : W.tape = w4.tape) (e4 : W.output = w4.output) : FB4 W w4.heap.size v0 v1 v2 v3 ∧ Stay w4 W w4.heap.size := by
  refine ⟨?_, e2, e3, e4, by rw [e1]; simp, fun k hk _ => by rw [e1]; exact heap_alloc_old _ _ hk⟩
  unfold FB4
  rw [e1]
  exact heap_alloc_new _ _
theorem lay_set (w4 W : World) (F : Nat) (v0 v1 v2 v3 : Value) (hF : FZ w4 F) (e1 : W.heap = ((((w4.setCell ⟨F, 0, none⟩ v0).setCell ⟨F, 1, none⟩ v1).setCell ⟨F, 2, none⟩ v2).setCell ⟨F, 3, none⟩ v3).heap) (e2 : W.os = w4.os) (e3 : W.tape = w4.tape) (e4 : W.output = w4.output) : FB4 W F v0 v1 v2 v3 ∧ Stay w4 W F := by
  refine ⟨?_, e2, e3, e4, by rw [e1]; simp, fun k hk hne => by rw [e1]; exact set4_other _ _ _ _ _ _ k hne⟩
  have := hF.put v0 v1 v2 v3
  unfold FB4 at *
  rw [e1]
  exact this
/-- the book, the codes, and the lists that came out -/
def St (W5 w : World) (B kb : Nat) (v : Value) (xs : List Value) (fs : List (Option Nat × List Nat)) (kc : Nat) (cv : Value) (cs : List Value) : Prop :=
  Book w B 31 v ∧ w.ownsRow B 22 1 v kb xs ∧ Ents w B fs ∧ w.ownsRow B 33 1 cv kc cs ∧ Below B W5 w ∧ B + 1 ≤ w.heap.size
theorem own_keep {w w' : World} {B n s : Nat} {t : TypeId} {v : Value} {xs : List Value} (h : w.ownsRow B t s v n xs) (hk : ∀ g cs, B ≤ g → w.heap[g]? = some (.cells cs t (0, 0)) → w'.heap[g]? = some (.cells cs t (0, 0))) : w'.ownsRow B t s v n xs := by
  refine ⟨h.1, ?_⟩
  rcases h.2 with hn | ⟨g, cap, cur, hv, hbg, hg, rest⟩
  · exact .inl hn
  · exact .inr ⟨g, cap, cur, hv, hbg, hk g _ hbg hg, rest⟩
theorem St.below {W5 w w' : World} {B kb kc : Nat} {v cv : Value} {xs cs : List Value} {fs : List (Option Nat × List Nat)} (h : St W5 w B kb v xs fs kc cv cs) (hb : Below w.heap.size w w') : St W5 w' B kb v xs fs kc cv cs := by
  obtain ⟨h1, h2, h3, h4, h5, h6⟩ := h
  exact ⟨(hb.block B (by omega)).trans h1, ownsRow_below4 h2 hb, h3.below hb, ownsRow_below4 h4 hb, h5.trans (hb.mono (by omega)), Nat.le_trans h6 hb.size⟩
theorem St.call {W5 w w' : World} {B kb kc : Nat} {v cv : Value} {xs cs : List Value} {fs : List (Option Nat × List Nat)} (h : St W5 w B kb v xs fs kc cv cs) (hb : Below w.heap.size w w') {o : Option Nat} {L : List Nat} (h1 : o = none → L = []) (hl : ∀ c ∈ L, c < 256) (h2 : ∀ g, o = some g → w.heap.size ≤ g ∧ Bl w' g L) : St W5 w' B kb v xs (fs ++ [(o, L)]) kc cv cs := by
  have h' := h.below hb
  exact ⟨h'.1, h'.2.1, h.2.2.1.snoc hb (by have := h.2.2.2.2.2; omega) h1 hl h2, h'.2.2.2.1, h'.2.2.2.2.1, h'.2.2.2.2.2⟩
theorem St.book {W5 w2 w3 : World} {B kb kc : Nat} {v v' nv cv : Value} {xs cs : List Value} {fs : List (Option Nat × List Nat)} (h : St W5 w2 B kb v xs fs kc cv cs)
    (r1 : w3.ownsRow B 22 1 v' (kb + 1) (xs ++ [nv])) (r2 : (w2.alloc (.cells #[nv] 22)).grownBy w3 v.ownBlock) : St W5 (w3.setCell ⟨B, 0, none⟩ v') B (kb + 1) v' (xs ++ [nv]) fs kc cv cs ∧ Book w3 B 31 v := by
  obtain ⟨h1, h2, h3, h4, h5, h6⟩ := h
  obtain ⟨s1, s2, s3, s4, s5, s6⟩ := book_step h1 h2 h3 h5 (by omega) (Nat.le_refl _) r1 r2
  exact ⟨⟨s1, s2, s3, own_keep h4 (fun g cs _ hg => book_keep h1 h2 r2 g _ _ _ (by decide) (by decide) hg), s4, by omega⟩, s6⟩
theorem St.code {W5 w2 w3 : World} {B kb kc : Nat} {v nv cv cv' : Value} {xs cs : List Value} {fs : List (Option Nat × List Nat)} (h : St W5 w2 B kb v xs fs kc cv cs)
    (r1 : w3.ownsRow B 33 1 cv' (kc + 1) (cs ++ [nv])) (r2 : (w2.alloc (.cells #[nv] 33)).grownBy w3 cv.ownBlock) : St W5 w3 B kb v xs fs (kc + 1) cv' (cs ++ [nv]) := by
  have h' := h.below (below_box w2 (.cells #[nv] 33))
  obtain ⟨h1, h2, h3, h4, h5, h6⟩ := h'
  have hk := fun g cs t fz (ht : t ≠ 33) hg => grown_keep h4 r2 g cs t fz ht hg
  have hz := r2.size
  exact ⟨hk B _ _ _ (by decide) h1, own_keep h2 (fun g cs _ hg => hk g cs _ _ (by decide) hg), h3.keep (fun g l _ hl => hk g _ _ _ (by decide) hl), r1, h5.grown r2 (by omega) (fun g hg => (h4.lt g hg).1), by omega⟩
/-- the bytes and the codes of the first four -/
def sB (ty0 ch0 : Int) (x0 y0 : List Nat) (ty1 ch1 : Int) (x1 y1 : List Nat) (j : Nat) : List Nat := if j = 1 then seB ty1 ch1 x1 y1 else if j = 4 then seB ty0 ch0 (turnB x0) (turnB y0) else seB ty0 ch0 x0 y0
def sE (ty0 ch0 : Int) (n0 m0 : Nat) (ty1 ch1 : Int) (n1 m1 : Nat) (j : Nat) : Int := if j = 1 then sealE ty1 ch1 n1 m1 else sealE ty0 ch0 n0 m0
theorem cell_newS (w : World) (p : Addr) (u v : Value) (t : TypeId) : ((w.setCell p u).alloc (.cells #[v] t)).cell? ⟨w.heap.size, 0, none⟩ = some v := by
  have h := cell_new1 (w.setCell p u) v t
  rw [show (w.setCell p u).heap.size = w.heap.size by simp] at h
  exact h
theorem St.other {W5 w w' : World} {B kb kc : Nat} {v cv : Value} {xs cs : List Value} {fs : List (Option Nat × List Nat)} (h : St W5 w B kb v xs fs kc cv cs) (hk : ∀ k, B ≤ k → k < w.heap.size → w'.heap[k]? = w.heap[k]?) (hs : w.heap.size ≤ w'.heap.size) : St w' w' B kb v xs fs kc cv cs := by
  obtain ⟨h1, h2, h3, h4, h5, h6⟩ := h
  exact ⟨(hk B (Nat.le_refl _) (by omega)).trans h1, own_keep h2 (fun g cs hg h => (hk g hg (Array.getElem?_eq_some_iff.1 h).1).trans h), h3.keep (fun g l hg hl => (hk g hg hl.lt).trans hl), own_keep h4 (fun g cs hg h => (hk g hg (Array.getElem?_eq_some_iff.1 h).1).trans h), Below.refl _ _, by omega⟩
theorem St.grow {W5 w w' : World} {B kb kc base n s : Nat} {v cv u : Value} {xs cs ys : List Value} {fs : List (Option Nat × List Nat)} (h : St W5 w B kb v xs fs kc cv cs) (ho : w.ownsRow base 24 s u n ys) (r2 : w.grownBy w' u.ownBlock) : St w' w' B kb v xs fs kc cv cs := by
  obtain ⟨h1, h2, h3, h4, h5, h6⟩ := h
  have hk := fun g cs t fz (ht : t ≠ 24) hg => grown_keep ho r2 g cs t fz ht hg
  have hz := r2.size
  exact ⟨hk B _ _ _ (by decide) h1, own_keep h2 (fun g cs _ hg => hk g cs _ _ (by decide) hg), h3.keep (fun g l _ hl => hk g _ _ _ (by decide) hl), own_keep h4 (fun g cs _ hg => hk g cs _ _ (by decide) hg), Below.refl _ _, by omega⟩
theorem Lentb.ne {w : World} {B g n cap F : Nat} {l : List Nat} {v0 v1 v2 v3 : Value} (h : Lentb w B g n cap l) (hf : FB4 w F v0 v1 v2 v3) : F ≠ g := by
  obtain ⟨_, r, _, _, ⟨fz, hg, _⟩, _⟩ := h
  rintro rfl
  unfold FB4 at hf
  rw [hf] at hg
  simp at hg
theorem kp_block {w w' : World} {g k : Nat} (h : Kp (fun k => k = g) w w') (hk : k < w.heap.size) (hne : k ≠ g) : w'.heap[k]? = w.heap[k]? := h.2.2.2.2 k hk hne
theorem own4_shape {w : World} {base n s : Nat} {e : TypeId} {v : Value} {xs : List Value} (h : w.ownsRow base e s v n xs) (h0 : 0 < n) : ∃ g cap, v = .slice (some ⟨g, 0, none⟩) n cap ∧ base ≤ g ∧ g < w.heap.size ∧ n ≤ cap := by
  rcases h.2 with ⟨_, h1⟩ | ⟨g, cap, cur, h1, h2, h3, h4, _⟩
  · omega
  · exact ⟨g, cap, h1, h2, (Array.getElem?_eq_some_iff.1 h3).1, h4⟩
theorem own4_at {w : World} {base n s g c : Nat} {e : TypeId} {xs : List Value} (h : w.ownsRow base e s (.slice (some ⟨g, 0, none⟩) n c) n xs) {i : Nat} (hi : i < n * s) : w.cell? ⟨g, i, none⟩ = xs[i]? := by
  rcases h.2 with ⟨h1, _⟩ | ⟨g', cap, cur, h1, h2, h3, h4, _, h5, h6⟩
  · simp at h1
  · simp only [Value.slice.injEq, Option.some.injEq, Addr.mk.injEq, and_true, true_and] at h1
    obtain ⟨e1, e2⟩ := h1
    subst e1
    rw [← h6, List.getElem?_take, if_pos hi]
    simp [World.cell?, h3]
theorem own_keep1 {w w' : World} {B n n' s g c : Nat} {t : TypeId} {xs : List Value} (h : w.ownsRow B t s (.slice (some ⟨g, 0, none⟩) n c) n' xs) (hk : w'.heap[g]? = w.heap[g]?) : w'.ownsRow B t s (.slice (some ⟨g, 0, none⟩) n c) n' xs := by
  refine ⟨h.1, ?_⟩
  rcases h.2 with hn | ⟨g', cap, cur, hv, hbg, hg, rest⟩
  · exact .inl hn
  · refine .inr ⟨g', cap, cur, hv, hbg, ?_, rest⟩
    simp only [Value.slice.injEq, Option.some.injEq, Addr.mk.injEq, and_true] at hv
    rw [← hv.1, hk, hv.1]
    exact hg
theorem rd_two {w w' : World} {a : Option Addr} {n g1 g2 : Nat} {l : List Nat} (h : Rd w a n l) (hk : ∀ k, k < w.heap.size → k ≠ g1 → k ≠ g2 → w'.heap[k]? = w.heap[k]?) (hg : ∀ b o, a = some ⟨b, o, none⟩ → b ≠ g1 ∧ b ≠ g2) (hs : w.heap.size ≤ w'.heap.size) : Rd w' a n l := by
  obtain ⟨h1, h2, h3⟩ := h
  refine ⟨h1, h2, fun hn => ?_⟩
  obtain ⟨b, off, ha, hlt, hc⟩ := h3 hn
  exact ⟨b, off, ha, Nat.lt_of_lt_of_le hlt hs, fun j hj => (World.cell?_of_block (a := ⟨b, off + j, none⟩) (hk b hlt (hg b off ha).1 (hg b off ha).2)).trans (hc j hj)⟩
theorem new4 (w : World) (v0 v1 v2 v3 : Value) : ∀ j u, ([v0, v1, v2, v3] : List Value)[j]? = some u → (w.alloc (.cells #[v0, v1, v2, v3] 24)).cell? ((⟨w.heap.size, 0, none⟩ : Addr).add j) = some u := fun j u hj => by
  rw [add_none, Nat.zero_add, World.cell?_alloc_at _ _ _ _ rfl]
  simpa using hj
theorem one4 (ty ch : Int) (a : Option Addr) (n c : Nat) (b : Option Addr) (m d : Nat) : ∀ u ∈ ([.int .i64 ty, .int .i64 ch, .slice a n c, .slice b m d] : List Value), u.oneCell' = true := fun u hu => by
  simp at hu
  rcases hu with rfl | rfl | rfl | rfl <;> rfl
theorem ents_rd1 {w : World} {B : Nat} {fs : List (Option Nat × List Nat)} (h : Ents w B fs) {j : Nat} (hj : j < fs.length) : Rd w (fs[j].1.map (fun g => (⟨g, 0, none⟩ : Addr))) fs[j].2.length fs[j].2 := by
  obtain ⟨h1, h2, h3⟩ := h j hj
  cases hg : fs[j].1 with
  | none => rw [h1 hg]; exact ⟨rfl, fun c hc => by simp at hc, fun h => by simp at h⟩
  | some g => exact (h3 g hg).2.1.rd0 h2
end Go.Proofs.Ytboacpneoblklaa
