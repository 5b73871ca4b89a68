/- FrameBack: frames that came in, bytes that are placed, the three rows of the first loop. -/
import Derived.Test.YtboacpneoblklaaFBackM
import Derived.Test.YtboacpneoblklaaFHeadsW
import Derived.Test.YtboacpneoblklaaFSealM
import Derived.Test.YtboacpneoblklaaFApp
import Derived.Test.YtboacpneoblklaaFApp2
namespace Go.Proofs.Ytboacpneoblklaa
open Go.RowKit Go.Deep
set_option linter.unusedVariables false
set_option linter.unusedSimpArgs false

/-- ints that came in -/
def Ri (w : World) (a : Option Addr) (n : Nat) (zs : List Int) : Prop := 0 < n → ∃ b off, a = some ⟨b, off, none⟩ ∧ b < w.heap.size ∧ ∀ j, j < n → w.cell? ⟨b, off + j, none⟩ = some (.int .i64 (zs.getD j 0))
theorem Ri.below {w w' : World} {a : Option Addr} {n : Nat} {zs : List Int} (h : Ri w a n zs) (hb : Below w.heap.size w w') : Ri w' a n zs := fun hn => by
  obtain ⟨b, off, ha, hlt, hc⟩ := h hn
  exact ⟨b, off, ha, Nat.lt_of_lt_of_le hlt hb.size, fun j hj => (hb.cell (p := ⟨b, off + j, none⟩) hlt).trans (hc j hj)⟩
/-- a frame: type, channel, extension, body -/
abbrev Fr : Type := (Int × Int) × (Option Addr × Nat × Nat × List Nat) × (Option Addr × Nat × Nat × List Nat)
def fcells (f : Fr) : List Value := [.int .i64 f.1.1, .int .i64 f.1.2, .slice f.2.1.1 f.2.1.2.1 f.2.1.2.2.1, .slice f.2.2.1 f.2.2.2.1 f.2.2.2.2.1]
def FOk (w : World) (f : Fr) : Prop := Rd w f.2.1.1 f.2.1.2.1 f.2.1.2.2.2 ∧ Rd w f.2.2.1 f.2.2.2.1 f.2.2.2.2.2 ∧ f.2.1.2.1 ≤ 140737488351232 ∧ f.2.2.2.1 ≤ 140737488351232
theorem FOk.below {w w' : World} {f : Fr} (h : FOk w f) (hb : Below w.heap.size w w') : FOk w' f := ⟨h.1.below hb, h.2.1.below hb, h.2.2⟩
/-- frames that came in -/
def RF (w : World) (a : Option Addr) (n : Nat) (fs : Nat → Fr) : Prop := (0 < n → ∃ b off, a = some ⟨b, off, none⟩ ∧ b < w.heap.size ∧ ∀ j, j < n → w.cell? ⟨b, off + j * 4, none⟩ = some (.int .i64 (fs j).1.1) ∧ w.cell? ⟨b, off + j * 4 + 1, none⟩ = some (.int .i64 (fs j).1.2) ∧ w.cell? ⟨b, off + j * 4 + 2, none⟩ = some (.slice (fs j).2.1.1 (fs j).2.1.2.1 (fs j).2.1.2.2.1) ∧ w.cell? ⟨b, off + j * 4 + 3, none⟩ = some (.slice (fs j).2.2.1 (fs j).2.2.2.1 (fs j).2.2.2.2.1)) ∧ ∀ j, j < n → FOk w (fs j)
/-- bytes that stand at a place -/
def Placed (AL : List Nat) (p : Nat) (L : List Nat) : Prop := p + L.length ≤ AL.length ∧ (AL.drop p).take L.length = L
theorem Placed.app {AL L : List Nat} {p : Nat} (h : Placed AL p L) (M : List Nat) : Placed (AL ++ M) p L := by
  obtain ⟨h1, h2⟩ := h
  refine ⟨by simp; omega, ?_⟩
  rw [List.drop_append_of_le_length (by omega), List.take_append_of_le_length (by simp; omega), h2]
theorem Placed.new (AL L : List Nat) : Placed (AL ++ L) AL.length L := by
  refine ⟨by simp, ?_⟩
  rw [List.drop_left, List.take_of_length_le (Nat.le_refl _)]
theorem Placed.drop {AL L : List Nat} {p : Nat} (h : Placed AL p L) : AL.drop p = L ++ AL.drop (p + L.length) := by
  obtain ⟨h1, h2⟩ := h
  have := List.take_append_drop L.length (AL.drop p)
  rw [h2, List.drop_drop] at this
  exact this.symm
/-- what Seal makes of a frame -/
def fL (f : Fr) : List Nat := seB f.1.1 f.1.2 f.2.1.2.2.2 f.2.2.2.2.2
def fE (f : Fr) : Int := sealE f.1.1 f.1.2 f.2.1.2.1 f.2.2.2.1
/-- the rows of the first loop: all, places, frames -/
def S1 (w1 w : World) (B : Nat) (va : Value) (AL : List Nat) (vp : Value) (ps : List Nat) (vf : Value) (gs : List Fr) : Prop :=
  w.ownsRow B 5 1 va AL.length (AL.map byteV) ∧ w.ownsRow B 3 1 vp ps.length (ps.map fun (p : Nat) => .int .i64 (p : Int)) ∧ w.ownsRow B 24 4 vf gs.length (gs.flatMap fcells) ∧ Below B w1 w ∧ B ≤ w.heap.size
section
variable {w1 w w' : World} {B : Nat} {va vp vf v' : Value} {AL M : List Nat} {ps : List Nat} {gs : List Fr}
theorem S1.below (h : S1 w1 w B va AL vp ps vf gs) (hb : Below w.heap.size w w') : S1 w1 w' B va AL vp ps vf gs := by
  obtain ⟨h1, h2, h3, h4, h5⟩ := h
  exact ⟨ownsRow_below4 h1 hb, ownsRow_below4 h2 hb, ownsRow_below4 h3 hb, h4.trans (hb.mono h5), Nat.le_trans h5 hb.size⟩
theorem S1.all (h : S1 w1 w B va AL vp ps vf gs) (r1 : w'.ownsRow B 5 1 v' (AL.length + M.length) ((AL ++ M).map byteV)) (r2 : w.grownBy w' va.ownBlock) : S1 w1 w' B v' (AL ++ M) vp ps vf gs := by
  obtain ⟨h1, h2, h3, h4, h5⟩ := h
  have hk := fun g cs t fz (ht : t ≠ 5) hg => grown_keep h1 r2 g cs t fz ht hg
  exact ⟨by rw [List.length_append]; exact r1, own_keep h2 (fun g cs _ hg => hk g cs _ _ (by decide) hg), own_keep h3 (fun g cs _ hg => hk g cs _ _ (by decide) hg), h4.grown r2 h5 (fun g hg => (h1.lt g hg).1), Nat.le_trans h5 r2.size⟩
theorem S1.place {p : Nat} (h : S1 w1 w B va AL vp ps vf gs) (r1 : w'.ownsRow B 3 1 v' (ps.length + 1) (ps.map (fun (p : Nat) => .int .i64 (p : Int)) ++ [.int .i64 (p : Int)])) (r2 : (w.alloc (.cells #[.int .i64 (p : Int)] 3)).grownBy w' vp.ownBlock) : S1 w1 w' B va AL v' (ps ++ [p]) vf gs := by
  obtain ⟨h1, h2, h3, h4, h5⟩ := h.below (below_box w (.cells #[.int .i64 (p : Int)] 3))
  have hk := fun g cs t fz (ht : t ≠ 3) hg => grown_keep h2 r2 g cs t fz ht hg
  exact ⟨own_keep h1 (fun g cs _ hg => hk g cs _ _ (by decide) hg), by simpa using r1, own_keep h3 (fun g cs _ hg => hk g cs _ _ (by decide) hg), h4.grown r2 h5 (fun g hg => (h2.lt g hg).1), Nat.le_trans h5 r2.size⟩
theorem S1.frame {f : Fr} (h : S1 w1 w B va AL vp ps vf gs) (r1 : w'.ownsRow B 24 4 v' (gs.length + 1) (gs.flatMap fcells ++ fcells f)) (r2 : (w.alloc (.cells (fcells f).toArray 24)).grownBy w' vf.ownBlock) : S1 w1 w' B va AL vp ps v' (gs ++ [f]) := by
  obtain ⟨h1, h2, h3, h4, h5⟩ := h.below (below_box w (.cells (fcells f).toArray 24))
  have hk := fun g cs t fz (ht : t ≠ 24) hg => grown_keep h3 r2 g cs t fz ht hg
  exact ⟨own_keep h1 (fun g cs _ hg => hk g cs _ _ (by decide) hg), own_keep h2 (fun g cs _ hg => hk g cs _ _ (by decide) hg), by simpa using r1, h4.grown r2 h5 (fun g hg => by
    rcases h3.2 with ⟨e, _⟩ | ⟨g', c, cur, e, hb, _⟩
    · rw [e] at hg; cases hg
    · rw [e] at hg; simp only [Value.ownBlock, Option.some.injEq] at hg; omega), Nat.le_trans h5 r2.size⟩
end
theorem place_bl {w1 w w' : World} {B : Nat} {va vp vf : Value} {AL ps : List Nat} {gs : List Fr} {p g : Nat} {l : List Nat} (h : S1 w1 w B va AL vp ps vf gs) (r2 : (w.alloc (.cells #[.int .i64 (p : Int)] 3)).grownBy w' vp.ownBlock) (hb : Bl w g l) : Bl w' g l :=
  grown_keep (h.below (below_box w (.cells #[.int .i64 (p : Int)] 3))).2.1 r2 g _ _ _ (by decide) (hb.alloc _)
theorem frame_bl {w1 w w' : World} {B : Nat} {va vp vf : Value} {AL ps : List Nat} {gs : List Fr} {f : Fr} {g : Nat} {l : List Nat} (h : S1 w1 w B va AL vp ps vf gs) (r2 : (w.alloc (.cells (fcells f).toArray 24)).grownBy w' vf.ownBlock) (hb : Bl w g l) : Bl w' g l :=
  grown_keep (h.below (below_box w (.cells (fcells f).toArray 24))).2.2.1 r2 g _ _ _ (by decide) (hb.alloc _)
/-- the shape of a row of bytes -/
theorem own_bytes {w : World} {B : Nat} {v : Value} {l : List Nat} (h : w.ownsRow B 5 1 v l.length (l.map byteV)) (hl : ∀ c ∈ l, c < 256) : ∃ a c, v = .slice a l.length c ∧ l.length ≤ c ∧ (a = none → c = 0) ∧ Rd w a l.length l := by
  obtain ⟨a, c, rfl, _, h2, h3⟩ := Rd.of_own0 h hl
  exact ⟨a, c, rfl, h2, fun e => own_none h c (by rw [e]), h3⟩
theorem own_slice {w : World} {B n s : Nat} {t : TypeId} {v : Value} {xs : List Value} (h : w.ownsRow B t s v n xs) : ∃ a c, v = .slice a n c ∧ n ≤ c := by
  rcases h.2 with ⟨rfl, rfl⟩ | ⟨g, c, cur, rfl, _, _, h2, _⟩
  · exact ⟨none, 0, rfl, Nat.le_refl _⟩
  · exact ⟨_, c, rfl, h2⟩
/-- what is read of a frame that stands at a place -/
theorem op_placed {f : Fr} {w : World} (hok : FOk w f) (hE : fE f = 0) {AL : List Nat} {p : Nat} (hp : Placed AL p (fL f)) :
    opE AL p 1048576 = 0 ∧ opK AL p 1048576 = f.1.1 ∧ opC AL p 1048576 = f.1.2 ∧ opX AL p 1048576 = f.2.1.2.2.2 ∧ opY AL p 1048576 = f.2.2.2.2.2 ∧ opN AL p 1048576 = (p : Int) + ((8 + f.2.1.2.1 + f.2.2.2.1 : Nat) : Int) := by
  obtain ⟨⟨ty, ch⟩, ⟨a, n, c, X⟩, ⟨b, m, d, Y⟩⟩ := f
  obtain ⟨hra, hrb, _, _⟩ := hok
  simp only at hra hrb
  have hn := hra.1
  have hm := hrb.1
  have hE' : sealE ty ch n m = 0 := hE
  have hok := sealE_ok hE'
  obtain ⟨ty', rfl⟩ := Int.eq_ofNat_of_zero_le (show 0 ≤ ty by omega)
  obtain ⟨ch', rfl⟩ := Int.eq_ofNat_of_zero_le (show 0 ≤ ch by omega)
  have hL : fL ((((ty' : Int), (ch' : Int)), ((a, n, c, X), (b, m, d, Y))) : Fr) = sealB ty' ch' X Y := by
    unfold fL seB
    simp only
    rw [hn, hm, if_pos hE']
    simp
  rw [hL] at hp
  have hd := hp.drop
  have hlen := hp.1
  rw [sealB_length] at hlen
  have e0 : opE AL p 1048576 = 0 := by
    unfold opE
    rw [if_neg (by omega), Int.toNat_natCast, hd]
    exact seal_ok (by omega) (by omega) (by omega) _
  refine ⟨e0, ?_, ?_, ?_, ?_, ?_⟩
  · unfold opK; rw [if_pos e0, Int.toNat_natCast, hd, seal_kind]
  · unfold opC; rw [if_pos e0, Int.toNat_natCast, hd, seal_chan (by omega) (by omega) (by omega)]
  · unfold opX; rw [if_pos e0, Int.toNat_natCast, hd, seal_ext (by omega)]
  · unfold opY; rw [if_pos e0, Int.toNat_natCast, hd, seal_body (by omega) (by omega)]
  · unfold opN; rw [if_pos e0, Int.toNat_natCast, hd, seal_size (by omega), hn, hm]
/-- of what is cut within it, it is short -/
theorem op_cut {f : Fr} {w : World} (hok : FOk w f) (hE : fE f = 0) {AL : List Nat} {p s : Nat} (hp : Placed AL p (fL f)) (hs : s < 8 + f.2.1.2.1 + f.2.2.2.1) : opE (AL.take (p + s)) p 1048576 = 10 := by
  obtain ⟨⟨ty, ch⟩, ⟨a, n, c, X⟩, ⟨b, m, d, Y⟩⟩ := f
  obtain ⟨hra, hrb, _, _⟩ := hok
  simp only at hra hrb hs
  have hn := hra.1
  have hm := hrb.1
  have hE' : sealE ty ch n m = 0 := hE
  have hok := sealE_ok hE'
  obtain ⟨ty', rfl⟩ := Int.eq_ofNat_of_zero_le (show 0 ≤ ty by omega)
  obtain ⟨ch', rfl⟩ := Int.eq_ofNat_of_zero_le (show 0 ≤ ch by omega)
  have hL : fL ((((ty' : Int), (ch' : Int)), ((a, n, c, X), (b, m, d, Y))) : Fr) = sealB ty' ch' X Y := by
    unfold fL seB
    simp only
    rw [hn, hm, if_pos hE']
    simp
  rw [hL] at hp
  have hd := hp.drop
  have hlen := hp.1
  rw [sealB_length] at hlen
  have ht : (AL.take (p + s)).drop p = (sealB ty' ch' X Y).take s := by
    rw [List.drop_take, hd, Nat.add_sub_cancel_left, List.take_append_of_le_length (by rw [sealB_length]; omega)]
  unfold opE
  rw [if_neg (by simp; omega), Int.toNat_natCast, ht]
  exact seal_short (by omega) (by omega) (by omega) (by omega)
theorem fL_length {f : Fr} {w : World} (hok : FOk w f) (hE : fE f = 0) : (fL f).length = 8 + f.2.1.2.1 + f.2.2.2.1 := by
  have hE' : sealE f.1.1 f.1.2 f.2.1.2.2.2.length f.2.2.2.2.2.length = 0 := by rw [hok.1.1, hok.2.1.1]; exact hE
  unfold fL seB
  rw [if_pos hE', sealB_length, hok.1.1, hok.2.1.1]
theorem flat_at (gs : List Fr) : ∀ (j : Nat) (hj : j < gs.length) (c : Nat), c < 4 → (gs.flatMap fcells)[j * 4 + c]? = (fcells gs[j])[c]? := by
  induction gs with
  | nil => intro j hj; simp at hj
  | cons t G ih =>
    intro j hj c hc
    cases j with
    | zero =>
      simp only [List.flatMap_cons, Nat.zero_mul, Nat.zero_add, List.getElem_cons_zero]
      rw [List.getElem?_append_left (by simp [fcells]; omega)]
    | succ j =>
      have := ih j (by simpa using hj) c hc
      simp only [List.flatMap_cons, List.getElem_cons_succ] at *
      rw [List.getElem?_append_right (by simp [fcells]; omega), show (j + 1) * 4 + c - (fcells t).length = j * 4 + c by simp [fcells]; omega, this]
theorem wrap_succ {k : Nat} (h : k ≤ 1048576) : wrap64 ((k : Int) + 1) = ((k + 1 : Nat) : Int) := by
  unfold wrap64
  omega
theorem placed_snoc {w : World} {AL L : List Nat} {ps : List Nat} {gs : List Fr} {f : Fr} (hl : ps.length = gs.length) (h : ∀ j (hj : j < ps.length) (hj' : j < gs.length), FOk w gs[j] ∧ fE gs[j] = 0 ∧ Placed AL ps[j] (fL gs[j])) (h1 : FOk w f) (h2 : fE f = 0) (h3 : fL f = L) :
    ∀ j (hj : j < (ps ++ [AL.length]).length) (hj' : j < (gs ++ [f]).length), FOk w (gs ++ [f])[j] ∧ fE (gs ++ [f])[j] = 0 ∧ Placed (AL ++ L) (ps ++ [AL.length])[j] (fL (gs ++ [f])[j]) := fun j hj hj' => by
  by_cases hlt : j < ps.length
  · have hlt' : j < gs.length := by omega
    rw [List.getElem_append_left hlt, List.getElem_append_left hlt']
    obtain ⟨p1, p2, p3⟩ := h j hlt hlt'
    exact ⟨p1, p2, p3.app L⟩
  · have he : j = ps.length := by simp at hj; omega
    subst he
    rw [List.getElem_append_right (Nat.le_refl _), List.getElem_append_right (by omega)]
    simp only [hl, Nat.sub_self, List.getElem_cons_zero]
    exact ⟨h1, h2, by rw [h3]; exact Placed.new AL L⟩
theorem Rd.subr {w : World} {a : Option Addr} {n i m : Nat} {l : List Nat} (h : Rd w a n l) (him : i + m ≤ n) (x : Option Addr) (hx : ∀ b off, a = some ⟨b, off, none⟩ → 0 < m → x = some ⟨b, off + i, none⟩) : Rd w x m ((l.drop i).take m) := by
  obtain ⟨h1, h2, h3⟩ := h
  refine ⟨by simp; omega, fun c hc => h2 c (List.mem_of_mem_drop (List.mem_of_mem_take hc)), fun hm => ?_⟩
  obtain ⟨b, off, ha, hlt, hc⟩ := h3 (by omega)
  refine ⟨b, off + i, hx b off ha hm, hlt, fun j hj => ?_⟩
  have := hc (i + j) (by omega)
  rw [show off + i + j = off + (i + j) by omega, this]
  simp [List.getD_eq_getElem?_getD, List.getElem?_drop, hj]
/-- x[:j] -/
theorem cut0 (ad : Addr) (n cap j : Nat) (y : Int) (hy : y = j) (hj : j ≤ cap) (w : World) : (Instr.slice 22 (.slice (some ad) n cap) none (some (.int .i64 y)) none).run Try.prog w = .ok (.slice (some ad) j cap) w := by
  subst hy
  obtain ⟨i0, hi, hz0, hz1, hz2⟩ := info_parts Try.info5
  have h2 : ((j : Int) ≤ (cap : Int)) := by omega
  simp [Instr.slice, run_underlying Try.underlying22, Instr.sliceBounds, Instr.sliceBound, asIntOf, sizeOf, typeInfo, hi, hz1, hj, go_sem]
end Go.Proofs.Ytboacpneoblklaa
