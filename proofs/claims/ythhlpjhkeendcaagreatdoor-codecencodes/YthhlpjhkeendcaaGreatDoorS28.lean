/- VSortV -/
import Derived.Test.YthhlpjhkeendcaaGreatDoorSort
import Derived.Test.YthhlpjhkeendcaaGreatDoorS07
import Derived.Test.YthhlpjhkeendcaaGreatDoorS16
namespace Go.Proofs.YthhlpjhkeendcaaGreatDoor
open Go.RowKit Go.Sort
set_option linter.unusedVariables false
set_option linter.unusedSimpArgs false
theorem beld_grow {W w' : World} (h : BelD W.heap.size W w') : ∃ q os', w' = grow (W.drewN q) os' := by
  obtain ⟨hb, hd⟩ := h
  refine ⟨0, w'.heap.extract W.heap.size w'.heap.size, ?_⟩
  obtain ⟨heap, tape, drawn, os, output⟩ := w'
  obtain ⟨heap', tape', drawn', os', output'⟩ := W
  obtain ⟨h1, h2, h3, h4, h5⟩ := hb
  simp only at h1 h2 h3 h4 h5 hd
  subst h1 h2 h3 hd
  simp only [grow, World.drewN, World.mk.injEq, Nat.add_zero, and_true]
  refine Array.ext_getElem? (fun i => ?_)
  rw [Array.getElem?_append]
  split
  · rename_i hi
    exact h5 i hi
  · rename_i hi
    rw [Array.getElem?_extract]
    split
    · congr 1
      omega
    · rename_i hi2
      exact Array.getElem?_eq_none (by omega)
def Far (w : World) (blk : Nat) : Type := { v : V // LiesIn (fun b => b < w.heap.size ∧ b ≠ blk) w v }
def far_any (w : World) (blk : Nat) : Far w blk := ⟨.of 0 0 ⟨#[]⟩ none 0 0 [], .mk ⟨by decide, by decide, by decide, by decide, by simp, by simp⟩ (by simp) (by simp)⟩
def Far.words {w : World} {blk : Nat} (x : Far w blk) : List Value := Go.Proofs.YthhlpjhkeendcaaGreatDoor.words x.1
def Far.cf {w : World} {blk : Nat} (x y : Far w blk) : Int := T.ord x.1.t y.1.t
theorem far_swo (w : World) (blk : Nat) : SWO (ltOf (Far.cf (w := w) (blk := blk))) where
  irrefl x := by
    unfold ltOf Far.cf
    have := neg_ord x.1.t x.1.t
    simp
    omega
  trans x y z h1 h2 := by
    unfold ltOf Far.cf at *
    have := tri_ord x.1.t y.1.t z.1.t
    unfold Tri at this
    simp at *
    omega
  ntrans x y z h1 h2 := by
    unfold ltOf Far.cf at *
    have := tri_ord x.1.t y.1.t z.1.t
    unfold Tri at this
    simp at *
    omega
theorem far_same {w : World} {blk : Nat} [Inhabited (Far w blk)] (m : Nat) (dk : Array (Far w blk)) (os : Array Obj) {b : Nat} (hb : b < w.heap.size) (hne : b ≠ blk) : Same w (sortWorldK Far.words 5 w blk 0 m dk os) b := fun o => by
  unfold sortWorldK
  have hs : (putRowK Far.words 5 (Sort.ahead w m) blk 0 dk).heap.size = w.heap.size := by unfold putRowK; simp [Sort.ahead]
  rw [cell?_grow _ _ _ (by rw [hs]; exact hb), cell?_putRowK_other _ _ _ _ _ _ _ hne]
  rfl
set_option maxRecDepth 100000 in
theorem far_cmp (w : World) (blk size : Nat) [Inhabited (Far w blk)] : CmpLays Tryz.prog 87 #[] (Far.words (w := w) (blk := blk)) 5 Far.cf blk 0 size w := by
  intro m os dk hdk x y
  have hsz := size_sortWorldK_c Far.words 5 w blk 0 m dk os
  have q := order_anyD x.1 y.1 (sortWorldK Far.words 5 w blk 0 m dk os).heap.size (sortWorldK Far.words 5 w blk 0 m dk os) (Nat.le_refl _) (LiesIn.keep x.2 (fun b hb => far_same m dk os hb.1 hb.2) (fun b hb => by show b < _; have := hb.1; omega)) (LiesIn.keep y.2 (fun b hb => far_same m dk os hb.1 hb.2) (fun b hb => by show b < _; have := hb.1; omega))
  exact q.mono (fun e w' h => ⟨h.1, beld_grow h.2⟩)
theorem Tryz.aggV : ∀ w, (isAgg 25).run Tryz.prog w = .ok true w := fun w => by first | exact Tryz.isAgg25 w | rfl
theorem Tryz.sizV : ∀ w, (Go.sizeOf 25).run Tryz.prog w = .ok 5 w := fun w => by first | exact Tryz.sizeOf25 w | rfl
theorem far_list (w : World) (blk : Nat) : ∀ ks : List V, (∀ x ∈ ks, LiesIn (fun b => b < w.heap.size ∧ b ≠ blk) w x) → ∃ dl : List (Far w blk), dl.map (fun x => x.1) = ks
  | [], _ => ⟨[], rfl⟩
  | x :: ks, h => by
    obtain ⟨dl, hd⟩ := far_list w blk ks (fun y hy => h y (by simp [hy]))
    exact ⟨(show Far w blk from ⟨x, h x (by simp)⟩) :: dl, congrArg (x :: ·) hd⟩
def But (blk : Nat) (w w' : World) : Prop := w'.os = w.os ∧ w'.tape = w.tape ∧ w'.output = w.output ∧ w.heap.size ≤ w'.heap.size ∧ ∀ k, k < w.heap.size → k ≠ blk → w'.heap[k]? = w.heap[k]?
set_option maxRecDepth 100000 in
theorem sortv_any (ks : List V) (blk cap M : Nat) (w : World) (hrow : Row w blk 0 ks) (hblk : Blk w blk 25 M) (hM : ks.length * 5 ≤ M) (hl : ∀ x ∈ ks, LiesIn (fun b => b < w.heap.size ∧ b ≠ blk) w x) (hsz : ks.length < 4611686018427387904) :
    Calls Tryz.prog 86 #[.slice (some ⟨blk, 0, none⟩) ks.length cap, .func (.func 87) #[] #[]] w fun e w' => e = .returned (.tuple #[]) ∧ ∃ ks' : List V, ks'.Perm ks ∧ (∀ i j (hi : i < ks'.length) (hj : j < ks'.length), i < j → 0 ≤ T.ord ks'[j].t ks'[i].t) ∧ Row w' blk 0 ks' ∧ But blk w w' := by
  haveI : Inhabited (Far w blk) := ⟨far_any w blk⟩
  obtain ⟨dl, hdl⟩ := far_list w blk ks hl
  obtain ⟨d, hdd⟩ : ∃ d : Array (Far w blk), d = dl.toArray := ⟨_, rfl⟩
  have hd : d.size = ks.length := by rw [hdd, ← hdl]; simp
  have hdi : ∀ i (h : i < ks.length), (d[i]!).1 = ks[i] := fun i h => by
    have : i < d.size := by omega
    rw [getElem!_pos d i this]
    subst hdd
    have e : ks[i]? = (dl.map (fun x => x.1))[i]? := by rw [hdl]
    rw [List.getElem?_eq_getElem h, List.getElem?_map, List.getElem?_eq_getElem (by simpa using this)] at e
    simpa using e.symm
  have hH : HoldsK (Far.words (w := w) (blk := blk)) 5 w blk 0 d := by
    intro j hj
    have hj' : j < ks.length * 5 := by simpa [hd] using hj
    refine ⟨?_, by rw [Nat.zero_add]; exact hblk.free j⟩
    rw [get_flatK _ _ _ _ (by simpa [hd] using hj')]
    have hq : j % 5 < 5 := Nat.mod_lt _ (by decide)
    have hi : j / 5 < ks.length := by omega
    obtain ⟨r0, r1, r2, r3, r4⟩ := hrow (j / 5) hi
    have hc : j % 5 = 0 ∨ j % 5 = 1 ∨ j % 5 = 2 ∨ j % 5 = 3 ∨ j % 5 = 4 := by omega
    show w.cell? ⟨blk, 0 + j, none⟩ = some ((words (d[j / 5]!).1)[j % 5]!)
    rw [hdi (j / 5) hi]
    rcases hc with c | c | c | c | c
    · rw [c, show 0 + j = 0 + j / 5 * 5 by omega]; simpa [words] using r0
    · rw [c, show 0 + j = 0 + j / 5 * 5 + 1 by omega]; simpa [words] using r1
    · rw [c, show 0 + j = 0 + j / 5 * 5 + 2 by omega]; simpa [words] using r2
    · rw [c, show 0 + j = 0 + j / 5 * 5 + 3 by omega]; simpa [words] using r3
    · rw [c, show 0 + j = 0 + j / 5 * 5 + 4 by omega]; simpa [words] using r4
  have hcon := Tryz.slices_SortFuncV Tryz.aggV Tryz.sizV (Far.words (w := w) (blk := blk)) (fun x => by simp [Far.words, words]) (fun x => V.words_one x.1) Far.cf (far_swo w blk) 87 #[] blk 0 cap d w (enters_of Tryz.func87 (by kernel_rfl) rfl) (far_cmp w blk d.size) hH hblk.lt (by omega)
  rw [hd] at hcon
  refine hcon.mono ?_
  rintro e w' ⟨rfl, d', n, os, hp, hs, rfl⟩
  obtain ⟨hp1, hp2, hp3⟩ := hp
  have hd' : d'.size = ks.length := by omega
  have hH' := holdsK_sortWorldK_c Far.words 5 w blk 0 d d' n os hH hblk.lt hp1
  have hsw := size_sortWorldK_c Far.words 5 w blk 0 n d' os
  refine ⟨rfl, d'.toList.map (·.1), ?_, fun i j hi hj hij => ?_, fun i hi => ?_, ?_⟩
  · have h3 : d'.toList.Perm d.toList := by
      have e1 : (d'.extract 0 ks.length) = d' := by rw [← hd']; simp
      have e2 : (d.extract 0 ks.length) = d := by rw [← hd]; simp
      rw [e1, e2] at hp3
      exact hp3
    have h4 := h3.map (fun x : Far w blk => x.1)
    have h5 : d.toList.map (fun x : Far w blk => x.1) = ks := by rw [hdd]; exact hdl
    rw [h5] at h4
    exact h4
  · have hi' : i < d'.size := by simpa using hi
    have hj' : j < d'.size := by simpa using hj
    have := hs i j (Nat.zero_le _) hij (by omega)
    unfold ltOf Far.cf at this
    rw [getElem!_pos d' i hi', getElem!_pos d' j hj'] at this
    simp at this
    simpa using this
  · have hi' : i < d'.size := by simpa using hi
    have c := fun q (hq : q < 5) => (hH'.cell hi' hq).1
    rw [getElem!_pos d' i hi'] at c
    have e : (d'.toList.map (·.1))[i] = (d'[i]).1 := by simp
    rw [e]
    refine ⟨?_, ?_, ?_, ?_, ?_⟩
    · simpa [Far.words, words] using c 0 (by omega)
    · simpa [Far.words, words] using c 1 (by omega)
    · simpa [Far.words, words] using c 2 (by omega)
    · simpa [Far.words, words] using c 3 (by omega)
    · simpa [Far.words, words] using c 4 (by omega)
  · refine ⟨rfl, rfl, rfl, hsw, fun k hk hne => ?_⟩
    unfold sortWorldK
    have hs' : (putRowK Far.words 5 (Sort.ahead w n) blk 0 d').heap.size = w.heap.size := by unfold putRowK; simp [Sort.ahead]
    rw [heap_grow_old _ _ (by rw [hs']; exact hk)]
    unfold putRowK putRow mapBlock
    simp [Array.getElem?_modify, Sort.ahead, Ne.symm hne]
end Go.Proofs.YthhlpjhkeendcaaGreatDoor
