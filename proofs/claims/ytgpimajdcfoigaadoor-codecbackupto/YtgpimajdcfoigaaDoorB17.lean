import Derived.Test.YtgpimajdcfoigaaDoorProg
import Derived.Test.YtgpimajdcfoigaaDoorB16
import Derived.Maps.AppendAt
import Derived.RangeFuncBox
import Derived.Laws.Bits64
import Derived.WalkLawsBesides
import Derived.Handy
import Derived.Outline
import Derived.Test.YtgpimajdcfoigaaDoorB15

/- values in a row, word by word. -/
namespace Go.Proofs.YtgpimajdcfoigaaDoor
open Go.RowKit
set_option linter.unusedVariables false
set_option linter.unusedSimpArgs false

/-- the words of values in a row -/
def flat : List V → List Value
  | [] => []
  | x :: l => words x ++ flat l
theorem flat_length (l : List V) : (flat l).length = l.length * 5 := by
  induction l with
  | nil => rfl
  | cons x l ih => rw [flat, List.length_append, ih, List.length_cons]; simp [words]; omega
theorem flat_append (l m : List V) : flat (l ++ m) = flat l ++ flat m := by
  induction l with
  | nil => rfl
  | cons x l ih => rw [List.cons_append, flat, flat, ih, List.append_assoc]
theorem flat_get (l : List V) (i q : Nat) (hi : i < l.length) (hq : q < 5) : (flat l)[i * 5 + q]? = (words l[i])[q]? := by
  induction l generalizing i with
  | nil => simp at hi
  | cons x l ih =>
    rw [flat]
    cases i with
    | zero =>
      rw [List.getElem?_append_left (by simp [words]; omega)]
      simp
    | succ i =>
      rw [List.getElem?_append_right (by simp [words]; omega), show (i + 1) * 5 + q - (words x).length = i * 5 + q by simp [words]; omega, ih i (by simpa using hi)]
      rfl
theorem flat_row {w : World} {base : Nat} {t : TypeId} {n g cap : Nat} {l : List V} (h : w.ownsRow base t 5 (.slice (some ⟨g, 0, none⟩) n cap) n (flat l)) : Row w g 0 l := by
  intro i hi
  have hc := h.cells (g := g) rfl
  have q : ∀ q, q < 5 → ∀ u, (words l[i])[q]? = some u → w.cell? ⟨g, 0 + i * 5 + q, none⟩ = some u := fun q hq u hu => by
    have := hc (i * 5 + q) u (by rw [flat_get l i q hi hq]; exact hu)
    rw [show (⟨g, 0 + i * 5 + q, none⟩ : Addr) = (⟨g, 0, none⟩ : Addr).add (i * 5 + q) by
      by_cases h : i * 5 + q = 0 <;> simp [Addr.add, h] <;> omega]
    exact this
  exact ⟨q 0 (by omega) _ rfl, q 1 (by omega) _ rfl, q 2 (by omega) _ rfl, q 3 (by omega) _ rfl, q 4 (by omega) _ rfl⟩
theorem grown_of_below {w w' : World} (h : Below w.heap.size w w') : w.grownBy w' none := ⟨h.os, h.tape, h.output, h.size, fun k hk _ => h.block k hk⟩

theorem V.words_one (x : V) : ∀ u ∈ words x, u.oneCell' = true := fun u hu => by
  simp only [words, List.mem_cons, List.not_mem_nil, or_false] at hu
  rcases hu with rfl | rfl | rfl | rfl | rfl <;> rfl
end Go.Proofs.YtgpimajdcfoigaaDoor


/- slices.SortFunc of values, by value.Order. -/
namespace Go.Proofs.YtgpimajdcfoigaaDoor
open Go.RowKit Go.Sort
set_option linter.unusedVariables false
set_option linter.unusedSimpArgs false

theorem beld_grow {W w' : World} (h : BelD W.heap.size W w') : ∃ q os', w' = grow (W.drewN q) os' := by
  obtain ⟨hb, hd⟩ := h
  refine ⟨0, w'.heap.extract W.heap.size w'.heap.size, ?_⟩
  obtain ⟨heap, tape, drawn, os, output⟩ := w'
  obtain ⟨heap', tape', drawn', os', output'⟩ := W
  obtain ⟨h1, h2, h3, h4, h5⟩ := hb
  simp only at h1 h2 h3 h4 h5 hd
  subst h1 h2 h3 hd
  simp only [grow, World.drewN, World.mk.injEq, Nat.add_zero, and_true]
  refine Array.ext_getElem? (fun i => ?_)
  rw [Array.getElem?_append]
  split
  · rename_i hi
    exact h5 i hi
  · rename_i hi
    rw [Array.getElem?_extract]
    split
    · congr 1
      omega
    · rename_i hi2
      exact Array.getElem?_eq_none (by omega)

/-- values that lie in a world, but not in one block -/
def Far (w : World) (blk : Nat) : Type := { v : V // LiesIn (fun b => b < w.heap.size ∧ b ≠ blk) w v }
def far_any (w : World) (blk : Nat) : Far w blk := ⟨.of 0 0 ⟨#[]⟩ none 0 0 [], .mk ⟨by decide, by decide, by decide, by decide, by simp, by simp⟩ (by simp) (by simp)⟩
def Far.words {w : World} {blk : Nat} (x : Far w blk) : List Value := Go.Proofs.YtgpimajdcfoigaaDoor.words x.1
def Far.cf {w : World} {blk : Nat} (x y : Far w blk) : Int := T.ord x.1.t y.1.t
theorem far_swo (w : World) (blk : Nat) : SWO (ltOf (Far.cf (w := w) (blk := blk))) where
  irrefl x := by
    unfold ltOf Far.cf
    have := neg_ord x.1.t x.1.t
    simp
    omega
  trans x y z h1 h2 := by
    unfold ltOf Far.cf at *
    have := tri_ord x.1.t y.1.t z.1.t
    unfold Tri at this
    simp at *
    omega
  ntrans x y z h1 h2 := by
    unfold ltOf Far.cf at *
    have := tri_ord x.1.t y.1.t z.1.t
    unfold Tri at this
    simp at *
    omega
theorem far_same {w : World} {blk : Nat} [Inhabited (Far w blk)] (m : Nat) (dk : Array (Far w blk)) (os : Array Obj) {b : Nat} (hb : b < w.heap.size) (hne : b ≠ blk) : Same w (sortWorldK Far.words 5 w blk 0 m dk os) b := fun o => by
  unfold sortWorldK
  have hs : (putRowK Far.words 5 (Sort.ahead w m) blk 0 dk).heap.size = w.heap.size := by unfold putRowK; simp [Sort.ahead]
  rw [cell?_grow _ _ _ (by rw [hs]; exact hb), cell?_putRowK_other _ _ _ _ _ _ _ hne]
  rfl
set_option maxRecDepth 100000 in
theorem far_cmp (w : World) (blk size : Nat) [Inhabited (Far w blk)] : CmpLays Tryd.prog 41 #[] (Far.words (w := w) (blk := blk)) 5 Far.cf blk 0 size w := by
  intro m os dk hdk x y
  have hsz := size_sortWorldK_c Far.words 5 w blk 0 m dk os
  have q := order_anyD x.1 y.1 (sortWorldK Far.words 5 w blk 0 m dk os).heap.size (sortWorldK Far.words 5 w blk 0 m dk os) (Nat.le_refl _) (LiesIn.keep x.2 (fun b hb => far_same m dk os hb.1 hb.2) (fun b hb => by show b < _; have := hb.1; omega)) (LiesIn.keep y.2 (fun b hb => far_same m dk os hb.1 hb.2) (fun b hb => by show b < _; have := hb.1; omega))
  exact q.mono (fun e w' h => ⟨h.1, beld_grow h.2⟩)
theorem Tryd.aggV : ∀ w, (isAgg 25).run Tryd.prog w = .ok true w := fun w => by first | exact Tryd.isAgg25 w | rfl
theorem Tryd.sizV : ∀ w, (Go.sizeOf 25).run Tryd.prog w = .ok 5 w := fun w => by first | exact Tryd.sizeOf25 w | rfl

theorem far_list (w : World) (blk : Nat) : ∀ ks : List V, (∀ x ∈ ks, LiesIn (fun b => b < w.heap.size ∧ b ≠ blk) w x) → ∃ dl : List (Far w blk), dl.map (fun x => x.1) = ks
  | [], _ => ⟨[], rfl⟩
  | x :: ks, h => by
    obtain ⟨dl, hd⟩ := far_list w blk ks (fun y hy => h y (by simp [hy]))
    exact ⟨(show Far w blk from ⟨x, h x (by simp)⟩) :: dl, congrArg (x :: ·) hd⟩
/-- of what was there only one block has turned -/
def But (blk : Nat) (w w' : World) : Prop := w'.os = w.os ∧ w'.tape = w.tape ∧ w'.output = w.output ∧ w.heap.size ≤ w'.heap.size ∧ ∀ k, k < w.heap.size → k ≠ blk → w'.heap[k]? = w.heap[k]?

set_option maxRecDepth 100000 in
theorem sortv_any (ks : List V) (blk cap M : Nat) (w : World) (hrow : Row w blk 0 ks) (hblk : Blk w blk 25 M) (hM : ks.length * 5 ≤ M) (hl : ∀ x ∈ ks, LiesIn (fun b => b < w.heap.size ∧ b ≠ blk) w x) (hsz : ks.length < 4611686018427387904) :
    Calls Tryd.prog 40 #[.slice (some ⟨blk, 0, none⟩) ks.length cap, .func (.func 41) #[] #[]] w fun e w' => e = .returned (.tuple #[]) ∧ ∃ ks' : List V, ks'.Perm ks ∧ (∀ i j (hi : i < ks'.length) (hj : j < ks'.length), i < j → 0 ≤ T.ord ks'[j].t ks'[i].t) ∧ Row w' blk 0 ks' ∧ But blk w w' := by
  haveI : Inhabited (Far w blk) := ⟨far_any w blk⟩
  obtain ⟨dl, hdl⟩ := far_list w blk ks hl
  obtain ⟨d, hdd⟩ : ∃ d : Array (Far w blk), d = dl.toArray := ⟨_, rfl⟩
  have hd : d.size = ks.length := by rw [hdd, ← hdl]; simp
  have hdi : ∀ i (h : i < ks.length), (d[i]!).1 = ks[i] := fun i h => by
    have : i < d.size := by omega
    rw [getElem!_pos d i this]
    subst hdd
    have e : ks[i]? = (dl.map (fun x => x.1))[i]? := by rw [hdl]
    rw [List.getElem?_eq_getElem h, List.getElem?_map, List.getElem?_eq_getElem (by simpa using this)] at e
    simpa using e.symm
  have hH : HoldsK (Far.words (w := w) (blk := blk)) 5 w blk 0 d := by
    intro j hj
    have hj' : j < ks.length * 5 := by simpa [hd] using hj
    refine ⟨?_, by rw [Nat.zero_add]; exact hblk.free j⟩
    rw [get_flatK _ _ _ _ (by simpa [hd] using hj')]
    have hq : j % 5 < 5 := Nat.mod_lt _ (by decide)
    have hi : j / 5 < ks.length := by omega
    obtain ⟨r0, r1, r2, r3, r4⟩ := hrow (j / 5) hi
    have hc : j % 5 = 0 ∨ j % 5 = 1 ∨ j % 5 = 2 ∨ j % 5 = 3 ∨ j % 5 = 4 := by omega
    show w.cell? ⟨blk, 0 + j, none⟩ = some ((words (d[j / 5]!).1)[j % 5]!)
    rw [hdi (j / 5) hi]
    rcases hc with c | c | c | c | c
    · rw [c, show 0 + j = 0 + j / 5 * 5 by omega]; simpa [words] using r0
    · rw [c, show 0 + j = 0 + j / 5 * 5 + 1 by omega]; simpa [words] using r1
    · rw [c, show 0 + j = 0 + j / 5 * 5 + 2 by omega]; simpa [words] using r2
    · rw [c, show 0 + j = 0 + j / 5 * 5 + 3 by omega]; simpa [words] using r3
    · rw [c, show 0 + j = 0 + j / 5 * 5 + 4 by omega]; simpa [words] using r4
  have hcon := Tryd.slices_SortFuncV Tryd.aggV Tryd.sizV (Far.words (w := w) (blk := blk)) (fun x => by simp [Far.words, words]) (fun x => V.words_one x.1) Far.cf (far_swo w blk) 41 #[] blk 0 cap d w (enters_of Tryd.func41 (by kernel_rfl) rfl) (far_cmp w blk d.size) hH hblk.lt (by omega)
  rw [hd] at hcon
  refine hcon.mono ?_
  rintro e w' ⟨rfl, d', n, os, hp, hs, rfl⟩
  obtain ⟨hp1, hp2, hp3⟩ := hp
  have hd' : d'.size = ks.length := by omega
  have hH' := holdsK_sortWorldK_c Far.words 5 w blk 0 d d' n os hH hblk.lt hp1
  have hsw := size_sortWorldK_c Far.words 5 w blk 0 n d' os
  refine ⟨rfl, d'.toList.map (·.1), ?_, fun i j hi hj hij => ?_, fun i hi => ?_, ?_⟩
  · have h3 : d'.toList.Perm d.toList := by
      have e1 : (d'.extract 0 ks.length) = d' := by rw [← hd']; simp
      have e2 : (d.extract 0 ks.length) = d := by rw [← hd]; simp
      rw [e1, e2] at hp3
      exact hp3
    have h4 := h3.map (fun x : Far w blk => x.1)
    have h5 : d.toList.map (fun x : Far w blk => x.1) = ks := by rw [hdd]; exact hdl
    rw [h5] at h4
    exact h4
  · have hi' : i < d'.size := by simpa using hi
    have hj' : j < d'.size := by simpa using hj
    have := hs i j (Nat.zero_le _) hij (by omega)
    unfold ltOf Far.cf at this
    rw [getElem!_pos d' i hi', getElem!_pos d' j hj'] at this
    simp at this
    simpa using this
  · have hi' : i < d'.size := by simpa using hi
    have c := fun q (hq : q < 5) => (hH'.cell hi' hq).1
    rw [getElem!_pos d' i hi'] at c
    have e : (d'.toList.map (·.1))[i] = (d'[i]).1 := by simp
    rw [e]
    refine ⟨?_, ?_, ?_, ?_, ?_⟩
    · simpa [Far.words, words] using c 0 (by omega)
    · simpa [Far.words, words] using c 1 (by omega)
    · simpa [Far.words, words] using c 2 (by omega)
    · simpa [Far.words, words] using c 3 (by omega)
    · simpa [Far.words, words] using c 4 (by omega)
  · refine ⟨rfl, rfl, rfl, hsw, fun k hk hne => ?_⟩
    unfold sortWorldK
    have hs' : (putRowK Far.words 5 (Sort.ahead w n) blk 0 d').heap.size = w.heap.size := by unfold putRowK; simp [Sort.ahead]
    rw [heap_grow_old _ _ (by rw [hs']; exact hk)]
    unfold putRowK putRow mapBlock
    simp [Array.getElem?_modify, Sort.ahead, Ne.symm hne]
end Go.Proofs.YtgpimajdcfoigaaDoor


/- value.Equal. -/
namespace Go.Proofs.YtgpimajdcfoigaaDoor
open Go.RowKit
set_option linter.unusedVariables false
set_option linter.unusedSimpArgs false

/-- are two values the same? -/
def eqT (x y : T) : Bool := decide (T.ord x y = 0)
def eqsT (l m : List T) : Bool := decide (T.ords l m = 0)
theorem lex_zero (a b : Int) : lex a b = 0 ↔ a = 0 ∧ b = 0 := by unfold lex; split <;> omega
theorem cmpZ_zero (a b : Int) : cmpZ a b = 0 ↔ a = b := by unfold cmpZ; split <;> (try split) <;> omega
theorem eqsT_len {l m : List T} (h : eqsT l m = true) : l.length = m.length := by
  induction l generalizing m with
  | nil => cases m with
    | nil => rfl
    | cons y m => simp [eqsT, T.ords] at h
  | cons x l ih => cases m with
    | nil => simp [eqsT, T.ords] at h
    | cons y m =>
      simp only [eqsT, T.ords, decide_eq_true_eq, lex_zero] at h
      have := ih (m := m) (by simpa [eqsT] using h.2)
      simp [this]
theorem eqsT_step {l m : List V} {k : Nat} (h1 : k < l.length) (h2 : k < m.length) : eqsT (V.ts (l.drop k)) (V.ts (m.drop k)) = (eqT l[k].t m[k].t && eqsT (V.ts (l.drop (k + 1))) (V.ts (m.drop (k + 1)))) := by
  unfold eqsT eqT
  rw [ords_step h1 h2, Bool.eq_iff_iff]
  simp [lex_zero]
theorem eqT_of (k n : Int) (s : ByteArray) (a : Option Addr) (c : Nat) (e : Int) (l : List V) (k' n' : Int) (s' : ByteArray) (a' : Option Addr) (c' : Nat) (e' : Int) (l' : List V) :
    eqT (V.of k n s a c e l).t (V.of k' n' s' a' c' e' l').t = (decide (k = k') && decide (n = n') && decide (s.toList = s'.toList) && decide (e = e') && eqsT (V.ts l) (V.ts l')) := by
  unfold eqT eqsT
  rw [V.t_of, V.t_of, T.of, T.of, T.ord_of, V.l_of, Bool.eq_iff_iff]
  simp only [lex_zero, cmpZ_zero, cmpB_zero, V.k_of, V.n_of, V.s_of, V.e_of, Bool.and_eq_true, decide_eq_true_eq]
  constructor
  · rintro ⟨h1, h2, h3, h4, h5⟩; exact ⟨⟨⟨⟨h1, h2⟩, h3⟩, h5⟩, h4⟩
  · rintro ⟨⟨⟨⟨h1, h2⟩, h3⟩, h5⟩, h4⟩; exact ⟨h1, h2, h3, h4, h5⟩

/-- what Equal is asked, of a value x -/
def EqOk (x : V) : Prop := ∀ (y : V) (n₀ : Nat) (w : World), n₀ ≤ w.heap.size → Lies n₀ w x → Lies n₀ w y →
  Calls Tryd.prog 12 #[x.val, y.val] w fun e w' => e = .returned (.bool (eqT x.t y.t)) ∧ Below w.heap.size w w'

set_option maxRecDepth 100000 in
set_option maxHeartbeats 1000000 in
theorem eqf_any (l m : List V) (ih : ∀ x ∈ l, EqOk x) (la : Option Addr) (lc : Nat) (ma : Option Addr) (mc n₀ : Nat) (w : World) (hn : n₀ ≤ w.heap.size) (hlc : l.length ≤ 281474976710656) (hmc : m.length ≤ 281474976710656)
    (lr : 0 < l.length → ∃ b o, la = some ⟨b, o, none⟩ ∧ b < n₀ ∧ Row w b o l) (ls : ∀ x ∈ l, Lies n₀ w x) (mr : 0 < m.length → ∃ b o, ma = some ⟨b, o, none⟩ ∧ b < n₀ ∧ Row w b o m) (ms : ∀ x ∈ m, Lies n₀ w x) :
    Calls Tryd.prog 22 #[.slice la l.length lc, .slice ma m.length mc, .func (.func 12) #[] #[]] w fun e w' =>
      e = .returned (.bool (eqsT (V.ts l) (V.ts m))) ∧ Below w.heap.size w w' := by
  by_cases hlen : l.length = m.length
  · rw [← hlen]
    have hl1 : l.length ≤ m.length := by omega
    have hl2 : m.length ≤ l.length := by omega
    clear hlen
    have LR := hide lr
    have LS := hide ls
    have MR := hide mr
    have MS := hide ms
    have IH := hide ih
    clear lr ls mr ms ih
    go_enter Tryd.func22, Tryd.ntmps22
    go_wp2
    go_loopw [17] (fun i wr => ∃ k : Nat, i = .int .i64 k ∧ k ≤ l.length ∧ Below w.heap.size w wr ∧ Hid (eqsT (V.ts l) (V.ts m) = eqsT (V.ts (l.drop k)) (V.ts (m.drop k)))) (fun i _ => l.length - (intOf i).toNat)
    case atStart => exact ⟨0, rfl, Nat.zero_le _, Below.refl _ _, rfl⟩
    case round =>
      obtain ⟨k, rfl, hk, hb, HO⟩ := hrel
      have hsz := hb.size
      by_cases h1 : k < l.length
      · have h2 : k < m.length := by omega
        obtain ⟨b, o, rfl, hlt, hr⟩ := LR.out (by omega)
        obtain ⟨b', o', rfl, hlt', hr'⟩ := MR.out (by omega)
        obtain ⟨x0, x1, x2, x3, x4⟩ := (hr.below hb (by omega)) k h1
        obtain ⟨y0, y1, y2, y3, y4⟩ := (hr'.below hb (by omega)) k h2
        have hA : b < wr.heap.size := by omega
        have hB : b' < wr.heap.size := by omega
        have hA' : b ≠ wr.heap.size := by omega
        have hB' : b' ≠ wr.heap.size := by omega
        have hx := IH.out l[k] (List.getElem_mem h1) m[k]
        rw [V.val_eq, V.val_eq] at hx
        have HX := hide hx
        clear hx hr hr'
        go_wp2_with fail
        have hbb := bel2 hb hsz (Obj.cells #[.int .i64 l[k].k, .int .u64 l[k].n, .string l[k].s, .slice l[k].a l[k].l.length l[k].c, .int .i64 l[k].e] 25) (Obj.cells #[.int .i64 m[k].k, .int .u64 m[k].n, .string m[k].s, .slice m[k].a m[k].l.length m[k].c, .int .i64 m[k].e] 25)
        refine Calls.mono (HX.out n₀ _ ?_ ((LS.out _ (List.getElem_mem h1)).keep hbb hn) ((MS.out _ (List.getElem_mem h2)).keep hbb hn)) ?_
        · simp; omega
        · rintro e w1 ⟨rfl, hb1⟩
          have hbw := belOn hbb (by simp; omega) hb1
          have hst := eqsT_step h1 h2
          generalize eqT l[k].t m[k].t = q at hst ⊢
          have HST := hide hst
          clear hb1 hbb hst
          cases q
          · go_wp2
            go_ret
            exact ⟨by rw [HO.out, HST.out]; rfl, hbw⟩
          · go_wp2
            go_roundw
            case rel => exact ⟨k + 1, by go_num, h1, hbw, by rw [HO.out, HST.out, Bool.true_and]; rfl⟩
            case measure => simp [intOf]; omega
      · obtain rfl : k = l.length := by omega
        go_wp2
        go_ret
        refine ⟨?_, hb⟩
        have e1 : m.drop l.length = [] := List.drop_of_length_le (by omega)
        rw [HO.out, List.drop_length, e1]
        rfl
  · have hlb : ((l.length : Int) == (m.length : Int)) = false := by simp; omega
    have he : eqsT (V.ts l) (V.ts m) = false := by
      cases h : eqsT (V.ts l) (V.ts m) with
      | false => rfl
      | true =>
        have := eqsT_len h
        simp [V.ts_length] at this
        omega
    rw [he]
    clear lr ls mr ms ih
    go_enter Tryd.func22, Tryd.ntmps22
    go_wp2
    go_ret
    exact ⟨rfl, Below.refl _ _⟩

set_option maxRecDepth 100000 in
set_option maxHeartbeats 1000000 in
theorem equal_any : ∀ x, EqOk x := by
  refine V.ind ?_
  intro k n s a c e l ih y n₀ w hn hx hy
  obtain ⟨k', n', s', a', c', e', l', rfl⟩ := V.ex y
  rw [eqT_of]
  have hf : ∀ w1, Below w.heap.size w w1 → Calls Tryd.prog 22 #[.slice a l.length c, .slice a' l'.length c', .func (.func 12) #[] #[]] w1 fun e w' =>
      e = .returned (.bool (eqsT (V.ts l) (V.ts l'))) ∧ Below w1.heap.size w1 w' := by
    intro w1 hb
    have hx1 := hx.keep hb hn
    have hy1 := hy.keep hb hn
    have hsz := hb.size
    exact eqf_any l l' ih a c a' c' n₀ w1 (by omega) (by have := hx1.ok.c; omega) (by have := hy1.ok.c; omega) hx1.row hx1.sub hy1.row hy1.sub
  have HF := hide hf
  clear hf ih hx hy
  generalize eqsT (V.ts l) (V.ts l') = q at HF ⊢
  rw [V.val_of, V.val_of]
  have hbel := fun A B => bel2 (Below.refl w.heap.size w) (Nat.le_refl _) A B
  by_cases hk : k = k'
  · subst hk
    by_cases hnn : n = n'
    · subst hnn
      by_cases hss : s.toList = s'.toList
      · have hsb : (s.toList == s'.toList) = true := by simpa using hss
        by_cases hee : e = e'
        · subst hee
          go_enter Tryd.func12, Tryd.ntmps12
          go_wp2_with fail
          refine Calls.mono (HF.out _ (hbel _ _)) ?_
          rintro e1 w1 ⟨rfl, hb1⟩
          go_wp2
          go_ret
          exact ⟨by simp [hss], belOn (hbel _ _) (by simp; omega) hb1⟩
        · have heb : ((e : Int) == e') = false := by simpa using hee
          go_enter Tryd.func12, Tryd.ntmps12
          go_wp2
          go_ret
          exact ⟨by simp [hee], hbel _ _⟩
      · have hsb : (s.toList == s'.toList) = false := by simpa using hss
        go_enter Tryd.func12, Tryd.ntmps12
        go_wp2
        go_ret
        exact ⟨by simp [hss], hbel _ _⟩
    · have hnb : ((n : Int) == n') = false := by simpa using hnn
      go_enter Tryd.func12, Tryd.ntmps12
      go_wp2
      go_ret
      exact ⟨by simp [hnn], hbel _ _⟩
  · have hkb : ((k : Int) == k') = false := by simpa using hk
    go_enter Tryd.func12, Tryd.ntmps12
    go_wp2
    go_ret
    exact ⟨by simp [hk], hbel _ _⟩
end Go.Proofs.YtgpimajdcfoigaaDoor
