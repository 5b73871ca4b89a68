import Derived.Test.YthpkajjgbjjbbaaGreatDoorJOpnM9
import Derived.Test.YthpkajjgbjjbbaaGreatDoorJSmeM9
import Derived.Test.YthpkajjgbjjbbaaGreatDoorJAddM9

/- Stage 20: told batches are read; the plain facts of live. -/
namespace Go.Proofs.YthpkajjgbjjbbaaGreatDoor
open Go.RowKit Go.MuLone
set_option linter.unusedVariables false
set_option linter.unusedSimpArgs false
theorem flat_one {A B : Type} (f : A → List B) (g : A → B) (W : List A) (h : ∀ x ∈ W, f x = [g x]) : W.flatMap f = W.map g := by
  induction W with
  | nil => rfl
  | cons x W ih => rw [List.flatMap_cons, h x (by simp), ih (fun y hy => h y (by simp [hy]))]; rfl
theorem Wy.row1 {A : Type} {K : WK A} {w : World} {base : Nat} {v : Value} {W : List A} (h : Wy K w base v W) (g : A → Value) (he : ∀ x ∈ W, K.enc x = [g x]) : ∃ a c, v = .slice a W.length c ∧ W.length ≤ maxLen ∧ (0 < W.length → ∃ b off, a = some ⟨b, off, none⟩ ∧ b < w.heap.size ∧ ∀ j (hj : j < W.length), w.cell? ⟨b, off + j, none⟩ = some (g W[j])) := by
  rcases h with ⟨rfl, rfl⟩ | ⟨b, off, cap, cur, rfl, h1, h2, h3, h4, h5, h6⟩
  · exact ⟨none, 0, rfl, by simp, by simp⟩
  · refine ⟨_, _, rfl, Nat.le_trans h2 h3, fun _ => ⟨b, off, rfl, (Array.getElem?_eq_some_iff.1 h4).1, fun j hj => ?_⟩⟩
    rw [flat_one _ g W he] at h6
    exact h6 j _ (by simp [hj])
theorem RdB.told {w : World} {base b2 : Nat} {v : Value} {W : List Rc} (h : Wy BK w base v W) (ht : ToldR b2 w W) : ∃ a c, v = .slice a W.length c ∧ W.length ≤ maxLen ∧ RdB w a (W.map (·.1)) := by
  obtain ⟨a, c, e, hl, hr⟩ := h.row1 (·.2) (fun o ho => by
    obtain ⟨x, k, e, _⟩ := (ht.own o ho).slice
    show [if o.2.oneCell' then o.2 else _] = _
    rw [e]
    rfl)
  refine ⟨a, c, e, hl, fun h0 => ?_⟩
  rw [List.length_map] at h0
  obtain ⟨b, off, e1, e2, e3⟩ := hr h0
  refine ⟨b, off, e1, e2, fun j hj => ?_⟩
  rw [List.length_map] at hj
  have ho := ht.own W[j] (List.getElem_mem hj)
  obtain ⟨x, k, e4, _⟩ := ho.slice
  have h5 := e3 j hj
  have h6 := ho.rb
  rw [e4] at h5 h6
  simp only [List.getElem_map]
  exact ⟨x, k, h5, h6⟩
theorem RdL.told {w : World} {base b2 : Nat} {v : Value} {Z : List Bt} (h : Wy AK w base v Z) (ht : ToldL b2 w Z) : ∃ a c, v = .slice a Z.length c ∧ Z.length ≤ maxLen ∧ RdL w a (batches Z) ∧ ∀ m ∈ batches Z, m.length ≤ maxLen := by
  have hrow : ∀ z ∈ Z, ∃ a c, z.2 = .slice a z.1.length c ∧ z.1.length ≤ maxLen ∧ RdB w a (z.1.map (·.1)) := fun z hz =>
    RdB.told (ht.row z hz) ⟨fun o ho => ht.rcs.own o (List.mem_flatMap.2 ⟨z, hz, ho⟩), by
      obtain ⟨l1, l2, rfl⟩ := List.append_of_mem hz
      have := ht.rcs.apt
      simp only [List.flatMap_append, List.flatMap_cons] at this
      exact (List.pairwise_append.1 (List.pairwise_append.1 this).2.1).1⟩
  obtain ⟨a, c, e, hl, hr⟩ := h.row1 (·.2) (fun o ho => by
    obtain ⟨x, k, e, _⟩ := hrow o ho
    show [if o.2.oneCell' then o.2 else _] = _
    rw [e]
    rfl)
  refine ⟨a, c, e, hl, fun h0 => ?_, fun m hm => ?_⟩
  · unfold batches at h0 ⊢
    rw [List.length_map] at h0
    obtain ⟨b, off, e1, e2, e3⟩ := hr h0
    refine ⟨b, off, e1, e2, fun j hj => ?_⟩
    rw [List.length_map] at hj
    obtain ⟨x, k, e4, _, h6⟩ := hrow Z[j] (List.getElem_mem hj)
    have h5 := e3 j hj
    rw [e4] at h5
    simp only [List.getElem_map, List.length_map]
    exact ⟨x, k, h5, h6⟩
  · obtain ⟨z, hz, rfl⟩ := List.mem_map.1 hm
    obtain ⟨_, _, _, h5, _⟩ := hrow z hz
    simpa using h5
/-- live's batch -/
abbrev lvL : List (List Nat) := [[97], [98, 99]]
theorem lv_open : jTk (dx0 1000) [] 0 0 = (0, dx0 1000, []) := by first | rfl | decide | kernel_rfl
theorem lv_batN : batN lvL = 23 := by first | rfl | decide | kernel_rfl
def lvX : Dx := (jAdd (dx0 1000) [] lvL).2.1
def lvF : List Fi := (jAdd (dx0 1000) [] lvL).2.2
theorem lv_add : (jAdd (dx0 1000) [] lvL).1 = 0 := by first | rfl | decide | kernel_rfl
theorem lv_down : lvX.down = false := by first | rfl | decide | kernel_rfl
theorem lv_len : (dat kG lvF).1.length = 23 := by first | rfl | decide | kernel_rfl
theorem lv_safe : (dat kG lvF).2 = 23 := by first | rfl | decide | kernel_rfl
theorem lv_fl : lvF.length = 1 := by first | rfl | decide | kernel_rfl
theorem lv_wl : wl (dat kG lvF).1 = ([lvL], 23, 0) := by first | rfl | decide | kernel_rfl
theorem lv_tk : (jTk lvX lvF 23 23).1 = 0 := by first | rfl | decide | kernel_rfl
theorem jn_wl : wl [0, 0, 0, 5, 0x51, 0x2e, 0x2b, 0x93, 0, 0, 0, 1, 0x61, 0x15, 0x6e, 0xc1, 0x93] = ([[[97]]], 17, 0) := by first | rfl | decide | kernel_rfl
end Go.Proofs.YthpkajjgbjjbbaaGreatDoor


/- Stage 20: live. -/
namespace Go.Proofs.YthpkajjgbjjbbaaGreatDoor
open Go.RowKit Go.MuLone
set_option linter.unusedVariables false
set_option linter.unusedSimpArgs false
theorem RdL.below {w w' : World} {a : Option Addr} {M : List (List (List Nat))} (h : RdL w a M) (hb : Below w.heap.size w w') : RdL w' a M := fun h0 => by
  obtain ⟨b, off, e, hlt, hc⟩ := h h0
  refine ⟨b, off, e, by have := hb.size; omega, fun j hj => ?_⟩
  obtain ⟨x, c, h1, h2⟩ := hc j hj
  exact ⟨x, c, (hb.cell (p := ⟨b, off + j, none⟩) hlt).trans h1, h2.below hb⟩
theorem open_empty (S : Nat → Prop) (w wi : World) (d : Nat) (g : Addr) (hE : Eb w g) (hT : Er w) (h : AW S w wi d (dx0 1000) []) :
    Calls Tryz.prog 19 #[.pointer (some ⟨d, 0, none⟩)] wi fun e w' => ∃ j a c S', e = .returned (.tuple #[.pointer (some ⟨j, 0, none⟩), .slice a 0 c, .int .i64 0]) ∧ JS S' w w' d j (dx0 1000) [] 0 false := by
  refine (open_good S w wi d (dx0 1000) [] g hE hT h rfl (by simp) (by simp [dat]) (by simp [dat]) rfl (by show (jTk (dx0 1000) [] 0 0).1 = 0; rw [lv_open])).mono ?_
  rintro e w' ⟨j, v, Z, rfl, _, hw, _, hz, S', _, hj, _⟩
  have e : jTk (dx0 1000) [] (dat kG []).1.length (dat kG []).2 = (0, dx0 1000, []) := lv_open
  rw [e] at hj
  have hz0 : Z = [] := by
    have : batches Z = [] := hz
    unfold batches at this
    simpa using this
  subst hz0
  obtain ⟨a, c, rfl⟩ := hw.shape
  exact ⟨j, a, c, S', rfl, hj⟩
theorem Rb.one {W : World} {A : Nat} {x : Nat} {t : TypeId} {f : Nat × Nat} (h : W.heap[A]? = some (.cells #[.int .u8 (x : Int)] t f)) (hx : x < 256) : Rb W (.slice (some ⟨A, 0, none⟩) 1 1) [x] :=
  ⟨_, _, rfl, fun e => by simp at e, by simp, rfl, by simpa using hx, fun _ => ⟨A, 0, rfl, (Array.getElem?_eq_some_iff.1 h).1, fun j hj => by
    have : j = 0 := by simp at hj; omega
    subst this
    exact cellOf h 0 _ rfl⟩⟩
theorem Rb.two {W : World} {A : Nat} {x y : Nat} {t : TypeId} {f : Nat × Nat} (h : W.heap[A]? = some (.cells #[.int .u8 (x : Int), .int .u8 (y : Int)] t f)) (hx : x < 256) (hy : y < 256) : Rb W (.slice (some ⟨A, 0, none⟩) 2 2) [x, y] :=
  ⟨_, _, rfl, fun e => by simp at e, by simp, rfl, by simp; exact ⟨hx, hy⟩, fun _ => ⟨A, 0, rfl, (Array.getElem?_eq_some_iff.1 h).1, fun j hj => by
    have : j = 0 ∨ j = 1 := by simp at hj; omega
    rcases this with rfl | rfl
    · exact cellOf h 0 _ rfl
    · exact cellOf h 1 _ rfl⟩⟩
theorem RdB.lv {W : World} {A B C : Nat} {t1 t2 t3 : TypeId} {f1 f2 f3 : Nat × Nat} (h1 : W.heap[A]? = some (.cells #[.int .u8 97] t1 f1)) (h2 : W.heap[B]? = some (.cells #[.int .u8 98, .int .u8 99] t2 f2)) (h3 : W.heap[C]? = some (.cells #[.slice (some ⟨A, 0, none⟩) 1 1, .slice (some ⟨B, 0, none⟩) 2 2] t3 f3)) : RdB W (some ⟨C, 0, none⟩) lvL := fun _ =>
  ⟨C, 0, rfl, (Array.getElem?_eq_some_iff.1 h3).1, fun j hj => by
    have : j = 0 ∨ j = 1 := by simp at hj; omega
    rcases this with rfl | rfl
    · exact ⟨_, _, cellOf h3 0 _ rfl, Rb.one (x := 97) h1 (by decide)⟩
    · exact ⟨_, _, cellOf h3 1 _ rfl, Rb.two (x := 98) (y := 99) h2 (by decide) (by decide)⟩⟩
theorem size_any {S : Nat → Prop} {w wi : World} {d j : Nat} {x : Dx} {F : List Fi} {sz : Int} {tl : Bool} (h : JS S w wi d j x F sz tl) : Calls Tryz.prog 35 #[.pointer (some ⟨j, 0, none⟩)] wi fun e w' => e = .returned (.int .i64 sz) ∧ w' = wi := by
  obtain ⟨_, c1, _, _⟩ := h.cells
  clear h
  go_enter Tryz.func35, Tryz.ntmps35
  go_wp2
  go_ret
  exact ⟨rfl, rfl⟩
set_option maxHeartbeats 4000000 in
theorem live_yes (w : World) (g : Addr) (hE : Eb w g) (hT : Er w) : Calls Tryz.prog 9 #[] w fun e w' => e = .returned (.bool true) ∧ Below w.heap.size w w' := by
  have HN := hide (aw_new w w (Below.refl _ _) 1000 (by decide) (by decide))
  have HE := hide hE
  have HT := hide hT
  clear hE hT
  go_enter Tryz.func9, Tryz.ntmps9
  go_wp2_with fail
  refine HN.out.mono ?_
  rintro e w1 ⟨d, S1, rfl, hA1, _, _⟩
  have HO := hide (open_empty S1 w w1 d g HE.out HT.out hA1)
  clear hA1
  go_wp2_with fail
  refine HO.out.mono ?_
  rintro e w2 ⟨j, a, c, S2, rfl, hJ2⟩
  obtain ⟨W3, hW3⟩ : ∃ W3, (((w2.alloc (.cells #[.int .u8 97] 5)).alloc (.cells #[.int .u8 98, .int .u8 99] 5)).alloc (.cells #[.slice (some ⟨w2.heap.size, 0, none⟩) 1 1, .slice (some ⟨w2.heap.size + 1, 0, none⟩) 2 2] 23)) = W3 := ⟨_, rfl⟩
  have hb3 : Below w2.heap.size w2 W3 := by rw [← hW3]; exact bel1 (bel1 (bel1 (Below.refl _ _) (Nat.le_refl _) _) (by simp only [World.size_alloc]; omega) _) (by simp only [World.size_alloc]; omega) _
  have hJ3 := hJ2.below hb3
  have k1 : W3.heap[w2.heap.size]? = some (.cells #[.int .u8 97] 5 (0, 0)) := by
    rw [← hW3]; exact heap_past (heap_past (heap_new _ _) _) _
  have k2 : W3.heap[w2.heap.size + 1]? = some (.cells #[.int .u8 98, .int .u8 99] 5 (0, 0)) := by
    rw [← hW3]
    have := heap_new (w2.alloc (.cells #[.int .u8 97] 5)) (.cells #[.int .u8 98, .int .u8 99] 5)
    simp only [World.size_alloc] at this
    exact heap_past this _
  have k3 : W3.heap[w2.heap.size + 1 + 1]? = some (.cells #[.slice (some ⟨w2.heap.size, 0, none⟩) 1 1, .slice (some ⟨w2.heap.size + 1, 0, none⟩) 2 2] 23 (0, 0)) := by
    rw [← hW3]
    have := heap_new ((w2.alloc (.cells #[.int .u8 97] 5)).alloc (.cells #[.int .u8 98, .int .u8 99] 5)) (.cells #[.slice (some ⟨w2.heap.size, 0, none⟩) 1 1, .slice (some ⟨w2.heap.size + 1, 0, none⟩) 2 2] 23)
    simp only [World.size_alloc] at this
    exact this
  have hns : ∀ k, w2.heap.size ≤ k → ¬ S2 k := fun k hk hs => by have := (hJ2.aw.at_ _ hs).2; omega
  have hR : ∀ W', Kp S2 W3 W' → RdB W' (some ⟨w2.heap.size + 1 + 1, 0, none⟩) lvL := fun W' hk =>
    RdB.lv ((hk.block (Array.getElem?_eq_some_iff.1 k1).1 (hns _ (by omega))).trans k1) ((hk.block (Array.getElem?_eq_some_iff.1 k2).1 (hns _ (by omega))).trans k2) ((hk.block (Array.getElem?_eq_some_iff.1 k3).1 (hns _ (by omega))).trans k3)
  have HAD := hide (Add_good S2 w W3 d j (dx0 1000) [] 0 HT.out hJ3 rfl (some ⟨w2.heap.size + 1 + 1, 0, none⟩) 2 lvL hR (by rfl) (by simp) (by rw [lv_add]; decide) (by decide) (by rw [lv_batN]; decide) (by decide) (by decide))
  have HW3 := hide hW3
  clear hW3 hb3 hJ3 k1 k2 k3 hns hR hJ2
  rw [lv_add] at HAD
  go_wp2_with fail
  rw [HW3.out]
  refine HAD.out.mono ?_
  rintro e w4 ⟨rfl, S4, _, hJ4, _⟩
  replace hJ4 : JS S4 w w4 d j lvX lvF 23 false := hJ4
  have HSZ := hide (size_any hJ4)
  have hop := open_good S4 w w4 d lvX lvF g HE.out HT.out hJ4.aw lv_down (by rw [lv_fl]; decide) (by rw [lv_len]; decide) (by rw [lv_len, lv_safe]; decide) (by rw [lv_wl]) (by rw [lv_len, lv_safe]; exact lv_tk)
  rw [lv_wl] at hop
  have HOP := hide hop
  clear hJ4 hop
  go_wp2_with fail
  refine HSZ.out.mono ?_
  rintro e w5 ⟨rfl, rfl⟩
  go_wp2_with fail
  refine HOP.out.mono ?_
  rintro e w6 ⟨j2, v, Z, rfl, _, hwy, htl, hbz, S6, _, hJ6, _⟩
  obtain ⟨va, vc, rfl, hzl, hrl, hml⟩ := RdL.told hwy htl
  have hz1 : Z.length = 1 := by
    have := congrArg List.length hbz
    simpa [batches] using this
  rw [hbz] at hrl
  rw [hz1]
  obtain ⟨W7, hW7⟩ : ∃ W7, ((((w6.alloc (.cells #[.int .u8 97] 5)).alloc (.cells #[.int .u8 98, .int .u8 99] 5)).alloc (.cells #[.slice (some ⟨w6.heap.size, 0, none⟩) 1 1, .slice (some ⟨w6.heap.size + 1, 0, none⟩) 2 2] 23)).alloc (.cells #[.slice (some ⟨w6.heap.size + 1 + 1, 0, none⟩) 2 2] 29)) = W7 := ⟨_, rfl⟩
  have hb7 : Below w6.heap.size w6 W7 := by rw [← hW7]; exact bel1 (bel1 (bel1 (bel1 (Below.refl _ _) (Nat.le_refl _) _) (by simp only [World.size_alloc]; omega) _) (by simp only [World.size_alloc]; omega) _) (by simp only [World.size_alloc]; omega) _
  have k1 : W7.heap[w6.heap.size]? = some (.cells #[.int .u8 97] 5 (0, 0)) := by
    rw [← hW7]; exact heap_past (heap_past (heap_past (heap_new _ _) _) _) _
  have k2 : W7.heap[w6.heap.size + 1]? = some (.cells #[.int .u8 98, .int .u8 99] 5 (0, 0)) := by
    rw [← hW7]
    have := heap_new (w6.alloc (.cells #[.int .u8 97] 5)) (.cells #[.int .u8 98, .int .u8 99] 5)
    simp only [World.size_alloc] at this
    exact heap_past (heap_past this _) _
  have k3 : W7.heap[w6.heap.size + 1 + 1]? = some (.cells #[.slice (some ⟨w6.heap.size, 0, none⟩) 1 1, .slice (some ⟨w6.heap.size + 1, 0, none⟩) 2 2] 23 (0, 0)) := by
    rw [← hW7]
    have := heap_new ((w6.alloc (.cells #[.int .u8 97] 5)).alloc (.cells #[.int .u8 98, .int .u8 99] 5)) (.cells #[.slice (some ⟨w6.heap.size, 0, none⟩) 1 1, .slice (some ⟨w6.heap.size + 1, 0, none⟩) 2 2] 23)
    simp only [World.size_alloc] at this
    exact heap_past this _
  have k4 : W7.heap[w6.heap.size + 1 + 1 + 1]? = some (.cells #[.slice (some ⟨w6.heap.size + 1 + 1, 0, none⟩) 2 2] 29 (0, 0)) := by
    rw [← hW7]
    have := heap_new (((w6.alloc (.cells #[.int .u8 97] 5)).alloc (.cells #[.int .u8 98, .int .u8 99] 5)).alloc (.cells #[.slice (some ⟨w6.heap.size, 0, none⟩) 1 1, .slice (some ⟨w6.heap.size + 1, 0, none⟩) 2 2] 23)) (.cells #[.slice (some ⟨w6.heap.size + 1 + 1, 0, none⟩) 2 2] 29)
    simp only [World.size_alloc] at this
    exact this
  have HSM := hide (same_any va (some ⟨w6.heap.size + 1 + 1 + 1, 0, none⟩) vc 1 [lvL] [lvL] W7 (hrl.below hb7) (RdL.one (L := lvL) (cellOf k4 0 _ rfl) (RdB.lv k1 k2 k3)) (by decide) (by intro m hm; simp only [List.mem_singleton] at hm; rw [hm]; decide))
  have hdt : decide ([lvL] = [lvL]) = true := decide_eq_true rfl
  rw [hdt] at HSM
  have HB7 : Hid (Below w.heap.size w W7) := belOn hJ6.aw.bel hJ6.aw.bel.size hb7
  have HW7 := hide hW7
  clear hwy htl hbz hJ6 hzl hrl hml hz1 hW7 hb7 k1 k2 k3 k4 hdt
  go_wp2_with fail
  rw [HW7.out]
  refine HSM.out.mono ?_
  rintro e w8 ⟨rfl, hb8⟩
  have HB8 : Hid (Below w.heap.size w w8) := belOn HB7.out HB7.out.size hb8
  clear hb8
  go_wp2
  go_ret
  exact ⟨rfl, HB8.out⟩
end Go.Proofs.YthpkajjgbjjbbaaGreatDoor


/- Stage 20: JournalNumbers. -/
namespace Go.Proofs.YthpkajjgbjjbbaaGreatDoor
open Go.RowKit Go.MuLone
set_option linter.unusedVariables false
set_option linter.unusedSimpArgs false
abbrev jnB : List Nat := [0, 0, 0, 5, 0x51, 0x2e, 0x2b, 0x93, 0, 0, 0, 1, 0x61, 0x15, 0x6e, 0xc1, 0x93]
theorem jn_scn : scn jnB 17 = ([[[97]]], 17, 0) := by
  unfold scn
  rw [jn_wl]
  rfl
theorem jn_rd {W : World} {g : Nat} (h : W.heap[g]? = some (.cells ((jnB.map fun (c : Nat) => Value.int .u8 (c : Int)).toArray) 5 (0, 0))) : Rd W (some ⟨g, 0, none⟩) 17 jnB := by
  refine ⟨rfl, by decide, fun _ => ⟨g, 0, rfl, (Array.getElem?_eq_some_iff.1 h).1, fun j hj => ?_⟩⟩
  refine cellOf h (0 + j) _ ?_
  have hj' : j < jnB.length := hj
  rw [Nat.zero_add]
  simp only [List.getElem?_toArray, List.getElem?_map, List.getElem?_eq_getElem hj', Option.map_some, List.getD_eq_getElem?_getD, Option.getD_some]
set_option maxHeartbeats 4000000 in
theorem numbers_yes (w : World) (g : Addr) (hE : Eb w g) (hT : Er w) : Calls Tryz.prog 3 #[] w fun e w' => e = .returned (.bool true) ∧ Below w.heap.size w w' := by
  have HLV := hide (live_yes w g hE hT)
  have HE := hide hE
  have HT := hide hT
  clear hE hT
  go_enter Tryz.func3, Tryz.ntmps3
  go_wp2_with fail
  refine HLV.out.mono ?_
  rintro e w1 ⟨rfl, hb1⟩
  have HB1 := hide hb1
  clear hb1
  go_wp2_with fail
  obtain ⟨W2, hW2⟩ : ∃ W2, w1.alloc (.cells #[.int .u8 0, .int .u8 0, .int .u8 0, .int .u8 5, .int .u8 81, .int .u8 46, .int .u8 43, .int .u8 147, .int .u8 0, .int .u8 0, .int .u8 0, .int .u8 1, .int .u8 97, .int .u8 21, .int .u8 110, .int .u8 193, .int .u8 147] 5) = W2 := ⟨_, rfl⟩
  have hb2 : Below w1.heap.size w1 W2 := by rw [← hW2]; exact bel1 (Below.refl _ _) (Nat.le_refl _) _
  have hB2 : W2.heap[w1.heap.size]? = some (.cells ((jnB.map fun (c : Nat) => Value.int .u8 (c : Int)).toArray) 5 (0, 0)) := by rw [← hW2]; exact heap_new _ _
  have hb02 : Below w.heap.size w W2 := belOn HB1.out HB1.out.size hb2
  have hsn := scan_any g (some ⟨w1.heap.size, 0, none⟩) 17 jnB 17 W2 (HE.out.below hb02) (HT.out.below hb02) (jn_rd hB2) (by decide) (by decide)
  have HSN := hide hsn
  have HB02 := hide hb02
  have HW2 := hide hW2
  clear hW2 hb2 hB2 hb02 hsn
  rw [HW2.out]
  refine HSN.out.mono ?_
  rintro e w6 ⟨⟨v, Z, rfl, hwy, htl, hbz⟩, hb6⟩
  rw [jn_scn] at hbz ⊢
  dsimp only at hbz ⊢
  obtain ⟨va, vc, rfl, hzl, hrl, hml⟩ := RdL.told hwy htl
  have hz1 : Z.length = 1 := by
    have := congrArg List.length hbz
    simpa [batches] using this
  rw [hbz] at hrl
  rw [hz1]
  have HB6 : Hid (Below w.heap.size w w6) := belOn HB02.out HB02.out.size hb6
  have HRL := hide hrl
  clear hwy htl hbz hzl hrl hml hz1 hb6
  go_wp2_with fail
  obtain ⟨W7, hW7⟩ : ∃ W7, (((w6.alloc (.cells #[.int .u8 97] 5)).alloc (.cells #[.slice (some ⟨w6.heap.size, 0, none⟩) 1 1] 23)).alloc (.cells #[.slice (some ⟨w6.heap.size + 1, 0, none⟩) 1 1] 29)) = W7 := ⟨_, rfl⟩
  have hb7 : Below w6.heap.size w6 W7 := by rw [← hW7]; exact bel1 (bel1 (bel1 (Below.refl _ _) (Nat.le_refl _) _) (by simp only [World.size_alloc]; omega) _) (by simp only [World.size_alloc]; omega) _
  have k1 : W7.heap[w6.heap.size]? = some (.cells #[.int .u8 97] 5 (0, 0)) := by
    rw [← hW7]; exact heap_past (heap_past (heap_new _ _) _) _
  have k2 : W7.heap[w6.heap.size + 1]? = some (.cells #[.slice (some ⟨w6.heap.size, 0, none⟩) 1 1] 23 (0, 0)) := by
    rw [← hW7]
    have := heap_new (w6.alloc (.cells #[.int .u8 97] 5)) (.cells #[.slice (some ⟨w6.heap.size, 0, none⟩) 1 1] 23)
    simp only [World.size_alloc] at this
    exact heap_past this _
  have k3 : W7.heap[w6.heap.size + 1 + 1]? = some (.cells #[.slice (some ⟨w6.heap.size + 1, 0, none⟩) 1 1] 29 (0, 0)) := by
    rw [← hW7]
    have := heap_new ((w6.alloc (.cells #[.int .u8 97] 5)).alloc (.cells #[.slice (some ⟨w6.heap.size, 0, none⟩) 1 1] 23)) (.cells #[.slice (some ⟨w6.heap.size + 1, 0, none⟩) 1 1] 29)
    simp only [World.size_alloc] at this
    exact this
  have hrb : RdB W7 (some ⟨w6.heap.size + 1, 0, none⟩) [[97]] := fun _ => ⟨w6.heap.size + 1, 0, rfl, (Array.getElem?_eq_some_iff.1 k2).1, fun j hj => by
    have : j = 0 := by simp at hj; omega
    subst this
    exact ⟨_, _, cellOf k2 0 _ rfl, Rb.one (x := 97) k1 (by decide)⟩⟩
  have HSM := hide (same_any va (some ⟨w6.heap.size + 1 + 1, 0, none⟩) vc 1 [[[97]]] [[[97]]] W7 (HRL.out.below hb7) (RdL.one (L := [[97]]) (cellOf k3 0 _ rfl) hrb) (by decide) (by intro m hm; simp only [List.mem_singleton] at hm; rw [hm]; decide))
  have hdt : decide ([[[97]]] = [[[97]]]) = true := decide_eq_true rfl
  rw [decide_eq_true (rfl : ([[[97]]] : List (List (List Nat))) = [[[97]]])] at HSM
  have HB7 : Hid (Below w.heap.size w W7) := belOn HB6.out HB6.out.size hb7
  have HW7 := hide hW7
  clear hW7 hb7 k1 k2 k3 hdt hrb
  rw [HW7.out]
  refine HSM.out.mono ?_
  rintro e w8 ⟨rfl, hb8⟩
  have HB8 : Hid (Below w.heap.size w w8) := belOn HB7.out HB7.out.size hb8
  clear hb8
  go_wp2
  go_ret
  exact ⟨rfl, HB8.out⟩
end Go.Proofs.YthpkajjgbjjbbaaGreatDoor
