import Derived.Test.YtcadlhpgapdgdaaGreatDoorJAddM9
import Derived.Test.YtcadlhpgapdgdaaGreatDoorJTmM9
import Derived.Test.YtcadlhpgapdgdaaGreatDoorJLivM9
import Derived.Test.YtcadlhpgapdgdaaGreatDoorJLogM9

/- Stage 20: rows of batches that came in, of numbers; a journal whose power does not fail. -/
namespace Go.Proofs.YtcadlhpgapdgdaaGreatDoor
open Go.RowKit Go.Maps Go.MuLone
set_option linter.unusedVariables false
set_option linter.unusedSimpArgs false
/-- a batch as it lies: its records, its slice -/
abbrev Bq := List (List Nat) × Value
def CK : WK Bq := { enc := fun r => [if r.2.oneCell' then r.2 else .slice none 0 0], n := 1, bs := 24, t := 29, ts := 24 }
theorem ckOk : CK.Ok := ⟨fun x => rfl, fun x u hu => by
  simp only [CK, List.mem_cons, List.not_mem_nil, or_false] at hu
  subst hu
  split
  · assumption
  · rfl, Tryz.underlying24, Tryz.infoBss, by decide, by decide, by decide, by decide⟩
theorem ck_enc (L : List (List Nat)) (a : Option Addr) (n c : Nat) : CK.enc (L, .slice a n c) = [.slice a n c] := rfl
/-- batches that are read, each where it lies -/
def RdQ (w : World) (Z : List Bq) : Prop := ∀ z ∈ Z, ∃ a c, z.2 = .slice a z.1.length c ∧ RdB w a z.1
theorem RdQ.below {w w' : World} {Z : List Bq} (h : RdQ w Z) (hb : Below w.heap.size w w') : RdQ w' Z := fun z hz => by
  obtain ⟨a, c, e, hr⟩ := h z hz
  exact ⟨a, c, e, hr.below hb⟩
theorem RdQ.snoc {w : World} {Z : List Bq} {L : List (List Nat)} {a : Option Addr} {c : Nat} (h : RdQ w Z) (hr : RdB w a L) : RdQ w (Z ++ [(L, .slice a L.length c)]) := fun z hz => by
  rcases List.mem_append.1 hz with hz | hz
  · exact h z hz
  · rw [List.mem_singleton.1 hz]
    exact ⟨a, c, rfl, hr⟩
theorem RdQ.rdL {w : World} {base : Nat} {v : Value} {Z : List Bq} (hw : Wy CK w base v Z) (h : RdQ w Z) : ∃ a c, v = .slice a Z.length c ∧ Z.length ≤ maxLen ∧ RdL w a (Z.map (·.1)) := by
  obtain ⟨a, c, e, hl, hr⟩ := hw.row1 (·.2) (fun o ho => by
    obtain ⟨x, k, e, _⟩ := h o ho
    show [if o.2.oneCell' then o.2 else _] = _
    rw [e]
    rfl)
  refine ⟨a, c, e, hl, fun h0 => ?_⟩
  rw [List.length_map] at h0
  obtain ⟨b, off, e1, e2, e3⟩ := hr h0
  refine ⟨b, off, e1, e2, fun j hj => ?_⟩
  rw [List.length_map] at hj
  obtain ⟨x, k, e4, h6⟩ := h Z[j] (List.getElem_mem hj)
  have h5 := e3 j hj
  rw [e4] at h5
  simp only [List.getElem_map]
  exact ⟨x, k, h5, h6⟩
/-- a row of numbers -/
def IK : WK Int := { enc := fun n => [.int .i64 n], n := 1, bs := 8, t := 3, ts := 75 }
theorem Tryz.infoI : ∃ i z, Tryz.prog.info? 3 = some i ∧ i.zero = some z ∧ z.cells.size = 1 ∧ i.size = 1 ∧ i.bytes = 8 := by
  have h : (Tryz.prog.info? 3).map (fun i => (i.zero, i.size, i.bytes)) = some (some (.int .i64 0), 1, 8) := by kernel_rfl
  obtain ⟨i, h1, h2, h3, h4⟩ := info_parts h
  exact ⟨i, _, h1, h2, rfl, h3, h4⟩
theorem ikOk : IK.Ok := ⟨fun x => rfl, fun x u hu => by
  simp only [IK, List.mem_cons, List.not_mem_nil, or_false] at hu
  subst hu
  rfl, Tryz.underlying75, Tryz.infoI, by decide, by decide, by decide, by decide⟩
theorem Wy.int {w : World} {base : Nat} {v : Value} {E : List Int} (h : Wy IK w base v E) : ∃ a c, v = .slice a E.length c ∧ E.length ≤ maxLen ∧ (0 < E.length → ∃ b off, a = some ⟨b, off, none⟩ ∧ b < w.heap.size ∧ ∀ j (hj : j < E.length), w.cell? ⟨b, off + j, none⟩ = some (.int .i64 E[j])) := h.row1 (fun n => .int .i64 n) (fun x _ => rfl)
/-- the log alone, all of it safe -/
def Clm (F : List Fi) (l : List Nat) : Prop := (F = [] ∧ l = []) ∨ F = [(kG, l, l.length)]
theorem Clm.dat {F : List Fi} {l : List Nat} (h : Clm F l) : dat kG F = (l, l.length) := by
  rcases h with ⟨rfl, rfl⟩ | rfl
  · rfl
  · simp [Go.Proofs.YtcadlhpgapdgdaaGreatDoor.dat]
theorem Clm.wo {F : List Fi} {l : List Nat} (h : Clm F l) : woF kG F = [] := by
  rcases h with ⟨rfl, rfl⟩ | rfl
  · rfl
  · simp [woF]
theorem Clm.len {F : List Fi} {l : List Nat} (h : Clm F l) : F.length ≤ 1 := by
  rcases h with ⟨rfl, rfl⟩ | rfl <;> simp
theorem kG_nm : nm kG = true := by first | rfl | decide | kernel_rfl
theorem add_calm {x : Dx} {F : List Fi} {l : List Nat} (L : List (List Nat)) (hd : x.down = false) (hl : x.left = -1) (hF : Clm F l) :
    (jAdd x F L = (190, x, F) ∧ x.room < x.used + (batN L : Int) ∨ 16777216 < batN L ∧ jAdd x F L = (190, x, F)) ∨ batN L ≤ 16777216 ∧ (x.used + (batN L : Int) ≤ x.room) ∧ jAdd x F L = (0, { x with used := x.used + (batN L : Int) }, [(kG, l ++ batB L, (l ++ batB L).length)]) := by
  unfold jAdd
  by_cases hb : 16777216 < batN L
  · rw [if_pos hb]; exact .inl (.inr ⟨hb, rfl⟩)
  · rw [if_neg hb]
    have hle : ((batB L).length : Int) = (batN L : Int) := by rw [batB_len]
    have hr : refE x.down [kG] = 0 := by unfold refE; rw [hd]; simp [kG_nm]
    unfold jWr
    by_cases hu : x.room - x.used < ((batB L).length : Int)
    · have e : dApp x F kG (batB L) = (190, x, F) := by unfold dApp; rw [if_neg (by rw [hr]; simp), if_pos hu]
      rw [e]
      exact .inl (.inl ⟨if_pos (by simp), by omega⟩)
    · have e : dApp x F kG (batB L) = (0, { x with used := x.used + ((batB L).length : Int) }, addF kG (batB L) F) := by
        unfold dApp
        rw [if_neg (by rw [hr]; simp), if_neg hu]
        have e1 : actE x = 0 := if_neg (by omega)
        have e2 : actF x (addF kG (batB L) F) = addF kG (batB L) F := if_neg (by omega)
        have e3 : actX { x with used := x.used + ((batB L).length : Int) } (addF kG (batB L) F) = { x with used := x.used + ((batB L).length : Int) } := if_pos hl
        rw [e1, e2, e3]
      rw [e]
      refine .inr ⟨by omega, by omega, ?_⟩
      rw [if_neg (by simp)]
      have ha : addF kG (batB L) F = [(kG, l ++ batB L, l.length)] := by unfold addF; rw [hF.dat, hF.wo]
      show dSync { x with used := x.used + ((batB L).length : Int) } (addF kG (batB L) F) kG = _
      rw [ha]
      unfold dSync
      have hf : findE x.down ([((kG, l ++ batB L, l.length) : Fi)].map (·.1)) kG [] = 0 := by unfold findE hasN; rw [hd]; simp [kG_nm]
      have e3 : ∀ G, actX { x with used := x.used + ((batB L).length : Int) } G = { x with used := x.used + ((batB L).length : Int) } := fun G => if_pos hl
      rw [if_neg (by rw [hf]; simp), if_neg (by show ¬ x.left = 0; omega), e3, hle]
      simp [Go.Proofs.YtcadlhpgapdgdaaGreatDoor.dat, woF]
/-- a journal over a disk of its own whose power does not fail: the log's bytes -/
def JC (S : Nat → Prop) (w wi : World) (d j : Nat) (l : List Nat) : Prop := ∃ x F, JS S w wi d j x F (l.length : Int) false ∧ x.down = false ∧ x.left = -1 ∧ x.room = 16777216 ∧ Clm F l
theorem JC.below {S : Nat → Prop} {w wi w' : World} {d j : Nat} {l : List Nat} (h : JC S w wi d j l) (hb : Below wi.heap.size wi w') : JC S w w' d j l := by
  obtain ⟨x, F, h1, h2⟩ := h
  exact ⟨x, F, h1.below hb, h2⟩
theorem JC.bel {S : Nat → Prop} {w wi : World} {d j : Nat} {l : List Nat} (h : JC S w wi d j l) : Below w.heap.size w wi := by
  obtain ⟨x, F, h1, h2⟩ := h
  exact h1.aw.bel
theorem JC.at {S : Nat → Prop} {w wi : World} {d j : Nat} {l : List Nat} (h : JC S w wi d j l) : (∀ k, S k ∨ k = j → w.heap.size ≤ k ∧ k < wi.heap.size) := fun k hk => by
  obtain ⟨x, F, h1, h2⟩ := h
  rcases hk with hk | rfl
  · exact h1.aw.at_ k hk
  · exact ⟨h1.lo, h1.lt⟩
theorem Clm.usd {F : List Fi} {l : List Nat} (h : Clm F l) : usd F = l.length := by
  rcases h with ⟨rfl, rfl⟩ | rfl <;> simp [Go.Proofs.YtcadlhpgapdgdaaGreatDoor.usd]
theorem JC.len {S : Nat → Prop} {w wi : World} {d j : Nat} {l : List Nat} (h : JC S w wi d j l) : l.length ≤ 16777216 := by
  obtain ⟨x, F, h1, h2, h3, h4, h5⟩ := h
  have := h1.aw.dd.ok.room
  rw [h5.usd, h4] at this
  omega
end Go.Proofs.YtcadlhpgapdgdaaGreatDoor


/- Stage 20: Add in full, the power not failing. -/
namespace Go.Proofs.YtcadlhpgapdgdaaGreatDoor
open Go.RowKit Go.Maps Go.MuLone
set_option linter.unusedVariables false
set_option linter.unusedSimpArgs false
set_option maxHeartbeats 4000000 in
/-- Add of a record that is none, or of no record -/
theorem Add_none (S : Nat → Prop) (w wi : World) (d j : Nat) (x : Dx) (F : List Fi) (sz : Int) (hT : Er w) (h : JS S w wi d j x F sz false) (hd : x.down = false) (a : Option Addr) (cap : Nat) (L : List (List Nat)) (hR : ∀ W', Kp S wi W' → RdB W' a L) (hb : L.any badR = true ∨ L = []) (hL : L.length ≤ 140737488355328) :
    Calls Tryz.prog 25 #[.pointer (some ⟨j, 0, none⟩), .slice a L.length cap] wi fun e w' => e = .returned (.int .i64 (if L.any badR then 200 else 0)) ∧ ∃ S', (∀ q, S' q → S q ∨ wi.heap.size ≤ q) ∧ JS S' w w' d j x F sz false ∧ Kp (fun k => S k ∨ k = j) wi w' := by
  obtain ⟨W1, hW1⟩ : ∃ W1, wi.alloc (.cells #[.slice a L.length cap] 29) = W1 := ⟨_, rfl⟩
  have hb1 : Below wi.heap.size wi W1 := by rw [← hW1]; exact bel1 (Below.refl _ _) (Nat.le_refl _) _
  have hgb : W1.heap[wi.heap.size]? = some (.cells #[.slice a L.length cap] 29 (0, 0)) := by rw [← hW1]; exact heap_new _ _
  have hJ1 := h.below hb1
  have hSl : ¬ S wi.heap.size := fun hs => by have := (h.aw.at_ _ hs).2; omega
  have hlt1 : wi.heap.size < W1.heap.size := (Array.getElem?_eq_some_iff.1 hgb).1
  have HRF := hide (refuses_up S w W1 d j x F sz false hJ1 hd (some ⟨wi.heap.size, 0, none⟩) 1 [L] (fun W' hk => RdL.one (cellOf ((hk.block hlt1 hSl).trans hgb) 0 _ rfl) (hR W' ((Kp.ofBelow hb1).trans hk))) (by simp) (by intro m hm; simp only [List.mem_singleton] at hm; rw [hm]; omega))
  have hrf : refN [L] = if L.any badR then 200 else 0 := by unfold refN badL; simp
  rw [hrf] at HRF
  have HB1 := hide hb1
  have HW1 := hide hW1
  clear h hgb hJ1 hb1 hW1 hrf hSl hR hlt1
  cases hq : L.any badR
  · rw [hq] at HRF
    have hl0 : L = [] := hb.resolve_left (by rw [hq]; simp)
    subst hl0
    go_enter Tryz.func25, Tryz.ntmps25
    go_wp2_with fail
    first | rw [HW1.out] | rw [show wi.alloc (.cells #[.slice a 0 cap] 29) = W1 from HW1.out]
    refine HRF.out.mono ?_
    rintro e w2 ⟨rfl, S2, hS2, hJ2, hK2⟩
    have HJ2 := hide (And.intro hS2 (And.intro hJ2 hK2))
    clear hS2 hJ2 hK2
    go_wp2
    go_ret
    exact ⟨rfl, S2, fun q hq => (HJ2.out.1 q hq).imp id (fun h => Nat.le_trans HB1.out.size h), HJ2.out.2.1, ((Kp.ofBelow HB1.out).trans HJ2.out.2.2).mono (fun k h => .inl h)⟩
  · rw [hq] at HRF
    clear hb hq
    go_enter Tryz.func25, Tryz.ntmps25
    go_wp2_with fail
    first | rw [HW1.out] | rw [show wi.alloc (.cells #[.slice a 0 cap] 29) = W1 from HW1.out]
    refine HRF.out.mono ?_
    rintro e w2 ⟨rfl, S2, hS2, hJ2, hK2⟩
    have HJ2 := hide (And.intro hS2 (And.intro hJ2 hK2))
    clear hS2 hJ2 hK2
    go_wp2
    go_ret
    exact ⟨rfl, S2, fun q hq => (HJ2.out.1 q hq).imp id (fun h => Nat.le_trans HB1.out.size h), HJ2.out.2.1, ((Kp.ofBelow HB1.out).trans HJ2.out.2.2).mono (fun k h => .inl h)⟩
/-- Add, the power not failing: what it answers, the log behind it -/
theorem Add_calm (S : Nat → Prop) (w wi : World) (d j : Nat) (l : List Nat) (hT : Er w) (h : JC S w wi d j l) (a : Option Addr) (cap : Nat) (L : List (List Nat)) (hR : RdB w a L) (hL : L.length ≤ 4294967296) (hN : batN L ≤ 4611686018427387904) :
    Calls Tryz.prog 25 #[.pointer (some ⟨j, 0, none⟩), .slice a L.length cap] wi fun e w' => ∃ n : Int, e = .returned (.int .i64 n) ∧ ∃ S', (∀ q, S' q → S q ∨ wi.heap.size ≤ q) ∧ Kp (fun k => S k ∨ k = j) wi w' ∧
      ((n = 0 ∧ L.any badR = false ∧ batN L ≤ 16777216 ∧ l.length + batN L ≤ 16777216 ∧ JC S' w w' d j (l ++ batB L)) ∨ ((n = 200 ∧ L.any badR = true ∨ n = 190 ∧ 16777216 < l.length + batN L) ∧ JC S' w w' d j l)) := by
  obtain ⟨x, F, hJ, hd, hl, hro, hF⟩ := h
  have hRR : ∀ W', Kp S wi W' → RdB W' a L := fun W' hk => hR.below (hJ.aw.bel.trans (hk.toBelow hJ.aw.bel.size (fun k hk' hs => by have := (hJ.aw.at_ k hs).1; omega)))
  by_cases hb : L.any badR = true ∨ L = []
  · refine (Add_none S w wi d j x F _ hT hJ hd a cap L hRR hb (by omega)).mono ?_
    rintro e w' ⟨rfl, S', h1, h2, h3⟩
    refine ⟨_, rfl, S', h1, h3, ?_⟩
    cases hq : L.any badR
    · have hl0 : L = [] := hb.resolve_left (by rw [hq]; simp)
      subst hl0
      have e0 : batB ([] : List (List Nat)) = [] := rfl
      have e1 : batN ([] : List (List Nat)) = 0 := rfl
      refine .inl ⟨rfl, rfl, by omega, ?_, x, F, ?_, hd, hl, hro, ?_⟩
      · have := hJ.aw.dd.ok.room
        rw [hF.usd, hro] at this
        omega
      · rw [e0, List.append_nil]; exact h2
      · rw [e0, List.append_nil]; exact hF
    · exact .inr ⟨.inl ⟨rfl, rfl⟩, x, F, h2, hd, hl, hro, hF⟩
  · have hb1 : L.any badR = false := by
      cases hq : L.any badR
      · rfl
      · exact absurd (.inl hq) hb
    have hb2 : L ≠ [] := fun e => hb (.inr e)
    have hlen := JC.len ⟨x, F, hJ, hd, hl, hro, hF⟩
    have hus := hJ.aw.dd.ok.used
    rw [hF.usd] at hus
    rcases add_calm L hd hl hF with (⟨e, hq⟩ | ⟨hq, e⟩) | ⟨hq, hq2, e⟩
    · refine (Add_good S w wi d j x F _ hT hJ hd a cap L hRR hb1 hb2 (by rw [e]; simp) hL hN (by omega) (by have := hF.len; unfold maxLen; omega)).mono ?_
      rintro e' w' ⟨rfl, S', h1, h2, h3⟩
      rw [e] at h2 ⊢
      have hsz : jSz (l.length : Int) x F L = (l.length : Int) := by unfold jSz; rw [e]; exact if_neg (by simp)
      rw [hsz] at h2
      exact ⟨_, rfl, S', h1, h3, .inr ⟨.inr ⟨rfl, by omega⟩, x, F, h2, hd, hl, hro, hF⟩⟩
    · refine (Add_good S w wi d j x F _ hT hJ hd a cap L hRR hb1 hb2 (by rw [e]; simp) hL hN (by omega) (by have := hF.len; unfold maxLen; omega)).mono ?_
      rintro e' w' ⟨rfl, S', h1, h2, h3⟩
      rw [e] at h2 ⊢
      have hsz : jSz (l.length : Int) x F L = (l.length : Int) := by unfold jSz; rw [e]; exact if_neg (by simp)
      rw [hsz] at h2
      exact ⟨_, rfl, S', h1, h3, .inr ⟨.inr ⟨rfl, by omega⟩, x, F, h2, hd, hl, hro, hF⟩⟩
    · refine (Add_good S w wi d j x F _ hT hJ hd a cap L hRR hb1 hb2 (by rw [e]; simp) hL hN (by omega) (by have := hF.len; unfold maxLen; omega)).mono ?_
      rintro e' w' ⟨rfl, S', h1, h2, h3⟩
      rw [e] at h2 ⊢
      have hsz : jSz (l.length : Int) x F L = ((l ++ batB L).length : Int) := by
        unfold jSz
        rw [e]
        rw [if_pos rfl, List.length_append, batB_len]
        omega
      rw [hsz] at h2
      exact ⟨_, rfl, S', h1, h3, .inl ⟨rfl, hb1, hq, by omega, _, _, h2, hd, hl, hro, .inr rfl⟩⟩
end Go.Proofs.YtcadlhpgapdgdaaGreatDoor


/- Stage 20: how much batches weigh. -/
namespace Go.Proofs.YtcadlhpgapdgdaaGreatDoor
open Go.RowKit
set_option linter.unusedVariables false
set_option linter.unusedSimpArgs false
def wgN (L : List (List Nat)) : Nat := (L.map fun r => 5 + r.length).sum
def wgA (M : List (List (List Nat))) : Nat := (M.map fun L => 13 + wgN L).sum
theorem wgN_take (L : List (List Nat)) {k : Nat} (hk : k < L.length) : wgN (L.take (k + 1)) = wgN (L.take k) + (5 + L[k].length) := by
  unfold wgN
  rw [List.take_succ_eq_append_getElem hk, List.map_append, List.sum_append]
  simp
theorem wgA_take (M : List (List (List Nat))) {k : Nat} (hk : k < M.length) : wgA (M.take (k + 1)) = wgA (M.take k) + (13 + wgN M[k]) := by
  unfold wgA
  rw [List.take_succ_eq_append_getElem hk, List.map_append, List.sum_append]
  simp
set_option maxHeartbeats 1000000 in
theorem weigh_any (n : Nat) (a : Option Addr) (cap : Nat) (L : List (List Nat)) (w : World) (hR : RdB w a L) (hn : n ≤ 562949953421312) (hL : L.length ≤ 140737488355328) (hr : ∀ r ∈ L, r.length ≤ 140737488355328) :
    Calls Tryz.prog 34 #[.int .i64 (n : Int), .slice a L.length cap] w fun e w' => (∃ s : Nat, e = .returned (.int .i64 (s : Int)) ∧ s ≤ 562949953421312 ∧ (s ≤ 2147483647 → s = n + wgN L)) ∧ w' = w := by
  have HR := hide hR
  have HL := hide hr
  clear hR hr
  go_enter Tryz.func34, Tryz.ntmps34
  go_wp2
  go_loop [0, 5] (fun nv i => ∃ k s : Nat, k ≤ L.length ∧ i = .int .i64 (k : Int) ∧ nv = .int .i64 (s : Int) ∧ Hid (s ≤ 562949953421312 ∧ (s ≤ 2147483647 → s = n + wgN (L.take k)))) (fun _ i => L.length - (intOf i).toNat)
  case atStart => exact ⟨0, n, Nat.zero_le _, rfl, rfl, hn, fun _ => rfl⟩
  case round =>
    obtain ⟨k, s, hk, rfl, rfl, HS⟩ := hrel
    by_cases hkn : k < L.length
    · by_cases hs : s ≤ 2147483647
      · obtain ⟨b, off, rfl, hbl, hc⟩ := HR.out (by omega)
        obtain ⟨x, c, hcell, hrb⟩ := hc k hkn
        have HT := hide (wgN_take L hkn)
        have hz := HL.out L[k] (List.getElem_mem hkn)
        generalize L[k].length = m at *
        have hki : (k : Int) < (L.length : Int) := by omega
        have hsi : (s : Int) ≤ 2147483647 := by omega
        clear hc hrb
        go_wp2
        go_round
        case rel => exact ⟨k + 1, s + 5 + m, by omega, by go_num, by go_num, by omega, fun _ => by rw [HT.out]; have := HS.out.2 hs; omega⟩
        case measure => simp [intOf]; omega
      · have hki : (k : Int) < (L.length : Int) := by omega
        have hsi : ¬ (s : Int) ≤ 2147483647 := by omega
        go_wp2
        go_ret
        exact ⟨⟨s, rfl, HS.out.1, fun h => absurd h hs⟩, rfl⟩
    · have hkn' : k = L.length := by omega
      subst hkn'
      have HS' := HS.out
      rw [List.take_length] at HS'
      go_wp2
      go_ret
      exact ⟨⟨s, rfl, HS'.1, HS'.2⟩, rfl⟩
set_option maxHeartbeats 1000000 in
theorem weighAll_any (n : Nat) (a : Option Addr) (cap : Nat) (M : List (List (List Nat))) (w : World) (hR : RdL w a M) (hn : n ≤ 562949953421312) (hL : M.length ≤ 140737488355328) (hr : ∀ m ∈ M, m.length ≤ 140737488355328 ∧ ∀ r ∈ m, r.length ≤ 140737488355328) :
    Calls Tryz.prog 33 #[.int .i64 (n : Int), .slice a M.length cap] w fun e w' => (∃ s : Nat, e = .returned (.int .i64 (s : Int)) ∧ s ≤ 562949953421312 ∧ (s ≤ 2147483647 → s = n + wgA M)) ∧ w' = w := by
  have HR := hide hR
  have HL := hide hr
  clear hR hr
  go_enter Tryz.func33, Tryz.ntmps33
  go_wp2
  go_loop [0, 5] (fun nv i => ∃ k s : Nat, k ≤ M.length ∧ i = .int .i64 (k : Int) ∧ nv = .int .i64 (s : Int) ∧ Hid (s ≤ 562949953421312 ∧ (s ≤ 2147483647 → s = n + wgA (M.take k)))) (fun _ i => M.length - (intOf i).toNat)
  case atStart => exact ⟨0, n, Nat.zero_le _, rfl, rfl, hn, fun _ => rfl⟩
  case round =>
    obtain ⟨k, s, hk, rfl, rfl, HS⟩ := hrel
    by_cases hkn : k < M.length
    · by_cases hs : s ≤ 2147483647
      · obtain ⟨b, off, rfl, hbl, hc⟩ := HR.out (by omega)
        obtain ⟨x, c, hcell, hrb⟩ := hc k hkn
        have HT := hide (wgA_take M hkn)
        have hz := HL.out M[k] (List.getElem_mem hkn)
        have HW := hide (weigh_any (s + 13) x c M[k] w hrb (by omega) hz.1 hz.2)
        rw [show ((s + 13 : Nat) : Int) = (s : Int) + 13 by omega] at HW
        generalize M[k].length = m at *
        have hki : (k : Int) < (M.length : Int) := by omega
        have hsi : (s : Int) ≤ 2147483647 := by omega
        have hw13 : IntKind.i64.wrap ((s : Int) + 13) = (s : Int) + 13 := by rw [IntKind.wrap_i64]; omega
        clear hc hrb hz
        go_wp2_with (go_at_call 34; refine HW.out.mono ?_; rintro e w' ⟨⟨s2, rfl, hs2, hs3⟩, rfl⟩)
        go_round
        case rel => exact ⟨k + 1, s2, by omega, by go_num, rfl, hs2, fun h => by rw [HT.out]; have := hs3 h; have := HS.out.2 hs; omega⟩
        case measure => simp [intOf]; omega
      · have hki : (k : Int) < (M.length : Int) := by omega
        have hsi : ¬ (s : Int) ≤ 2147483647 := by omega
        go_wp2
        go_ret
        exact ⟨⟨s, rfl, HS.out.1, fun h => absurd h hs⟩, rfl⟩
    · have hkn' : k = M.length := by omega
      subst hkn'
      have HS' := HS.out
      rw [List.take_length] at HS'
      go_wp2
      go_ret
      exact ⟨⟨s, rfl, HS'.1, HS'.2⟩, rfl⟩
end Go.Proofs.YtcadlhpgapdgdaaGreatDoor


/- Stage 20: batches, and one more. -/
namespace Go.Proofs.YtcadlhpgapdgdaaGreatDoor
open Go.RowKit
set_option linter.unusedVariables false
set_option linter.unusedSimpArgs false
set_option maxHeartbeats 2000000 in
theorem with_any (B : Nat) (a : Option Addr) (c : Nat) (Z : List Bq) (x : Bq) (b : Option Addr) (bc : Nat) (hx : x.2 = .slice b x.1.length bc) (w : World) (hw : Wy CK w B (.slice a Z.length c) Z) (hq : RdQ w Z) (hZ : Z.length ≤ 1000000000000) :
    Calls Tryz.prog 26 #[.slice a Z.length c, .slice b x.1.length bc] w fun e w' => ∃ v, e = .returned v ∧ Wy CK w' w.heap.size v (Z ++ if x.1 = [] then [] else [x]) ∧ Below w.heap.size w w' := by
  obtain ⟨a', c', e', hl, hr⟩ := hw.row1 (·.2) (fun o ho => by
    obtain ⟨x, k, e, _⟩ := hq o ho
    show [if o.2.oneCell' then o.2 else _] = _
    rw [e]
    rfl)
  simp only [Value.slice.injEq, true_and] at e'
  obtain ⟨rfl, rfl⟩ := e'
  have HR := hide hr
  have HQ := hide hq
  clear hr hq hw
  obtain ⟨X, xv⟩ := x
  obtain rfl : xv = .slice b X.length bc := hx
  obtain ⟨R, hRR⟩ : ∃ R, (if X = [] then [] else [((X, .slice b X.length bc) : Bq)]) = R := ⟨_, rfl⟩
  have HRR := hide hRR
  dsimp only
  rw [hRR]
  clear hRR
  go_enter Tryz.func26, Tryz.ntmps26
  go_wp2
  go_loopw [5, 6] (fun ov i wr => ∃ k : Nat, k ≤ Z.length ∧ i = .int .i64 (k : Int) ∧ Hid (Wy CK wr w.heap.size ov (Z.take k)) ∧ Below w.heap.size w wr) (fun _ i _ => Z.length - (intOf i).toNat)
  case atStart => exact ⟨0, Nat.zero_le _, rfl, .inl ⟨rfl, rfl⟩, Below.refl _ _⟩
  case round =>
    rename_i ov i wr
    obtain ⟨k, hk, rfl, HW, hb⟩ := hrel
    have HB := hide hb
    clear hb
    obtain ⟨va, vc, rfl⟩ := HW.out.shape
    have HTL : Hid ((Z.take k).length = k) := by show _ = _; rw [List.length_take]; omega
    by_cases hkn : k < Z.length
    · obtain ⟨g, off, rfl, hgl, hc⟩ := HR.out (by omega)
      have hcell := (HB.out.cell (p := ⟨g, off + k, none⟩) hgl).trans (hc k hkn)
      obtain ⟨y, d, hyd, hrb⟩ := HQ.out Z[k] (List.getElem_mem hkn)
      have HZT : Hid (Z.take (k + 1) = Z.take k ++ [Z[k]]) := List.take_succ_eq_append_getElem hkn
      have HYD := hide hyd
      rw [hyd] at hcell
      have HCE : Hid (CK.enc Z[k] = [.slice y Z[k].1.length d]) := by show [if Z[k].2.oneCell' then Z[k].2 else _] = _; rw [hyd]; rfl
      have hki : (k : Int) < (Z.length : Int) := by omega
      have HBA : Hid (w.heap.size ≤ wr.heap.size) := HB.out.size
      generalize Z[k] = z at *
      clear hc hrb hyd
      have HWA : Hid (Wy CK (wr.alloc (.cells #[.slice y z.1.length d] 29)) w.heap.size (.slice va (Z.take k).length vc) (Z.take k)) := HW.out.at fun q e => Below.heap_alloc _ _ _ (HW.out.lt e).2
      rw [HTL.out] at HWA ⊢
      go_wp2_with (at_builtin; go_loud (refine wpList_append_way ckOk _ rfl (.tmp 13) (.tmp 18) rfl w.heap.size (.slice va k vc) (Z.take k) z rfl HWA.out wr.heap.size 1 rfl (by rw [HCE.out]; exact heap_new _ _) (by simp; exact Nat.le_trans HBA.out (Nat.le_succ _)) (by rw [HTL.out]; show (k + 1) * 24 ≤ _; omega) ?_); intro v' w7 hw7 hg7 hs7; have HW7 := hide hw7; have HG7 := hide hg7; clear hw7 hg7 hs7)
      refine ⟨⟨k + 1, by omega, by go_num, ?_, ?_⟩, by simp [intOf]; omega⟩
      · rw [HZT.out]; exact HW7.out
      · exact (bel1 HB.out HBA.out _).grown HG7.out (Nat.le_trans HBA.out (by simp)) (fun q hq => by rw [← HTL.out] at hq; exact (HW.out.lt hq).1)
    · have hkn' : k = Z.length := by omega
      subst hkn'
      have HTA : Hid (Z.take Z.length = Z) := List.take_length
      have HBA : Hid (w.heap.size ≤ wr.heap.size) := HB.out.size
      rw [HTL.out]
      rw [HTL.out, HTA.out] at HW
      by_cases hx0 : X = []
      · subst hx0
        have HR0 : Hid (R = []) := by show _ = _; rw [← HRR.out]; rfl
        clear HRR
        dsimp only [List.length_nil]
        go_wp2
        go_ret
        exact ⟨_, rfl, by rw [HR0.out, List.append_nil]; exact HW.out, HB.out⟩
      · have HR1 : Hid (R = [(X, .slice b X.length bc)]) := by show _ = _; rw [← HRR.out, if_neg hx0]
        have hxl : 0 < (X.length : Int) := by have := List.length_pos_iff.2 hx0; omega
        have HCE : Hid (CK.enc (X, .slice b X.length bc) = [.slice b X.length bc]) := rfl
        have HWA : Hid (Wy CK (wr.alloc (.cells #[.slice b X.length bc] 29)) w.heap.size (.slice va Z.length vc) Z) := HW.out.at fun q e => Below.heap_alloc _ _ _ (HW.out.lt e).2
        clear HRR hx0
        go_wp2_with (at_builtin; go_loud (refine wpList_append_way ckOk _ rfl (.tmp 23) (.tmp 25) rfl w.heap.size (.slice va Z.length vc) Z (X, .slice b X.length bc) rfl HWA.out wr.heap.size 1 rfl (by rw [HCE.out]; exact heap_new _ _) (by simp; exact Nat.le_trans HBA.out (Nat.le_succ _)) (by show (Z.length + 1) * 24 ≤ _; omega) ?_); intro v' w7 hw7 hg7 hs7; have HW7 := hide hw7; have HG7 := hide hg7; clear hw7 hg7 hs7)
        go_ret
        exact ⟨_, rfl, by rw [HR1.out]; exact HW7.out, (bel1 HB.out HBA.out _).grown HG7.out (Nat.le_trans HBA.out (by simp)) (fun q hq => (HW.out.lt hq).1)⟩
end Go.Proofs.YtcadlhpgapdgdaaGreatDoor


/- Stage 20: JournalTurned: the state of its first loop. -/
namespace Go.Proofs.YtcadlhpgapdgdaaGreatDoor
open Go.RowKit
set_option linter.unusedVariables false
set_option linter.unusedSimpArgs false
theorem bodN_wg (L : List (List Nat)) : bodN L ≤ wgN L ∧ L.length ≤ wgN L := by
  induction L with
  | nil => exact ⟨Nat.le_refl _, Nat.le_refl _⟩
  | cons r L ih => simp only [bodN, wgN, List.map_cons, List.sum_cons, List.length_cons] at ih ⊢; omega
theorem wgA_mem {M : List (List (List Nat))} {m : List (List Nat)} (h : m ∈ M) : wgN m ≤ wgA M := by
  induction M with
  | nil => cases h
  | cons x M ih =>
    simp only [wgA, List.map_cons, List.sum_cons] at ih ⊢
    rcases List.mem_cons.1 h with rfl | h
    · omega
    · have := ih h; omega
theorem wgA_len (M : List (List (List Nat))) : M.length ≤ wgA M := by
  induction M with
  | nil => exact Nat.le_refl _
  | cons x M ih => simp only [wgA, List.map_cons, List.sum_cons, List.length_cons] at ih ⊢; omega
theorem batN_wg (L : List (List Nat)) : batN L ≤ 12 + wgN L := by
  have := (bodN_wg L).1
  unfold batN
  split <;> omega
/-- the places behind batches -/
def endsN (M : List (List (List Nat))) : List Int := (List.range M.length).map fun k => ((logN (M.take (k + 1)) : Nat) : Int)
theorem endsN_len (M : List (List (List Nat))) : (endsN M).length = M.length := by simp [endsN]
theorem endsN_get (M : List (List (List Nat))) (k : Nat) (h : k < (endsN M).length) : (endsN M)[k] = ((logN (M.take (k + 1)) : Nat) : Int) := by simp [endsN]
theorem logN_snoc (M : List (List (List Nat))) (L : List (List Nat)) : logN (M ++ [L]) = logN M + batN L := by simp [logN]
theorem logB_snoc (M : List (List (List Nat))) (L : List (List Nat)) : logB (M ++ [L]) = logB M ++ batB L := by simp [logB]
theorem endsN_snoc (M : List (List (List Nat))) (L : List (List Nat)) : endsN (M ++ [L]) = endsN M ++ [((logN (M ++ [L]) : Nat) : Int)] := by
  unfold endsN
  rw [List.length_append, List.length_singleton, List.range_succ, List.map_append]
  congr 1
  · refine List.map_congr_left fun k hk => ?_
    have := List.mem_range.1 hk
    rw [List.take_append_of_le_length (by omega)]
  · simp only [List.map_cons, List.map_nil]
    rw [List.take_of_length_le (by simp)]
theorem RdB.byte {w : World} {a : Option Addr} {L : List (List Nat)} (h : RdB w a L) : ∀ r ∈ L, ∀ c ∈ r, c < 256 := fun r hr c hc => by
  obtain ⟨j, hj, rfl⟩ := List.getElem_of_mem hr
  obtain ⟨b, off, _, _, h1⟩ := h (by omega)
  obtain ⟨x, cx, _, a', c', e, _, _, h4⟩ := h1 j hj
  exact h4.2.1 c hc
theorem GdB.of {w : World} {a : Option Addr} {L : List (List Nat)} (hr : RdB w a L) (hb : L.any badR = false) (hn : batN L ≤ 16777216) (h0 : L ≠ []) : GdB L := by
  refine ⟨h0, fun r h => ?_, ?_, hr.byte⟩
  · have := List.any_eq_false.1 hb r h
    simp only [badR, Bool.or_eq_true, decide_eq_true_eq] at this
    omega
  · unfold batN at hn
    rw [if_neg h0] at hn
    omega
/-- what stands at the loop's rounds -/
def LI (w : World) (d j : Nat) (k : Nat) (wv ev : Value) (wr : World) : Prop := ∃ S Z, JC S w wr d j (logB (Z.map (·.1))) ∧ (∀ m ∈ Z.map (·.1), GdB m) ∧ Z.length ≤ k ∧ RdQ w Z ∧ Wy CK wr w.heap.size wv Z ∧ (∀ g, wv.ownBlock = some g → ¬ (S g ∨ g = j)) ∧ Wy IK wr w.heap.size ev (endsN (Z.map (·.1))) ∧ (∀ g, ev.ownBlock = some g → ¬ (S g ∨ g = j))
theorem JC.other {S : Nat → Prop} {w wi w' : World} {d j : Nat} {l : List Nat} (h : JC S w wi d j l) (hk : ∀ q, (S q ∨ q = j) → w'.heap[q]? = wi.heap[q]?) (hb : Below w.heap.size w w') (hz : wi.heap.size ≤ w'.heap.size) : JC S w w' d j l := by
  obtain ⟨x, F, h1, h2⟩ := h
  exact ⟨x, F, ⟨⟨fun k hk' => ⟨(h1.aw.at_ k hk').1, Nat.lt_of_lt_of_le (h1.aw.at_ k hk').2 hz⟩, ⟨h1.aw.dd.dsk.keepB (fun k hk' => hk k (.inl hk')), h1.aw.dd.lk, h1.aw.dd.ok⟩, hb⟩, h1.nj, h1.lo, (hk j (.inr rfl)).trans h1.blk⟩, h2⟩
/-- a row of the call's stays behind a call of the journal's -/
theorem Wy.kp {A : Type} {K : WK A} {w wi w' : World} {S : Nat → Prop} {v : Value} {W : List A} (h : Wy K wi w.heap.size v W) (hk : Kp S wi w') (hn : ∀ g, v.ownBlock = some g → ¬ S g) : Wy K w' w.heap.size v W :=
  h.at fun k e => hk.block (h.lt e).2 (hn k e)
def LX (S : Nat → Prop) (Z : List Bq) (w : World) (d j k : Nat) (wv ev : Value) (wr : World) : Prop := JC S w wr d j (logB (Z.map (·.1))) ∧ (∀ m ∈ Z.map (·.1), GdB m) ∧ Z.length ≤ k ∧ RdQ w Z ∧ Wy CK wr w.heap.size wv Z ∧ (∀ g, wv.ownBlock = some g → ¬ (S g ∨ g = j)) ∧ Wy IK wr w.heap.size ev (endsN (Z.map (·.1))) ∧ (∀ g, ev.ownBlock = some g → ¬ (S g ∨ g = j))
theorem li_skip {S S4 : Nat → Prop} {Z : List Bq} {w wr w4 : World} {d j k : Nat} {wv ev : Value} (HX : LX S Z w d j k wv ev wr) (HK : (∀ q, S4 q → S q ∨ wr.heap.size ≤ q) ∧ Kp (fun k => S k ∨ k = j) wr w4) (hJ4 : JC S4 w w4 d j (logB (Z.map (·.1)))) : LI w d j (k + 1) wv ev w4 := by
  obtain ⟨h1, h2, h3, h4, h5, h6, h7, h8⟩ := HX
  have hn : ∀ g, g < wr.heap.size → ¬ (S g ∨ g = j) → ¬ (S4 g ∨ g = j) := fun g hg hs h => h.elim (fun h => (HK.1 g h).elim (fun h => hs (.inl h)) (fun h => by omega)) (fun h => hs (.inr h))
  exact ⟨S4, Z, hJ4, h2, by omega, h4, h5.kp HK.2 h6, fun g e => hn g (h5.lt e).2 (h6 g e), h7.kp HK.2 h8, fun g e => hn g (h7.lt e).2 (h8 g e)⟩
theorem li_next {S S4 : Nat → Prop} {Z : List Bq} {w wr w4 w5 w7 : World} {d j k : Nat} {wv ev v5 v7 : Value} {K : List (List Nat)} {x : Option Addr} {cx : Nat} {o : Obj} (HX : LX S Z w d j k wv ev wr) (HK : (∀ q, S4 q → S q ∨ wr.heap.size ≤ q) ∧ Kp (fun k => S k ∨ k = j) wr w4) (hJ4 : JC S4 w w4 d j (logB (Z.map (·.1)) ++ batB K))
    (hg : GdB K) (hr : RdB w x K) (hb5 : Below w4.heap.size w4 w5) (hw5 : Wy CK w5 w4.heap.size v5 (Z ++ [(K, .slice x K.length cx)])) (hw7 : Wy IK w7 w.heap.size v7 (endsN (Z.map (·.1)) ++ [((logB (Z.map (·.1)) ++ batB K).length : Int)]))
    (hg7 : (w5.alloc o).grownBy w7 ev.ownBlock) (hs7 : (∃ g off cap, ev = .slice (some ⟨g, off, none⟩) (endsN (Z.map (·.1))).length cap ∧ v7 = .slice (some ⟨g, off, none⟩) ((endsN (Z.map (·.1))).length + 1) cap) ∨ ((∀ k, v7.ownBlock = some k → (w5.alloc o).heap.size ≤ k) ∧ (w5.alloc o).grownBy w7 none)) : LI w d j (k + 1) v5 v7 w7 := by
  obtain ⟨h1, h2, h3, h4, h5, h6, h7, h8⟩ := HX
  have hn : ∀ g, g < wr.heap.size → ¬ (S g ∨ g = j) → ¬ (S4 g ∨ g = j) := fun g hg hs h => h.elim (fun h => (HK.1 g h).elim (fun h => hs (.inl h)) (fun h => by omega)) (fun h => hs (.inr h))
  have z4 := HK.2.size
  have z5 := hb5.size
  have hJ5 := hJ4.below hb5
  have hat := hJ5.at
  have hJ6 := hJ5.below (bel1 (Below.refl _ _) (Nat.le_refl _) o)
  have hzw := h1.bel.size
  have e7 : ∀ g, ev.ownBlock = some g → w.heap.size ≤ g ∧ g < wr.heap.size := fun g e => h7.lt e
  have hnq : ∀ q, (S4 q ∨ q = j) → some q ≠ ev.ownBlock := fun q hq e => hn q (e7 q e.symm).2 (h8 q e.symm) hq
  have hJ7 : JC S4 w w7 d j (logB (Z.map (·.1)) ++ batB K) := hJ6.other (fun q hq => hg7.block q (by simp; have := (hat q hq).2; omega) (hnq q hq)) (hJ6.bel.grown hg7 (by simp; omega) (fun q hq => (e7 q hq).1)) hg7.size
  refine ⟨S4, Z ++ [(K, .slice x K.length cx)], ?_, ?_, ?_, h4.snoc hr, ?_, ?_, ?_, ?_⟩
  · rw [List.map_append, List.map_singleton, logB_snoc]; exact hJ7
  · intro m hm
    rw [List.map_append, List.mem_append] at hm
    rcases hm with hm | hm
    · exact h2 m hm
    · rw [List.map_singleton, List.mem_singleton] at hm; rw [hm]; exact hg
  · rw [List.length_append, List.length_singleton]; omega
  · refine (hw5.at fun q e => ?_).mono (by omega)
    have hq := hw5.lt e
    refine (hg7.block q (by simp; omega) (fun e' => by have := (e7 q e'.symm).2; omega)).trans ?_
    exact (bel1 (Below.refl _ _) (Nat.le_refl _) o : Below w5.heap.size w5 _).block q hq.2
  · intro q e hq
    have h9 := hw5.lt e
    have := (hJ4.at q hq).2
    omega
  · rw [List.map_append, List.map_singleton, endsN_snoc, ← logB_len, logB_snoc]; exact hw7
  · intro q e hq
    have h9 := (hat q hq).2
    rcases hs7 with ⟨g, off, cap, e1, e2⟩ | ⟨h10, _⟩
    · rw [e2] at e
      cases e
      exact hn _ (e7 _ (by rw [e1]; rfl)).2 (h8 _ (by rw [e1]; rfl)) hq
    · have := h10 q e
      rw [World.size_alloc] at this
      omega
/-- a byte of an own row, and the row with it turned -/
theorem ob_turned {B : Nat} {w : World} {g c : Nat} {l : List Nat} (h : Ob B w (.slice (some ⟨g, 0, none⟩) l.length c) l) {P : Nat} (hP : P < l.length) : w.cell? ⟨g, P, none⟩ = some (.int .u8 ((l.getD P 0 : Nat) : Int)) ∧ (∀ o, w.frozen? ⟨g, o, none⟩ = false) ∧ B ≤ g ∧ l.getD P 0 < 256 ∧ ∀ X, X < 256 → Rd (w.setCell ⟨g, P, none⟩ (.int .u8 ((l.getD P 0 ^^^ X : Nat) : Int))) (some ⟨g, 0, none⟩) l.length (turn l P X) := by
  have hr : Rd w (some ⟨g, 0, none⟩) l.length l := by
    obtain ⟨a', c', e, _, _, hr⟩ := h.rb
    simp only [Value.slice.injEq] at e
    obtain ⟨rfl, _, rfl⟩ := e
    exact hr
  obtain ⟨b, off, e, hlt, hc⟩ := hr.2.2 (by omega)
  simp only [Option.some.injEq, Addr.mk.injEq, and_true] at e
  obtain ⟨rfl, rfl⟩ := e
  have hcP : w.cell? ⟨g, P, none⟩ = some (.int .u8 ((l.getD P 0 : Nat) : Int)) := by have := hc P hP; rwa [Nat.zero_add] at this
  have hb : l.getD P 0 < 256 := by
    rw [List.getD_eq_getElem?_getD, List.getElem?_eq_getElem hP]
    exact h.2 _ (List.getElem_mem hP)
  refine ⟨hcP, fun o => ?_, (h.lt g rfl).1, hb, fun X hX => ⟨turn_len l P X, turn_lt h.2 P hX, fun _ => ⟨g, 0, rfl, by simpa using hlt, fun j hj => ?_⟩⟩⟩
  · rcases h.1.2 with ⟨e, _⟩ | ⟨g', cap, cur, e, _, hg, _⟩
    · cases e
    · simp only [Value.slice.injEq, Option.some.injEq, Addr.mk.injEq, true_and, and_true] at e
      obtain ⟨rfl, _⟩ := e
      exact frozen_of hg o
  · rw [Nat.zero_add]
    by_cases hjP : j = P
    · subst hjP
      rw [World.cell?_setCell_same _ _ _ hcP]
      unfold turn
      simp [List.getD_eq_getElem?_getD, hj]
    · rw [World.cell?_setCell_other _ _ _ _ (by intro h; simp only [Addr.mk.injEq] at h; omega)]
      have := hc j hj
      rw [Nat.zero_add] at this
      rw [this]
      unfold turn
      rw [List.getD_eq_getElem?_getD, List.getD_eq_getElem?_getD, List.getElem?_set_ne (fun h => hjP h.symm)]
theorem wl_all (M : List (List (List Nat))) (h : ∀ m ∈ M, GdB m) : wl (logB M) = (M, logN M, 0) := by
  have := wl_log M [] h
  rw [List.append_nil] at this
  rw [this, wl_nil rfl]
  simp
theorem scn_whole {M : List (List (List Nat))} (h : ∀ m ∈ M, GdB m) {t : Nat} (ht : t ≤ (logB M).length) : scn (logB M) (t : Int) = (M, (logB M).length, 0) := by
  unfold scn
  rw [wl_all M h, if_neg (by omega), if_neg (by simp), logB_len]
theorem scn_turn {M : List (List (List Nat))} (h : ∀ m ∈ M, GdB m) {a p x t : Nat} (ha : a < M.length) (h1 : logN (M.take a) ≤ p) (h2 : p < logN (M.take (a + 1))) (hx : x < 256) (h0 : x ≠ 0) (ht : t ≤ (logB M).length) :
    scn (turn (logB M) p x) (t : Int) = if logN (M.take a) < t then ([], logN (M.take a), 201) else (M.take a, logN (M.take a), 0) := by
  unfold scn
  rw [wl_turn M h a p x ha h1 h2 hx h0, turn_len, if_neg (by omega)]
  by_cases hh : logN (M.take a) < t
  · rw [if_pos hh, if_pos ⟨by show ((logN (M.take a) : Nat) : Int) < _; omega, Nat.le_refl _⟩]
  · rw [if_neg hh, if_neg (fun h9 => hh (by have : ((logN (M.take a) : Nat) : Int) < (t : Int) := h9.1; omega))]
theorem RdL.takeL {w : World} {a : Option Addr} {M : List (List (List Nat))} (h : RdL w a M) (k : Nat) : RdL w a (M.take k) := fun h0 => by
  rw [List.length_take] at h0
  obtain ⟨b, off, e, hlt, hc⟩ := h (by omega)
  refine ⟨b, off, e, hlt, fun j hj => ?_⟩
  rw [List.length_take] at hj
  obtain ⟨x, c, h1, h2⟩ := hc j (by omega)
  simp only [List.getElem_take]
  exact ⟨x, c, h1, h2⟩
end Go.Proofs.YtcadlhpgapdgdaaGreatDoor
