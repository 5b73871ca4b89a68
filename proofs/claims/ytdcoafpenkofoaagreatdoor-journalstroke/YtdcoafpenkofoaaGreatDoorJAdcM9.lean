import Derived.Test.YtdcoafpenkofoaaGreatDoorJAddM9
import Derived.Test.YtdcoafpenkofoaaGreatDoorJLwM9
import Derived.Test.YtdcoafpenkofoaaGreatDoorJLivM9

/- Stage 20: rows of batches that came in, of numbers; a journal whose power does not fail. -/
namespace Go.Proofs.YtdcoafpenkofoaaGreatDoor
open Go.RowKit Go.Maps Go.MuLone
set_option linter.unusedVariables false
set_option linter.unusedSimpArgs false
/-- a batch as it lies: its records, its slice -/
abbrev Bq := List (List Nat) × Value
def CK : WK Bq := { enc := fun r => [if r.2.oneCell' then r.2 else .slice none 0 0], n := 1, bs := 24, t := 29, ts := 24 }
theorem ckOk : CK.Ok := ⟨fun x => rfl, fun x u hu => by
  simp only [CK, List.mem_cons, List.not_mem_nil, or_false] at hu
  subst hu
  split
  · assumption
  · rfl, Tryz.underlying24, Tryz.infoBss, by decide, by decide, by decide, by decide⟩
theorem ck_enc (L : List (List Nat)) (a : Option Addr) (n c : Nat) : CK.enc (L, .slice a n c) = [.slice a n c] := rfl
/-- batches that are read, each where it lies -/
def RdQ (w : World) (Z : List Bq) : Prop := ∀ z ∈ Z, ∃ a c, z.2 = .slice a z.1.length c ∧ RdB w a z.1
theorem RdQ.below {w w' : World} {Z : List Bq} (h : RdQ w Z) (hb : Below w.heap.size w w') : RdQ w' Z := fun z hz => by
  obtain ⟨a, c, e, hr⟩ := h z hz
  exact ⟨a, c, e, hr.below hb⟩
theorem RdQ.snoc {w : World} {Z : List Bq} {L : List (List Nat)} {a : Option Addr} {c : Nat} (h : RdQ w Z) (hr : RdB w a L) : RdQ w (Z ++ [(L, .slice a L.length c)]) := fun z hz => by
  rcases List.mem_append.1 hz with hz | hz
  · exact h z hz
  · rw [List.mem_singleton.1 hz]
    exact ⟨a, c, rfl, hr⟩
theorem RdQ.rdL {w : World} {base : Nat} {v : Value} {Z : List Bq} (hw : Wy CK w base v Z) (h : RdQ w Z) : ∃ a c, v = .slice a Z.length c ∧ Z.length ≤ maxLen ∧ RdL w a (Z.map (·.1)) := by
  obtain ⟨a, c, e, hl, hr⟩ := hw.row1 (·.2) (fun o ho => by
    obtain ⟨x, k, e, _⟩ := h o ho
    show [if o.2.oneCell' then o.2 else _] = _
    rw [e]
    rfl)
  refine ⟨a, c, e, hl, fun h0 => ?_⟩
  rw [List.length_map] at h0
  obtain ⟨b, off, e1, e2, e3⟩ := hr h0
  refine ⟨b, off, e1, e2, fun j hj => ?_⟩
  rw [List.length_map] at hj
  obtain ⟨x, k, e4, h6⟩ := h Z[j] (List.getElem_mem hj)
  have h5 := e3 j hj
  rw [e4] at h5
  simp only [List.getElem_map]
  exact ⟨x, k, h5, h6⟩
/-- a row of numbers -/
def IK : WK Int := { enc := fun n => [.int .i64 n], n := 1, bs := 8, t := 3, ts := 75 }
theorem Tryz.infoI : ∃ i z, Tryz.prog.info? 3 = some i ∧ i.zero = some z ∧ z.cells.size = 1 ∧ i.size = 1 ∧ i.bytes = 8 := by
  have h : (Tryz.prog.info? 3).map (fun i => (i.zero, i.size, i.bytes)) = some (some (.int .i64 0), 1, 8) := by kernel_rfl
  obtain ⟨i, h1, h2, h3, h4⟩ := info_parts h
  exact ⟨i, _, h1, h2, rfl, h3, h4⟩
theorem ikOk : IK.Ok := ⟨fun x => rfl, fun x u hu => by
  simp only [IK, List.mem_cons, List.not_mem_nil, or_false] at hu
  subst hu
  rfl, Tryz.underlying75, Tryz.infoI, by decide, by decide, by decide, by decide⟩
theorem Wy.int {w : World} {base : Nat} {v : Value} {E : List Int} (h : Wy IK w base v E) : ∃ a c, v = .slice a E.length c ∧ E.length ≤ maxLen ∧ (0 < E.length → ∃ b off, a = some ⟨b, off, none⟩ ∧ b < w.heap.size ∧ ∀ j (hj : j < E.length), w.cell? ⟨b, off + j, none⟩ = some (.int .i64 E[j])) := h.row1 (fun n => .int .i64 n) (fun x _ => rfl)
/-- the log alone, all of it safe -/
def Clm (F : List Fi) (l : List Nat) : Prop := (F = [] ∧ l = []) ∨ F = [(kG, l, l.length)]
theorem Clm.dat {F : List Fi} {l : List Nat} (h : Clm F l) : dat kG F = (l, l.length) := by
  rcases h with ⟨rfl, rfl⟩ | rfl
  · rfl
  · simp [Go.Proofs.YtdcoafpenkofoaaGreatDoor.dat]
theorem Clm.wo {F : List Fi} {l : List Nat} (h : Clm F l) : woF kG F = [] := by
  rcases h with ⟨rfl, rfl⟩ | rfl
  · rfl
  · simp [woF]
theorem Clm.len {F : List Fi} {l : List Nat} (h : Clm F l) : F.length ≤ 1 := by
  rcases h with ⟨rfl, rfl⟩ | rfl <;> simp
theorem kG_nm : nm kG = true := by first | rfl | decide | kernel_rfl
theorem add_calm {x : Dx} {F : List Fi} {l : List Nat} (L : List (List Nat)) (hd : x.down = false) (hl : x.left = -1) (hF : Clm F l) :
    (jAdd x F L = (190, x, F) ∧ x.room < x.used + (batN L : Int) ∨ 16777216 < batN L ∧ jAdd x F L = (190, x, F)) ∨ batN L ≤ 16777216 ∧ (x.used + (batN L : Int) ≤ x.room) ∧ jAdd x F L = (0, { x with used := x.used + (batN L : Int) }, [(kG, l ++ batB L, (l ++ batB L).length)]) := by
  unfold jAdd
  by_cases hb : 16777216 < batN L
  · rw [if_pos hb]; exact .inl (.inr ⟨hb, rfl⟩)
  · rw [if_neg hb]
    have hle : ((batB L).length : Int) = (batN L : Int) := by rw [batB_len]
    have hr : refE x.down [kG] = 0 := by unfold refE; rw [hd]; simp [kG_nm]
    unfold jWr
    by_cases hu : x.room - x.used < ((batB L).length : Int)
    · have e : dApp x F kG (batB L) = (190, x, F) := by unfold dApp; rw [if_neg (by rw [hr]; simp), if_pos hu]
      rw [e]
      exact .inl (.inl ⟨if_pos (by simp), by omega⟩)
    · have e : dApp x F kG (batB L) = (0, { x with used := x.used + ((batB L).length : Int) }, addF kG (batB L) F) := by
        unfold dApp
        rw [if_neg (by rw [hr]; simp), if_neg hu]
        have e1 : actE x = 0 := if_neg (by omega)
        have e2 : actF x (addF kG (batB L) F) = addF kG (batB L) F := if_neg (by omega)
        have e3 : actX { x with used := x.used + ((batB L).length : Int) } (addF kG (batB L) F) = { x with used := x.used + ((batB L).length : Int) } := if_pos hl
        rw [e1, e2, e3]
      rw [e]
      refine .inr ⟨by omega, by omega, ?_⟩
      rw [if_neg (by simp)]
      have ha : addF kG (batB L) F = [(kG, l ++ batB L, l.length)] := by unfold addF; rw [hF.dat, hF.wo]
      show dSync { x with used := x.used + ((batB L).length : Int) } (addF kG (batB L) F) kG = _
      rw [ha]
      unfold dSync
      have hf : findE x.down ([((kG, l ++ batB L, l.length) : Fi)].map (·.1)) kG [] = 0 := by unfold findE hasN; rw [hd]; simp [kG_nm]
      have e3 : ∀ G, actX { x with used := x.used + ((batB L).length : Int) } G = { x with used := x.used + ((batB L).length : Int) } := fun G => if_pos hl
      rw [if_neg (by rw [hf]; simp), if_neg (by show ¬ x.left = 0; omega), e3, hle]
      simp [Go.Proofs.YtdcoafpenkofoaaGreatDoor.dat, woF]
/-- a journal over a disk of its own whose power does not fail: the log's bytes -/
def JC (S : Nat → Prop) (w wi : World) (d j : Nat) (l : List Nat) : Prop := ∃ x F, JS S w wi d j x F (l.length : Int) false ∧ x.down = false ∧ x.left = -1 ∧ x.room = 16777216 ∧ Clm F l
theorem JC.below {S : Nat → Prop} {w wi w' : World} {d j : Nat} {l : List Nat} (h : JC S w wi d j l) (hb : Below wi.heap.size wi w') : JC S w w' d j l := by
  obtain ⟨x, F, h1, h2⟩ := h
  exact ⟨x, F, h1.below hb, h2⟩
theorem JC.bel {S : Nat → Prop} {w wi : World} {d j : Nat} {l : List Nat} (h : JC S w wi d j l) : Below w.heap.size w wi := by
  obtain ⟨x, F, h1, h2⟩ := h
  exact h1.aw.bel
theorem JC.at {S : Nat → Prop} {w wi : World} {d j : Nat} {l : List Nat} (h : JC S w wi d j l) : (∀ k, S k ∨ k = j → w.heap.size ≤ k ∧ k < wi.heap.size) := fun k hk => by
  obtain ⟨x, F, h1, h2⟩ := h
  rcases hk with hk | rfl
  · exact h1.aw.at_ k hk
  · exact ⟨h1.lo, h1.lt⟩
theorem Clm.usd {F : List Fi} {l : List Nat} (h : Clm F l) : usd F = l.length := by
  rcases h with ⟨rfl, rfl⟩ | rfl <;> simp [Go.Proofs.YtdcoafpenkofoaaGreatDoor.usd]
theorem JC.len {S : Nat → Prop} {w wi : World} {d j : Nat} {l : List Nat} (h : JC S w wi d j l) : l.length ≤ 16777216 := by
  obtain ⟨x, F, h1, h2, h3, h4, h5⟩ := h
  have := h1.aw.dd.ok.room
  rw [h5.usd, h4] at this
  omega
end Go.Proofs.YtdcoafpenkofoaaGreatDoor


/- Stage 20: Add in full, the power not failing. -/
namespace Go.Proofs.YtdcoafpenkofoaaGreatDoor
open Go.RowKit Go.Maps Go.MuLone
set_option linter.unusedVariables false
set_option linter.unusedSimpArgs false
set_option maxHeartbeats 4000000 in
/-- Add of a record that is none, or of no record -/
theorem Add_none (S : Nat → Prop) (w wi : World) (d j : Nat) (x : Dx) (F : List Fi) (sz : Int) (hT : Er w) (h : JS S w wi d j x F sz false) (hd : x.down = false) (a : Option Addr) (cap : Nat) (L : List (List Nat)) (hR : ∀ W', Kp S wi W' → RdB W' a L) (hb : L.any badR = true ∨ L = []) (hL : L.length ≤ 140737488355328) :
    Calls Tryz.prog 25 #[.pointer (some ⟨j, 0, none⟩), .slice a L.length cap] wi fun e w' => e = .returned (.int .i64 (if L.any badR then 200 else 0)) ∧ ∃ S', (∀ q, S' q → S q ∨ wi.heap.size ≤ q) ∧ JS S' w w' d j x F sz false ∧ Kp (fun k => S k ∨ k = j) wi w' := by
  obtain ⟨W1, hW1⟩ : ∃ W1, wi.alloc (.cells #[.slice a L.length cap] 29) = W1 := ⟨_, rfl⟩
  have hb1 : Below wi.heap.size wi W1 := by rw [← hW1]; exact bel1 (Below.refl _ _) (Nat.le_refl _) _
  have hgb : W1.heap[wi.heap.size]? = some (.cells #[.slice a L.length cap] 29 (0, 0)) := by rw [← hW1]; exact heap_new _ _
  have hJ1 := h.below hb1
  have hSl : ¬ S wi.heap.size := fun hs => by have := (h.aw.at_ _ hs).2; omega
  have hlt1 : wi.heap.size < W1.heap.size := (Array.getElem?_eq_some_iff.1 hgb).1
  have HRF := hide (refuses_up S w W1 d j x F sz false hJ1 hd (some ⟨wi.heap.size, 0, none⟩) 1 [L] (fun W' hk => RdL.one (cellOf ((hk.block hlt1 hSl).trans hgb) 0 _ rfl) (hR W' ((Kp.ofBelow hb1).trans hk))) (by simp) (by intro m hm; simp only [List.mem_singleton] at hm; rw [hm]; omega))
  have hrf : refN [L] = if L.any badR then 200 else 0 := by unfold refN badL; simp
  rw [hrf] at HRF
  have HB1 := hide hb1
  have HW1 := hide hW1
  clear h hgb hJ1 hb1 hW1 hrf hSl hR hlt1
  cases hq : L.any badR
  · rw [hq] at HRF
    have hl0 : L = [] := hb.resolve_left (by rw [hq]; simp)
    subst hl0
    go_enter Tryz.func25, Tryz.ntmps25
    go_wp2_with fail
    first | rw [HW1.out] | rw [show wi.alloc (.cells #[.slice a 0 cap] 29) = W1 from HW1.out]
    refine HRF.out.mono ?_
    rintro e w2 ⟨rfl, S2, hS2, hJ2, hK2⟩
    have HJ2 := hide (And.intro hS2 (And.intro hJ2 hK2))
    clear hS2 hJ2 hK2
    go_wp2
    go_ret
    exact ⟨rfl, S2, fun q hq => (HJ2.out.1 q hq).imp id (fun h => Nat.le_trans HB1.out.size h), HJ2.out.2.1, ((Kp.ofBelow HB1.out).trans HJ2.out.2.2).mono (fun k h => .inl h)⟩
  · rw [hq] at HRF
    clear hb hq
    go_enter Tryz.func25, Tryz.ntmps25
    go_wp2_with fail
    first | rw [HW1.out] | rw [show wi.alloc (.cells #[.slice a 0 cap] 29) = W1 from HW1.out]
    refine HRF.out.mono ?_
    rintro e w2 ⟨rfl, S2, hS2, hJ2, hK2⟩
    have HJ2 := hide (And.intro hS2 (And.intro hJ2 hK2))
    clear hS2 hJ2 hK2
    go_wp2
    go_ret
    exact ⟨rfl, S2, fun q hq => (HJ2.out.1 q hq).imp id (fun h => Nat.le_trans HB1.out.size h), HJ2.out.2.1, ((Kp.ofBelow HB1.out).trans HJ2.out.2.2).mono (fun k h => .inl h)⟩
/-- Add, the power not failing: what it answers, the log behind it -/
theorem Add_calmK (S : Nat → Prop) (w wi : World) (d j : Nat) (l : List Nat) (hT : Er w) (h : JC S w wi d j l) (a : Option Addr) (cap : Nat) (L : List (List Nat)) (hRR : ∀ W', Kp S wi W' → RdB W' a L) (hL : L.length ≤ 4294967296) (hN : batN L ≤ 4611686018427387904) :
    Calls Tryz.prog 25 #[.pointer (some ⟨j, 0, none⟩), .slice a L.length cap] wi fun e w' => ∃ n : Int, e = .returned (.int .i64 n) ∧ ∃ S', (∀ q, S' q → S q ∨ wi.heap.size ≤ q) ∧ Kp (fun k => S k ∨ k = j) wi w' ∧
      ((n = 0 ∧ L.any badR = false ∧ batN L ≤ 16777216 ∧ l.length + batN L ≤ 16777216 ∧ JC S' w w' d j (l ++ batB L)) ∨ ((n = 200 ∧ L.any badR = true ∨ n = 190 ∧ 16777216 < l.length + batN L) ∧ JC S' w w' d j l)) := by
  obtain ⟨x, F, hJ, hd, hl, hro, hF⟩ := h
  by_cases hb : L.any badR = true ∨ L = []
  · refine (Add_none S w wi d j x F _ hT hJ hd a cap L hRR hb (by omega)).mono ?_
    rintro e w' ⟨rfl, S', h1, h2, h3⟩
    refine ⟨_, rfl, S', h1, h3, ?_⟩
    cases hq : L.any badR
    · have hl0 : L = [] := hb.resolve_left (by rw [hq]; simp)
      subst hl0
      have e0 : batB ([] : List (List Nat)) = [] := rfl
      have e1 : batN ([] : List (List Nat)) = 0 := rfl
      refine .inl ⟨rfl, rfl, by omega, ?_, x, F, ?_, hd, hl, hro, ?_⟩
      · have := hJ.aw.dd.ok.room
        rw [hF.usd, hro] at this
        omega
      · rw [e0, List.append_nil]; exact h2
      · rw [e0, List.append_nil]; exact hF
    · exact .inr ⟨.inl ⟨rfl, rfl⟩, x, F, h2, hd, hl, hro, hF⟩
  · have hb1 : L.any badR = false := by
      cases hq : L.any badR
      · rfl
      · exact absurd (.inl hq) hb
    have hb2 : L ≠ [] := fun e => hb (.inr e)
    have hlen := JC.len ⟨x, F, hJ, hd, hl, hro, hF⟩
    have hus := hJ.aw.dd.ok.used
    rw [hF.usd] at hus
    rcases add_calm L hd hl hF with (⟨e, hq⟩ | ⟨hq, e⟩) | ⟨hq, hq2, e⟩
    · refine (Add_good S w wi d j x F _ hT hJ hd a cap L hRR hb1 hb2 (by rw [e]; simp) hL hN (by omega) (by have := hF.len; unfold maxLen; omega)).mono ?_
      rintro e' w' ⟨rfl, S', h1, h2, h3⟩
      rw [e] at h2 ⊢
      have hsz : jSz (l.length : Int) x F L = (l.length : Int) := by unfold jSz; rw [e]; exact if_neg (by simp)
      rw [hsz] at h2
      exact ⟨_, rfl, S', h1, h3, .inr ⟨.inr ⟨rfl, by omega⟩, x, F, h2, hd, hl, hro, hF⟩⟩
    · refine (Add_good S w wi d j x F _ hT hJ hd a cap L hRR hb1 hb2 (by rw [e]; simp) hL hN (by omega) (by have := hF.len; unfold maxLen; omega)).mono ?_
      rintro e' w' ⟨rfl, S', h1, h2, h3⟩
      rw [e] at h2 ⊢
      have hsz : jSz (l.length : Int) x F L = (l.length : Int) := by unfold jSz; rw [e]; exact if_neg (by simp)
      rw [hsz] at h2
      exact ⟨_, rfl, S', h1, h3, .inr ⟨.inr ⟨rfl, by omega⟩, x, F, h2, hd, hl, hro, hF⟩⟩
    · refine (Add_good S w wi d j x F _ hT hJ hd a cap L hRR hb1 hb2 (by rw [e]; simp) hL hN (by omega) (by have := hF.len; unfold maxLen; omega)).mono ?_
      rintro e' w' ⟨rfl, S', h1, h2, h3⟩
      rw [e] at h2 ⊢
      have hsz : jSz (l.length : Int) x F L = ((l ++ batB L).length : Int) := by
        unfold jSz
        rw [e]
        rw [if_pos rfl, List.length_append, batB_len]
        omega
      rw [hsz] at h2
      exact ⟨_, rfl, S', h1, h3, .inl ⟨rfl, hb1, hq, by omega, _, _, h2, hd, hl, hro, .inr rfl⟩⟩
/-- Add, the power not failing: what it answers, the log behind it -/
theorem Add_calm (S : Nat → Prop) (w wi : World) (d j : Nat) (l : List Nat) (hT : Er w) (h : JC S w wi d j l) (a : Option Addr) (cap : Nat) (L : List (List Nat)) (hR : RdB w a L) (hL : L.length ≤ 4294967296) (hN : batN L ≤ 4611686018427387904) :
    Calls Tryz.prog 25 #[.pointer (some ⟨j, 0, none⟩), .slice a L.length cap] wi fun e w' => ∃ n : Int, e = .returned (.int .i64 n) ∧ ∃ S', (∀ q, S' q → S q ∨ wi.heap.size ≤ q) ∧ Kp (fun k => S k ∨ k = j) wi w' ∧
      ((n = 0 ∧ L.any badR = false ∧ batN L ≤ 16777216 ∧ l.length + batN L ≤ 16777216 ∧ JC S' w w' d j (l ++ batB L)) ∨ ((n = 200 ∧ L.any badR = true ∨ n = 190 ∧ 16777216 < l.length + batN L) ∧ JC S' w w' d j l)) := by
  obtain ⟨x, F, hJ, hd, hl, hro, hF⟩ := h
  exact Add_calmK S w wi d j l hT ⟨x, F, hJ, hd, hl, hro, hF⟩ a cap L (fun W' hk => hR.below (hJ.aw.bel.trans (hk.toBelow hJ.aw.bel.size (fun k hk' hs => by have := (hJ.aw.at_ k hs).1; omega)))) hL hN
end Go.Proofs.YtdcoafpenkofoaaGreatDoor
