import Derived.Test.YtcadlhpgapdgdaaGreatDoorJAddM9
import Derived.Test.YtcadlhpgapdgdaaGreatDoorJCtM9
import Derived.Test.YtcadlhpgapdgdaaGreatDoorJLivM9

/- Stage 20: rows of batches that came in, of numbers; a journal whose power does not fail. -/
namespace Go.Proofs.YtcadlhpgapdgdaaGreatDoor
open Go.RowKit Go.Maps Go.MuLone
set_option linter.unusedVariables false
set_option linter.unusedSimpArgs false
/-- a batch as it lies: its records, its slice -/
abbrev Bq := List (List Nat) × Value
def CK : WK Bq := { enc := fun r => [if r.2.oneCell' then r.2 else .slice none 0 0], n := 1, bs := 24, t := 29, ts := 24 }
theorem ckOk : CK.Ok := ⟨fun x => rfl, fun x u hu => by
  simp only [CK, List.mem_cons, List.not_mem_nil, or_false] at hu
  subst hu
  split
  · assumption
  · rfl, Tryz.underlying24, Tryz.infoBss, by decide, by decide, by decide, by decide⟩
theorem ck_enc (L : List (List Nat)) (a : Option Addr) (n c : Nat) : CK.enc (L, .slice a n c) = [.slice a n c] := rfl
/-- batches that are read, each where it lies -/
def RdQ (w : World) (Z : List Bq) : Prop := ∀ z ∈ Z, ∃ a c, z.2 = .slice a z.1.length c ∧ RdB w a z.1
theorem RdQ.below {w w' : World} {Z : List Bq} (h : RdQ w Z) (hb : Below w.heap.size w w') : RdQ w' Z := fun z hz => by
  obtain ⟨a, c, e, hr⟩ := h z hz
  exact ⟨a, c, e, hr.below hb⟩
theorem RdQ.snoc {w : World} {Z : List Bq} {L : List (List Nat)} {a : Option Addr} {c : Nat} (h : RdQ w Z) (hr : RdB w a L) : RdQ w (Z ++ [(L, .slice a L.length c)]) := fun z hz => by
  rcases List.mem_append.1 hz with hz | hz
  · exact h z hz
  · rw [List.mem_singleton.1 hz]
    exact ⟨a, c, rfl, hr⟩
theorem RdQ.rdL {w : World} {base : Nat} {v : Value} {Z : List Bq} (hw : Wy CK w base v Z) (h : RdQ w Z) : ∃ a c, v = .slice a Z.length c ∧ Z.length ≤ maxLen ∧ RdL w a (Z.map (·.1)) := by
  obtain ⟨a, c, e, hl, hr⟩ := hw.row1 (·.2) (fun o ho => by
    obtain ⟨x, k, e, _⟩ := h o ho
    show [if o.2.oneCell' then o.2 else _] = _
    rw [e]
    rfl)
  refine ⟨a, c, e, hl, fun h0 => ?_⟩
  rw [List.length_map] at h0
  obtain ⟨b, off, e1, e2, e3⟩ := hr h0
  refine ⟨b, off, e1, e2, fun j hj => ?_⟩
  rw [List.length_map] at hj
  obtain ⟨x, k, e4, h6⟩ := h Z[j] (List.getElem_mem hj)
  have h5 := e3 j hj
  rw [e4] at h5
  simp only [List.getElem_map]
  exact ⟨x, k, h5, h6⟩
/-- a row of numbers -/
def IK : WK Int := { enc := fun n => [.int .i64 n], n := 1, bs := 8, t := 3, ts := 75 }
theorem Tryz.infoI : ∃ i z, Tryz.prog.info? 3 = some i ∧ i.zero = some z ∧ z.cells.size = 1 ∧ i.size = 1 ∧ i.bytes = 8 := by
  have h : (Tryz.prog.info? 3).map (fun i => (i.zero, i.size, i.bytes)) = some (some (.int .i64 0), 1, 8) := by kernel_rfl
  obtain ⟨i, h1, h2, h3, h4⟩ := info_parts h
  exact ⟨i, _, h1, h2, rfl, h3, h4⟩
theorem ikOk : IK.Ok := ⟨fun x => rfl, fun x u hu => by
  simp only [IK, List.mem_cons, List.not_mem_nil, or_false] at hu
  subst hu
  rfl, Tryz.underlying75, Tryz.infoI, by decide, by decide, by decide, by decide⟩
theorem Wy.int {w : World} {base : Nat} {v : Value} {E : List Int} (h : Wy IK w base v E) : ∃ a c, v = .slice a E.length c ∧ E.length ≤ maxLen ∧ (0 < E.length → ∃ b off, a = some ⟨b, off, none⟩ ∧ b < w.heap.size ∧ ∀ j (hj : j < E.length), w.cell? ⟨b, off + j, none⟩ = some (.int .i64 E[j])) := h.row1 (fun n => .int .i64 n) (fun x _ => rfl)
/-- the log alone, all of it safe -/
def Clm (F : List Fi) (l : List Nat) : Prop := (F = [] ∧ l = []) ∨ F = [(kG, l, l.length)]
theorem Clm.dat {F : List Fi} {l : List Nat} (h : Clm F l) : dat kG F = (l, l.length) := by
  rcases h with ⟨rfl, rfl⟩ | rfl
  · rfl
  · simp [Go.Proofs.YtcadlhpgapdgdaaGreatDoor.dat]
theorem Clm.wo {F : List Fi} {l : List Nat} (h : Clm F l) : woF kG F = [] := by
  rcases h with ⟨rfl, rfl⟩ | rfl
  · rfl
  · simp [woF]
theorem Clm.len {F : List Fi} {l : List Nat} (h : Clm F l) : F.length ≤ 1 := by
  rcases h with ⟨rfl, rfl⟩ | rfl <;> simp
theorem kG_nm : nm kG = true := by first | rfl | decide | kernel_rfl
theorem add_calm {x : Dx} {F : List Fi} {l : List Nat} (L : List (List Nat)) (hd : x.down = false) (hl : x.left = -1) (hF : Clm F l) :
    (jAdd x F L = (190, x, F) ∧ x.room < x.used + (batN L : Int) ∨ 16777216 < batN L ∧ jAdd x F L = (190, x, F)) ∨ batN L ≤ 16777216 ∧ (x.used + (batN L : Int) ≤ x.room) ∧ jAdd x F L = (0, { x with used := x.used + (batN L : Int) }, [(kG, l ++ batB L, (l ++ batB L).length)]) := by
  unfold jAdd
  by_cases hb : 16777216 < batN L
  · rw [if_pos hb]; exact .inl (.inr ⟨hb, rfl⟩)
  · rw [if_neg hb]
    have hle : ((batB L).length : Int) = (batN L : Int) := by rw [batB_len]
    have hr : refE x.down [kG] = 0 := by unfold refE; rw [hd]; simp [kG_nm]
    unfold jWr
    by_cases hu : x.room - x.used < ((batB L).length : Int)
    · have e : dApp x F kG (batB L) = (190, x, F) := by unfold dApp; rw [if_neg (by rw [hr]; simp), if_pos hu]
      rw [e]
      exact .inl (.inl ⟨if_pos (by simp), by omega⟩)
    · have e : dApp x F kG (batB L) = (0, { x with used := x.used + ((batB L).length : Int) }, addF kG (batB L) F) := by
        unfold dApp
        rw [if_neg (by rw [hr]; simp), if_neg hu]
        have e1 : actE x = 0 := if_neg (by omega)
        have e2 : actF x (addF kG (batB L) F) = addF kG (batB L) F := if_neg (by omega)
        have e3 : actX { x with used := x.used + ((batB L).length : Int) } (addF kG (batB L) F) = { x with used := x.used + ((batB L).length : Int) } := if_pos hl
        rw [e1, e2, e3]
      rw [e]
      refine .inr ⟨by omega, by omega, ?_⟩
      rw [if_neg (by simp)]
      have ha : addF kG (batB L) F = [(kG, l ++ batB L, l.length)] := by unfold addF; rw [hF.dat, hF.wo]
      show dSync { x with used := x.used + ((batB L).length : Int) } (addF kG (batB L) F) kG = _
      rw [ha]
      unfold dSync
      have hf : findE x.down ([((kG, l ++ batB L, l.length) : Fi)].map (·.1)) kG [] = 0 := by unfold findE hasN; rw [hd]; simp [kG_nm]
      have e3 : ∀ G, actX { x with used := x.used + ((batB L).length : Int) } G = { x with used := x.used + ((batB L).length : Int) } := fun G => if_pos hl
      rw [if_neg (by rw [hf]; simp), if_neg (by show ¬ x.left = 0; omega), e3, hle]
      simp [Go.Proofs.YtcadlhpgapdgdaaGreatDoor.dat, woF]
/-- a journal over a disk of its own whose power does not fail: the log's bytes -/
def JC (S : Nat → Prop) (w wi : World) (d j : Nat) (l : List Nat) : Prop := ∃ x F, JS S w wi d j x F (l.length : Int) false ∧ x.down = false ∧ x.left = -1 ∧ x.room = 16777216 ∧ Clm F l
theorem JC.below {S : Nat → Prop} {w wi w' : World} {d j : Nat} {l : List Nat} (h : JC S w wi d j l) (hb : Below wi.heap.size wi w') : JC S w w' d j l := by
  obtain ⟨x, F, h1, h2⟩ := h
  exact ⟨x, F, h1.below hb, h2⟩
theorem JC.bel {S : Nat → Prop} {w wi : World} {d j : Nat} {l : List Nat} (h : JC S w wi d j l) : Below w.heap.size w wi := by
  obtain ⟨x, F, h1, h2⟩ := h
  exact h1.aw.bel
theorem JC.at {S : Nat → Prop} {w wi : World} {d j : Nat} {l : List Nat} (h : JC S w wi d j l) : (∀ k, S k ∨ k = j → w.heap.size ≤ k ∧ k < wi.heap.size) := fun k hk => by
  obtain ⟨x, F, h1, h2⟩ := h
  rcases hk with hk | rfl
  · exact h1.aw.at_ k hk
  · exact ⟨h1.lo, h1.lt⟩
theorem Clm.usd {F : List Fi} {l : List Nat} (h : Clm F l) : usd F = l.length := by
  rcases h with ⟨rfl, rfl⟩ | rfl <;> simp [Go.Proofs.YtcadlhpgapdgdaaGreatDoor.usd]
theorem JC.len {S : Nat → Prop} {w wi : World} {d j : Nat} {l : List Nat} (h : JC S w wi d j l) : l.length ≤ 16777216 := by
  obtain ⟨x, F, h1, h2, h3, h4, h5⟩ := h
  have := h1.aw.dd.ok.room
  rw [h5.usd, h4] at this
  omega
end Go.Proofs.YtcadlhpgapdgdaaGreatDoor


/- Bytes that came out, kept by their owner: rows of marks. -/
namespace Go.Proofs.YtcadlhpgapdgdaaGreatDoor
open Go.RowKit Go.Maps
set_option linter.unusedVariables false
set_option linter.unusedSimpArgs false
/-- a row of bytes -/
def UK : WK Nat := { enc := fun c => [bV c], n := 1, bs := 1, t := 5, ts := 23 }
theorem Tryz.infoU : ∃ i z, Tryz.prog.info? 5 = some i ∧ i.zero = some z ∧ z.cells.size = 1 ∧ i.size = 1 ∧ i.bytes = 1 := by
  obtain ⟨i, h1, h2, h3, h4⟩ := info_parts Tryz.info5
  exact ⟨i, _, h1, h2, rfl, h3, h4⟩
theorem ukOk : UK.Ok := ⟨fun x => rfl, fun x u hu => by
  simp only [UK, List.mem_cons, List.not_mem_nil, or_false] at hu
  subst hu
  rfl, Tryz.underlying23, Tryz.infoU, by decide, by decide, by decide, by decide⟩
def mkv (a k : Nat) : Nat := (a + k / 251) % 256
def mkn (a n : Nat) : List Nat := (List.range n).map (mkv a)
theorem mkv_lt (a k : Nat) : mkv a k < 256 := Nat.mod_lt _ (by omega)
theorem mkn_len (a n : Nat) : (mkn a n).length = n := by simp [mkn]
theorem mkn_at (a n j : Nat) (h : j < n) : (mkn a n)[j]? = some (mkv a j) := by simp [mkn, h]
theorem mkn_snoc (a n : Nat) : mkn a n ++ [mkv a n] = mkn a (n + 1) := by unfold mkn; rw [List.range_succ, List.map_append]; rfl
theorem uk_flat (l : List Nat) : l.flatMap UK.enc = l.map bV := flat_one _ bV l (fun x _ => rfl)
/-- a slice of n bytes that are the marks of a -/
def BR (w : World) (v : Value) (n a : Nat) : Prop := ∃ x c, v = .slice x n c ∧ (0 < n → ∃ g off cur, x = some ⟨g, off, none⟩ ∧ w.heap[g]? = some (.cells cur 5 (0, 0)) ∧ ∀ j, j < n → cur[off + j]? = some (bV (mkv a j)))
/-- what is read there goes on being read while the row lv, L bytes of the mark a so far, grows -/
def Safe (lv : Value) (L a : Nat) (v : Value) (n b : Nat) : Prop := 0 < n → ∀ g, v.ownBlock = some g → lv.ownBlock = some g → ∃ off c c', lv = .slice (some ⟨g, off, none⟩) L c ∧ v = .slice (some ⟨g, off, none⟩) n c' ∧ n ≤ L ∧ b = a
section
variable {w w' : World} {v lv lv' : Value} {n a b L B : Nat}
theorem BR.keep (h : BR w v n a) (hk : ∀ (g : Nat) (cs : Array Value), w.heap[g]? = some (Obj.cells cs 5 (0, 0)) → w'.heap[g]? = w.heap[g]?) : BR w' v n a := by
  obtain ⟨x, c, e, h1⟩ := h
  refine ⟨x, c, e, fun h0 => ?_⟩
  obtain ⟨g, off, cur, e2, h2, h3⟩ := h1 h0
  exact ⟨g, off, cur, e2, (hk g cur h2).trans h2, h3⟩
theorem BR.blk (h : BR w v n a) (h0 : 0 < n) : ∃ g cur, v.ownBlock = some g ∧ w.heap[g]? = some (.cells cur 5 (0, 0)) := by
  obtain ⟨x, c, rfl, h1⟩ := h
  obtain ⟨g, off, cur, rfl, h2, h3⟩ := h1 h0
  exact ⟨g, cur, rfl, h2⟩
theorem BR.at (h : BR w v n a) (hk : ∀ g, v.ownBlock = some g → w'.heap[g]? = w.heap[g]?) : BR w' v n a := by
  obtain ⟨x, c, rfl, h1⟩ := h
  refine ⟨x, c, rfl, fun h0 => ?_⟩
  obtain ⟨g, off, cur, rfl, h2, h3⟩ := h1 h0
  exact ⟨g, off, cur, rfl, (hk g rfl).trans h2, h3⟩
theorem BR.rd (h : BR w v n a) : ∃ x c, v = .slice x n c ∧ Rd w x n (mkn a n) := by
  obtain ⟨x, c, rfl, h1⟩ := h
  refine ⟨x, c, rfl, mkn_len _ _, fun c hc => ?_, fun h0 => ?_⟩
  · obtain ⟨k, _, rfl⟩ := List.mem_map.1 hc
    exact mkv_lt _ _
  · obtain ⟨g, off, cur, rfl, h2, h3⟩ := h1 h0
    refine ⟨g, off, rfl, (Array.getElem?_eq_some_iff.1 h2).1, fun j hj => ?_⟩
    rw [List.getD_eq_getElem?_getD, mkn_at _ _ _ hj]
    exact cellOf h2 _ _ (h3 j hj)
theorem cells_of_range {g off : Nat} {cur : Array Value} {t : TypeId} {xs : List Value} (hg : w.heap[g]? = some (.cells cur t (0, 0))) (h : w.rangeAt g off xs) {j : Nat} {u : Value} (hj : xs[j]? = some u) : cur[off + j]? = some u := by
  have := h j u hj
  simp only [World.cell?, hg] at this
  simpa using this
theorem Wy.br (h : Wy UK w B v (mkn a n)) : BR w v n a := by
  rcases h with ⟨rfl, e⟩ | ⟨g, off, cap, cur, rfl, h1, h2, h3, h4, h5, h6⟩
  · have : n = 0 := by rw [← mkn_len a n, e]; rfl
    subst this
    exact ⟨none, 0, rfl, fun h => by omega⟩
  · rw [mkn_len]
    refine ⟨_, cap, rfl, fun _ => ⟨g, off, cur, rfl, h4, fun j hj => ?_⟩⟩
    rw [uk_flat] at h6
    exact cells_of_range h4 h6 (by rw [List.getElem?_map, mkn_at _ _ _ hj]; rfl)
theorem Wy.pre {g off c c' : Nat} (h : Wy UK w B (.slice (some ⟨g, off, none⟩) L c) (mkn a L)) (hn : n ≤ L) : BR w (.slice (some ⟨g, off, none⟩) n c') n a := by
  rcases h with ⟨e, _⟩ | ⟨g', off', cap, cur, e, h1, h2, h3, h4, h5, h6⟩
  · cases e
  · simp only [Value.slice.injEq, Option.some.injEq, Addr.mk.injEq, and_true] at e
    obtain ⟨⟨rfl, rfl⟩, _⟩ := e
    refine ⟨_, c', rfl, fun _ => ⟨g, off, cur, rfl, h4, fun j hj => ?_⟩⟩
    rw [uk_flat] at h6
    exact cells_of_range h4 h6 (by rw [List.getElem?_map, mkn_at _ _ _ (by omega)]; rfl)
theorem Wy.lenU {l : List Nat} (h : Wy UK w B v l) : ∃ x c, v = .slice x l.length c := h.shape
/-- one more mark is put behind -/
theorem Safe.step (hw' : Wy UK w' B lv' (mkn a (L + 1))) (hg : w.grownBy w' lv.ownBlock) (hs : (∃ g off cap, lv = .slice (some ⟨g, off, none⟩) L cap ∧ lv' = .slice (some ⟨g, off, none⟩) (L + 1) cap) ∨ ((∀ k, lv'.ownBlock = some k → w.heap.size ≤ k) ∧ w.grownBy w' none))
    (hr : BR w v n b) (hsf : Safe lv L a v n b) : BR w' v n b ∧ Safe lv' (L + 1) a v n b := by
  by_cases h0 : 0 < n
  · obtain ⟨gv, cv, ev, hv⟩ := hr.blk h0
    have hlt := (Array.getElem?_eq_some_iff.1 hv).1
    rcases hs with ⟨g, off, cap, rfl, rfl⟩ | ⟨h1, h2⟩
    · by_cases he : gv = g
      · subst he
        obtain ⟨off', c, c', e1, e2, e3, e4⟩ := hsf h0 gv ev rfl
        simp only [Value.slice.injEq, Option.some.injEq, Addr.mk.injEq, and_true, true_and] at e1
        obtain ⟨rfl, rfl⟩ := e1
        subst e2
        subst e4
        exact ⟨hw'.pre (by omega), fun _ g' e5 e6 => by cases e5; exact ⟨off, cap, c', rfl, rfl, by omega, rfl⟩⟩
      · refine ⟨hr.at fun g' e => ?_, fun _ g' e5 e6 => ?_⟩
        · rw [ev] at e
          cases e
          exact hg.block gv hlt (fun e => he (by cases e; rfl))
        · rw [ev] at e5
          cases e5
          cases e6
          exact absurd rfl he
    · refine ⟨hr.at fun g' e => ?_, fun _ g' e5 e6 => ?_⟩
      · rw [ev] at e
        cases e
        exact h2.block gv hlt (by simp)
      · rw [ev] at e5
        cases e5
        have := h1 _ e6
        omega
  · obtain ⟨x, c, rfl, _⟩ := hr
    exact ⟨⟨x, c, rfl, fun h => absurd h h0⟩, fun h => absurd h h0⟩
theorem Safe.self (h : Wy UK w B v (mkn a n)) : Safe v n a v n a := fun h0 g e1 e2 => by
  rcases h with ⟨rfl, e⟩ | ⟨g', off, cap, cur, rfl, _⟩
  · cases e1
  · rw [mkn_len] at e1 ⊢
    cases e1
    exact ⟨off, cap, cap, rfl, rfl, Nat.le_refl _, rfl⟩
theorem Safe.apart (h : ∀ g, v.ownBlock = some g → lv.ownBlock ≠ some g) : Safe lv L a v n b := fun _ g e1 e2 => absurd e2 (h g e1)
/-- a byte is written -/
theorem Wy.setU {l : List Nat} {g off c k x : Nat} (h : Wy UK w B (.slice (some ⟨g, off, none⟩) l.length c) l) (hk : k < l.length) : Wy UK (w.setCell ⟨g, off + k, none⟩ (bV x)) B (.slice (some ⟨g, off, none⟩) l.length c) (l.set k x) := by
  rcases h with ⟨e, _⟩ | ⟨g', off', cap, cur, e, h1, h2, h3, h4, h5, h6⟩
  · cases e
  · simp only [Value.slice.injEq, Option.some.injEq, Addr.mk.injEq, and_true, true_and] at e
    obtain ⟨⟨rfl, rfl⟩, rfl⟩ := e
    refine .inr ⟨g, off, c, cur.setIfInBounds (off + k) (bV x), by rw [List.length_set], h1, by rw [List.length_set]; exact h2, h3, blk_set h4 _ _, by simpa using h5, fun j u hu => ?_⟩
    rw [uk_flat] at h6 hu
    have hn : UK.n = 1 := rfl
    rw [hn] at h5
    refine cellOf (blk_set h4 _ _) _ _ ?_
    rw [List.getElem?_map, List.getElem?_set] at hu
    by_cases hjk : k = j
    · subst hjk
      rw [if_pos rfl, if_pos hk] at hu
      simp only [Option.map_some, Option.some.injEq] at hu
      subst hu
      rw [Array.getElem?_setIfInBounds_self_of_lt (by omega)]
    · rw [if_neg hjk] at hu
      rw [Array.getElem?_setIfInBounds_ne (by omega)]
      exact cells_of_range h4 h6 (by rw [List.getElem?_map]; exact hu)
end
end Go.Proofs.YtcadlhpgapdgdaaGreatDoor


/- The book: what stands while its lists are grown. -/
namespace Go.Proofs.YtcadlhpgapdgdaaGreatDoor
open Go.RowKit Go.Maps
set_option linter.unusedVariables false
set_option linter.unusedSimpArgs false
abbrev En2 := Value × Nat
def InV (N : Nat) (v : Nat → Value) (k : Nat) : Prop := ∃ i, i < N ∧ (v i).ownBlock = some k
/-- the lists from the a-th on are still to be grown -/
def BTf (w : World) (N : Nat) (v : Nat → Value) (m : Nat → Nat) (E : List En2) (a : Nat) : Prop := ∀ i, a ≤ i → i < N → Wy UK w 0 (v i) (mkn i (m i)) ∧ (∀ k, k < N → Safe (v i) (m i) i (v k) (m k) k) ∧ ∀ q (h : q < E.length), Safe (v i) (m i) i E[q].1 E[q].2 (q / 5)
structure BT (w : World) (N : Nat) (v : Nat → Value) (m : Nat → Nat) (E : List En2) (a : Nat) : Prop where
  o : ∀ i, i < N → BR w (v i) (m i) i
  e : ∀ q (h : q < E.length), BR w E[q].1 E[q].2 (q / 5)
  f : BTf w N v m E a
structure BI (B0 : Nat) (w : World) (N : Nat) (v : Nat → Value) (m : Nat → Nat) (E : List En2) (lv : Value) (L a : Nat) : Prop where
  l : Wy UK w 0 lv (mkn a L)
  o : ∀ i, i < N → BR w (v i) (m i) i ∧ Safe lv L a (v i) (m i) i
  e : ∀ q (h : q < E.length), BR w E[q].1 E[q].2 (q / 5) ∧ Safe lv L a E[q].1 E[q].2 (q / 5)
  f : BTf w N v m E (a + 1)
  d : ∀ i, a + 1 ≤ i → i < N → ∀ g, (v i).ownBlock = some g → lv.ownBlock ≠ some g
  own : ∀ k, lv.ownBlock = some k → InV N v k ∨ B0 ≤ k
section
variable {B0 N L a : Nat} {w w' : World} {v : Nat → Value} {m : Nat → Nat} {E : List En2} {lv lv' : Value}
def Dst (N : Nat) (v : Nat → Value) : Prop := ∀ i k, i < N → k < N → i ≠ k → ∀ g, (v i).ownBlock = some g → (v k).ownBlock ≠ some g
theorem BT.begin (hd : Dst N v) (h : ∀ i, i < N → Wy UK w 0 (v i) (mkn i (m i))) : BT w N v m [] 0 :=
  ⟨fun i hi => (h i hi).br, fun q hq => absurd hq (by simp), fun i _ hi => ⟨h i hi, fun k hk => by
    by_cases e : k = i
    · subst e; exact Safe.self (h k hk)
    · exact Safe.apart (fun g e1 e2 => hd k i hk hi e g e1 e2), fun q hq => absurd hq (by simp)⟩⟩
theorem BT.enter (hd : Dst N v) (ha : a < N) (h : BT w N v m E a) : BI B0 w N v m E (v a) (m a) a :=
  ⟨(h.f a (Nat.le_refl _) ha).1, fun i hi => ⟨h.o i hi, (h.f a (Nat.le_refl _) ha).2.1 i hi⟩, fun q hq => ⟨h.e q hq, (h.f a (Nat.le_refl _) ha).2.2 q hq⟩, fun i h1 h2 => h.f i (by omega) h2,
    fun i h1 h2 g e1 => hd i a h2 ha (by omega) g e1, fun k e => .inl ⟨a, ha, e⟩⟩
theorem BI.leave (h : BI B0 w N v m E lv L a) : BT w N v m E (a + 1) := ⟨fun i hi => (h.o i hi).1, fun q hq => (h.e q hq).1, h.f⟩
theorem Wy.keepU {l : List Nat} {v : Value} {B : Nat} (h : Wy UK w B v l) (hk : ∀ (g : Nat) (cs : Array Value), w.heap[g]? = some (Obj.cells cs 5 (0, 0)) → w'.heap[g]? = w.heap[g]?) : Wy UK w' B v l :=
  h.at fun k e => by
    obtain ⟨cur, hc⟩ := h.typ e
    exact hk k cur hc
theorem BT.keep (h : BT w N v m E a) (hk : ∀ (g : Nat) (cs : Array Value), w.heap[g]? = some (Obj.cells cs 5 (0, 0)) → w'.heap[g]? = w.heap[g]?) : BT w' N v m E a :=
  ⟨fun i hi => (h.o i hi).keep hk, fun q hq => (h.e q hq).keep hk, fun i h1 h2 => ⟨(h.f i h1 h2).1.keepU hk, (h.f i h1 h2).2⟩⟩
theorem BI.keep (h : BI B0 w N v m E lv L a) (hk : ∀ (g : Nat) (cs : Array Value), w.heap[g]? = some (Obj.cells cs 5 (0, 0)) → w'.heap[g]? = w.heap[g]?) : BI B0 w' N v m E lv L a :=
  ⟨h.l.keepU hk, fun i hi => ⟨(h.o i hi).1.keep hk, (h.o i hi).2⟩, fun q hq => ⟨(h.e q hq).1.keep hk, (h.e q hq).2⟩, fun i h1 h2 => ⟨(h.f i h1 h2).1.keepU hk, (h.f i h1 h2).2⟩, h.d, h.own⟩
theorem BI.below (h : BI B0 w N v m E lv L a) (hb : Below w.heap.size w w') : BI B0 w' N v m E lv L a := h.keep fun g cs hg => hb.block g (Array.getElem?_eq_some_iff.1 hg).1
theorem BT.below (h : BT w N v m E a) (hb : Below w.heap.size w w') : BT w' N v m E a := h.keep fun g cs hg => hb.block g (Array.getElem?_eq_some_iff.1 hg).1
theorem BI.step (h : BI B0 w N v m E lv L a) (hB : B0 ≤ w.heap.size) (hw' : Wy UK w' 0 lv' (mkn a (L + 1))) (hg : w.grownBy w' lv.ownBlock) (hs : (∃ g off cap, lv = .slice (some ⟨g, off, none⟩) L cap ∧ lv' = .slice (some ⟨g, off, none⟩) (L + 1) cap) ∨ ((∀ k, lv'.ownBlock = some k → w.heap.size ≤ k) ∧ w.grownBy w' none)) : BI B0 w' N v m E lv' (L + 1) a := by
  refine ⟨hw', fun i hi => Safe.step hw' hg hs (h.o i hi).1 (h.o i hi).2, fun q hq => Safe.step hw' hg hs (h.e q hq).1 (h.e q hq).2, fun i h1 h2 => ⟨(h.f i h1 h2).1.at fun k e => ?_, (h.f i h1 h2).2⟩, fun i h1 h2 g e1 e2 => ?_, fun k e => ?_⟩
  · exact hg.block k ((h.f i h1 h2).1.lt e).2 (fun e' => h.d i h1 h2 k e e'.symm)
  · rcases hs with ⟨g', off, cap, rfl, rfl⟩ | ⟨h3, _⟩
    · exact h.d i h1 h2 g e1 e2
    · have := h3 g e2
      have := ((h.f i h1 h2).1.lt e1).2
      omega
  · rcases hs with ⟨g', off, cap, rfl, rfl⟩ | ⟨h3, _⟩
    · exact h.own k e
    · exact .inr (Nat.le_trans hB (h3 k e))
theorem snoc_get {α : Type} {E : List α} {x : α} {P : Nat → α → Prop} (h1 : ∀ q (h : q < E.length), P q E[q]) (h2 : P E.length x) : ∀ q (h : q < (E ++ [x]).length), P q (E ++ [x])[q] := fun q hq => by
  by_cases h : q < E.length
  · rw [List.getElem_append_left h]; exact h1 q h
  · have e : q = E.length := by simp at hq; omega
    subst e
    simpa using h2
theorem BI.push (h : BI B0 w N v m E lv L a) (hq : E.length / 5 = a) : BI B0 w N v m (E ++ [(lv, L)]) lv L a :=
  ⟨h.l, h.o, snoc_get (P := fun (q : Nat) (x : En2) => BR w x.1 x.2 (q / 5) ∧ Safe lv L a x.1 x.2 (q / 5)) h.e (by rw [hq]; exact ⟨h.l.br, Safe.self h.l⟩),
    fun i h1 h2 => ⟨(h.f i h1 h2).1, (h.f i h1 h2).2.1, snoc_get (P := fun (q : Nat) (x : En2) => Safe (v i) (m i) i x.1 x.2 (q / 5)) (h.f i h1 h2).2.2 (Safe.apart fun g e1 e2 => h.d i h1 h2 g e2 e1)⟩, h.d, h.own⟩
/-- while the lists are written full: those ahead of the i-th, and q bytes of it -/
def BF (w : World) (N : Nat) (v : Nat → Value) (m : Nat → Nat) (i q : Nat) : Prop := ∀ j, j < N → ∃ l : List Nat, l.length = m j ∧ Wy UK w 0 (v j) l ∧ ∀ k, k < m j → (j < i ∨ (j = i ∧ k < q)) → l[k]? = some (mkv j k)
theorem BF.next {i : Nat} (h : BF w N v m i (m i)) : BF w N v m (i + 1) 0 := fun j hj => by
  obtain ⟨l, h1, h2, h3⟩ := h j hj
  refine ⟨l, h1, h2, fun k hk hor => h3 k hk ?_⟩
  by_cases e : j = i
  · subst e; exact .inr ⟨rfl, hk⟩
  · omega
theorem BF.all (h : BF w N v m N 0) : ∀ i, i < N → Wy UK w 0 (v i) (mkn i (m i)) := fun i hi => by
  obtain ⟨l, h1, h2, h3⟩ := h i hi
  have : l = mkn i (m i) := List.ext_getElem? fun k => by
    by_cases hk : k < m i
    · rw [h3 k hk (.inl hi), mkn_at _ _ _ hk]
    · rw [List.getElem?_eq_none (by omega), List.getElem?_eq_none (by rw [mkn_len]; omega)]
  rw [← this]
  exact h2
theorem BF.cell {i q : Nat} (h : BF w N v m i q) (hi : i < N) (hq : q < m i) : ∃ g off c x, v i = .slice (some ⟨g, off, none⟩) (m i) c ∧ w.cell? ⟨g, off + q, none⟩ = some x ∧ (∀ o, w.frozen? ⟨g, o, none⟩ = false) := by
  obtain ⟨l, h1, h2, _⟩ := h i hi
  rcases h2 with ⟨_, e⟩ | ⟨g, off, cap, cur, e, _, _, _, h4, _, h6⟩
  · rw [e] at h1; simp at h1; omega
  · rw [uk_flat] at h6
    refine ⟨g, off, cap, bV l[q], by rw [e, h1], h6 q _ (by rw [List.getElem?_map, List.getElem?_eq_getElem (by omega)]; rfl), fun o => frozen_of h4 o⟩
theorem BF.set {i q g off c : Nat} (h : BF w N v m i q) (hd : Dst N v) (hi : i < N) (hq : q < m i) (hv : v i = .slice (some ⟨g, off, none⟩) (m i) c) : BF (w.setCell ⟨g, off + q, none⟩ (bV (mkv i q))) N v m i (q + 1) := fun j hj => by
  obtain ⟨l, h1, h2, h3⟩ := h j hj
  by_cases e : j = i
  · subst e
    rw [hv] at h2 ⊢
    rw [← h1] at h2 ⊢
    refine ⟨l.set q (mkv j q), by simp, h2.setU (by omega), fun k hk hor => ?_⟩
    rw [List.getElem?_set]
    by_cases hqk : q = k
    · subst hqk
      rw [if_pos rfl, if_pos hk]
    · rw [if_neg hqk]
      exact h3 k (by omega) (by omega)
  · refine ⟨l, h1, h2.at fun k ek => blk_set_other _ _ _ _ fun e2 => ?_, fun k hk hor => h3 k hk (by omega)⟩
    have e3 : k = g := e2
    subst e3
    exact hd j i hj hi e k ek (by rw [hv]; rfl)
end
end Go.Proofs.YtcadlhpgapdgdaaGreatDoor


/- Batches that came out, kept by their owner: rows of records of two bytes. -/
namespace Go.Proofs.YtcadlhpgapdgdaaGreatDoor
open Go.RowKit Go.Maps
set_option linter.unusedVariables false
set_option linter.unusedSimpArgs false
/-- a record of the mark a -/
def two (a : Nat) : Array Value := #[.int .u8 ((a % 256 : Nat) : Int), .int .u8 ((a / 256 % 256 : Nat) : Int)]
def Two (w : World) (a : Nat) (x : Value) : Prop := ∃ g, x = .slice (some ⟨g, 0, none⟩) 2 2 ∧ w.heap[g]? = some (.cells (two a) 5 (0, 0))
/-- a row of them, of the call's own -/
def RowC (w : World) (B : Nat) (v : Value) (n a : Nat) : Prop := ∃ U : List Rc, U.length = n ∧ Wy BK w B v U ∧ ∀ r ∈ U, Two w a r.2
/-- a slice of n of them -/
def CR (w : World) (v : Value) (n a : Nat) : Prop := ∃ x c, v = .slice x n c ∧ (0 < n → ∃ g off cur, x = some ⟨g, off, none⟩ ∧ w.heap[g]? = some (.cells cur 23 (0, 0)) ∧ ∀ j, j < n → ∃ u, cur[off + j]? = some u ∧ Two w a u)
section
variable {w w' : World} {v lv lv' : Value} {n a b L B : Nat}
theorem Two.keep {x : Value} (h : Two w a x) (hk : ∀ (g : Nat) (cs : Array Value), w.heap[g]? = some (Obj.cells cs 5 (0, 0)) → w'.heap[g]? = w.heap[g]?) : Two w' a x := by
  obtain ⟨g, e, h1⟩ := h
  exact ⟨g, e, (hk g _ h1).trans h1⟩
theorem u8_kept {row : Option Nat} (hg : w.grownBy w' row) {t : TypeId} (hr : ∀ k, row = some k → ∃ cur, w.heap[k]? = some (Obj.cells cur t (0, 0))) (hne : t ≠ 5) : ∀ (g : Nat) (cs : Array Value), w.heap[g]? = some (Obj.cells cs 5 (0, 0)) → w'.heap[g]? = w.heap[g]? := fun g cs h =>
  hg.block g (Array.getElem?_eq_some_iff.1 h).1 fun e => by
    obtain ⟨cur, h2⟩ := hr g e.symm
    rw [h] at h2
    simp only [Option.some.injEq, Obj.cells.injEq] at h2
    exact hne h2.2.1.symm
theorem bk_one {r : Rc} (h : ∃ a n c, r.2 = .slice a n c) : BK.enc r = [r.2] := by
  obtain ⟨x, n, c, e⟩ := h
  show [if r.2.oneCell' then r.2 else _] = [r.2]
  rw [e]
  rfl
theorem RowC.lt (h : RowC w B v n a) {k : Nat} (e : v.ownBlock = some k) : B ≤ k ∧ k < w.heap.size := by
  obtain ⟨U, _, h2, _⟩ := h
  exact h2.lt e
theorem RowC.typ (h : RowC w B v n a) {k : Nat} (e : v.ownBlock = some k) : ∃ cur, w.heap[k]? = some (Obj.cells cur 23 (0, 0)) := by
  obtain ⟨U, _, h2, _⟩ := h
  exact h2.typ e
theorem RowC.shape (h : RowC w B v n a) : ∃ x c, v = .slice x n c := by
  obtain ⟨U, rfl, h2, _⟩ := h
  exact h2.shape
theorem RowC.at (h : RowC w B v n a) (hb : ∀ k, v.ownBlock = some k → w'.heap[k]? = w.heap[k]?) (hk : ∀ (g : Nat) (cs : Array Value), w.heap[g]? = some (Obj.cells cs 5 (0, 0)) → w'.heap[g]? = w.heap[g]?) : RowC w' B v n a := by
  obtain ⟨U, h1, h2, h3⟩ := h
  exact ⟨U, h1, h2.at hb, fun r hr => (h3 r hr).keep hk⟩
theorem RowC.below (h : RowC w B v n a) (hb : Below w.heap.size w w') : RowC w' B v n a := h.at (fun k e => hb.block k (h.lt e).2) (fun g cs hg => hb.block g (Array.getElem?_eq_some_iff.1 hg).1)
theorem CR.at (h : CR w v n a) (hb : ∀ g, v.ownBlock = some g → w'.heap[g]? = w.heap[g]?) (hk : ∀ (g : Nat) (cs : Array Value), w.heap[g]? = some (Obj.cells cs 5 (0, 0)) → w'.heap[g]? = w.heap[g]?) : CR w' v n a := by
  obtain ⟨x, c, rfl, h1⟩ := h
  refine ⟨x, c, rfl, fun h0 => ?_⟩
  obtain ⟨g, off, cur, rfl, h2, h3⟩ := h1 h0
  refine ⟨g, off, cur, rfl, (hb g rfl).trans h2, fun j hj => ?_⟩
  obtain ⟨u, h4, h5⟩ := h3 j hj
  exact ⟨u, h4, h5.keep hk⟩
theorem CR.blk (h : CR w v n a) (h0 : 0 < n) : ∃ g cur, v.ownBlock = some g ∧ w.heap[g]? = some (Obj.cells cur 23 (0, 0)) := by
  obtain ⟨x, c, rfl, h1⟩ := h
  obtain ⟨g, off, cur, rfl, h2, _⟩ := h1 h0
  exact ⟨g, cur, rfl, h2⟩
theorem CR.keep (h : CR w v n a) (hb : ∀ (g : Nat) (cs : Array Value), w.heap[g]? = some (Obj.cells cs 23 (0, 0)) → w'.heap[g]? = w.heap[g]?) (hk : ∀ (g : Nat) (cs : Array Value), w.heap[g]? = some (Obj.cells cs 5 (0, 0)) → w'.heap[g]? = w.heap[g]?) : CR w' v n a := by
  by_cases h0 : 0 < n
  · obtain ⟨g, cur, e, hc⟩ := h.blk h0
    exact h.at (fun g' e' => by rw [e] at e'; cases e'; exact hb g cur hc) hk
  · obtain ⟨x, c, rfl, _⟩ := h
    exact ⟨x, c, rfl, fun h => absurd h h0⟩
theorem RowC.pre {g off c c' : Nat} (h : RowC w B (.slice (some ⟨g, off, none⟩) L c) L a) (hn : n ≤ L) : CR w (.slice (some ⟨g, off, none⟩) n c') n a := by
  obtain ⟨U, hU, h, h3⟩ := h
  rcases h with ⟨e, _⟩ | ⟨g', off', cap, cur, e, _, h2, _, h4, h5, h6⟩
  · cases e
  · simp only [Value.slice.injEq, Option.some.injEq, Addr.mk.injEq, and_true] at e
    obtain ⟨⟨rfl, rfl⟩, _⟩ := e
    refine ⟨_, c', rfl, fun _ => ⟨g, off, cur, rfl, h4, fun j hj => ?_⟩⟩
    rw [flat_one BK.enc (·.2) U (fun r hr => by obtain ⟨q, e, _⟩ := h3 r hr; exact bk_one ⟨_, _, _, e⟩)] at h6
    have hj2 : j < U.length := by omega
    exact ⟨U[j].2, cells_of_range h4 h6 (by rw [List.getElem?_map, List.getElem?_eq_getElem hj2]; rfl), h3 _ (List.getElem_mem hj2)⟩
theorem RowC.cr (h : RowC w B v n a) : CR w v n a := by
  obtain ⟨U, hU, h2, h3⟩ := h
  rcases h2 with ⟨rfl, rfl⟩ | ⟨g, off, cap, cur, rfl, h4⟩
  · have : n = 0 := hU.symm
    subst this
    exact ⟨none, 0, rfl, fun h => by omega⟩
  · have h5 : RowC w B (.slice (some ⟨g, off, none⟩) n cap) n a := ⟨U, hU, .inr ⟨g, off, cap, cur, by rw [hU], h4⟩, h3⟩
    rw [hU]
    exact h5.pre (Nat.le_refl _)
theorem Safe.stepC (hw' : RowC w' B lv' (L + 1) a) (hlt : ∀ k, lv.ownBlock = some k → ∃ cur, w.heap[k]? = some (Obj.cells cur 23 (0, 0))) (hg : w.grownBy w' lv.ownBlock) (hs : (∃ g off cap, lv = .slice (some ⟨g, off, none⟩) L cap ∧ lv' = .slice (some ⟨g, off, none⟩) (L + 1) cap) ∨ ((∀ k, lv'.ownBlock = some k → w.heap.size ≤ k) ∧ w.grownBy w' none))
    (hr : CR w v n b) (hsf : Safe lv L a v n b) : CR w' v n b ∧ Safe lv' (L + 1) a v n b := by
  have hk := u8_kept hg hlt (by decide)
  by_cases h0 : 0 < n
  · obtain ⟨gv, cv, ev, hv⟩ := hr.blk h0
    have hgv := (Array.getElem?_eq_some_iff.1 hv).1
    rcases hs with ⟨g, off, cap, rfl, rfl⟩ | ⟨h1, h2⟩
    · by_cases he : gv = g
      · subst he
        obtain ⟨off', c, c', e1, e2, e3, e4⟩ := hsf h0 gv ev rfl
        simp only [Value.slice.injEq, Option.some.injEq, Addr.mk.injEq, and_true, true_and] at e1
        obtain ⟨rfl, rfl⟩ := e1
        subst e2
        subst e4
        exact ⟨hw'.pre (by omega), fun _ g' e5 e6 => by cases e5; exact ⟨off, cap, c', rfl, rfl, by omega, rfl⟩⟩
      · refine ⟨hr.at (fun g' e => ?_) hk, fun _ g' e5 e6 => ?_⟩
        · rw [ev] at e
          cases e
          exact hg.block gv hgv (fun e => he (by cases e; rfl))
        · rw [ev] at e5
          cases e5
          cases e6
          exact absurd rfl he
    · refine ⟨hr.at (fun g' e => ?_) hk, fun _ g' e5 e6 => ?_⟩
      · rw [ev] at e
        cases e
        exact h2.block gv hgv (by simp)
      · rw [ev] at e5
        cases e5
        have := h1 _ e6
        omega
  · obtain ⟨x, c, rfl, _⟩ := hr
    exact ⟨⟨x, c, rfl, fun h => absurd h h0⟩, fun h => absurd h h0⟩
theorem Safe.selfC (h : RowC w B v n a) : Safe v n a v n a := fun h0 g e1 e2 => by
  obtain ⟨U, rfl, h2, _⟩ := h
  rcases h2 with ⟨rfl, e⟩ | ⟨g', off, cap, cur, rfl, _⟩
  · cases e1
  · cases e1
    exact ⟨off, cap, cap, rfl, rfl, Nat.le_refl _, rfl⟩
/-- an element is put -/
theorem Wy.setB {U : List Rc} {g off c k : Nat} {x : Rc} (h : Wy BK w B (.slice (some ⟨g, off, none⟩) U.length c) U) (hU : ∀ r ∈ U, ∃ a n c, r.2 = .slice a n c) (hx : ∃ a n c, x.2 = .slice a n c) (hk : k < U.length) : Wy BK (w.setCell ⟨g, off + k, none⟩ x.2) B (.slice (some ⟨g, off, none⟩) U.length c) (U.set k x) := by
  rcases h with ⟨e, _⟩ | ⟨g', off', cap, cur, e, h1, h2, h3, h4, h5, h6⟩
  · cases e
  · simp only [Value.slice.injEq, Option.some.injEq, Addr.mk.injEq, and_true, true_and] at e
    obtain ⟨⟨rfl, rfl⟩, rfl⟩ := e
    refine .inr ⟨g, off, c, cur.setIfInBounds (off + k) x.2, by rw [List.length_set], h1, by rw [List.length_set]; exact h2, h3, blk_set h4 _ _, by simpa using h5, fun j u hu => ?_⟩
    rw [flat_one BK.enc (·.2) U (fun r hr => bk_one (hU r hr))] at h6
    rw [flat_one BK.enc (·.2) (U.set k x) (fun r hr => by
      rcases List.mem_or_eq_of_mem_set hr with h | h
      · exact bk_one (hU r h)
      · subst h; exact bk_one hx)] at hu
    have hn : BK.n = 1 := rfl
    rw [hn] at h5
    refine cellOf (blk_set h4 _ _) _ _ ?_
    rw [List.getElem?_map, List.getElem?_set] at hu
    by_cases hjk : k = j
    · subst hjk
      rw [if_pos rfl, if_pos hk] at hu
      simp only [Option.map_some, Option.some.injEq] at hu
      subst hu
      rw [Array.getElem?_setIfInBounds_self_of_lt (by omega)]
    · rw [if_neg hjk] at hu
      rw [Array.getElem?_setIfInBounds_ne (by omega)]
      exact cells_of_range h4 h6 (by rw [List.getElem?_map]; exact hu)
end
end Go.Proofs.YtcadlhpgapdgdaaGreatDoor


/- Batches of an owner: what stands while they are grown. -/
namespace Go.Proofs.YtcadlhpgapdgdaaGreatDoor
open Go.RowKit Go.Maps
set_option linter.unusedVariables false
set_option linter.unusedSimpArgs false
def CTf (w : World) (N : Nat) (v : Nat → Value) (m : Nat → Nat) (E : List En2) (a : Nat) : Prop := ∀ i, a ≤ i → i < N → RowC w 0 (v i) (m i) i ∧ (∀ k, k < N → Safe (v i) (m i) i (v k) (m k) k) ∧ ∀ q (h : q < E.length), Safe (v i) (m i) i E[q].1 E[q].2 (q / 5)
structure CT (w : World) (N : Nat) (v : Nat → Value) (m : Nat → Nat) (E : List En2) (a : Nat) : Prop where
  o : ∀ i, i < N → CR w (v i) (m i) i
  e : ∀ q (h : q < E.length), CR w E[q].1 E[q].2 (q / 5)
  f : CTf w N v m E a
structure CI (B0 : Nat) (w : World) (N : Nat) (v : Nat → Value) (m : Nat → Nat) (E : List En2) (lv : Value) (L a : Nat) : Prop where
  l : RowC w 0 lv L a
  o : ∀ i, i < N → CR w (v i) (m i) i ∧ Safe lv L a (v i) (m i) i
  e : ∀ q (h : q < E.length), CR w E[q].1 E[q].2 (q / 5) ∧ Safe lv L a E[q].1 E[q].2 (q / 5)
  f : CTf w N v m E (a + 1)
  d : ∀ i, a + 1 ≤ i → i < N → ∀ g, (v i).ownBlock = some g → lv.ownBlock ≠ some g
  own : ∀ k, lv.ownBlock = some k → InV N v k ∨ B0 ≤ k
section
variable {B0 N L a : Nat} {w w' : World} {v : Nat → Value} {m : Nat → Nat} {E : List En2} {lv lv' : Value}
theorem CT.begin (hd : Dst N v) (h : ∀ i, i < N → RowC w 0 (v i) (m i) i) : CT w N v m [] 0 :=
  ⟨fun i hi => (h i hi).cr, fun q hq => absurd hq (by simp), fun i _ hi => ⟨h i hi, fun k hk => by
    by_cases e : k = i
    · subst e; exact Safe.selfC (h k hk)
    · exact Safe.apart (fun g e1 e2 => hd k i hk hi e g e1 e2), fun q hq => absurd hq (by simp)⟩⟩
theorem CT.enter (hd : Dst N v) (ha : a < N) (h : CT w N v m E a) : CI B0 w N v m E (v a) (m a) a :=
  ⟨(h.f a (Nat.le_refl _) ha).1, fun i hi => ⟨h.o i hi, (h.f a (Nat.le_refl _) ha).2.1 i hi⟩, fun q hq => ⟨h.e q hq, (h.f a (Nat.le_refl _) ha).2.2 q hq⟩, fun i h1 h2 => h.f i (by omega) h2,
    fun i h1 h2 g e1 => hd i a h2 ha (by omega) g e1, fun k e => .inl ⟨a, ha, e⟩⟩
theorem CI.leave (h : CI B0 w N v m E lv L a) : CT w N v m E (a + 1) := ⟨fun i hi => (h.o i hi).1, fun q hq => (h.e q hq).1, h.f⟩
theorem CI.keep (h : CI B0 w N v m E lv L a) (hb : ∀ (g : Nat) (cs : Array Value), w.heap[g]? = some (Obj.cells cs 23 (0, 0)) → w'.heap[g]? = w.heap[g]?) (hk : ∀ (g : Nat) (cs : Array Value), w.heap[g]? = some (Obj.cells cs 5 (0, 0)) → w'.heap[g]? = w.heap[g]?) : CI B0 w' N v m E lv L a :=
  ⟨h.l.at (fun k e => by obtain ⟨cur, hc⟩ := h.l.typ e; exact hb k cur hc) hk, fun i hi => ⟨(h.o i hi).1.keep hb hk, (h.o i hi).2⟩, fun q hq => ⟨(h.e q hq).1.keep hb hk, (h.e q hq).2⟩, fun i h1 h2 => ⟨(h.f i h1 h2).1.at (fun k e => by obtain ⟨cur, hc⟩ := (h.f i h1 h2).1.typ e; exact hb k cur hc) hk, (h.f i h1 h2).2⟩, h.d, h.own⟩
theorem CI.below (h : CI B0 w N v m E lv L a) (hb : Below w.heap.size w w') : CI B0 w' N v m E lv L a := h.keep (fun g cs hg => hb.block g (Array.getElem?_eq_some_iff.1 hg).1) (fun g cs hg => hb.block g (Array.getElem?_eq_some_iff.1 hg).1)
theorem CI.step (h : CI B0 w N v m E lv L a) (hB : B0 ≤ w.heap.size) (hw' : RowC w' 0 lv' (L + 1) a) (hg : w.grownBy w' lv.ownBlock) (hs : (∃ g off cap, lv = .slice (some ⟨g, off, none⟩) L cap ∧ lv' = .slice (some ⟨g, off, none⟩) (L + 1) cap) ∨ ((∀ k, lv'.ownBlock = some k → w.heap.size ≤ k) ∧ w.grownBy w' none)) : CI B0 w' N v m E lv' (L + 1) a := by
  have hlt := fun k (e : lv.ownBlock = some k) => h.l.typ e
  have hk := u8_kept hg hlt (by decide)
  refine ⟨hw', fun i hi => Safe.stepC hw' hlt hg hs (h.o i hi).1 (h.o i hi).2, fun q hq => Safe.stepC hw' hlt hg hs (h.e q hq).1 (h.e q hq).2, fun i h1 h2 => ⟨(h.f i h1 h2).1.at (fun k e => ?_) hk, (h.f i h1 h2).2⟩, fun i h1 h2 g e1 e2 => ?_, fun k e => ?_⟩
  · exact hg.block k ((h.f i h1 h2).1.lt e).2 (fun e' => h.d i h1 h2 k e e'.symm)
  · rcases hs with ⟨g', off, cap, rfl, rfl⟩ | ⟨h3, _⟩
    · exact h.d i h1 h2 g e1 e2
    · have := h3 g e2
      have := ((h.f i h1 h2).1.lt e1).2
      omega
  · rcases hs with ⟨g', off, cap, rfl, rfl⟩ | ⟨h3, _⟩
    · exact h.own k e
    · exact .inr (Nat.le_trans hB (h3 k e))
theorem CI.push (h : CI B0 w N v m E lv L a) (hq : E.length / 5 = a) : CI B0 w N v m (E ++ [(lv, L)]) lv L a :=
  ⟨h.l, h.o, snoc_get (P := fun (q : Nat) (x : En2) => CR w x.1 x.2 (q / 5) ∧ Safe lv L a x.1 x.2 (q / 5)) h.e (by rw [hq]; exact ⟨h.l.cr, Safe.selfC h.l⟩),
    fun i h1 h2 => ⟨(h.f i h1 h2).1, (h.f i h1 h2).2.1, snoc_get (P := fun (q : Nat) (x : En2) => Safe (v i) (m i) i x.1 x.2 (q / 5)) (h.f i h1 h2).2.2 (Safe.apart fun g e1 e2 => h.d i h1 h2 g e2 e1)⟩, h.d, h.own⟩
/-- while the batches are written full: those ahead of the i-th, and q records of it -/
def CF (w : World) (N : Nat) (v : Nat → Value) (m : Nat → Nat) (i q : Nat) : Prop := ∀ j, j < N → ∃ U : List Rc, U.length = m j ∧ Wy BK w 0 (v j) U ∧ (∀ r ∈ U, ∃ a n c, r.2 = .slice a n c) ∧ ∀ k (h : k < U.length), (j < i ∨ (j = i ∧ k < q)) → Two w j U[k].2
theorem CF.next {i : Nat} (h : CF w N v m i (m i)) : CF w N v m (i + 1) 0 := fun j hj => by
  obtain ⟨U, h1, h2, h4, h3⟩ := h j hj
  refine ⟨U, h1, h2, h4, fun k hk hor => h3 k hk ?_⟩
  by_cases e : j = i
  · subst e; exact .inr ⟨rfl, by omega⟩
  · omega
theorem CF.all (h : CF w N v m N 0) : ∀ i, i < N → RowC w 0 (v i) (m i) i := fun i hi => by
  obtain ⟨U, h1, h2, _, h3⟩ := h i hi
  exact ⟨U, h1, h2, fun r hr => by
    obtain ⟨k, hk, rfl⟩ := List.getElem_of_mem hr
    exact h3 k hk (.inl hi)⟩
theorem CF.cell {i q : Nat} (h : CF w N v m i q) (hi : i < N) (hq : q < m i) : ∃ g off c x, v i = .slice (some ⟨g, off, none⟩) (m i) c ∧ w.cell? ⟨g, off + q, none⟩ = some x ∧ (∀ o, w.frozen? ⟨g, o, none⟩ = false) ∧ g < w.heap.size := by
  obtain ⟨U, h1, h2, h4, _⟩ := h i hi
  rcases h2 with ⟨_, e⟩ | ⟨g, off, cap, cur, e, _, _, _, hg, _, h6⟩
  · rw [e] at h1; simp at h1; omega
  · rw [flat_one BK.enc (·.2) U (fun r hr => bk_one (h4 r hr))] at h6
    exact ⟨g, off, cap, U[q].2, by rw [e, h1], h6 q _ (by rw [List.getElem?_map, List.getElem?_eq_getElem (by omega)]; rfl), fun o => frozen_of hg o, (Array.getElem?_eq_some_iff.1 hg).1⟩
theorem CF.keep {i q : Nat} (h : CF w N v m i q) (hb : Below w.heap.size w w') : CF w' N v m i q := fun j hj => by
  obtain ⟨U, h1, h2, h4, h3⟩ := h j hj
  exact ⟨U, h1, h2.at fun k e => hb.block k (h2.lt e).2, h4, fun k hk hor => (h3 k hk hor).keep fun g cs hg => hb.block g (Array.getElem?_eq_some_iff.1 hg).1⟩
theorem CF.set {i q g off c gx : Nat} (h : CF w N v m i q) (hd : Dst N v) (hi : i < N) (hq : q < m i) (hv : v i = .slice (some ⟨g, off, none⟩) (m i) c) (hx : w.heap[gx]? = some (.cells (two i) 5 (0, 0))) : CF (w.setCell ⟨g, off + q, none⟩ (.slice (some ⟨gx, 0, none⟩) 2 2)) N v m i (q + 1) := by
  obtain ⟨U0, hU1, hU2, hU3, _⟩ := h i hi
  have hgt : ∃ cur, w.heap[g]? = some (Obj.cells cur 23 (0, 0)) := hU2.typ (k := g) (by rw [hv]; rfl)
  have hk8 : ∀ (g' : Nat) (cs : Array Value), w.heap[g']? = some (Obj.cells cs 5 (0, 0)) → (w.setCell ⟨g, off + q, none⟩ (.slice (some ⟨gx, 0, none⟩) 2 2)).heap[g']? = w.heap[g']? := fun g' cs hg' => blk_set_other _ _ _ _ fun e => by
    have e2 : g' = g := e
    subst e2
    obtain ⟨cur, hc⟩ := hgt
    rw [hc] at hg'
    simp at hg'
  intro j hj
  obtain ⟨U, h1, h2, h4, h3⟩ := h j hj
  by_cases e : j = i
  · subst e
    rw [hv] at h2 ⊢
    rw [← h1] at h2 ⊢
    have hs := h2.setB (x := (([] : List Nat), Value.slice (some ⟨gx, 0, none⟩) 2 2)) h4 ⟨_, _, _, rfl⟩ (k := q) (by omega)
    refine ⟨U.set q ([], .slice (some ⟨gx, 0, none⟩) 2 2), by simp, hs, fun r hr => ?_, fun k hk hor => ?_⟩
    · rcases List.mem_or_eq_of_mem_set hr with h | h
      · exact h4 r h
      · subst h; exact ⟨_, _, _, rfl⟩
    · rw [List.length_set] at hk
      by_cases hqk : q = k
      · subst hqk
        rw [List.getElem_set_self]
        exact ⟨gx, rfl, (hk8 gx _ hx).trans hx⟩
      · rw [List.getElem_set_ne hqk]
        exact (h3 k hk (by omega)).keep hk8
  · refine ⟨U, h1, h2.at fun k ek => blk_set_other _ _ _ _ fun e2 => ?_, h4, fun k hk hor => (h3 k hk (by omega)).keep hk8⟩
    have e3 : k = g := e2
    subst e3
    exact hd j i hj hi e k ek (by rw [hv]; rfl)
end
end Go.Proofs.YtcadlhpgapdgdaaGreatDoor
