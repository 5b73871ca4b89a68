
/- Stage 19: a disk falls. -/
import Derived.Test.YtgkdecjlanbmhaaDFl
namespace Go.Proofs.Ytgkdecjlanbmhaa
open Go.RowKit Go.Maps
set_option linter.unusedVariables false
set_option linter.unusedSimpArgs false
/-- a file that has fallen -/
def fl (keep : Int) (f : Fi) : Fi := (f.1, f.2.1.take (stay f.2.1.length f.2.2 keep), stay f.2.1.length f.2.2 keep)
theorem stay_le {n s : Nat} (h : s ≤ n) (keep : Int) : stay n s keep ≤ n := by unfold stay; omega
def gp (e : En) : Fi × Nat := (e.f, e.p)
def updB (keep : Int) (lft : Lit → Bool) (b : Fi × Nat) : Fi × Nat := (if lft (.string b.1.1.data.toList) = true then b.1 else fl keep b.1, b.2)
def usB (keep : Int) (lft : Lit → Bool) (B : List (Fi × Nat)) : Nat := (B.map fun b => if lft (.string b.1.1.data.toList) = true then 0 else (fl keep b.1).2.1.length).sum
/-- the blocks of S, and those that were laid since -/
def Sx (S : Nat → Prop) (w w' : World) (k : Nat) : Prop := S k ∨ (w.heap.size ≤ k ∧ k < w'.heap.size)
theorem usB_perm {keep : Int} {lft : Lit → Bool} {B C : List (Fi × Nat)} (h : B.Perm C) : usB keep lft B = usB keep lft C := (h.map _).sum_nat
theorem updB_all {keep : Int} {lft : Lit → Bool} {B : List (Fi × Nat)} (h : ∀ b ∈ B, lft (.string b.1.1.data.toList) = true) : B.map (updB keep lft) = B := by
  conv => rhs; rw [← List.map_id B]
  refine List.map_congr_left fun b hb => ?_
  simp [updB, h b hb]
theorem usB_all {keep : Int} {lft : Lit → Bool} {B : List (Fi × Nat)} (h : ∀ b ∈ B, lft (.string b.1.1.data.toList) = true) : usB keep lft B = 0 := by
  unfold usB
  rw [List.map_congr_left (g := fun _ => 0) (fun b hb => by simp [h b hb])]
  clear h
  induction B with
  | nil => rfl
  | cons b B ih => simpa using ih
theorem updB_none {keep : Int} {lft : Lit → Bool} {B : List (Fi × Nat)} (h : ∀ k : ByteArray, lft (.string k.data.toList) = false) : B.map (updB keep lft) = B.map fun b => (fl keep b.1, b.2) := by
  refine List.map_congr_left fun b hb => ?_
  simp [updB, h b.1.1]
theorem usB_none {keep : Int} {lft : Lit → Bool} {B : List (Fi × Nat)} (h : ∀ k : ByteArray, lft (.string k.data.toList) = false) : usB keep lft B = usd (B.map fun b => fl keep b.1) := by
  unfold usB usd
  rw [List.map_map]
  congr 1
  refine List.map_congr_left fun b hb => ?_
  simp [h b.1.1]
theorem usB_le (keep : Int) (lft : Lit → Bool) : ∀ (B : List (Fi × Nat)), usB keep lft B ≤ usd (B.map (·.1))
  | [] => by simp [usB, usd]
  | b :: B => by
    have := usB_le keep lft B
    have h1 : usB keep lft (b :: B) = (if lft (.string b.1.1.data.toList) = true then 0 else (fl keep b.1).2.1.length) + usB keep lft B := by simp [usB]
    have h2 : usd ((b :: B).map (·.1)) = b.1.2.1.length + usd (B.map (·.1)) := usd_cons _ _
    have h3 : (fl keep b.1).2.1.length ≤ b.1.2.1.length := by simp [fl]; omega
    rw [h1, h2]
    split <;> omega
/-- one file more has fallen -/
theorem step_B {keep : Int} {lft : Lit → Bool} {b : Fi × Nat} {B : List (Fi × Nat)} (hn : ((b :: B).map (·.1.1)).Nodup) (hl : lft (.string b.1.1.data.toList) = true) :
    (b :: B).map (updB keep lft) = b :: B.map (updB keep lft) ∧
    (b :: B).map (updB keep fun z => lft z && !z.sameKey (.string b.1.1.data.toList)) = (fl keep b.1, b.2) :: B.map (updB keep lft) ∧
    usB keep (fun z => lft z && !z.sameKey (.string b.1.1.data.toList)) (b :: B) = usB keep lft (b :: B) + (fl keep b.1).2.1.length := by
  have hx : ∀ c ∈ B, (!(Lit.string c.1.1.data.toList).sameKey (.string b.1.1.data.toList)) = true := fun c hc => by
    rw [lit_same]
    have : c.1.1 ≠ b.1.1 := fun e => (List.nodup_cons.1 (by simpa using hn : (b.1.1 :: B.map (·.1.1)).Nodup)).1 (e ▸ List.mem_map_of_mem hc)
    simp [this]
  refine ⟨?_, ?_, ?_⟩
  · simp [updB, hl]
  · rw [List.map_cons]
    congr 1
    · simp [updB, lit_same]
    · refine List.map_congr_left fun c hc => ?_
      simp only [updB, hx c hc, Bool.and_true]
  · unfold usB
    rw [List.map_cons, List.map_cons, List.sum_cons, List.sum_cons, List.map_congr_left (l := B) (g := fun b => if lft (.string b.1.1.data.toList) = true then 0 else (fl keep b.1).2.1.length) (fun c hc => by simp only [hx c hc, Bool.and_true])]
    simp [lit_same, hl]
    omega
theorem Kp.gr {p : Nat} {w w' : World} (h : Kp (fun k => k = p) w w') : w.grownBy w' (some p) := ⟨h.1, h.2.1, h.2.2.1, h.2.2.2.1, fun k hk he => h.2.2.2.2 k hk (fun e => he (by rw [e]))⟩
theorem DkS.lts {S : Nat → Prop} {w : World} {d m : Nat} {x : Dx} {E : List En} (h : DkS S w d m x E) : DkS (fun k => S k ∧ k < w.heap.size) w d m x E :=
  ⟨⟨h.sd, h.lt⟩, ⟨h.sm, h.tab.lt⟩, h.blk, h.tab, fun e he => ⟨⟨(h.ens e he).1, (h.ens e he).lt⟩, (h.ens e he).2.1, (h.ens e he).2.2.1, fun g hg => ⟨(h.ens e he).2.2.2.1 g hg, ((h.ens e he).2.2.1.lt g hg).2⟩, (h.ens e he).2.2.2.2⟩, h.ps, h.apt⟩
/-- a disk that is falling: w0: as the range began -/
def Flg (S : Nat → Prop) (d m : Nat) (x : Dx) (keep : Int) (B : List (Fi × Nat)) (w0 : World) (lft : Lit → Bool) (wr : World) : Prop :=
  ∃ E, DkS (Sx S w0 wr) wr d m { x with used := (usB keep lft B : Int) } E ∧ (E.map gp).Perm (B.map (updB keep lft))
theorem Flg.first {S : Nat → Prop} {d m : Nat} {x : Dx} {keep : Int} {b : Fi × Nat} {B : List (Fi × Nat)} {w0 : World} {lft : Lit → Bool} {wr : World} (h : Flg S d m x keep (b :: B) w0 lft wr) (hn : ((b :: B).map (·.1.1)).Nodup) (hl : lft (.string b.1.1.data.toList) = true) :
    ∃ e E, gp e = b ∧ E.map gp = B.map (updB keep lft) ∧ DkS (Sx S w0 wr) wr d m { x with used := (usB keep lft (b :: B) : Int) } (e :: E) := by
  obtain ⟨E, h1, h2⟩ := h
  rw [(step_B hn hl).1] at h2
  obtain ⟨E', h3, h4⟩ := perm_lift _ _ h2
  cases E' with
  | nil => simp at h4
  | cons e E' =>
    simp only [List.map_cons, List.cons.injEq] at h4
    exact ⟨e, E', h4.1, h4.2, h1.perm h3⟩
section
variable {S : Nat → Prop} {d m : Nat} {x : Dx} {keep : Int} {b : Fi × Nat} {B B' : List (Fi × Nat)} {w0 wr wn : World} {lft : Lit → Bool}
theorem Flg.perm (h : Flg S d m x keep B w0 lft wr) (hp : B.Perm B') : Flg S d m x keep B' w0 lft wr := by
  obtain ⟨E, h1, h2⟩ := h
  exact ⟨E, by rw [← usB_perm hp]; exact h1, h2.trans (hp.map _)⟩
theorem Flg.kept (h : Flg S d m x keep B w0 lft wr) {r : Nat} (hg : wr.grownBy wn (some r)) (hs : wn.heap.size = wr.heap.size) (hr : r < w0.heap.size) (hS : ∀ k, S k → k < r) (h0 : w0.heap.size ≤ wr.heap.size) : Flg S d m x keep B w0 lft wn := by
  obtain ⟨E, h1, h2⟩ := h
  have e : Sx S w0 wn = Sx S w0 wr := by funext k; simp [Sx, hs]
  refine ⟨E, ?_, h2⟩
  rw [e]
  refine h1.keep fun k hk => ?_
  rcases hk with hk | ⟨hk, hk2⟩
  · exact hg.block k (by have := hS k hk; omega) (fun e => by have := hS k hk; cases e; omega)
  · exact hg.block k hk2 (fun e => by cases e; omega)
/-- one file falls -/
theorem Flg.next (h : Flg S d m x keep (b :: B) w0 lft wn) (hn : ((b :: B).map (·.1.1)).Nodup) (hl : lft (.string b.1.1.data.toList) = true) (h0 : w0.heap.size ≤ wn.heap.size) :
    ∃ v, FB wn b.2 v b.1.2.2 ∧ Ob 0 wn v b.1.2.1 ∧ b.2 ≠ d ∧ wn.cell? ⟨d, 4, none⟩ = some (.int .i64 (usB keep lft (b :: B) : Int)) ∧ wn.frozen? ⟨d, 4, none⟩ = false ∧ d < wn.heap.size ∧ m < wn.heap.size ∧ b.2 ≠ m ∧ d ≠ m ∧ Sx S w0 wn b.2 ∧
      ∀ w5 v' (n : Nat), n = (fl keep b.1).2.1.length → FB w5 b.2 v' (fl keep b.1).2.2 → Ob 0 w5 v' (fl keep b.1).2.1 → Whe wn v v' → Kp (fun k => k = b.2) wn w5 →
        w5.cell? ⟨d, 4, none⟩ = some (.int .i64 (usB keep lft (b :: B) : Int)) ∧ w5.frozen? ⟨d, 4, none⟩ = false ∧
        Flg S d m x keep (b :: B) w0 (fun z => lft z && !z.sameKey (.string b.1.1.data.toList)) (w5.setCell ⟨d, 4, none⟩ (.int .i64 ((usB keep lft (b :: B) : Int) + (n : Int)))) := by
  obtain ⟨e, E, rfl, hE, hD⟩ := h.first hn hl
  have he := hD.ens e List.mem_cons_self
  refine ⟨e.v, he.2.1, he.2.2.1, he.ne_d hD, hD.cell 4 _ rfl, hD.frozen 4, hD.lt, hD.tab.lt, he.ne_m hD, hD.md.symm, he.1, fun w5 v' n hn5 hb ho hw hk => ?_⟩
  have hsz : wn.heap.size ≤ w5.heap.size := hk.size
  have hST : ∀ k, Sx S w0 wn k → Sx S w0 w5 k := fun k h => h.imp id (fun h => ⟨h.1, by omega⟩)
  have hD5 : DkS (Sx S w0 w5) w5 d m { x with used := (usB keep lft (gp e :: B) : Int) } (⟨fl keep e.f, e.p, v'⟩ :: E) := by
    refine hD.setf rfl rfl hST ⟨hST _ he.1, hb, ho, fun g hg => ?_, he.2.2.2.2⟩ hw (fun k hkl hkp _ => hk.block hkl hkp)
    rcases hw g hg with h1 | h1
    · exact hST _ (he.2.2.2.1 g h1)
    · exact .inr ⟨by omega, (ho.lt g hg).2⟩
  have hst := step_B (keep := keep) (lft := lft) hn hl
  refine ⟨hD5.cell 4 _ rfl, hD5.frozen 4, ⟨fl keep e.f, e.p, v'⟩ :: E, ?_, ?_⟩
  · have e6 : Sx S w0 (w5.setCell ⟨d, 4, none⟩ (.int .i64 ((usB keep lft (gp e :: B) : Int) + (n : Int)))) = Sx S w0 w5 := by funext k; simp [Sx]
    rw [e6, hst.2.2]
    refine hD5.setx 4 _ _ ?_
    rw [hn5]
    rfl
  · rw [hst.2.1, List.map_cons, hE]
    exact .refl _
end
end Go.Proofs.Ytgkdecjlanbmhaa
