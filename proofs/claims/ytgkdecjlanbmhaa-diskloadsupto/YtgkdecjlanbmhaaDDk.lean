
/- Stage 19: a disk as plain data, and how it lies. -/
import Derived.Test.YtgkdecjlanbmhaaDTab
namespace Go.Proofs.Ytgkdecjlanbmhaa
open Go.RowKit Go.Maps
set_option linter.unusedVariables false
set_option linter.unusedSimpArgs false
/-- a file: its name, its bytes, how many of them are safe -/
abbrev Fi := ByteArray × List Nat × Nat
/-- where a file lies: its block, its bytes' slice -/
structure En where
  f : Fi
  p : Nat
  v : Value
/-- a disk but for its files -/
structure Dx where
  lk : Int
  room : Int
  used : Int
  down : Bool
  left : Int
  keep : Int
/-- how many bytes all files have -/
def usd (F : List Fi) : Nat := (F.map (·.2.1.length)).sum
def okN (c : Nat) : Bool := decide (c = 46) || (decide (97 ≤ c) && decide (c ≤ 122))
/-- is it a name? -/
def nm (s : ByteArray) : Bool := decide (1 ≤ s.size) && decide (s.size ≤ 16) && (List.range s.size).all fun j => okN (s.get! j).toNat
def dkA (m : Nat) (x : Dx) : Array Value := #[.int .i32 x.lk, .int .u32 0, .map (some m), .int .i64 x.room, .int .i64 x.used, .bool x.down, .int .i64 x.left, .int .i64 x.keep]
def flA (v : Value) (s : Nat) : Array Value := #[v, .int .i64 (s : Int)]
def EnS (S : Nat → Prop) (w : World) (e : En) : Prop :=
  S e.p ∧ w.heap[e.p]? = some (.cells (flA e.v e.f.2.2) 91 (0, 0)) ∧ Ob 0 w e.v e.f.2.1 ∧ (∀ g, e.v.ownBlock = some g → S g) ∧ nm e.f.1 = true
def Apt (a b : En) : Prop := ∀ g, a.v.ownBlock = some g → b.v.ownBlock ≠ some g
theorem Apt.symm {a b : En} (h : Apt a b) : Apt b a := fun g hb ha => h g ha hb
theorem blk_set {w : World} {g : Nat} {cs : Array Value} {t : TypeId} {fr : Nat × Nat} (h : w.heap[g]? = some (.cells cs t fr)) (o : Nat) (v : Value) : (w.setCell ⟨g, o, none⟩ v).heap[g]? = some (.cells (cs.setIfInBounds o v) t fr) := by
  simp [World.setCell, Array.getElem?_modify, h]
theorem frozen_of {w : World} {n : Nat} {cs : Array Value} {t : TypeId} (h : w.heap[n]? = some (.cells cs t (0, 0))) (o : Nat) : w.frozen? ⟨n, o, none⟩ = false := by simp [World.frozen?, h]
/-- a disk, its table at m, its files as they lie -/
structure DkS (S : Nat → Prop) (w : World) (d m : Nat) (x : Dx) (E : List En) : Prop where
  sd : S d
  sm : S m
  blk : w.heap[d]? = some (.cells (dkA m x) 77 (0, 0))
  tab : Tb w m (E.map fun e => (e.f.1, e.p))
  ens : ∀ e ∈ E, EnS S w e
  ps : (E.map (·.p)).Nodup
  apt : E.Pairwise Apt
/-- a disk with these files -/
def Dsk (S : Nat → Prop) (w : World) (d : Nat) (x : Dx) (F : List Fi) : Prop := ∃ m E, E.map En.f = F ∧ DkS S w d m x E
theorem nm_size {s : ByteArray} (h : nm s = true) : s.size ≤ maxLen := by
  simp [nm] at h
  have : maxLen = 9223372036854775807 := rfl
  omega
theorem usd_perm {F G : List Fi} (h : F.Perm G) : usd F = usd G := (h.map _).sum_nat
theorem usd_cons (f : Fi) (F : List Fi) : usd (f :: F) = f.2.1.length + usd F := by simp [usd]
theorem Ob.at_same {B : Nat} {w w' : World} {v : Value} {l : List Nat} (h : Ob B w v l) (hg : ∀ g, v.ownBlock = some g → w'.heap[g]? = w.heap[g]?) : Ob B w' v l := by
  refine ⟨⟨h.1.1, ?_⟩, h.2⟩
  rcases h.1.2 with hn | ⟨g, cap, cur, hv, hbg, h1, h2⟩
  · exact .inl hn
  · subst hv
    exact .inr ⟨g, cap, cur, rfl, hbg, (hg g rfl).trans h1, h2⟩
theorem Ob.blk {B : Nat} {w : World} {v : Value} {l : List Nat} (h : Ob B w v l) {g : Nat} (hg : v.ownBlock = some g) : ∃ cs fr, w.heap[g]? = some (.cells cs 5 fr) := by
  rcases h.1.2 with ⟨rfl, _⟩ | ⟨g', cap, cur, rfl, hbg, h1, h2⟩
  · cases hg
  · have e : g' = g := by simpa [Value.ownBlock] using hg
    subst e
    exact ⟨_, _, h1⟩
theorem perm_lift {α β : Type} {f : α → β} : ∀ (M : List β) (l : List α), (l.map f).Perm M → ∃ l', l.Perm l' ∧ l'.map f = M
  | [], l, h => by
    have : l = [] := by simpa using h.length_eq
    subst this
    exact ⟨[], .nil, rfl⟩
  | b :: t, l, h => by
    obtain ⟨a, ha, rfl⟩ := List.mem_map.1 (h.mem_iff.2 List.mem_cons_self)
    obtain ⟨l1, l2, rfl⟩ := List.append_of_mem ha
    have hp : (l1 ++ a :: l2).Perm (a :: (l1 ++ l2)) := List.perm_middle
    have h2 : ((l1 ++ l2).map f).Perm t := by
      have := (hp.map f).symm.trans h
      exact (List.perm_cons (f a)).1 (by simpa using this)
    obtain ⟨l', h3, h4⟩ := perm_lift t (l1 ++ l2) h2
    exact ⟨a :: l', hp.trans (h3.cons a), by simp [h4]⟩
section
variable {S T : Nat → Prop} {w w' : World} {d m : Nat} {x : Dx} {E E' : List En} {F G : List Fi}
theorem EnS.mono {e : En} (h : EnS S w e) (hs : ∀ k, S k → T k) : EnS T w e := ⟨hs _ h.1, h.2.1, h.2.2.1, fun g hg => hs _ (h.2.2.2.1 g hg), h.2.2.2.2⟩
theorem EnS.keep {e : En} (h : EnS S w e) (hk : ∀ k, S k → w'.heap[k]? = w.heap[k]?) : EnS S w' e :=
  ⟨h.1, (hk _ h.1).trans h.2.1, h.2.2.1.at_same (fun g hg => hk g (h.2.2.2.1 g hg)), h.2.2.2.1, h.2.2.2.2⟩
theorem DkS.perm (h : DkS S w d m x E) (hp : E.Perm E') : DkS S w d m x E' :=
  ⟨h.sd, h.sm, h.blk, h.tab.perm (hp.map _), fun e he => h.ens e (hp.mem_iff.2 he), (hp.map _).nodup_iff.1 h.ps, (hp.pairwise_iff (fun h => h.symm)).1 h.apt⟩
theorem DkS.mono (h : DkS S w d m x E) (hs : ∀ k, S k → T k) : DkS T w d m x E :=
  ⟨hs _ h.sd, hs _ h.sm, h.blk, h.tab, fun e he => (h.ens e he).mono hs, h.ps, h.apt⟩
theorem DkS.keep (h : DkS S w d m x E) (hk : ∀ k, S k → w'.heap[k]? = w.heap[k]?) : DkS S w' d m x E :=
  ⟨h.sd, h.sm, (hk _ h.sd).trans h.blk, h.tab.at (hk _ h.sm), fun e he => (h.ens e he).keep hk, h.ps, h.apt⟩
theorem DkS.lt (h : DkS S w d m x E) : d < w.heap.size := (Array.getElem?_eq_some_iff.1 h.blk).1
theorem DkS.md (h : DkS S w d m x E) : m ≠ d := h.tab.ne h.blk
theorem DkS.names (h : DkS S w d m x E) : (E.map (·.f.1)).Nodup := by
  have := h.tab.nodup
  rw [List.map_map] at this
  exact this
theorem DkS.cell (h : DkS S w d m x E) (o : Nat) (v : Value) (hv : (dkA m x)[o]? = some v) : w.cell? ⟨d, o, none⟩ = some v := cellOf h.blk o v hv
theorem EnS.lt {e : En} (h : EnS S w e) : e.p < w.heap.size := (Array.getElem?_eq_some_iff.1 h.2.1).1
theorem EnS.ne_d {e : En} (h : EnS S w e) (hd : DkS S w d m x E) : e.p ≠ d := by
  rintro rfl
  have := h.2.1.symm.trans hd.blk
  simp [flA, dkA] at this
theorem EnS.ne_m {e : En} (h : EnS S w e) (hd : DkS S w d m x E) : e.p ≠ m := fun e' => hd.tab.ne h.2.1 e'.symm
theorem EnS.g_ne {e : En} (h : EnS S w e) {g : Nat} (hg : e.v.ownBlock = some g) {b : Nat} {cs : Array Value} {t : TypeId} {fr : Nat × Nat} (hb : w.heap[b]? = some (.cells cs t fr)) (ht : t ≠ 5) : g ≠ b := by
  rintro rfl
  obtain ⟨cs', fr', h1⟩ := h.2.2.1.blk hg
  rw [h1] at hb
  simp at hb
  exact ht hb.2.1.symm
theorem EnS.g_m {e : En} (h : EnS S w e) {g : Nat} (hg : e.v.ownBlock = some g) (hd : DkS S w d m x E) : g ≠ m := by
  obtain ⟨cs', fr', h1⟩ := h.2.2.1.blk hg
  exact fun e' => hd.tab.ne h1 e'.symm
theorem Dsk.perm (h : Dsk S w d x F) (hp : F.Perm G) : Dsk S w d x G := by
  obtain ⟨m, E, rfl, h⟩ := h
  obtain ⟨E', h1, h2⟩ := perm_lift G E hp
  exact ⟨m, E', h2, h.perm h1⟩
theorem Dsk.mono (h : Dsk S w d x F) (hs : ∀ k, S k → T k) : Dsk T w d x F := by
  obtain ⟨m, E, h1, h⟩ := h
  exact ⟨m, E, h1, h.mono hs⟩
theorem Dsk.keepB (h : Dsk S w d x F) (hk : ∀ k, S k → w'.heap[k]? = w.heap[k]?) : Dsk S w' d x F := by
  obtain ⟨m, E, h1, h⟩ := h
  exact ⟨m, E, h1, h.keep hk⟩
theorem Dsk.names (h : Dsk S w d x F) : (F.map (·.1)).Nodup := by
  obtain ⟨m, E, rfl, h⟩ := h
  rw [List.map_map]
  exact h.names
/-- a file of that name stands first -/
theorem DkS.front (h : DkS S w d m x E) {k : ByteArray} (hk : k ∈ E.map (·.f.1)) : ∃ e E', E.Perm (e :: E') ∧ e.f.1 = k ∧ DkS S w d m x (e :: E') := by
  obtain ⟨e, he, hk2⟩ := List.mem_map.1 hk
  obtain ⟨l1, l2, rfl⟩ := List.append_of_mem he
  have hp : (l1 ++ e :: l2).Perm (e :: (l1 ++ l2)) := List.perm_middle
  exact ⟨e, l1 ++ l2, hp, hk2, h.perm hp⟩
theorem DkS.frozen (h : DkS S w d m x E) (o : Nat) : w.frozen? ⟨d, o, none⟩ = false := frozen_of h.blk o
/-- one cell of the disk's own is put -/
theorem DkS.setx (h : DkS S w d m x E) (o : Nat) (v : Value) (x' : Dx) (he : (dkA m x).setIfInBounds o v = dkA m x') : DkS S (w.setCell ⟨d, o, none⟩ v) d m x' E := by
  have ho : ∀ k, k ≠ d → (w.setCell ⟨d, o, none⟩ v).heap[k]? = w.heap[k]? := fun k hk => blk_set_other _ _ _ _ hk
  refine ⟨h.sd, h.sm, by rw [blk_set h.blk, he], h.tab.at (ho m h.md), fun e he => ?_, h.ps, h.apt⟩
  have he := h.ens e he
  refine ⟨he.1, (ho _ (he.ne_d h)).trans he.2.1, he.2.2.1.at_same (fun g hg => ho g (he.g_ne hg h.blk (by decide))), he.2.2.2⟩
/-- the first file is turned -/
theorem DkS.setf {e e' : En} (h : DkS S w d m x (e :: E)) (hn : e'.f.1 = e.f.1) (hp : e'.p = e.p) (hST : ∀ k, S k → T k) (hE : EnS T w' e') (hw : Whe w e.v e'.v)
    (hk : ∀ k, k < w.heap.size → k ≠ e.p → e.v.ownBlock ≠ some k → w'.heap[k]? = w.heap[k]?) : DkS T w' d m x (e' :: E) := by
  have h0 := h.ens e List.mem_cons_self
  have hap := List.pairwise_cons.1 h.apt
  have hpp := List.nodup_cons.1 (by simpa using h.ps : (e.p :: E.map (·.p)).Nodup)
  have hg0 : ∀ g, e.v.ownBlock = some g → g ≠ d ∧ g ≠ m := fun g hg => ⟨h0.g_ne hg h.blk (by decide), h0.g_m hg h⟩
  have hd := hk d h.lt (fun e' => h0.ne_d h e'.symm) (fun e' => (hg0 _ e').1 rfl)
  have hm := hk m h.tab.lt (fun e' => h0.ne_m h e'.symm) (fun e' => (hg0 _ e').2 rfl)
  refine ⟨hST _ h.sd, hST _ h.sm, hd.trans h.blk, ?_, fun q hq => ?_, ?_, ?_⟩
  · have := h.tab.at hm
    simpa [hn, hp] using this
  · rcases List.mem_cons.1 hq with rfl | hq
    · exact hE
    · have hq1 := h.ens q (List.mem_cons_of_mem _ hq)
      refine ⟨hST _ hq1.1, (hk _ hq1.lt (fun e' => hpp.1 (e' ▸ List.mem_map_of_mem hq)) (fun e' => h0.g_ne e' hq1.2.1 (by decide) rfl)).trans hq1.2.1, hq1.2.2.1.at_same (fun g hg => hk g (hq1.2.2.1.lt g hg).2 (hq1.g_ne hg h0.2.1 (by decide)) (fun e' => hap.1 q hq g e' hg)), fun g hg => hST _ (hq1.2.2.2.1 g hg), hq1.2.2.2.2⟩
  · have := h.ps
    simpa [hp] using this
  · refine List.pairwise_cons.2 ⟨fun q hq g hg => ?_, hap.2⟩
    have hq1 := h.ens q (List.mem_cons_of_mem _ hq)
    rcases hw g hg with h1 | h1
    · exact hap.1 q hq g h1
    · intro hqg
      have := (hq1.2.2.1.lt g hqg).2
      omega
end
end Go.Proofs.Ytgkdecjlanbmhaa
