import Derived.Test.YtdcoafpenkofoaaGreatDoorDTabM9
import Derived.Deep.RegionHeld
import Derived.Deep.RegionHeldLaw

/- Stage 19: a disk as plain data, and how it lies. -/
namespace Go.Proofs.YtdcoafpenkofoaaGreatDoor
open Go.RowKit Go.Maps
set_option linter.unusedVariables false
set_option linter.unusedSimpArgs false
/-- a file: its name, its bytes, how many of them are safe -/
abbrev Fi := ByteArray × List Nat × Nat
/-- where a file lies: its block, its bytes' slice -/
structure En where
  f : Fi
  p : Nat
  v : Value
/-- a disk but for its files -/
structure Dx where
  lk : Int
  room : Int
  used : Int
  down : Bool
  left : Int
  keep : Int
/-- how many bytes all files have -/
def usd (F : List Fi) : Nat := (F.map (·.2.1.length)).sum
def okN (c : Nat) : Bool := decide (c = 46) || (decide (97 ≤ c) && decide (c ≤ 122))
/-- is it a name? -/
def nm (s : ByteArray) : Bool := decide (1 ≤ s.size) && decide (s.size ≤ 16) && (List.range s.size).all fun j => okN (s.get! j).toNat
def dkA (m : Nat) (x : Dx) : Array Value := #[.int .i32 x.lk, .int .u32 0, .map (some m), .int .i64 x.room, .int .i64 x.used, .bool x.down, .int .i64 x.left, .int .i64 x.keep]
def flA (v : Value) (s : Nat) : Array Value := #[v, .int .i64 (s : Int)]
def EnS (S : Nat → Prop) (w : World) (e : En) : Prop :=
  S e.p ∧ w.heap[e.p]? = some (.cells (flA e.v e.f.2.2) 106 (0, 0)) ∧ Ob 0 w e.v e.f.2.1 ∧ (∀ g, e.v.ownBlock = some g → S g) ∧ nm e.f.1 = true
def Apt (a b : En) : Prop := ∀ g, a.v.ownBlock = some g → b.v.ownBlock ≠ some g
theorem Apt.symm {a b : En} (h : Apt a b) : Apt b a := fun g hb ha => h g ha hb
theorem blk_set {w : World} {g : Nat} {cs : Array Value} {t : TypeId} {fr : Nat × Nat} (h : w.heap[g]? = some (.cells cs t fr)) (o : Nat) (v : Value) : (w.setCell ⟨g, o, none⟩ v).heap[g]? = some (.cells (cs.setIfInBounds o v) t fr) := by
  simp [World.setCell, Array.getElem?_modify, h]
theorem frozen_of {w : World} {n : Nat} {cs : Array Value} {t : TypeId} (h : w.heap[n]? = some (.cells cs t (0, 0))) (o : Nat) : w.frozen? ⟨n, o, none⟩ = false := by simp [World.frozen?, h]
/-- a disk, its table at m, its files as they lie -/
structure DkS (S : Nat → Prop) (w : World) (d m : Nat) (x : Dx) (E : List En) : Prop where
  sd : S d
  sm : S m
  blk : w.heap[d]? = some (.cells (dkA m x) 104 (0, 0))
  tab : Tb w m (E.map fun e => (e.f.1, e.p))
  ens : ∀ e ∈ E, EnS S w e
  ps : (E.map (·.p)).Nodup
  apt : E.Pairwise Apt
/-- a disk with these files -/
def Dsk (S : Nat → Prop) (w : World) (d : Nat) (x : Dx) (F : List Fi) : Prop := ∃ m E, E.map En.f = F ∧ DkS S w d m x E
theorem nm_size {s : ByteArray} (h : nm s = true) : s.size ≤ maxLen := by
  simp [nm] at h
  have : maxLen = 9223372036854775807 := rfl
  omega
theorem usd_perm {F G : List Fi} (h : F.Perm G) : usd F = usd G := (h.map _).sum_nat
theorem usd_cons (f : Fi) (F : List Fi) : usd (f :: F) = f.2.1.length + usd F := by simp [usd]
theorem Ob.at_same {B : Nat} {w w' : World} {v : Value} {l : List Nat} (h : Ob B w v l) (hg : ∀ g, v.ownBlock = some g → w'.heap[g]? = w.heap[g]?) : Ob B w' v l := by
  refine ⟨⟨h.1.1, ?_⟩, h.2⟩
  rcases h.1.2 with hn | ⟨g, cap, cur, hv, hbg, h1, h2⟩
  · exact .inl hn
  · subst hv
    exact .inr ⟨g, cap, cur, rfl, hbg, (hg g rfl).trans h1, h2⟩
theorem Ob.blk {B : Nat} {w : World} {v : Value} {l : List Nat} (h : Ob B w v l) {g : Nat} (hg : v.ownBlock = some g) : ∃ cs fr, w.heap[g]? = some (.cells cs 5 fr) := by
  rcases h.1.2 with ⟨rfl, _⟩ | ⟨g', cap, cur, rfl, hbg, h1, h2⟩
  · cases hg
  · have e : g' = g := by simpa [Value.ownBlock] using hg
    subst e
    exact ⟨_, _, h1⟩
theorem perm_lift {α β : Type} {f : α → β} : ∀ (M : List β) (l : List α), (l.map f).Perm M → ∃ l', l.Perm l' ∧ l'.map f = M
  | [], l, h => by
    have : l = [] := by simpa using h.length_eq
    subst this
    exact ⟨[], .nil, rfl⟩
  | b :: t, l, h => by
    obtain ⟨a, ha, rfl⟩ := List.mem_map.1 (h.mem_iff.2 List.mem_cons_self)
    obtain ⟨l1, l2, rfl⟩ := List.append_of_mem ha
    have hp : (l1 ++ a :: l2).Perm (a :: (l1 ++ l2)) := List.perm_middle
    have h2 : ((l1 ++ l2).map f).Perm t := by
      have := (hp.map f).symm.trans h
      exact (List.perm_cons (f a)).1 (by simpa using this)
    obtain ⟨l', h3, h4⟩ := perm_lift t (l1 ++ l2) h2
    exact ⟨a :: l', hp.trans (h3.cons a), by simp [h4]⟩
section
variable {S T : Nat → Prop} {w w' : World} {d m : Nat} {x : Dx} {E E' : List En} {F G : List Fi}
theorem EnS.mono {e : En} (h : EnS S w e) (hs : ∀ k, S k → T k) : EnS T w e := ⟨hs _ h.1, h.2.1, h.2.2.1, fun g hg => hs _ (h.2.2.2.1 g hg), h.2.2.2.2⟩
theorem EnS.keep {e : En} (h : EnS S w e) (hk : ∀ k, S k → w'.heap[k]? = w.heap[k]?) : EnS S w' e :=
  ⟨h.1, (hk _ h.1).trans h.2.1, h.2.2.1.at_same (fun g hg => hk g (h.2.2.2.1 g hg)), h.2.2.2.1, h.2.2.2.2⟩
theorem DkS.perm (h : DkS S w d m x E) (hp : E.Perm E') : DkS S w d m x E' :=
  ⟨h.sd, h.sm, h.blk, h.tab.perm (hp.map _), fun e he => h.ens e (hp.mem_iff.2 he), (hp.map _).nodup_iff.1 h.ps, (hp.pairwise_iff (fun h => h.symm)).1 h.apt⟩
theorem DkS.mono (h : DkS S w d m x E) (hs : ∀ k, S k → T k) : DkS T w d m x E :=
  ⟨hs _ h.sd, hs _ h.sm, h.blk, h.tab, fun e he => (h.ens e he).mono hs, h.ps, h.apt⟩
theorem DkS.keep (h : DkS S w d m x E) (hk : ∀ k, S k → w'.heap[k]? = w.heap[k]?) : DkS S w' d m x E :=
  ⟨h.sd, h.sm, (hk _ h.sd).trans h.blk, h.tab.at (hk _ h.sm), fun e he => (h.ens e he).keep hk, h.ps, h.apt⟩
theorem DkS.lt (h : DkS S w d m x E) : d < w.heap.size := (Array.getElem?_eq_some_iff.1 h.blk).1
theorem DkS.md (h : DkS S w d m x E) : m ≠ d := h.tab.ne h.blk
theorem DkS.names (h : DkS S w d m x E) : (E.map (·.f.1)).Nodup := by
  have := h.tab.nodup
  rw [List.map_map] at this
  exact this
theorem DkS.cell (h : DkS S w d m x E) (o : Nat) (v : Value) (hv : (dkA m x)[o]? = some v) : w.cell? ⟨d, o, none⟩ = some v := cellOf h.blk o v hv
theorem EnS.lt {e : En} (h : EnS S w e) : e.p < w.heap.size := (Array.getElem?_eq_some_iff.1 h.2.1).1
theorem EnS.ne_d {e : En} (h : EnS S w e) (hd : DkS S w d m x E) : e.p ≠ d := by
  rintro rfl
  have := h.2.1.symm.trans hd.blk
  simp [flA, dkA] at this
theorem EnS.ne_m {e : En} (h : EnS S w e) (hd : DkS S w d m x E) : e.p ≠ m := fun e' => hd.tab.ne h.2.1 e'.symm
theorem EnS.g_ne {e : En} (h : EnS S w e) {g : Nat} (hg : e.v.ownBlock = some g) {b : Nat} {cs : Array Value} {t : TypeId} {fr : Nat × Nat} (hb : w.heap[b]? = some (.cells cs t fr)) (ht : t ≠ 5) : g ≠ b := by
  rintro rfl
  obtain ⟨cs', fr', h1⟩ := h.2.2.1.blk hg
  rw [h1] at hb
  simp at hb
  exact ht hb.2.1.symm
theorem EnS.g_m {e : En} (h : EnS S w e) {g : Nat} (hg : e.v.ownBlock = some g) (hd : DkS S w d m x E) : g ≠ m := by
  obtain ⟨cs', fr', h1⟩ := h.2.2.1.blk hg
  exact fun e' => hd.tab.ne h1 e'.symm
theorem Dsk.perm (h : Dsk S w d x F) (hp : F.Perm G) : Dsk S w d x G := by
  obtain ⟨m, E, rfl, h⟩ := h
  obtain ⟨E', h1, h2⟩ := perm_lift G E hp
  exact ⟨m, E', h2, h.perm h1⟩
theorem Dsk.mono (h : Dsk S w d x F) (hs : ∀ k, S k → T k) : Dsk T w d x F := by
  obtain ⟨m, E, h1, h⟩ := h
  exact ⟨m, E, h1, h.mono hs⟩
theorem Dsk.keepB (h : Dsk S w d x F) (hk : ∀ k, S k → w'.heap[k]? = w.heap[k]?) : Dsk S w' d x F := by
  obtain ⟨m, E, h1, h⟩ := h
  exact ⟨m, E, h1, h.keep hk⟩
theorem Dsk.names (h : Dsk S w d x F) : (F.map (·.1)).Nodup := by
  obtain ⟨m, E, rfl, h⟩ := h
  rw [List.map_map]
  exact h.names
/-- a file of that name stands first -/
theorem DkS.front (h : DkS S w d m x E) {k : ByteArray} (hk : k ∈ E.map (·.f.1)) : ∃ e E', E.Perm (e :: E') ∧ e.f.1 = k ∧ DkS S w d m x (e :: E') := by
  obtain ⟨e, he, hk2⟩ := List.mem_map.1 hk
  obtain ⟨l1, l2, rfl⟩ := List.append_of_mem he
  have hp : (l1 ++ e :: l2).Perm (e :: (l1 ++ l2)) := List.perm_middle
  exact ⟨e, l1 ++ l2, hp, hk2, h.perm hp⟩
theorem DkS.frozen (h : DkS S w d m x E) (o : Nat) : w.frozen? ⟨d, o, none⟩ = false := frozen_of h.blk o
/-- one cell of the disk's own is put -/
theorem DkS.setx (h : DkS S w d m x E) (o : Nat) (v : Value) (x' : Dx) (he : (dkA m x).setIfInBounds o v = dkA m x') : DkS S (w.setCell ⟨d, o, none⟩ v) d m x' E := by
  have ho : ∀ k, k ≠ d → (w.setCell ⟨d, o, none⟩ v).heap[k]? = w.heap[k]? := fun k hk => blk_set_other _ _ _ _ hk
  refine ⟨h.sd, h.sm, by rw [blk_set h.blk, he], h.tab.at (ho m h.md), fun e he => ?_, h.ps, h.apt⟩
  have he := h.ens e he
  refine ⟨he.1, (ho _ (he.ne_d h)).trans he.2.1, he.2.2.1.at_same (fun g hg => ho g (he.g_ne hg h.blk (by decide))), he.2.2.2⟩
/-- the first file is turned -/
theorem DkS.setf {e e' : En} (h : DkS S w d m x (e :: E)) (hn : e'.f.1 = e.f.1) (hp : e'.p = e.p) (hST : ∀ k, S k → T k) (hE : EnS T w' e') (hw : Whe w e.v e'.v)
    (hk : ∀ k, k < w.heap.size → k ≠ e.p → e.v.ownBlock ≠ some k → w'.heap[k]? = w.heap[k]?) : DkS T w' d m x (e' :: E) := by
  have h0 := h.ens e List.mem_cons_self
  have hap := List.pairwise_cons.1 h.apt
  have hpp := List.nodup_cons.1 (by simpa using h.ps : (e.p :: E.map (·.p)).Nodup)
  have hg0 : ∀ g, e.v.ownBlock = some g → g ≠ d ∧ g ≠ m := fun g hg => ⟨h0.g_ne hg h.blk (by decide), h0.g_m hg h⟩
  have hd := hk d h.lt (fun e' => h0.ne_d h e'.symm) (fun e' => (hg0 _ e').1 rfl)
  have hm := hk m h.tab.lt (fun e' => h0.ne_m h e'.symm) (fun e' => (hg0 _ e').2 rfl)
  refine ⟨hST _ h.sd, hST _ h.sm, hd.trans h.blk, ?_, fun q hq => ?_, ?_, ?_⟩
  · have := h.tab.at hm
    simpa [hn, hp] using this
  · rcases List.mem_cons.1 hq with rfl | hq
    · exact hE
    · have hq1 := h.ens q (List.mem_cons_of_mem _ hq)
      refine ⟨hST _ hq1.1, (hk _ hq1.lt (fun e' => hpp.1 (e' ▸ List.mem_map_of_mem hq)) (fun e' => h0.g_ne e' hq1.2.1 (by decide) rfl)).trans hq1.2.1, hq1.2.2.1.at_same (fun g hg => hk g (hq1.2.2.1.lt g hg).2 (hq1.g_ne hg h0.2.1 (by decide)) (fun e' => hap.1 q hq g e' hg)), fun g hg => hST _ (hq1.2.2.2.1 g hg), hq1.2.2.2.2⟩
  · have := h.ps
    simpa [hp] using this
  · refine List.pairwise_cons.2 ⟨fun q hq g hg => ?_, hap.2⟩
    have hq1 := h.ens q (List.mem_cons_of_mem _ hq)
    rcases hw g hg with h1 | h1
    · exact hap.1 q hq g h1
    · intro hqg
      have := (hq1.2.2.1.lt g hqg).2
      omega
end
end Go.Proofs.YtdcoafpenkofoaaGreatDoor


/- Stage 19: New, isName, own, hasTail, a file's fall. -/
namespace Go.Proofs.YtdcoafpenkofoaaGreatDoor
open Go.RowKit Go.Maps
set_option linter.unusedVariables false
set_option linter.unusedSimpArgs false
/-- a disk that is new -/
def dx0 (room : Int) : Dx := ⟨0, room, 0, false, -1, 0⟩
set_option maxHeartbeats 1000000 in
theorem new_no (w : World) (r : Int) (h : r < 0 ∨ 16777216 < r) : Calls Tryz.prog 23 #[.int .i64 r] w fun e w' => e = .returned (.pointer none) ∧ Below w.heap.size w w' := by
  by_cases h0 : r < 0
  · go_enter Tryz.func23, Tryz.ntmps23
    go_wp2
    go_ret
    exact ⟨rfl, Below.refl _ _⟩
  · have h1 : 16777216 < r := by omega
    go_enter Tryz.func23, Tryz.ntmps23
    go_wp2
    go_ret
    exact ⟨rfl, Below.refl _ _⟩
set_option maxHeartbeats 1000000 in
theorem new_any (w : World) (r : Int) (h0 : 0 ≤ r) (h1 : r ≤ 16777216) : Calls Tryz.prog 23 #[.int .i64 r] w fun e w' => ∃ d, e = .returned (.pointer (some ⟨d, 0, none⟩)) ∧ Dsk (fun k => w.heap.size ≤ k ∧ k < w'.heap.size) w' d (dx0 r) [] ∧ Below w.heap.size w w' := by
  have hmm := @run_makeMap Tryz.prog
  have h2 : ¬ r < 0 := by omega
  have h3 : ¬ 16777216 < r := by omega
  go_enter Tryz.func23, Tryz.ntmps23
  go_wp2
  go_ret
  refine ⟨_, rfl, ⟨w.heap.size, [], rfl, ⟨by simp, by simp; omega, ?_, (Tb.made w).at (Below.heap_alloc _ _ _ (by simp)), by simp, by simp, by simp⟩⟩, bel1 (bel1 (Below.refl _ _) (Nat.le_refl _) _) (by simp) _⟩
  have := heap_new (w.alloc (.map #[] 0)) (.cells (dkA w.heap.size (dx0 r)) 104)
  simpa [dkA, dx0, usd] using this
theorem nm_true {s : ByteArray} (h1 : 1 ≤ s.size) (h2 : s.size ≤ 16) (h : ∀ j, j < s.size → okN (s.get! j).toNat = true) : nm s = true := by
  simp only [nm, h1, h2, decide_true, Bool.true_and, List.all_eq_true, List.mem_range]
  exact h
theorem nm_false {s : ByteArray} (h : s.size < 1 ∨ 16 < s.size ∨ ∃ j, j < s.size ∧ okN (s.get! j).toNat = false) : nm s = false := by
  rw [← Bool.not_eq_true]
  intro hn
  simp only [nm, Bool.and_eq_true, decide_eq_true_eq, List.all_eq_true, List.mem_range] at hn
  rcases h with h | h | ⟨j, hj, h⟩
  · omega
  · omega
  · rw [hn.2 j hj] at h
    cases h
set_option maxHeartbeats 2000000 in
theorem isName_any (s : ByteArray) (w : World) : Calls Tryz.prog 45 #[.string s] w fun e w' => e = .returned (.bool (nm s)) ∧ w' = w := by
  by_cases h1 : s.size < 1
  · have HN := hide (nm_false (s := s) (.inl h1))
    have h0 : s.size = 0 := by omega
    clear h1
    go_enter Tryz.func45, Tryz.ntmps45
    go_wp2
    go_ret
    exact ⟨by rw [HN.out]; rfl, rfl⟩
  by_cases h2 : 16 < s.size
  · have HN := hide (nm_false (s := s) (.inr (.inl h2)))
    have z1 : ¬ ((s.size : Nat) : Int) < 1 := by omega
    have z2 : (16 : Int) < ((s.size : Nat) : Int) := by omega
    clear h1 h2
    go_enter Tryz.func45, Tryz.ntmps45
    go_wp2
    go_ret
    exact ⟨by rw [HN.out]; rfl, rfl⟩
  have z1 : ¬ ((s.size : Nat) : Int) < 1 := by omega
  have z2 : ¬ (16 : Int) < ((s.size : Nat) : Int) := by omega
  have HY := hide (nm_true (s := s) (by omega) (by omega))
  have HN : Hid (∀ j, j < s.size → okN (s.get! j).toNat = false → nm s = false) := fun j h1 h2 => nm_false (.inr (.inr ⟨j, h1, h2⟩))
  have h3 : s.size ≤ 16 := by omega
  clear h1 h2
  go_enter Tryz.func45, Tryz.ntmps45
  go_wp2
  go_loop [15] (fun vi => ∃ k : Nat, k ≤ s.size ∧ vi = .int .i64 k ∧ Hid (∀ j, j < k → okN (s.get! j).toNat = true)) (fun vi => s.size - (intOf vi).toNat)
  case atStart => exact ⟨0, Nat.zero_le _, rfl, fun j hj => absurd hj (by omega)⟩
  case round =>
    obtain ⟨k, hk, rfl, HK⟩ := hrel
    by_cases hkn : k < s.size
    · have hg := get_at s k hkn
      have hlt : s[k].toNat < 256 := UInt8.toNat_lt _
      rcases (show s[k].toNat = 46 ∨ (s[k].toNat ≠ 46 ∧ s[k].toNat < 97) ∨ (s[k].toNat ≠ 46 ∧ ¬ s[k].toNat < 97 ∧ 122 < s[k].toNat) ∨ (s[k].toNat ≠ 46 ∧ ¬ s[k].toNat < 97 ∧ ¬ 122 < s[k].toNat) by omega) with h5 | ⟨h5, h6⟩ | ⟨h5, h6, h7⟩ | ⟨h5, h6, h7⟩
      · have HB : Hid (okN s[k].toNat = true) := by show okN s[k].toNat = true; rw [h5]; rfl
        go_wp2
        go_round
        case rel => exact ⟨k + 1, by omega, by go_num, fun j hj => by
          by_cases e : j = k
          · subst e; rw [hg]; exact HB.out
          · exact HK.out j (by omega)⟩
        case measure => simp [intOf]; omega
      · have b5 : ¬ ((s[k].toNat : Nat) : Int) = 46 := by omega
        have HB : Hid (okN s[k].toNat = false) := by show okN s[k].toNat = false; unfold okN; simp; omega
        have HF := hide (HN.out k hkn (by rw [hg]; exact HB.out))
        have z6 : ((s[k].toNat : Nat) : Int) < 97 := by omega
        clear h5 h6
        go_wp2
        go_ret
        exact ⟨by rw [HF.out]; rfl, rfl⟩
      · have b5 : ¬ ((s[k].toNat : Nat) : Int) = 46 := by omega
        have HB : Hid (okN s[k].toNat = false) := by show okN s[k].toNat = false; unfold okN; simp; omega
        have HF := hide (HN.out k hkn (by rw [hg]; exact HB.out))
        have z6 : ¬ ((s[k].toNat : Nat) : Int) < 97 := by omega
        have z7 : 122 < ((s[k].toNat : Nat) : Int) := by omega
        clear h5 h6 h7
        go_wp2
        go_ret
        exact ⟨by rw [HF.out]; rfl, rfl⟩
      · have b5 : ¬ ((s[k].toNat : Nat) : Int) = 46 := by omega
        have HB : Hid (okN s[k].toNat = true) := by show okN s[k].toNat = true; unfold okN; simp; omega
        have z6 : ¬ ((s[k].toNat : Nat) : Int) < 97 := by omega
        have z7 : ¬ 122 < ((s[k].toNat : Nat) : Int) := by omega
        clear h5 h6 h7
        go_wp2
        go_round
        case rel => exact ⟨k + 1, by omega, by go_num, fun j hj => by
          by_cases e : j = k
          · subst e; rw [hg]; exact HB.out
          · exact HK.out j (by omega)⟩
        case measure => simp [intOf]; omega
    · go_wp2
      go_ret
      exact ⟨by rw [HY.out (fun j hj => HK.out j (by omega))]; rfl, rfl⟩
set_option maxHeartbeats 1000000 in
theorem own_any (v : Value) (l : List Nat) (w : World) (hr : Rb w v l) (hz : l.length ≤ 140737488355328) : Calls Tryz.prog 76 #[v] w fun e w' => ∃ v', e = .returned v' ∧ Ob w.heap.size w' v' l ∧ Below w.heap.size w w' := by
  have HR := hide hr
  clear hr
  go_enter Tryz.func76, Tryz.ntmps76
  go_wp2_with (at_builtin; go_loud (refine wpList_app _ rfl (.const (.slice none 0 0)) (.tmp 3) rfl w.heap.size _ [] rfl (Ob.nil _ _) _ l rfl HR.out (by simpa using hz) (Nat.le_refl _) ?_; intro v' w3 r1 r2 r3; have HO := hide r1; have HG := hide r2; clear r1 r2 r3))
  go_ret
  exact ⟨_, rfl, by simpa using HO.out, (Below.refl w.heap.size w).trans ⟨HG.out.os, HG.out.tape, HG.out.output, HG.out.size, fun k hk => HG.out.block k hk (fun h => by cases h)⟩⟩
theorem Ob.slice {B : Nat} {w : World} {v : Value} {l : List Nat} (h : Ob B w v l) : ∃ a c, v = .slice a l.length c ∧ l.length ≤ c := by
  obtain ⟨a, c, e, _, h2, _⟩ := h.rb
  exact ⟨a, c, e, h2⟩
set_option maxHeartbeats 1000000 in
theorem hasTail_any (p : Nat) (v : Value) (l : List Nat) (s : Nat) (w : World) (hb : w.heap[p]? = some (.cells (flA v s) 106 (0, 0))) (ho : Ob 0 w v l) : Calls Tryz.prog 160 #[pV p] w fun e w' => e = .returned (.bool (decide (s < l.length))) ∧ Below w.heap.size w w' := by
  obtain ⟨a, c, rfl, hc⟩ := ho.slice
  have c0 : w.cell? ⟨p, 0, none⟩ = some (.slice a l.length c) := cellOf hb 0 _ rfl
  have c1 : w.cell? ⟨p, 1, none⟩ = some (.int .i64 (s : Int)) := cellOf hb 1 _ rfl
  clear hb ho
  unfold pV
  go_enter Tryz.func160, Tryz.ntmps160
  go_wp2_with fail
  go_region_held (fun W => W.cell? ⟨p, 0, none⟩ = some (.slice a l.length c) ∧ W.cell? ⟨p, 1, none⟩ = some (.int .i64 (s : Int))) (exact ⟨c0, c1⟩) (fail)
  go_wp2
  go_ret
  exact ⟨by simp, by first | exact Below.refl _ _ | exact Below.drew (Below.refl _ _)⟩
/-- what stays of a file: how many bytes -/
def stay (n s : Nat) (keep : Int) : Nat := s + min keep.toNat (n - s)
end Go.Proofs.YtdcoafpenkofoaaGreatDoor
