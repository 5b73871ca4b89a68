import Derived.Test.YtlpngpininkjnaaGreatDoorHGFieldsZ
import Derived.Test.YtlpngpininkjnaaGreatDoorHKindZ
import Derived.Test.YtlpngpininkjnaaGreatDoorHPackedZ

/- shape: what it answers, told over trees. -/
namespace Go.Proofs.YtlpngpininkjnaaGreatDoor
open Go.RowKit
set_option linter.unusedVariables false
set_option linter.unusedSimpArgs false
theorem t_t (v : V) : v.t.t = v.t := by
  refine V.ind (Q := fun v => v.t.t = v.t) ?_ v
  intro k n s a c e l ih
  have h : V.ts (V.ts l) = V.ts l := by
    rw [V.ts_map, V.ts_map, List.map_map]
    exact List.map_congr_left fun x hx => ih x hx
  rw [V.t_of]
  show (V.of k n s none 0 e (V.ts l)).t = _
  rw [V.t_of, h]
theorem ts_ts (l : List V) : V.ts (V.ts l) = V.ts l := by
  rw [V.ts_map, V.ts_map, List.map_map]
  exact List.map_congr_left fun x _ => t_t x
def nul : T := leaf 0 0 ⟨#[]⟩
theorem leaf_t (k n : Int) (s : ByteArray) : (leaf k n s).t = leaf k n s := by
  unfold leaf; rw [V.t_of]; rfl
theorem k_t (v : V) : v.t.k = v.k := by obtain ⟨k, n, s, a, c, e, l, rfl⟩ := V.ex v; rw [V.t_of]; rfl
theorem n_t (v : V) : v.t.n = v.n := by obtain ⟨k, n, s, a, c, e, l, rfl⟩ := V.ex v; rw [V.t_of]; rfl
theorem s_t (v : V) : v.t.s = v.s := by obtain ⟨k, n, s, a, c, e, l, rfl⟩ := V.ex v; rw [V.t_of]; rfl
theorem e_t (v : V) : v.t.e = v.e := by obtain ⟨k, n, s, a, c, e, l, rfl⟩ := V.ex v; rw [V.t_of]; rfl
theorem l_t (v : V) : v.t.l = V.ts v.l := by
  obtain ⟨k, n, s, a, c, e, l, rfl⟩ := V.ex v
  rw [V.t_of, V.l_of]
  exact V.l_of _ _ _ _ _ _ _
theorem kindV_t (v : V) : kindV v.t.k v.t.l = kindV v.k v.l := by
  rw [k_t, l_t]
  match v.l with
  | [] => rfl
  | [x] => rfl
  | [x, y] =>
    show (if v.k = 24 then kindL x.t.t krows else none) = (if v.k = 24 then kindL x.t krows else none)
    rw [t_t]
  | x :: y :: z :: l => rfl
/-- what a field is in a record where x stands in a list; re: what becomes of a composite -/
def fillT (re : T → T × Int) (f : FS) (x : T) : T × Int :=
  if x.k = 0 then (if f.must = true then (nul, 72) else (f.d, 0))
  else if f.ty = 100 then (x, 0)
  else if f.ty = 101 then (if x.k = 20 then (T.of 23 0 ⟨#[]⟩ 20 [x], 0) else if x.k = 23 ∧ x.e = 20 then (x, 0) else (nul, 73))
  else if f.ty = 102 then (match kindV x.k x.l with
    | some k => if f.ks.contains k = true then re x else (nul, 73)
    | none => (nul, 73))
  else if x.k = f.ty then (x, 0) else (nul, 73)
def fillsT (re : T → T × Int) (fs : List FS) (th : List T) : List (T × Int) := fs.mapIdx fun i f => fillT re f ((th[i]?).getD nul)
def badAt (rs : List (T × Int)) : Option Nat := rs.findIdx? fun r => r.2 != 0
/-- the outcome of fields that are made one by one -/
def rowT (k : Int) (rs : List (T × Int)) : (Int × List T) × Int × Int := match badAt rs with
  | some i => ((0, []), (i : Int), ((rs[i]?).getD (nul, 0)).2)
  | none => ((k, rs.map Prod.fst), 0, 0)
def unpT (re : T → T × Int) (x : T) : (Int × List T) × Int × Int := match kindV x.k x.l with
  | none => ((0, []), 0, 70)
  | some k => match ftab k with
    | none => ((0, []), 0, 70)
    | some fs => if ((x.l[1]?).getD nul).k ≠ 21 then ((0, []), 0, 70)
      else if fs.length < ((x.l[1]?).getD nul).l.length then ((0, []), (fs.length : Int), 71)
      else rowT k (fillsT re fs ((x.l[1]?).getD nul).l)
def dsOf (k : Int) : List V := ((ftab k).getD []).map FS.d
def laidT (k : Int) (l : List T) : T := T.of 24 0 ⟨#[]⟩ 0 [leaf 5 k ⟨#[]⟩, T.of 21 0 ⟨#[]⟩ 0 ((outs l (dsOf k)).take (saidN l (dsOf k) l.length))]
/-- what Pack makes of what Unpack makes, so many composites deep -/
def repT : Nat → T → T × Int
  | 0, _ => (nul, 0)
  | n + 1, x => if (unpT (repT n) x).2.2 ≠ 0 then (nul, (unpT (repT n) x).2.2) else (laidT (unpT (repT n) x).1.1 (unpT (repT n) x).1.2, 0)
/-- a value that comes out with a number -/
def ValPost (n₀ : Nat) (r : T × Int) (w : World) (e : Ending) (w' : World) : Prop := ∃ y : V, e = VN y r.2 ∧ Hid (y.t = r.1 ∧ LiesIn (fun q => q < n₀ ∨ (w.heap.size ≤ q ∧ q < w'.heap.size)) w' y) ∧ Below w.heap.size w w'
def RepOk (re : T → T × Int) (v : V) : Prop := ∀ n₀ w, n₀ ≤ w.heap.size → Lies n₀ w v → Calls Tryz.prog 78 #[v.val] w (ValPost n₀ (re v.t) w)
theorem Lies.wide {n₀ lo hi : Nat} {W : World} {v : V} (h : Lies n₀ W v) : LiesIn (fun q => q < n₀ ∨ (lo ≤ q ∧ q < hi)) W v := LiesIn.keep h (fun _ _ _ => rfl) (fun _ h => .inl h)
theorem LiesIn.wider {n₀ lo lo' hi hi' : Nat} {W w : World} {v : V} (h : LiesIn (fun q => q < n₀ ∨ (lo' ≤ q ∧ q < hi')) W v) (hs : ∀ b, (b < n₀ ∨ (lo' ≤ b ∧ b < hi')) → Same W w b) (h1 : lo ≤ lo') (h2 : hi' ≤ hi) : LiesIn (fun q => q < n₀ ∨ (lo ≤ q ∧ q < hi)) w v :=
  LiesIn.keep h hs (fun b hb => by
    rcases hb with hb | hb
    · exact .inl hb
    · exact .inr ⟨by omega, by omega⟩)
/-- how deep -/
def mxn : List Nat → Nat
  | [] => 0
  | x :: l => max x (mxn l)
def T.dp : T → Nat := V.fold (fun _ ds => mxn ds + 1) 0
theorem dp_of (k n : Int) (s : ByteArray) (a : Option Addr) (c : Nat) (e : Int) (l : List V) : T.dp (V.of k n s a c e l) = mxn (l.map T.dp) + 1 := by
  unfold T.dp
  rw [V.fold_of]
theorem dp_t (v : V) : T.dp v.t = T.dp v := by
  refine V.ind (Q := fun v => T.dp v.t = T.dp v) ?_ v
  intro k n s a c e l ih
  rw [V.t_of]
  show T.dp (V.of k n s none 0 e (V.ts l)) = _
  rw [dp_of, dp_of, V.ts_map, List.map_map]
  congr 2
  exact List.map_congr_left fun x hx => ih x hx
theorem mxn_mem {x : Nat} {l : List Nat} (h : x ∈ l) : x ≤ mxn l := by
  induction l with
  | nil => cases h
  | cons y l ih =>
    rw [mxn]
    rcases List.mem_cons.1 h with rfl | h
    · omega
    · have := ih h; omega
theorem mxn_le {l : List Nat} {m : Nat} (h : ∀ x ∈ l, x ≤ m) : mxn l ≤ m := by
  induction l with
  | nil => exact Nat.zero_le _
  | cons y l ih =>
    rw [mxn]
    have := h y (by simp)
    have := ih (fun x hx => h x (by simp [hx]))
    omega
theorem dp_sub {k n : Int} {s : ByteArray} {a : Option Addr} {c : Nat} {e : Int} {l : List V} {x : V} (h : x ∈ l) : T.dp x < T.dp (V.of k n s a c e l) := by
  rw [dp_of]
  have := mxn_mem (List.mem_map.2 ⟨x, h, rfl⟩ : T.dp x ∈ l.map T.dp)
  omega
theorem nul_t : nul.t = nul := leaf_t _ _ _
theorem fs_d_t (f : FS) : f.d.t = f.d := leaf_t _ _ _
end Go.Proofs.YtlpngpininkjnaaGreatDoor


/- shape: the readers of fields. -/
namespace Go.Proofs.YtlpngpininkjnaaGreatDoor
open Go.RowKit
set_option linter.unusedVariables false
set_option linter.unusedSimpArgs false
theorem Ints.cell {w : World} {b : Nat} {l : List Int} (h : Ints w b l) (i : Nat) (hi : i < l.length) : w.cell? ⟨b, i, none⟩ = some (.int .i64 l[i]) := by
  unfold Ints at h
  unfold World.cell?
  simp only [h]
  simp [hi]
set_option maxRecDepth 100000 in
set_option maxHeartbeats 2000000 in
theorem index_any (l : List Int) (hl : l.length ≤ 1000) (a : Option Addr) (k : Int) (w : World) (hi : 0 < l.length → ∃ b, a = some ⟨b, 0, none⟩ ∧ b < w.heap.size ∧ Ints w b l) :
    Calls Tryz.prog 87 #[.slice a l.length l.length, .int .i64 k] w fun e w' => (∃ i : Int, e = .returned (.int .i64 i) ∧ (0 ≤ i ↔ l.contains k = true) ∧ -1 ≤ i ∧ i ≤ 1000) ∧ Below w.heap.size w w' := by
  have HI := hide hi
  clear hi
  go_enter Tryz.func87, Tryz.ntmps87
  go_wp2
  go_loopw [8] (fun u wr => ∃ i : Nat, u = .int .i64 i ∧ i ≤ l.length ∧ Below w.heap.size w wr ∧ Hid (∀ j (h : j < l.length), j < i → l[j] ≠ k)) (fun u _ => l.length + 1 - (intOf u).toNat)
  case atStart => exact ⟨0, rfl, by omega, Below.refl _ _, fun j _ h => absurd h (by omega)⟩
  case round =>
    obtain ⟨i, rfl, hi, hb, HN⟩ := hrel
    have hsz := hb.size
    by_cases hil : i < l.length
    · obtain ⟨b, rfl, hbl, hin⟩ := HI.out (by omega)
      have hcell := (show Ints wr b l from (hb.block b hbl).trans hin).cell i hil
      have hbw : b < wr.heap.size := by omega
      clear hin
      by_cases hk : l[i] = k
      · rw [hk] at hcell
        have HC : Hid (l.contains k = true) := List.contains_iff_mem.2 (hk ▸ List.getElem_mem hil)
        clear hk HN
        have hkb : (k == k) = true := by simp
        go_wp2
        exact bodyPost_ret (v := .int .i64 i) (by simp [results, Tryz.results87, go_sem]) rfl ⟨⟨i, rfl, ⟨fun _ => HC.out, fun _ => by omega⟩, by omega, by omega⟩, hb⟩
      · generalize hx : l[i] = x at hcell hk
        have hkb : (k == x) = false := by rw [beq_eq_false_iff_ne]; exact fun h => hk h.symm
        have hkx : ¬ k = x := fun h => hk h.symm
        have HNX : Hid (∀ j (h : j < l.length), j < i + 1 → l[j] ≠ k) := by
          intro j h hlt
          by_cases e : j = i
          · subst e; rw [hx]; exact hk
          · exact HN.out j h (by omega)
        clear hx HN
        go_wp2
        go_roundw
        case rel => exact ⟨i + 1, by go_num, by omega, hb, HNX⟩
        case measure => simp [intOf]; omega
    · have hie : i = l.length := by omega
      subst hie
      have HC : Hid (l.contains k = false) := by
        rw [Hid, Bool.eq_false_iff]
        intro h
        obtain ⟨j, hj, e⟩ := List.mem_iff_getElem.1 (List.contains_iff_mem.1 h)
        exact HN.out j hj hj e
      clear HN
      go_wp2
      exact bodyPost_ret (v := .int .i64 (-1)) (by simp [results, Tryz.results87, go_sem]) rfl ⟨⟨-1, rfl, ⟨fun h => absurd h (by omega), fun h => by rw [HC.out] at h; cases h⟩, by omega, by omega⟩, hb⟩
set_option maxRecDepth 100000 in
set_option maxHeartbeats 2000000 in
theorem contains_any (l : List Int) (hl : l.length ≤ 1000) (a : Option Addr) (k : Int) (w : World) (hi : 0 < l.length → ∃ b, a = some ⟨b, 0, none⟩ ∧ b < w.heap.size ∧ Ints w b l) :
    Calls Tryz.prog 77 #[.slice a l.length l.length, .int .i64 k] w fun e w' => e = .returned (.bool (l.contains k)) ∧ Below w.heap.size w w' := by
  have HI := hide (index_any l hl a k w hi)
  clear hi
  go_enter Tryz.func77, Tryz.ntmps77
  go_wp2_with fail
  refine HI.out.mono ?_
  rintro e1 w1 ⟨⟨i, rfl, hiff, h1, h2⟩, hb⟩
  have hd : decide (0 ≤ i) = l.contains k := by
    by_cases h : 0 ≤ i
    · rw [decide_eq_true h, hiff.1 h]
    · rw [decide_eq_false h]
      cases hc : l.contains k
      · rfl
      · exact absurd (hiff.2 hc) h
  have HD := hide hd
  clear hd hiff
  go_wp2
  exact bodyPost_ret (v := .bool (decide (0 ≤ i))) (by simp [results, Tryz.results77, go_sem]) rfl ⟨by rw [HD.out], hb⟩
set_option maxRecDepth 100000 in
set_option maxHeartbeats 2000000 in
theorem reader_hund (f : Fd) (h0 : f.ty = 100) (w : World) : Calls Tryz.prog 65 #[f.val] w fun e w' => e = .returned (.func (.func 74) #[] #[]) ∧ Below w.heap.size w w' := by
  rw [Fd.val_eq, h0]
  go_enter Tryz.func65, Tryz.ntmps65
  go_wp2
  go_ret
  exact ⟨rfl, bel1 (Below.refl _ _) (Nat.le_refl _) _⟩
set_option maxRecDepth 100000 in
set_option maxHeartbeats 2000000 in
theorem reader_syms (f : Fd) (h0 : f.ty = 101) (w : World) : Calls Tryz.prog 65 #[f.val] w fun e w' => e = .returned (.func (.func 75) #[] #[]) ∧ Below w.heap.size w w' := by
  rw [Fd.val_eq, h0]
  go_enter Tryz.func65, Tryz.ntmps65
  go_wp2
  go_ret
  exact ⟨rfl, bel1 (Below.refl _ _) (Nat.le_refl _) _⟩
set_option maxRecDepth 100000 in
set_option maxHeartbeats 2000000 in
theorem reader_comp (f : Fd) (h0 : f.ty = 102) (w : World) : Calls Tryz.prog 65 #[f.val] w fun e w' => e = .returned (.func (.func 76) #[] #[.pointer (some ⟨w.heap.size, 0, none⟩)]) ∧ Below w.heap.size w w' ∧
    w'.cell? ⟨w.heap.size, 2, none⟩ = some (.slice f.ka f.kl f.kc) := by
  rw [Fd.val_eq, h0]
  go_enter Tryz.func65, Tryz.ntmps65
  go_wp2
  go_ret
  refine ⟨rfl, bel1 (Below.refl _ _) (Nat.le_refl _) _, ?_⟩
  unfold World.cell?
  simp only [World.alloc_heap_new]
  rfl
set_option maxRecDepth 100000 in
set_option maxHeartbeats 2000000 in
theorem reader1_any (v : V) (w : World) : Calls Tryz.prog 74 #[v.val] w fun e w' => e = VN v 0 ∧ Below w.heap.size w w' := by
  rw [V.val_eq]
  go_enter Tryz.func74, Tryz.ntmps74
  go_wp2
  exact bodyPost_ret (v := .tuple #[.agg #[.int .i64 v.k, .int .u64 v.n, .string v.s, .slice v.a v.l.length v.c, .int .i64 v.e], .int .i64 0]) (by simp [results, Tryz.results74, go_sem]) rfl ⟨rfl, bel2 (Below.refl _ _) (Nat.le_refl _) _ _⟩
set_option maxRecDepth 100000 in
set_option maxHeartbeats 2000000 in
theorem reader3_bad (P : Nat) (ty : Int) (v : V) (w : World) (hP : P < w.heap.size) (hc : w.cell? ⟨P, 1, none⟩ = some (.int .i64 ty)) (hy : v.k ≠ ty) : Calls Tryz.prog 79 #[v.val, .pointer (some ⟨P, 0, none⟩)] w fun e w' => e = VN nul 73 ∧ Below w.heap.size w w' := by
  have hc1 : (((w.alloc (Obj.cells #[.int .i64 v.k, .int .u64 v.n, .string v.s, .slice v.a v.l.length v.c, .int .i64 v.e] 30)).alloc (Obj.cells #[.int .i64 0, .int .u64 0, .string ⟨#[]⟩, .slice none 0 0, .int .i64 0] 30))).cell? ⟨P, 1, none⟩ = some (.int .i64 ty) := by
    rw [← hc]
    exact (bel2 (Below.refl _ _) (Nat.le_refl _) _ _).cell (p := ⟨P, 1, none⟩) hP
  rw [V.val_eq]
  have hyb : (v.k == ty) = false := by simpa using hy
  have hyn : (v.k != ty) = true := by simpa using hy
  go_enter Tryz.func79, Tryz.ntmps79
  go_wp2
  exact bodyPost_ret (v := .tuple #[.agg #[.int .i64 0, .int .u64 0, .string ⟨#[]⟩, .slice none 0 0, .int .i64 0], .int .i64 73]) (by simp [results, Tryz.results79, go_sem]) rfl ⟨rfl, bel2 (Below.refl _ _) (Nat.le_refl _) _ _⟩
end Go.Proofs.YtlpngpininkjnaaGreatDoor


/- shape: symbols, and the reader of composites. -/
namespace Go.Proofs.YtlpngpininkjnaaGreatDoor
open Go.RowKit
set_option linter.unusedVariables false
set_option linter.unusedSimpArgs false
def symT (x : T) : T × Int := if x.k = 20 then (T.of 23 0 ⟨#[]⟩ 20 [x], 0) else if x.k = 23 ∧ x.e = 20 then (x, 0) else (nul, 73)
def compT (re : T → T × Int) (ks : List Int) (x : T) : T × Int := match kindV x.k x.l with
  | some k => if ks.contains k = true then re x else (nul, 73)
  | none => (nul, 73)
theorem VN_nul (n : Int) : VN nul n = .returned (.tuple #[.agg #[.int .i64 0, .int .u64 0, .string ⟨#[]⟩, .slice none 0 0, .int .i64 0], .int .i64 n]) := rfl
theorem nul_lies (n₀ : Nat) (w : World) : Lies n₀ w nul := leaf_lies _ _ _ _ _ (by decide) (by decide) (by decide)
theorem valpost_nul {n₀ : Nat} {w w' : World} {n : Int} (hb : Below w.heap.size w w') : ValPost n₀ (nul, n) w (VN nul n) w' := ⟨nul, rfl, ⟨nul_t, (nul_lies _ _).wide⟩, hb⟩
theorem valpost_self {n₀ : Nat} {w w' : World} {v : V} (hl : Lies n₀ w v) (hn : n₀ ≤ w.heap.size) (hb : Below w.heap.size w w') : ValPost n₀ (v.t, 0) w (VN v 0) w' := ⟨v, rfl, ⟨rfl, (hl.keep hb hn).wide⟩, hb⟩
set_option maxRecDepth 100000 in
set_option maxHeartbeats 2000000 in
theorem symbols_any (v : V) (n₀ : Nat) (w : World) (hn : n₀ ≤ w.heap.size) (hl : Lies n₀ w v) : Calls Tryz.prog 75 #[v.val] w (ValPost n₀ (symT v.t) w) := by
  have HL := hide hl
  unfold symT
  rw [k_t, e_t]
  clear hl
  by_cases h20 : v.k = 20
  · rw [if_pos h20]
    obtain ⟨W2, hW2⟩ : ∃ W2, ((w.alloc (Obj.cells #[.int .i64 v.k, .int .u64 v.n, .string v.s, .slice v.a v.l.length v.c, .int .i64 v.e] 30)).alloc (Obj.cells #[.int .i64 23, .int .u64 0, .string ⟨#[]⟩, .slice (some ⟨w.heap.size + 1 + 1, 0, none⟩) 1 1, .int .i64 20] 30)).alloc (Obj.cells #[.int .i64 v.k, .int .u64 v.n, .string v.s, .slice v.a v.l.length v.c, .int .i64 v.e] 30) = W2 := ⟨_, rfl⟩
    have hs2 : W2.heap.size = w.heap.size + 3 := by rw [← hW2]; simp
    have hb2 : Below w.heap.size w W2 := by rw [← hW2]; exact bel1 (bel2 (Below.refl _ _) (Nat.le_refl _) _ _) (by simp; omega) _
    have xv : BoxV W2 (w.heap.size + 1 + 1) v := by rw [← hW2]; exact heap_at2 _ _ _ _
    have xz : W2.heap[w.heap.size + 1]? = some (.cells #[.int .i64 23, .int .u64 0, .string ⟨#[]⟩, .slice (some ⟨w.heap.size + 1 + 1, 0, none⟩) 1 1, .int .i64 20] 30 (0, 0)) := by rw [← hW2]; exact heap_past (heap_at1 _ _ _) _
    have z0 : W2.cell? ⟨w.heap.size + 1, 0, none⟩ = some (.int .i64 23) := by unfold World.cell?; simp only [xz]; rfl
    have z1 : W2.cell? ⟨w.heap.size + 1, 1, none⟩ = some (.int .u64 0) := by unfold World.cell?; simp only [xz]; rfl
    have z2 : W2.cell? ⟨w.heap.size + 1, 2, none⟩ = some (.string ⟨#[]⟩) := by unfold World.cell?; simp only [xz]; rfl
    have z3 : W2.cell? ⟨w.heap.size + 1, 3, none⟩ = some (.slice (some ⟨w.heap.size + 1 + 1, 0, none⟩) 1 1) := by unfold World.cell?; simp only [xz]; rfl
    have z4 : W2.cell? ⟨w.heap.size + 1, 4, none⟩ = some (.int .i64 20) := by unfold World.cell?; simp only [xz]; rfl
    obtain ⟨y, hy⟩ : ∃ y, V.of 23 0 ⟨#[]⟩ (some ⟨w.heap.size + 1 + 1, 0, none⟩) 1 20 [v] = y := ⟨_, rfl⟩
    have hyt : y.t = T.of 23 0 ⟨#[]⟩ 20 [v.t] := by rw [← hy, V.t_of]; rfl
    have hyl : LiesIn (fun q => q < n₀ ∨ (w.heap.size ≤ q ∧ q < W2.heap.size)) W2 y := by
      have hvl : LiesIn (fun q => q < n₀ ∨ (w.heap.size ≤ q ∧ q < W2.heap.size)) W2 v := (HL.out.keep hb2 hn).wide
      rw [← hy]
      refine .mk ⟨by decide, by decide, by decide, by decide, by simp, by simp⟩ (fun _ => ⟨_, _, rfl, .inr ⟨by omega, by omega⟩, ?_⟩) (fun x hx => ?_)
      · intro i hi
        have h1 : i < 1 := hi
        obtain rfl : i = 0 := by omega
        obtain ⟨c0, c1, c2, c3, c4⟩ := xv.cells
        simp only [Nat.zero_mul, Nat.add_zero, Nat.zero_add]
        exact ⟨c0, c1, c2, c3, c4⟩
      · rw [List.mem_singleton] at hx
        subst hx
        exact hvl
    have hyn : VN y 0 = .returned (.tuple #[.agg #[.int .i64 23, .int .u64 0, .string ⟨#[]⟩, .slice (some ⟨w.heap.size + 1 + 1, 0, none⟩) 1 1, .int .i64 20], .int .i64 0]) := by
      unfold VN
      rw [← hy, V.l_of]
      rfl
    have HW2 := hide hW2
    have HYL := hide hyl
    have HYT := hide hyt
    have HYN := hide hyn
    clear hW2 hyl hyt hyn xz hy
    rw [V.val_eq]
    rw [h20] at HW2 ⊢
    go_enter Tryz.func75, Tryz.ntmps75
    go_wp2
    rw [HW2.out]
    exact bodyPost_ret (v := .tuple #[.agg #[.int .i64 23, .int .u64 0, .string ⟨#[]⟩, .slice (some ⟨w.heap.size + 1 + 1, 0, none⟩) 1 1, .int .i64 20], .int .i64 0]) (by simp [results, Tryz.results75, go_sem, z0, z1, z2, z3, z4]) rfl ⟨y, HYN.out.symm, ⟨HYT.out, HYL.out⟩, hb2⟩
  · rw [if_neg h20]
    have hk20 : (v.k == 20) = false := by simpa using h20
    by_cases h23 : v.k = 23
    · by_cases he : v.e = 20
      · rw [if_pos ⟨h23, he⟩]
        rw [V.val_eq]
        have hend : ∀ w', Below w.heap.size w w' → ValPost n₀ (v.t, 0) w (VN v 0) w' := fun w' hb => valpost_self HL.out hn hb
        have HE := hide hend
        unfold VN at HE
        rw [h23, he] at HE ⊢
        clear hend
        go_enter Tryz.func75, Tryz.ntmps75
        go_wp2
        refine bodyPost_ret (v := .tuple #[.agg #[.int .i64 23, .int .u64 v.n, .string v.s, .slice v.a v.l.length v.c, .int .i64 20], .int .i64 0]) (by simp [results, Tryz.results75, go_sem]) rfl (HE.out _ ?_)
        exact bel2 (Below.refl _ _) (Nat.le_refl _) _ _
      · rw [if_neg (fun h => he h.2)]
        rw [V.val_eq, h23]
        have hke : (v.e == 20) = false := by simpa using he
        go_enter Tryz.func75, Tryz.ntmps75
        go_wp2
        exact bodyPost_ret (v := .tuple #[.agg #[.int .i64 0, .int .u64 0, .string ⟨#[]⟩, .slice none 0 0, .int .i64 0], .int .i64 73]) (by simp [results, Tryz.results75, go_sem]) rfl (valpost_nul (bel2 (Below.refl _ _) (Nat.le_refl _) _ _))
    · rw [if_neg (fun h => h23 h.1)]
      rw [V.val_eq]
      have hk23 : (v.k == 23) = false := by simpa using h23
      go_enter Tryz.func75, Tryz.ntmps75
      go_wp2
      exact bodyPost_ret (v := .tuple #[.agg #[.int .i64 0, .int .u64 0, .string ⟨#[]⟩, .slice none 0 0, .int .i64 0], .int .i64 73]) (by simp [results, Tryz.results75, go_sem]) rfl (valpost_nul (bel2 (Below.refl _ _) (Nat.le_refl _) _ _))
set_option maxRecDepth 100000 in
set_option maxHeartbeats 2000000 in
theorem reader2_any (re : T → T × Int) (ks : List Int) (hks : ks.length ≤ 1000) (P : Nat) (ka : Option Addr) (v : V) (hre : RepOk re v) (n₀ : Nat) (w : World) (hn : n₀ ≤ w.heap.size) (hl : Lies n₀ w v) (hP : P < w.heap.size) (hc : w.cell? ⟨P, 2, none⟩ = some (.slice ka ks.length ks.length))
    (hka : 0 < ks.length → ∃ b, ka = some ⟨b, 0, none⟩ ∧ b < w.heap.size ∧ Ints w b ks) :
    Calls Tryz.prog 76 #[v.val, .pointer (some ⟨P, 0, none⟩)] w (ValPost n₀ (compT re ks v.t) w) := by
  generalize hR : compT re ks v.t = R
  unfold compT at hR
  rw [kindV_t] at hR
  obtain ⟨W0, hW0⟩ : ∃ W0, (w.alloc (Obj.cells #[.int .i64 v.k, .int .u64 v.n, .string v.s, .slice v.a v.l.length v.c, .int .i64 v.e] 30)).alloc (Obj.cells #[.int .i64 0, .int .u64 0, .string ⟨#[]⟩, .slice none 0 0, .int .i64 0] 30) = W0 := ⟨_, rfl⟩
  have hs0 : W0.heap.size = w.heap.size + 2 := by rw [← hW0]; simp
  have hb0 : Below w.heap.size w W0 := by rw [← hW0]; exact bel2 (Below.refl _ _) (Nat.le_refl _) _ _
  have xv : BoxV W0 w.heap.size v := by rw [← hW0]; exact heap_past (World.alloc_heap_new _ _) _
  have xz : BoxV W0 (w.heap.size + 1) nul := by rw [← hW0]; exact heap_at1 _ _ _
  have HK := hide (kind_any v n₀ W0 (by omega) (hl.keep hb0 hn))
  unfold KindPost at HK
  generalize kindV v.k v.l = o at HK hR
  have HRR := hide hR
  clear hR
  have HL := hide hl
  have HRE := hide hre
  have HC : Hid (∀ W', Below w.heap.size w W' → W'.cell? ⟨P, 2, none⟩ = some (.slice ka ks.length ks.length)) := fun W' hb => (hb.cell (p := ⟨P, 2, none⟩) hP).trans hc
  have HKA : Hid (∀ W', Below w.heap.size w W' → 0 < ks.length → ∃ b, ka = some ⟨b, 0, none⟩ ∧ b < W'.heap.size ∧ Ints W' b ks) := fun W' hb h0 => by
    obtain ⟨b, e, h1, h2⟩ := hka h0
    exact ⟨b, e, by have := hb.size; omega, (hb.block b h1).trans h2⟩
  have HW0 := hide hW0
  clear hW0 hl hre hc hka
  rw [V.val_eq] at HK ⊢
  go_enter Tryz.func76, Tryz.ntmps76
  go_wp2_with fail
  rw [HW0.out]
  clear HW0
  refine HK.out.mono ?_
  rintro e1 w1 ⟨rfl, hb1⟩
  have hs1 := hb1.size
  have hbw1 : Below w.heap.size w w1 := belOn hb0 (by omega) hb1
  have bad : ∀ w2, Below W0.heap.size W0 w2 → ValPost n₀ (nul, 73) w (.returned (.tuple #[.agg #[.int .i64 0, .int .u64 0, .string ⟨#[]⟩, .slice none 0 0, .int .i64 0], .int .i64 73])) (put5 w2 (w.heap.size + 1) 0 nul) := fun w2 h2 => by
    rw [← VN_nul]
    exact valpost_nul (put5_below (belOn hb0 (by omega) h2) (by omega))
  have BAD := hide bad
  simp only [← put5_eq] at BAD
  clear bad
  cases o with
  | none =>
    have xz1 := xz.below hb1 (by omega)
    obtain ⟨z0, z1, z2, z3, z4⟩ := xz1.cells
    have fz := (show Blk w1 (w.heap.size + 1) 30 5 from ⟨_, xz1, rfl⟩).free
    have hz1 : w.heap.size + 1 < w1.heap.size := by omega
    clear xz1
    simp only [Option.getD_none, Option.isSome_none]
    go_wp2
    exact bodyPost_ret (v := .tuple #[.agg #[.int .i64 0, .int .u64 0, .string ⟨#[]⟩, .slice none 0 0, .int .i64 0], .int .i64 73]) (by simp [results, Tryz.results76, go_sem, z0, z1, z2, z3, z4]) rfl (by rw [← HRR.out]; exact BAD.out _ hb1)
  | some k =>
    simp only [Option.getD_some, Option.isSome_some]
    have HRS : Hid ((if ks.contains k = true then re v.t else (nul, 73)) = R) := HRR.out
    clear HRR
    have hcell := HC.out _ hbw1
    have hPw : P < w1.heap.size := by omega
    have HCON := hide (contains_any ks hks ka k w1 (HKA.out _ hbw1))
    generalize ks.contains k = r at HCON HRS
    go_wp2_with fail
    refine HCON.out.mono ?_
    rintro e2 w2 ⟨rfl, hb2⟩
    have hb02 : Below W0.heap.size W0 w2 := belOn hb1 hs1 hb2
    have hs2 := hb02.size
    cases r
    · have xz1 := xz.below hb02 (by omega)
      obtain ⟨z0, z1, z2, z3, z4⟩ := xz1.cells
      have fz := (show Blk w2 (w.heap.size + 1) 30 5 from ⟨_, xz1, rfl⟩).free
      have hz1 : w.heap.size + 1 < w2.heap.size := by omega
      clear xz1
      go_wp2
      exact bodyPost_ret (v := .tuple #[.agg #[.int .i64 0, .int .u64 0, .string ⟨#[]⟩, .slice none 0 0, .int .i64 0], .int .i64 73]) (by simp [results, Tryz.results76, go_sem, z0, z1, z2, z3, z4]) rfl (by rw [← HRS.out]; exact BAD.out _ hb02)
    · have hbw2 : Below w.heap.size w w2 := belOn hb0 (by omega) hb02
      obtain ⟨v0, v1, v2, v3, v4⟩ := (xv.below hb02 (by omega)).cells
      have hz0 : w.heap.size < w2.heap.size := by omega
      have HR := hide (HRE.out n₀ w2 (by omega) (HL.out.keep hbw2 hn))
      rw [V.val_eq] at HR
      have hrv : re v.t = R := HRS.out
      rw [hrv] at HR
      clear HRS hrv
      go_wp2_with fail
      refine HR.out.mono ?_
      rintro e3 w3 ⟨y, rfl, HY, hb3⟩
      have hb03 : Below W0.heap.size W0 w3 := belOn hb02 hs2 hb3
      have hs3 := hb3.size
      have xz1 := xz.below hb03 (by omega)
      obtain ⟨z0, z1, z2, z3, z4⟩ := xz1.cells
      have fz := (show Blk w3 (w.heap.size + 1) 30 5 from ⟨_, xz1, rfl⟩).free
      have hz1 : w.heap.size + 1 < w3.heap.size := by omega
      have hend : ValPost n₀ R w (VN y R.2) (put5 w3 (w.heap.size + 1) 0 y) := ⟨y, rfl, ⟨HY.out.1, HY.out.2.wider (fun b hb => put5_same _ _ _ _ _ (by omega)) (by omega) (by rw [put5_size]; exact Nat.le_refl _)⟩, put5_below (belOn hb0 (by omega) hb03) (by omega)⟩
      rw [← put5_eq] at hend
      have HEND := hide hend
      unfold VN at HEND ⊢
      clear hend xz1
      go_wp2
      exact bodyPost_ret (v := .tuple #[.agg #[.int .i64 y.k, .int .u64 y.n, .string y.s, .slice y.a y.l.length y.c, .int .i64 y.e], .int .i64 R.2]) (by simp [results, Tryz.results76, go_sem, z0, z1, z2, z3, z4]) rfl HEND.out
end Go.Proofs.YtlpngpininkjnaaGreatDoor


/- the law's other form of a composite: its list. -/
namespace Go.Proofs.YtlpngpininkjnaaGreatDoor
open Go.RowKit
/-- the law's list: defaults written out where a raw list says so -/
def longL (fs : List FS) (ol : List T) (raws : List Bool) : List T := fs.mapIdx fun i f => if (raws[i]?).getD false = true ∧ ((ol[i]?).getD nul).k = 0 then f.d else (ol[i]?).getD nul
end Go.Proofs.YtlpngpininkjnaaGreatDoor
