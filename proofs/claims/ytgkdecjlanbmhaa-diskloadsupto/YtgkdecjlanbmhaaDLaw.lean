
/- Stage 19: the calls of a disk that a law has made; the law's own functions. -/
import Derived.Test.YtgkdecjlanbmhaaDMath
import Derived.Test.YtgkdecjlanbmhaaDFil
import Derived.Laws.IdiomStrings
import Derived.Lib.AppendStr
import Derived.Laws.BytesArg
namespace Go.Proofs.Ytgkdecjlanbmhaa
open Go.RowKit Go.MuLone
set_option linter.unusedVariables false
set_option linter.unusedSimpArgs false
def mkS (l : List Nat) : ByteArray := ⟨(l.map UInt8.ofNat).toArray⟩
/-- bytes as a text -/
theorem conv_any {w : World} {a : Option Addr} {n : Nat} {l : List Nat} (h : Rd w a n l) (cap : Nat) : (convert 34 9 (.slice a n cap)).run Try.prog w = .ok (.string (mkS l)) w := by
  by_cases hn : 0 < n
  · obtain ⟨b, off, rfl, hlt, hc⟩ := h.2.2 hn
    have hr := run_convert_bytes_back (P := Try.prog) w 34 9 5 ⟨b, off, none⟩ cap (l.map UInt8.ofNat) Try.underlying34 Try.underlying5 Try.underlying9 (fun j hj => by
      rw [List.length_map] at hj
      have e1 : (⟨b, off, none⟩ : Addr).add j = ⟨b, off + j, none⟩ := by by_cases h : j = 0 <;> simp [Addr.add, h]
      rw [e1, hc j (by rw [← h.1]; exact hj)]
      have : l[j] < 256 := h.2.1 _ (List.getElem_mem hj)
      simp [List.getD_eq_getElem?_getD, List.getElem?_eq_getElem hj]
      omega)
    rw [List.length_map, h.1] at hr
    exact hr
  · have h0 : n = 0 := by omega
    subst h0
    have hl : l = [] := List.length_eq_zero_iff.1 h.1
    subst hl
    cases a with
    | none => exact run_convert_bytes_nil (P := Try.prog) w 34 5 Try.underlying34 Try.underlying5 0 cap 9 Try.underlying9
    | some x => exact run_convert_bytes_back (P := Try.prog) w 34 9 5 x cap [] Try.underlying34 Try.underlying5 Try.underlying9 (fun j hj => absurd hj (by simp))
/-- a disk that was made since w: its blocks S -/
structure AW (S : Nat → Prop) (w wi : World) (d : Nat) (x : Dx) (F : List Fi) : Prop where
  at_ : ∀ k, S k → w.heap.size ≤ k ∧ k < wi.heap.size
  dd : DD S wi d x F
  bel : Below w.heap.size w wi
/-- behind a call -/
def Nx (S : Nat → Prop) (w wi : World) (d : Nat) (x : Dx) (F : List Fi) (w' : World) : Prop := ∃ S', (∀ k, S' k → S k ∨ wi.heap.size ≤ k) ∧ AW S' w w' d x F ∧ Kp S wi w'
section
variable {S : Nat → Prop} {w wi w' : World} {d : Nat} {x x' : Dx} {F F' : List Fi}
theorem AW.nx (h : AW S w wi d x F) (hB : Beh S wi d x' F' w') (hl : x'.lk = 0) (ho : DOk x' F') : Nx S w wi d x' F' w' := by
  refine ⟨fun k => Sn S wi k ∧ k < w'.heap.size, fun k hk => hk.1, ⟨fun k hk => ⟨?_, hk.2⟩, ⟨hB.1.lts, hl, ho⟩, ?_⟩, hB.2⟩
  · rcases hk.1 with h1 | h1
    · exact (h.at_ k h1).1
    · exact Nat.le_trans h.bel.size h1
  · exact h.bel.trans (hB.2.toBelow h.bel.size (fun k hk hs => by have := (h.at_ k hs).1; omega))
theorem AW.names (h : AW S w wi d x F) : (F.map (·.1)).Nodup := h.dd.dsk.names
theorem AW.below (h : AW S w wi d x F) (hb : Below wi.heap.size wi w') : AW S w w' d x F :=
  ⟨fun k hk => ⟨(h.at_ k hk).1, Nat.lt_of_lt_of_le (h.at_ k hk).2 hb.size⟩, ⟨h.dd.dsk.keepB (fun k hk => hb.block k (h.at_ k hk).2), h.dd.lk, h.dd.ok⟩, belOn h.bel h.bel.size hb⟩
theorem AW.perm {G : List Fi} (h : AW S w wi d x F) (hp : F.Perm G) : AW S w wi d x G := ⟨h.at_, ⟨h.dd.dsk.perm hp, h.dd.lk, h.dd.ok.perm hp⟩, h.bel⟩
theorem Nx.perm {G : List Fi} (h : Nx S w wi d x F w') (hp : F.Perm G) : Nx S w wi d x G w' := by
  obtain ⟨S', h1, h2, h3⟩ := h
  exact ⟨S', h1, h2.perm hp, h3⟩
theorem aw_new (w wi : World) (hb : Below w.heap.size w wi) (r : Int) (h0 : 0 ≤ r) (h1 : r ≤ 16777216) : Calls Try.prog 7 #[.int .i64 r] wi fun e w' => ∃ d S, e = .returned (.pointer (some ⟨d, 0, none⟩)) ∧ AW S w w' d (dx0 r) [] ∧ (∀ k, S k → wi.heap.size ≤ k) ∧ Below wi.heap.size wi w' := by
  refine (new_any wi r h0 h1).mono ?_
  rintro e w' ⟨d, rfl, hD, hb2⟩
  exact ⟨d, _, rfl, ⟨fun k hk => ⟨Nat.le_trans hb.size hk.1, hk.2⟩, ⟨hD, rfl, ⟨rfl, h0, h1, by simp, by show (-1 : Int) ≤ -1; omega, by show (-1 : Int) < _; omega, by show _ ≤ (0 : Int); omega, by show (0 : Int) < _; omega⟩⟩, belOn hb hb.size hb2⟩, fun k hk => hk.1, hb2⟩
theorem aw_append (h : AW S w wi d x F) (k : ByteArray) (u : Value) (t : List Nat) (hr : Rb wi u t) (hn : F.length + 1 ≤ maxLen) :
    Calls Try.prog 26 #[.pointer (some ⟨d, 0, none⟩), .string k, u] wi fun e w' => e = .returned (.int .i64 (dApp x F k t).1) ∧ Nx S w wi d (dApp x F k t).2.1 (dApp x F k t).2.2 w' := by
  refine (append_any S wi d x F h.dd k u t hr hn).mono ?_
  rintro e w' ⟨rfl, hB⟩
  refine ⟨rfl, h.nx hB ?_ (app_ok h.dd.ok h.names k t)⟩
  unfold dApp
  split
  · exact h.dd.lk
  · split
    · exact h.dd.lk
    · exact (actX_fields _ _).1.trans h.dd.lk
theorem aw_sync (h : AW S w wi d x F) (k : ByteArray) : Calls Try.prog 27 #[.pointer (some ⟨d, 0, none⟩), .string k] wi fun e w' => e = .returned (.int .i64 (dSync x F k).1) ∧ Nx S w wi d (dSync x F k).2.1 (dSync x F k).2.2 w' := by
  refine (sync_any S wi d x F h.dd k).mono ?_
  rintro e w' ⟨rfl, hB⟩
  refine ⟨rfl, h.nx hB ?_ (sync_ok h.dd.ok h.names k)⟩
  unfold dSync
  split
  · exact h.dd.lk
  · split <;> exact (actX_fields _ _).1.trans h.dd.lk
theorem aw_delete (h : AW S w wi d x F) (k : ByteArray) : Calls Try.prog 34 #[.pointer (some ⟨d, 0, none⟩), .string k] wi fun e w' => e = .returned (.int .i64 (dDel x F k).1) ∧ Nx S w wi d (dDel x F k).2.1 (dDel x F k).2.2 w' := by
  refine (delete_any S wi d x F h.dd k).mono ?_
  rintro e w' ⟨rfl, hB⟩
  refine ⟨rfl, h.nx hB ?_ (del_ok h.dd.ok h.names k)⟩
  unfold dDel
  split
  · exact h.dd.lk
  · split <;> exact (actX_fields _ _).1.trans h.dd.lk
theorem aw_rename (h : AW S w wi d x F) (a b : ByteArray) (hn : F.length + 1 ≤ maxLen) : Calls Try.prog 28 #[.pointer (some ⟨d, 0, none⟩), .string a, .string b] wi fun e w' => e = .returned (.int .i64 (dRen x F a b).1) ∧ Nx S w wi d (dRen x F a b).2.1 (dRen x F a b).2.2 w' := by
  refine (rename_any S wi d x F h.dd a b hn).mono ?_
  rintro e w' ⟨rfl, F', hp, hB⟩
  refine ⟨rfl, Nx.perm (h.nx hB ?_ ((ren_ok h.dd.ok h.names a b).perm hp.symm)) hp⟩
  unfold dRen
  split
  · exact h.dd.lk
  · split
    · exact h.dd.lk
    · split
      · exact (actX_fields _ _).1.trans h.dd.lk
      · split <;> exact (actX_fields _ _).1.trans h.dd.lk
theorem aw_up (h : AW S w wi d x F) : Calls Try.prog 10 #[.pointer (some ⟨d, 0, none⟩)] wi fun e w' => e = .returned (.bool (!x.down)) ∧ Nx S w wi d x F w' := by
  refine (up_any S wi d x F h.dd).mono ?_
  rintro e w' ⟨rfl, hB⟩
  exact ⟨rfl, h.nx hB h.dd.lk h.dd.ok⟩
theorem start_ok (h : DOk x F) : DOk { x with down := false } F := ⟨h.used, h.room, h.most, h.safe, h.left0, h.left1, h.keep0, h.keep1⟩
theorem aw_start (h : AW S w wi d x F) : Calls Try.prog 25 #[.pointer (some ⟨d, 0, none⟩)] wi fun e w' => e = .returned (.tuple #[]) ∧ Nx S w wi d { x with down := false } F w' := by
  refine (start_any S wi d x F h.dd).mono ?_
  rintro e w' ⟨rfl, hB⟩
  exact ⟨rfl, h.nx hB h.dd.lk (start_ok h.dd.ok)⟩
theorem arm_ok (h : DOk x F) {a k : Int} (ha : a < 9223372036854775808) (hk : -9223372036854775808 ≤ k ∧ k < 9223372036854775808) : DOk (dArm x a k) F := by
  unfold dArm
  split
  · exact h
  · exact ⟨h.used, h.room, h.most, h.safe, by show -1 ≤ max a (-1); omega, by show max a (-1) < _; omega, hk.1, hk.2⟩
theorem aw_arm (h : AW S w wi d x F) (a k : Int) (ha : a < 9223372036854775808) (hk : -9223372036854775808 ≤ k ∧ k < 9223372036854775808) : Calls Try.prog 21 #[.pointer (some ⟨d, 0, none⟩), .int .i64 a, .int .i64 k] wi fun e w' => e = .returned (.tuple #[]) ∧ Nx S w wi d (dArm x a k) F w' := by
  refine (arm_any S wi d x F h.dd a k).mono ?_
  rintro e w' ⟨rfl, hB⟩
  refine ⟨rfl, h.nx hB ?_ (arm_ok h.dd.ok ha hk)⟩
  unfold dArm
  split <;> exact h.dd.lk
theorem aw_crash (h : AW S w wi d x F) (k : Int) (hk : -9223372036854775808 ≤ k ∧ k < 9223372036854775808) : Calls Try.prog 29 #[.pointer (some ⟨d, 0, none⟩), .int .i64 k] wi fun e w' => e = .returned (.tuple #[]) ∧ Nx S w wi d (dCr x F k).1 (dCr x F k).2 w' := by
  refine (crash_any S wi d x F h.dd k hk).mono ?_
  rintro e w' ⟨rfl, hB⟩
  refine ⟨rfl, h.nx hB ?_ ?_⟩
  · unfold dCr
    split <;> exact h.dd.lk
  · unfold dCr
    split
    · exact h.dd.ok
    · exact h.dd.ok.fall k
/-- the disk behind a call that only reads -/
theorem AW.read (h : AW S w wi d x F) (hD : Dsk (fun k => S k ∧ k < wi.heap.size) w' d x F) (hk : Kp S wi w') : AW S w w' d x F :=
  ⟨fun k hk' => ⟨(h.at_ k hk').1, Nat.lt_of_lt_of_le (h.at_ k hk').2 hk.size⟩, ⟨hD.mono (fun k h => h.1), h.dd.lk, h.dd.ok⟩, h.bel.trans (hk.toBelow h.bel.size (fun k hk hs => by have := (h.at_ k hs).1; omega))⟩
theorem aw_read (h : AW S w wi d x F) (k : ByteArray) : Calls Try.prog 30 #[.pointer (some ⟨d, 0, none⟩), .string k] wi fun e w' => ∃ v, e = .returned (.tuple #[v, .int .i64 (findE x.down (F.map (·.1)) k [])]) ∧ Ob wi.heap.size w' v (if findE x.down (F.map (·.1)) k [] = 0 then (dat k F).1 else []) ∧ AW S w w' d x F ∧ Kp S wi w' := by
  refine (read_any S wi d x F h.dd k).mono ?_
  rintro e w' ⟨v, rfl, h1, h2, h3⟩
  exact ⟨v, rfl, h1, h.read h2 h3, h3⟩
theorem aw_files (h : AW S w wi d x F) (hn : F.length ≤ 2000000000000) : Calls Try.prog 19 #[.pointer (some ⟨d, 0, none⟩)] wi fun e w' => ∃ v W, e = .returned v ∧ Wy FK w' wi.heap.size v W ∧ (W.map (·.1)).Perm F ∧ SrtF W ∧ Told wi.heap.size w' W ∧ AW S w w' d x F ∧ Kp S wi w' := by
  refine (files_any S wi d x F h.dd hn).mono ?_
  rintro e w' ⟨v, W, rfl, h1, h2, h3, h4, h5, h6⟩
  exact ⟨v, W, rfl, h1, h2, h3, h4, h.read h5 h6, h6⟩
end
set_option maxHeartbeats 2000000 in
set_option maxRecDepth 100000 in
theorem lawact_any {S : Nat → Prop} {w wi : World} {d : Nat} {x : Dx} {F : List Fi} (h : AW S w wi d x F) (o : Oq) (hr : Rb wi (.slice o.a o.l.length o.c) o.l) (hn : F.length + 1 ≤ maxLen) :
    Calls Try.prog 22 #[.pointer (some ⟨d, 0, none⟩), .agg #[.int .i64 o.k, .int .i64 o.on, .int .i64 o.n, .int .i64 o.m, .string o.s, .string o.t, .slice o.a o.l.length o.c]] wi fun e w' => e = .returned (.int .i64 (dOp x F o).1) ∧ Nx S w wi d (dOp x F o).2.1 (dOp x F o).2.2 w' := by
  obtain ⟨W1, hW1⟩ : ∃ W1, W1 = wi.alloc (.cells #[.int .i64 o.k, .int .i64 o.on, .int .i64 o.n, .int .i64 o.m, .string o.s, .string o.t, .slice o.a o.l.length o.c] 36) := ⟨_, rfl⟩
  have hb1 : Below wi.heap.size wi W1 := by rw [hW1]; exact bel1 (Below.refl _ _) (Nat.le_refl _) _
  have hB1 : W1.heap[wi.heap.size]? = some (.cells #[.int .i64 o.k, .int .i64 o.on, .int .i64 o.n, .int .i64 o.m, .string o.s, .string o.t, .slice o.a o.l.length o.c] 36 (0, 0)) := by rw [hW1]; exact heap_new _ _
  have q0 : W1.cell? ⟨wi.heap.size, 0, none⟩ = some (.int .i64 o.k) := cellOf hB1 0 _ rfl
  have q4 : W1.cell? ⟨wi.heap.size, 4, none⟩ = some (.string o.s) := cellOf hB1 4 _ rfl
  have q5 : W1.cell? ⟨wi.heap.size, 5, none⟩ = some (.string o.t) := cellOf hB1 5 _ rfl
  have q6 : W1.cell? ⟨wi.heap.size, 6, none⟩ = some (.slice o.a o.l.length o.c) := cellOf hB1 6 _ rfl
  have h1 := h.below hb1
  have HBK : Hid (∀ (x' : Dx) (F' : List Fi) (w' : World), Nx S w W1 d x' F' w' → Nx S w wi d x' F' w') := fun x' F' w' ⟨S', g1, g2, g3⟩ => ⟨S', fun k hk => (g1 k hk).imp id (fun h => Nat.le_trans hb1.size h), g2, (Kp.ofBelow hb1).trans g3⟩
  have HS := hide (aw_sync h1 o.s)
  have HR := hide (aw_rename h1 o.s o.t hn)
  have HDl := hide (aw_delete h1 o.s)
  have HA := hide (aw_append h1 o.s _ o.l (hr.below hb1) hn)
  have HW1 := hide hW1
  clear h h1 hb1 hB1 hW1 hr
  have HX : Hid (∀ r, dOp x F o = r → dOp x F o = r) := fun _ h => h
  by_cases e2 : o.k = 2
  · have hx : dOp x F o = dSync x F o.s := if_pos e2
    rw [hx]
    rw [e2] at q0 ⊢
    rw [e2] at HW1
    clear hx e2 HX
    go_enter Try.func22, Try.ntmps22
    go_wp2_with (first | (rw [← HW1.out]; refine Shut.out ?_))
    unfold Shut
    go_wp2_with fail
    refine HS.out.mono ?_
    rintro e w' ⟨rfl, hN⟩
    have HN := hide (HBK.out _ _ _ hN)
    clear hN
    go_wp2
    go_ret
    exact ⟨rfl, HN.out⟩
  by_cases e3 : o.k = 3
  · have hx : dOp x F o = dRen x F o.s o.t := by unfold dOp; rw [if_neg e2, if_pos e3]
    rw [hx]
    rw [e3] at q0 ⊢
    rw [e3] at HW1
    clear hx e2 e3 HX
    go_enter Try.func22, Try.ntmps22
    go_wp2_with (first | (rw [← HW1.out]; refine Shut.out ?_))
    unfold Shut
    go_wp2_with fail
    refine HR.out.mono ?_
    rintro e w' ⟨rfl, hN⟩
    have HN := hide (HBK.out _ _ _ hN)
    clear hN
    go_wp2
    go_ret
    exact ⟨rfl, HN.out⟩
  by_cases e4 : o.k = 4
  · have hx : dOp x F o = dDel x F o.s := by unfold dOp; rw [if_neg e2, if_neg e3, if_pos e4]
    rw [hx]
    rw [e4] at q0 ⊢
    rw [e4] at HW1
    clear hx e2 e3 e4 HX
    go_enter Try.func22, Try.ntmps22
    go_wp2_with (first | (rw [← HW1.out]; refine Shut.out ?_))
    unfold Shut
    go_wp2_with fail
    refine HDl.out.mono ?_
    rintro e w' ⟨rfl, hN⟩
    have HN := hide (HBK.out _ _ _ hN)
    clear hN
    go_wp2
    go_ret
    exact ⟨rfl, HN.out⟩
  · have hx : dOp x F o = dApp x F o.s o.l := by unfold dOp; rw [if_neg e2, if_neg e3, if_neg e4]
    rw [hx]
    clear hx HX
    go_enter Try.func22, Try.ntmps22
    go_wp2_with (first | (rw [← HW1.out]; refine Shut.out ?_))
    unfold Shut
    go_wp2_with fail
    refine HA.out.mono ?_
    rintro e w' ⟨rfl, hN⟩
    have HN := hide (HBK.out _ _ _ hN)
    clear hN
    go_wp2
    go_ret
    exact ⟨rfl, HN.out⟩
end Go.Proofs.Ytgkdecjlanbmhaa
