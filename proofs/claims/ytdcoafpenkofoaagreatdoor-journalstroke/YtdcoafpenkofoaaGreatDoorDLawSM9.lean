import Derived.Test.YtdcoafpenkofoaaGreatDoorDMathM9
import Derived.Test.YtdcoafpenkofoaaGreatDoorDFilM9
import Derived.Laws.IdiomStrings
import Derived.Lib.AppendStr
import Derived.Laws.BytesArg
import Derived.Laws.ResultCell

/- Stage 19: the calls of a disk that a law has made; the law's own functions. -/
namespace Go.Proofs.YtdcoafpenkofoaaGreatDoor
open Go.RowKit Go.MuLone
set_option linter.unusedVariables false
set_option linter.unusedSimpArgs false
def mkS (l : List Nat) : ByteArray := ⟨(l.map UInt8.ofNat).toArray⟩
/-- bytes as a text -/
theorem conv_any {w : World} {a : Option Addr} {n : Nat} {l : List Nat} (h : Rd w a n l) (cap : Nat) : (convert 23 9 (.slice a n cap)).run Tryz.prog w = .ok (.string (mkS l)) w := by
  by_cases hn : 0 < n
  · obtain ⟨b, off, rfl, hlt, hc⟩ := h.2.2 hn
    have hr := run_convert_bytes_back (P := Tryz.prog) w 23 9 5 ⟨b, off, none⟩ cap (l.map UInt8.ofNat) Tryz.underlying23 Tryz.underlying5 Tryz.underlying9 (fun j hj => by
      rw [List.length_map] at hj
      have e1 : (⟨b, off, none⟩ : Addr).add j = ⟨b, off + j, none⟩ := by by_cases h : j = 0 <;> simp [Addr.add, h]
      rw [e1, hc j (by rw [← h.1]; exact hj)]
      have : l[j] < 256 := h.2.1 _ (List.getElem_mem hj)
      simp [List.getD_eq_getElem?_getD, List.getElem?_eq_getElem hj]
      omega)
    rw [List.length_map, h.1] at hr
    exact hr
  · have h0 : n = 0 := by omega
    subst h0
    have hl : l = [] := List.length_eq_zero_iff.1 h.1
    subst hl
    cases a with
    | none => exact run_convert_bytes_nil (P := Tryz.prog) w 23 5 Tryz.underlying23 Tryz.underlying5 0 cap 9 Tryz.underlying9
    | some x => exact run_convert_bytes_back (P := Tryz.prog) w 23 9 5 x cap [] Tryz.underlying23 Tryz.underlying5 Tryz.underlying9 (fun j hj => absurd hj (by simp))
/-- a disk that was made since w: its blocks S -/
structure AW (S : Nat → Prop) (w wi : World) (d : Nat) (x : Dx) (F : List Fi) : Prop where
  at_ : ∀ k, S k → w.heap.size ≤ k ∧ k < wi.heap.size
  dd : DD S wi d x F
  bel : Below w.heap.size w wi
/-- behind a call -/
def Nx (S : Nat → Prop) (w wi : World) (d : Nat) (x : Dx) (F : List Fi) (w' : World) : Prop := ∃ S', (∀ k, S' k → S k ∨ wi.heap.size ≤ k) ∧ AW S' w w' d x F ∧ Kp S wi w'
section
variable {S : Nat → Prop} {w wi w' : World} {d : Nat} {x x' : Dx} {F F' : List Fi}
theorem AW.nx (h : AW S w wi d x F) (hB : Beh S wi d x' F' w') (hl : x'.lk = 0) (ho : DOk x' F') : Nx S w wi d x' F' w' := by
  refine ⟨fun k => Sn S wi k ∧ k < w'.heap.size, fun k hk => hk.1, ⟨fun k hk => ⟨?_, hk.2⟩, ⟨hB.1.lts, hl, ho⟩, ?_⟩, hB.2⟩
  · rcases hk.1 with h1 | h1
    · exact (h.at_ k h1).1
    · exact Nat.le_trans h.bel.size h1
  · exact h.bel.trans (hB.2.toBelow h.bel.size (fun k hk hs => by have := (h.at_ k hs).1; omega))
theorem AW.names (h : AW S w wi d x F) : (F.map (·.1)).Nodup := h.dd.dsk.names
theorem AW.below (h : AW S w wi d x F) (hb : Below wi.heap.size wi w') : AW S w w' d x F :=
  ⟨fun k hk => ⟨(h.at_ k hk).1, Nat.lt_of_lt_of_le (h.at_ k hk).2 hb.size⟩, ⟨h.dd.dsk.keepB (fun k hk => hb.block k (h.at_ k hk).2), h.dd.lk, h.dd.ok⟩, belOn h.bel h.bel.size hb⟩
theorem AW.perm {G : List Fi} (h : AW S w wi d x F) (hp : F.Perm G) : AW S w wi d x G := ⟨h.at_, ⟨h.dd.dsk.perm hp, h.dd.lk, h.dd.ok.perm hp⟩, h.bel⟩
theorem Nx.perm {G : List Fi} (h : Nx S w wi d x F w') (hp : F.Perm G) : Nx S w wi d x G w' := by
  obtain ⟨S', h1, h2, h3⟩ := h
  exact ⟨S', h1, h2.perm hp, h3⟩
theorem aw_new (w wi : World) (hb : Below w.heap.size w wi) (r : Int) (h0 : 0 ≤ r) (h1 : r ≤ 16777216) : Calls Tryz.prog 23 #[.int .i64 r] wi fun e w' => ∃ d S, e = .returned (.pointer (some ⟨d, 0, none⟩)) ∧ AW S w w' d (dx0 r) [] ∧ (∀ k, S k → wi.heap.size ≤ k) ∧ Below wi.heap.size wi w' := by
  refine (new_any wi r h0 h1).mono ?_
  rintro e w' ⟨d, rfl, hD, hb2⟩
  exact ⟨d, _, rfl, ⟨fun k hk => ⟨Nat.le_trans hb.size hk.1, hk.2⟩, ⟨hD, rfl, ⟨rfl, h0, h1, by simp, by show (-1 : Int) ≤ -1; omega, by show (-1 : Int) < _; omega, by show _ ≤ (0 : Int); omega, by show (0 : Int) < _; omega⟩⟩, belOn hb hb.size hb2⟩, fun k hk => hk.1, hb2⟩
theorem aw_append (h : AW S w wi d x F) (k : ByteArray) (u : Value) (t : List Nat) (hr : Rb wi u t) (hn : F.length + 1 ≤ maxLen) :
    Calls Tryz.prog 144 #[.pointer (some ⟨d, 0, none⟩), .string k, u] wi fun e w' => e = .returned (.int .i64 (dApp x F k t).1) ∧ Nx S w wi d (dApp x F k t).2.1 (dApp x F k t).2.2 w' := by
  refine (append_any S wi d x F h.dd k u t hr hn).mono ?_
  rintro e w' ⟨rfl, hB⟩
  refine ⟨rfl, h.nx hB ?_ (app_ok h.dd.ok h.names k t)⟩
  unfold dApp
  split
  · exact h.dd.lk
  · split
    · exact h.dd.lk
    · exact (actX_fields _ _).1.trans h.dd.lk
theorem aw_sync (h : AW S w wi d x F) (k : ByteArray) : Calls Tryz.prog 92 #[.pointer (some ⟨d, 0, none⟩), .string k] wi fun e w' => e = .returned (.int .i64 (dSync x F k).1) ∧ Nx S w wi d (dSync x F k).2.1 (dSync x F k).2.2 w' := by
  refine (sync_any S wi d x F h.dd k).mono ?_
  rintro e w' ⟨rfl, hB⟩
  refine ⟨rfl, h.nx hB ?_ (sync_ok h.dd.ok h.names k)⟩
  unfold dSync
  split
  · exact h.dd.lk
  · split <;> exact (actX_fields _ _).1.trans h.dd.lk
theorem aw_delete (h : AW S w wi d x F) (k : ByteArray) : Calls Tryz.prog 125 #[.pointer (some ⟨d, 0, none⟩), .string k] wi fun e w' => e = .returned (.int .i64 (dDel x F k).1) ∧ Nx S w wi d (dDel x F k).2.1 (dDel x F k).2.2 w' := by
  refine (delete_any S wi d x F h.dd k).mono ?_
  rintro e w' ⟨rfl, hB⟩
  refine ⟨rfl, h.nx hB ?_ (del_ok h.dd.ok h.names k)⟩
  unfold dDel
  split
  · exact h.dd.lk
  · split <;> exact (actX_fields _ _).1.trans h.dd.lk
theorem aw_rename (h : AW S w wi d x F) (a b : ByteArray) (hn : F.length + 1 ≤ maxLen) : Calls Tryz.prog 126 #[.pointer (some ⟨d, 0, none⟩), .string a, .string b] wi fun e w' => e = .returned (.int .i64 (dRen x F a b).1) ∧ Nx S w wi d (dRen x F a b).2.1 (dRen x F a b).2.2 w' := by
  refine (rename_any S wi d x F h.dd a b hn).mono ?_
  rintro e w' ⟨rfl, F', hp, hB⟩
  refine ⟨rfl, Nx.perm (h.nx hB ?_ ((ren_ok h.dd.ok h.names a b).perm hp.symm)) hp⟩
  unfold dRen
  split
  · exact h.dd.lk
  · split
    · exact h.dd.lk
    · split
      · exact (actX_fields _ _).1.trans h.dd.lk
      · split <;> exact (actX_fields _ _).1.trans h.dd.lk
theorem aw_up (h : AW S w wi d x F) : Calls Tryz.prog 32 #[.pointer (some ⟨d, 0, none⟩)] wi fun e w' => e = .returned (.bool (!x.down)) ∧ Nx S w wi d x F w' := by
  refine (up_any S wi d x F h.dd).mono ?_
  rintro e w' ⟨rfl, hB⟩
  exact ⟨rfl, h.nx hB h.dd.lk h.dd.ok⟩
theorem start_ok (h : DOk x F) : DOk { x with down := false } F := ⟨h.used, h.room, h.most, h.safe, h.left0, h.left1, h.keep0, h.keep1⟩
theorem aw_start (h : AW S w wi d x F) : Calls Tryz.prog 63 #[.pointer (some ⟨d, 0, none⟩)] wi fun e w' => e = .returned (.tuple #[]) ∧ Nx S w wi d { x with down := false } F w' := by
  refine (start_any S wi d x F h.dd).mono ?_
  rintro e w' ⟨rfl, hB⟩
  exact ⟨rfl, h.nx hB h.dd.lk (start_ok h.dd.ok)⟩
theorem arm_ok (h : DOk x F) {a k : Int} (ha : a < 9223372036854775808) (hk : -9223372036854775808 ≤ k ∧ k < 9223372036854775808) : DOk (dArm x a k) F := by
  unfold dArm
  split
  · exact h
  · exact ⟨h.used, h.room, h.most, h.safe, by show -1 ≤ max a (-1); omega, by show max a (-1) < _; omega, hk.1, hk.2⟩
theorem aw_arm (h : AW S w wi d x F) (a k : Int) (ha : a < 9223372036854775808) (hk : -9223372036854775808 ≤ k ∧ k < 9223372036854775808) : Calls Tryz.prog 30 #[.pointer (some ⟨d, 0, none⟩), .int .i64 a, .int .i64 k] wi fun e w' => e = .returned (.tuple #[]) ∧ Nx S w wi d (dArm x a k) F w' := by
  refine (arm_any S wi d x F h.dd a k).mono ?_
  rintro e w' ⟨rfl, hB⟩
  refine ⟨rfl, h.nx hB ?_ (arm_ok h.dd.ok ha hk)⟩
  unfold dArm
  split <;> exact h.dd.lk
theorem aw_crash (h : AW S w wi d x F) (k : Int) (hk : -9223372036854775808 ≤ k ∧ k < 9223372036854775808) : Calls Tryz.prog 31 #[.pointer (some ⟨d, 0, none⟩), .int .i64 k] wi fun e w' => e = .returned (.tuple #[]) ∧ Nx S w wi d (dCr x F k).1 (dCr x F k).2 w' := by
  refine (crash_any S wi d x F h.dd k hk).mono ?_
  rintro e w' ⟨rfl, hB⟩
  refine ⟨rfl, h.nx hB ?_ ?_⟩
  · unfold dCr
    split <;> exact h.dd.lk
  · unfold dCr
    split
    · exact h.dd.ok
    · exact h.dd.ok.fall k
/-- the disk behind a call that only reads -/
theorem AW.read (h : AW S w wi d x F) (hD : Dsk (fun k => S k ∧ k < wi.heap.size) w' d x F) (hk : Kp S wi w') : AW S w w' d x F :=
  ⟨fun k hk' => ⟨(h.at_ k hk').1, Nat.lt_of_lt_of_le (h.at_ k hk').2 hk.size⟩, ⟨hD.mono (fun k h => h.1), h.dd.lk, h.dd.ok⟩, h.bel.trans (hk.toBelow h.bel.size (fun k hk hs => by have := (h.at_ k hs).1; omega))⟩
theorem aw_read (h : AW S w wi d x F) (k : ByteArray) : Calls Tryz.prog 36 #[.pointer (some ⟨d, 0, none⟩), .string k] wi fun e w' => ∃ v, e = .returned (.tuple #[v, .int .i64 (findE x.down (F.map (·.1)) k [])]) ∧ Ob wi.heap.size w' v (if findE x.down (F.map (·.1)) k [] = 0 then (dat k F).1 else []) ∧ AW S w w' d x F ∧ Kp S wi w' := by
  refine (read_any S wi d x F h.dd k).mono ?_
  rintro e w' ⟨v, rfl, h1, h2, h3⟩
  exact ⟨v, rfl, h1, h.read h2 h3, h3⟩
theorem aw_files (h : AW S w wi d x F) (hn : F.length ≤ 2000000000000) : Calls Tryz.prog 65 #[.pointer (some ⟨d, 0, none⟩)] wi fun e w' => ∃ v W, e = .returned v ∧ Wy FK w' wi.heap.size v W ∧ (W.map (·.1)).Perm F ∧ SrtF W ∧ Told wi.heap.size w' W ∧ AW S w w' d x F ∧ Kp S wi w' := by
  refine (files_any S wi d x F h.dd hn).mono ?_
  rintro e w' ⟨v, W, rfl, h1, h2, h3, h4, h5, h6⟩
  exact ⟨v, W, rfl, h1, h2, h3, h4, h.read h5 h6, h6⟩
end
end Go.Proofs.YtdcoafpenkofoaaGreatDoor


/- Stage 19: begins, file, Same. -/
namespace Go.Proofs.YtdcoafpenkofoaaGreatDoor
open Go.RowKit Go.MuLone
set_option linter.unusedVariables false
set_option linter.unusedSimpArgs false
/-- a file that is told, in its row -/
def fV (o : Fo) : Value := if o.2.oneCell' then o.2 else .slice none 0 0
theorem fV_slice {B : Nat} {w : World} {o : Fo} {l : List Nat} (h : Ob B w o.2 l) : fV o = o.2 := by
  obtain ⟨a, c, e, _⟩ := h.slice
  unfold fV
  rw [e]
  rfl
theorem Wy.elem {w : World} {base : Nat} {v : Value} {W : List Fo} (h : Wy FK w base v W) (i : Nat) (hi : i < W.length) : ∃ g off cap, v = .slice (some ⟨g, off, none⟩) W.length cap ∧ W.length ≤ cap ∧ cap ≤ maxLen ∧ g < w.heap.size ∧
    w.cell? ⟨g, off + i * 3, none⟩ = some (.string W[i].1.1) ∧ w.cell? ⟨g, off + i * 3 + 1, none⟩ = some (fV W[i]) ∧ w.cell? ⟨g, off + i * 3 + 2, none⟩ = some (.int .i64 (W[i].1.2.2 : Int)) := by
  rcases h with ⟨_, rfl⟩ | ⟨g, off, cap, cur, rfl, h1, h2, h3, h4, h5, h6⟩
  · simp at hi
  · have hget : ∀ (l : List Fo) (i q : Nat) (hi : i < l.length), q < 3 → (l.flatMap fEnc)[i * 3 + q]? = (fEnc l[i])[q]? := fun l => by
      induction l with
      | nil => intro i q hi; simp at hi
      | cons x l ih =>
        intro i q hi hq
        have hlen : (fEnc x).length = 3 := rfl
        cases i with
        | zero => rw [List.flatMap_cons, List.getElem?_append_left (by rw [hlen]; omega)]; simp
        | succ i =>
          rw [List.flatMap_cons, List.getElem?_append_right (by rw [hlen]; omega), hlen, show (i + 1) * 3 + q - 3 = i * 3 + q by omega, ih i q (by simpa using hi) hq]
          simp
    have c : ∀ q u, q < 3 → (fEnc W[i])[q]? = some u → w.cell? ⟨g, off + (i * 3 + q), none⟩ = some u := fun q u hq hu => h6 (i * 3 + q) u ((hget W i q hi hq).trans hu)
    exact ⟨g, off, cap, rfl, h2, h3, (Array.getElem?_eq_some_iff.1 h4).1, c 0 _ (by omega) rfl, c 1 _ (by omega) rfl, c 2 _ (by omega) rfl⟩
set_option maxHeartbeats 4000000 in
set_option maxRecDepth 100000 in
theorem same_yes (w : World) (b1 b2 : Nat) (v u : Value) (W U : List Fo) (hw : Wy FK w b1 v W) (hu : Wy FK w b2 u U) (he : W.map (·.1) = U.map (·.1)) (t1 : Told b1 w W) (t2 : Told b2 w U) :
    Calls Tryz.prog 67 #[v, u] w fun e w' => e = .returned (.bool true) ∧ Below w.heap.size w w' := by
  have hl : W.length = U.length := by have := congrArg List.length he; simpa using this
  obtain ⟨va, vc, rfl⟩ := hw.shape
  obtain ⟨ua, uc, rfl⟩ := hu.shape
  have HE : Hid (∀ j (h : j < W.length) (h2 : j < U.length), U[j].1 = W[j].1) := fun j h h2 => by
    have e := congrArg (fun l => l[j]?) he
    simp only [List.getElem?_map, List.getElem?_eq_getElem h, List.getElem?_eq_getElem h2, Option.map_some, Option.some.injEq] at e
    exact e.symm
  have HW := hide hw
  have HU := hide hu
  have HT1 := hide t1
  have HT2 := hide t2
  have HL := hide hl
  have hul : (Value.slice ua U.length uc) = .slice ua W.length uc := by rw [hl]
  rw [hul]
  have hwl : W.length ≤ 9223372036854775807 := by
    by_cases h0 : 0 < W.length
    · obtain ⟨g, off, cap, _, h1, h2, _⟩ := hw.elem 0 h0
      exact Nat.le_trans h1 h2
    · omega
  have HCAP : Hid (0 < W.length → W.length ≤ vc ∧ W.length ≤ uc) := fun h0 => by
    obtain ⟨g, off, cap, e, h1, h2, _⟩ := hw.elem 0 h0
    obtain ⟨g', off', cap', e', h1', h2', _⟩ := hu.elem 0 (by omega)
    simp only [Value.slice.injEq] at e e'
    obtain ⟨_, _, rfl⟩ := e
    obtain ⟨_, _, rfl⟩ := e'
    omega
  clear hw hu he t1 t2 hl hul
  go_enter Tryz.func67, Tryz.ntmps67
  go_wp2
  go_loopw [5] (fun vi wr => (∃ j : Nat, j ≤ W.length ∧ vi = .int .i64 j) ∧ Below w.heap.size w wr) (fun vi _ => W.length - (intOf vi).toNat)
  case atStart => exact ⟨⟨0, Nat.zero_le _, rfl⟩, Below.refl _ _⟩
  case round =>
    obtain ⟨⟨j, hj, rfl⟩, hb⟩ := hrel
    have HB := hide hb
    clear hb
    by_cases hjl : j < W.length
    · have hj2 : j < U.length := by rw [← HL.out]; exact hjl
      have hEj := HE.out j hjl hj2
      obtain ⟨g, off, cap, e, hc1, hc2, hg, r0, r1, r2⟩ := HW.out.elem j hjl
      obtain ⟨g', off', cap', e', hc1', hc2', hg', s0, s1, s2⟩ := HU.out.elem j hj2
      simp only [Value.slice.injEq] at e e'
      obtain ⟨rfl, _, rfl⟩ := e
      obtain ⟨rfl, _, rfl⟩ := e'
      have o1 := HT1.out.own _ (List.getElem_mem hjl)
      have o2 := HT2.out.own _ (List.getElem_mem hj2)
      rw [fV_slice o1] at r1
      rw [fV_slice o2] at s1
      rw [hEj] at s0 s2 o2
      obtain ⟨p, hp⟩ : ∃ p, p = W[j].1 := ⟨_, rfl⟩
      rw [← hp] at r0 r2 s0 s2 o1 o2
      obtain ⟨a1, k1, e1, _⟩ := o1.slice
      obtain ⟨a2, k2, e2, _⟩ := o2.slice
      rw [e1] at r1 o1
      rw [e2] at s1 o2
      have hd1 : Rb wr (.slice a1 p.2.1.length k1) p.2.1 := (o1.rb).below (HB.out)
      have hd2 : Rb wr (.slice a2 p.2.1.length k2) p.2.1 := (o2.rb).below (HB.out)
      have hcv1 : ∀ W' : World, W'.heap = wr.heap → (convert 23 9 (.slice a1 p.2.1.length k1)).run Tryz.prog W' = .ok (.string (mkS p.2.1)) W' := fun W' hh => by
        obtain ⟨a, c, e, _, _, hr⟩ := hd1
        simp only [Value.slice.injEq] at e
        obtain ⟨rfl, _, rfl⟩ := e
        refine conv_any (n := p.2.1.length) ⟨hr.1, hr.2.1, fun h0 => ?_⟩ _
        obtain ⟨b, off, e1, e2, e3⟩ := hr.2.2 h0
        exact ⟨b, off, e1, by rw [hh]; exact e2, fun j hj => by have := e3 j hj; unfold World.cell? at this ⊢; rw [hh]; exact this⟩
      have hcv2 : ∀ W' : World, W'.heap = wr.heap → (convert 23 9 (.slice a2 p.2.1.length k2)).run Tryz.prog W' = .ok (.string (mkS p.2.1)) W' := fun W' hh => by
        obtain ⟨a, c, e, _, _, hr⟩ := hd2
        simp only [Value.slice.injEq] at e
        obtain ⟨rfl, _, rfl⟩ := e
        refine conv_any (n := p.2.1.length) ⟨hr.1, hr.2.1, fun h0 => ?_⟩ _
        obtain ⟨b, off, e1, e2, e3⟩ := hr.2.2 h0
        exact ⟨b, off, e1, by rw [hh]; exact e2, fun j hj => by have := e3 j hj; unfold World.cell? at this ⊢; rw [hh]; exact this⟩
      have x0 := (HB.out.cell (p := ⟨g, off + j * 3, none⟩) hg).trans r0
      have x1 := (HB.out.cell (p := ⟨g, off + j * 3 + 1, none⟩) hg).trans r1
      have x2 := (HB.out.cell (p := ⟨g, off + j * 3 + 2, none⟩) hg).trans r2
      have y0 := (HB.out.cell (p := ⟨g', off' + j * 3, none⟩) hg').trans s0
      have y1 := (HB.out.cell (p := ⟨g', off' + j * 3 + 1, none⟩) hg').trans s1
      have y2 := (HB.out.cell (p := ⟨g', off' + j * 3 + 2, none⟩) hg').trans s2
      have z1 := hcv1 wr.drew rfl
      have z2 := hcv2 wr.drew rfl
      obtain ⟨q, hq⟩ : ∃ q, q = mkS p.2.1 := ⟨_, rfl⟩
      obtain ⟨n, hn⟩ : ∃ n, n = p.2.1.length := ⟨_, rfl⟩
      obtain ⟨ps, hps⟩ : ∃ ps, ps = p.1 := ⟨_, rfl⟩
      obtain ⟨pz, hpz⟩ : ∃ pz, pz = p.2.2 := ⟨_, rfl⟩
      rw [← hn] at x1 y1
      rw [← hn, ← hq] at z1 z2
      rw [← hps] at x0 y0
      rw [← hpz] at x2 y2
      clear r0 r1 r2 s0 s1 s2 o1 o2 hd1 hd2 hcv1 hcv2 hp e1 e2 hq hn hps hpz hEj
      go_wp2_with fail
      go_region_held (fun V => V.cell? ⟨g, off + j * 3, none⟩ = some (.string ps) ∧ V.cell? ⟨g, off + j * 3 + 1, none⟩ = some (.slice a1 n k1) ∧ V.cell? ⟨g, off + j * 3 + 2, none⟩ = some (.int .i64 (pz : Int)) ∧ V.cell? ⟨g', off' + j * 3, none⟩ = some (.string ps) ∧ V.cell? ⟨g', off' + j * 3 + 1, none⟩ = some (.slice a2 n k2) ∧ V.cell? ⟨g', off' + j * 3 + 2, none⟩ = some (.int .i64 (pz : Int)) ∧ (convert 23 9 (.slice a1 n k1)).run Tryz.prog V = .ok (.string q) V ∧ (convert 23 9 (.slice a2 n k2)).run Tryz.prog V = .ok (.string q) V) (exact ⟨x0, x1, x2, y0, y1, y2, z1, z2⟩) (fail)
      go_wp2
      exact ⟨⟨⟨j + 1, by omega, by go_num⟩, Below.drew HB.out⟩, by simp [intOf]; omega⟩
    · have e : j = W.length := by omega
      subst e
      go_wp2
      go_ret
      exact ⟨rfl, HB.out⟩
end Go.Proofs.YtdcoafpenkofoaaGreatDoor
