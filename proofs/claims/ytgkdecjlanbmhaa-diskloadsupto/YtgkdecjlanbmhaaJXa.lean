
/- Stages 19, 20: the document's disk (longshoreref19) as it lies: find, used, IsName, fails. -/
import Derived.Test.YtgkdecjlanbmhaaDLawS
namespace Go.Proofs.Ytgkdecjlanbmhaa
open Go.RowKit Go.Maps Go.MuLone
set_option linter.unusedVariables false
set_option linter.unusedSimpArgs false
def rxA (lv : Value) (x : Dx) (ac : Int) : Array Value := #[lv, .int .i64 x.room, .bool x.down, .bool (decide (x.left ≠ -1)), .int .i64 ac, .int .i64 x.keep]
/-- bytes that are read, in memory made since B -/
def DB (B : Nat) (w : World) (v : Value) (l : List Nat) : Prop := Rb w v l ∧ ∀ g, v.ownBlock = some g → B ≤ g ∧ g < w.heap.size
theorem Rb.same {w w' : World} {v : Value} {l : List Nat} (h : Rb w v l) (hz : w.heap.size ≤ w'.heap.size) (hb : ∀ g, v.ownBlock = some g → w'.heap[g]? = w.heap[g]?) : Rb w' v l := by
  obtain ⟨a, cap, rfl, h1, h2, h3, h4, h5⟩ := h
  refine ⟨a, cap, rfl, h1, h2, h3, h4, fun h0 => ?_⟩
  obtain ⟨b, off, rfl, hlt, hc⟩ := h5 h0
  refine ⟨b, off, rfl, by omega, fun j hj => ?_⟩
  have e := hb b rfl
  have := hc j hj
  rw [← this]
  simp [World.cell?, e]
theorem DB.same {B : Nat} {w w' : World} {v : Value} {l : List Nat} (h : DB B w v l) (hz : w.heap.size ≤ w'.heap.size) (hb : ∀ g, v.ownBlock = some g → w'.heap[g]? = w.heap[g]?) : DB B w' v l :=
  ⟨h.1.same hz hb, fun g e => ⟨(h.2 g e).1, Nat.lt_of_lt_of_le (h.2 g e).2 hz⟩⟩
theorem DB.below {B : Nat} {w w' : World} {v : Value} {l : List Nat} (h : DB B w v l) (hb : Below w.heap.size w w') : DB B w' v l := h.same hb.size (fun g e => hb.block g (h.2 g e).2)
theorem DB.of {B : Nat} {w : World} {v : Value} {l : List Nat} (h : Ob B w v l) : DB B w v l := ⟨h.rb, fun g e => h.lt g e⟩
theorem DB.nil (B : Nat) (w : World) : DB B w (.slice none 0 0) [] := ⟨Rb.nil w, fun g e => by cases e⟩
theorem DB.slice {B : Nat} {w : World} {v : Value} {l : List Nat} (h : DB B w v l) : ∃ a c, v = .slice a l.length c ∧ l.length ≤ c := by
  obtain ⟨a, c, e, _, h2, _⟩ := h.1
  exact ⟨a, c, e, h2⟩
theorem fV_of {o : Fo} {a : Option Addr} {n c : Nat} (h : o.2 = .slice a n c) : fV o = .slice a n c := by unfold fV; rw [h]; rfl
/-- the document's disk at r -/
structure RD (w : World) (B r : Nat) (lv : Value) (x : Dx) (W : List Fo) : Prop where
  blk : ∃ ac, (x.left ≠ -1 → ac = x.left) ∧ w.heap[r]? = some (.cells (rxA lv x ac) 79 (0, 0))
  lo : B ≤ r
  row : Wy FK w B lv W
  dat : ∀ o ∈ W, DB B w o.2 o.1.2.1 ∧ ∀ g, o.2.ownBlock = some g → g ≠ r ∧ lv.ownBlock ≠ some g
  srt : (W.map (·.1.1.toList)).Pairwise (· < ·)
section
variable {w w' : World} {B r : Nat} {lv : Value} {x : Dx} {W : List Fo}
theorem RD.lt (h : RD w B r lv x W) : r < w.heap.size := by
  obtain ⟨ac, _, h1⟩ := h.blk
  exact (Array.getElem?_eq_some_iff.1 h1).1
theorem RD.nr (h : RD w B r lv x W) : lv.ownBlock ≠ some r := fun e => by
  obtain ⟨ac, _, h1⟩ := h.blk
  obtain ⟨cur, h2⟩ := h.row.typ e
  rw [h1] at h2
  simp [FK] at h2
/-- a call that changes none of it -/
theorem RD.same (h : RD w B r lv x W) (hz : w.heap.size ≤ w'.heap.size) (hb : ∀ k, k < w.heap.size → (k = r ∨ lv.ownBlock = some k ∨ ∃ o ∈ W, o.2.ownBlock = some k) → w'.heap[k]? = w.heap[k]?) : RD w' B r lv x W := by
  obtain ⟨ac, h1, h2⟩ := h.blk
  exact ⟨⟨ac, h1, (hb r h.lt (.inl rfl)).trans h2⟩, h.lo, h.row.at (fun k e => hb k (h.row.lt e).2 (.inr (.inl e))), fun o ho => ⟨(h.dat o ho).1.same hz (fun g e => hb g ((h.dat o ho).1.2 g e).2 (.inr (.inr ⟨o, ho, e⟩))), (h.dat o ho).2⟩, h.srt⟩
theorem RD.below (h : RD w B r lv x W) (hb : Below w.heap.size w w') : RD w' B r lv x W := h.same hb.size (fun k hk _ => hb.block k hk)
theorem RD.cells (h : RD w B r lv x W) : ∃ ac, (x.left ≠ -1 → ac = x.left) ∧ w.cell? ⟨r, 0, none⟩ = some lv ∧ w.cell? ⟨r, 1, none⟩ = some (.int .i64 x.room) ∧ w.cell? ⟨r, 2, none⟩ = some (.bool x.down) ∧ w.cell? ⟨r, 3, none⟩ = some (.bool (decide (x.left ≠ -1))) ∧ w.cell? ⟨r, 4, none⟩ = some (.int .i64 ac) ∧ w.cell? ⟨r, 5, none⟩ = some (.int .i64 x.keep) ∧ ∀ o, w.frozen? ⟨r, o, none⟩ = false := by
  obtain ⟨ac, h1, h2⟩ := h.blk
  exact ⟨ac, h1, cellOf h2 0 _ rfl, cellOf h2 1 _ rfl, cellOf h2 2 _ rfl, cellOf h2 3 _ rfl, cellOf h2 4 _ rfl, cellOf h2 5 _ rfl, fun o => frozen_of h2 o⟩
theorem RD.elem (h : RD w B r lv x W) (i : Nat) (hi : i < W.length) : ∃ g off cap a c, lv = .slice (some ⟨g, off, none⟩) W.length cap ∧ W.length ≤ cap ∧ cap ≤ maxLen ∧ g < w.heap.size ∧ g ≠ r ∧
    w.cell? ⟨g, off + i * 3, none⟩ = some (.string W[i].1.1) ∧ w.cell? ⟨g, off + i * 3 + 1, none⟩ = some (.slice a W[i].1.2.1.length c) ∧ w.cell? ⟨g, off + i * 3 + 2, none⟩ = some (.int .i64 (W[i].1.2.2 : Int)) ∧ W[i].2 = .slice a W[i].1.2.1.length c ∧ W[i].1.2.1.length ≤ c := by
  obtain ⟨g, off, cap, e, h1, h2, h3, r0, r1, r2⟩ := h.row.elem i hi
  obtain ⟨a, c, e2, hc⟩ := (h.dat W[i] (List.getElem_mem hi)).1.slice
  rw [fV_of e2] at r1
  exact ⟨g, off, cap, a, c, e, h1, h2, h3, fun e3 => h.nr (by rw [e, e3]; rfl), r0, r1, r2, e2, hc⟩
def FindP (W : List Fo) (k : ByteArray) (e : Ending) : Prop := (∃ (i : Nat) (hi : i < W.length), W[i].1.1 = k ∧ e = .returned (.int .i64 (i : Int))) ∨ ((∀ o ∈ W, o.1.1 ≠ k) ∧ e = .returned (.int .i64 (-1)))
set_option maxHeartbeats 1000000 in
theorem find_r (h : RD w B r lv x W) (k : ByteArray) : Calls Try.prog 46 #[.pointer (some ⟨r, 0, none⟩), .string k] w fun e w' => FindP W k e ∧ w' = w := by
  have HH := hide h
  obtain ⟨ac, _, c0, _⟩ := h.cells
  obtain ⟨la, lc, rfl⟩ := h.row.shape
  have hl : W.length ≤ 9223372036854775807 := by
    rcases h.row with ⟨_, e⟩ | ⟨g, off, cap, cur, _, _, h2, h3, _⟩
    · rw [e]; simp
    · have : maxLen = 9223372036854775807 := rfl; omega
  clear h
  go_enter Try.func46, Try.ntmps46
  go_wp2
  go_loop [5] (fun iv => ∃ j : Nat, j ≤ W.length ∧ iv = .int .i64 (j : Int) ∧ Hid (∀ z (hz : z < W.length), z < j → W[z].1.1 ≠ k)) (fun iv => W.length - (intOf iv).toNat)
  case atStart => exact ⟨0, Nat.zero_le _, rfl, fun z _ hz => by omega⟩
  case round =>
    obtain ⟨j, hj, rfl, HA⟩ := hrel
    by_cases hjl : j < W.length
    · obtain ⟨g, off, cap, a, c, e, h1, h2, hg, hgr, r0, r1, r2, _, _⟩ := HH.out.elem j hjl
      simp only [Value.slice.injEq] at e
      obtain ⟨rfl, _, rfl⟩ := e
      have hs := str_eq W[j].1.1 k
      have HS : Hid (W[j].1.1 = W[j].1.1) := rfl
      have HN : Hid (∀ z (hz : z < W.length), z = j → W[z].1.1 = W[j].1.1) := fun z hz e => by subst e; rfl
      obtain ⟨s, hss⟩ : ∃ s, W[j].1.1 = s := ⟨_, rfl⟩
      rw [hss] at r0 hs HN
      have HQ := hide hss
      have hji : (j : Int) < (W.length : Int) := by omega
      clear r1 r2 hss
      cases hd : decide (s = k)
      · rw [hd] at hs
        have HD := hide (of_decide_eq_false hd)
        clear hd
        go_wp2
        go_round
        case rel =>
          refine ⟨j + 1, by omega, by go_num, fun z hz hzj => ?_⟩
          rcases Nat.lt_or_ge z j with h | h
          · exact HA.out z hz h
          · rw [HN.out z hz (by omega)]; exact HD.out
        case measure => simp [intOf]; omega
      · rw [hd] at hs
        have HD := hide (of_decide_eq_true hd)
        clear hd
        go_wp2
        go_ret
        exact ⟨.inl ⟨j, hjl, HQ.out.trans HD.out, rfl⟩, rfl⟩
    · have HN : Hid (∀ o ∈ W, o.1.1 ≠ k) := fun o ho => by
        obtain ⟨z, hz, rfl⟩ := List.getElem_of_mem ho
        exact HA.out z hz (by omega)
      go_wp2
      go_ret
      exact ⟨.inr ⟨HN.out, rfl⟩, rfl⟩
def usW (W : List Fo) : Nat := usd (W.map (·.1))
theorem usd_take (F : List Fi) {j : Nat} (hj : j < F.length) : usd (F.take (j + 1)) = usd (F.take j) + F[j].2.1.length := by
  unfold usd
  rw [List.take_succ_eq_append_getElem hj, List.map_append, List.sum_append]
  simp
theorem usd_take_le (F : List Fi) (j : Nat) : usd (F.take j) ≤ usd F := by
  unfold usd
  conv => rhs; rw [← List.take_append_drop j F]
  rw [List.map_append, List.sum_append]
  omega
set_option maxHeartbeats 1000000 in
theorem used_r (h : RD w B r lv x W) (hu : usd (W.map (·.1)) ≤ 4611686018427387904) : Calls Try.prog 49 #[.pointer (some ⟨r, 0, none⟩)] w fun e w' => e = .returned (.int .i64 (usd (W.map (·.1)) : Int)) ∧ w' = w := by
  have HH := hide h
  obtain ⟨ac, _, c0, _⟩ := h.cells
  obtain ⟨la, lc, rfl⟩ := h.row.shape
  have hl : W.length ≤ 9223372036854775807 := by
    rcases h.row with ⟨_, e⟩ | ⟨g, off, cap, cur, _, _, h2, h3, _⟩
    · rw [e]; simp
    · have : maxLen = 9223372036854775807 := rfl; omega
  have HU := hide hu
  clear h hu
  go_enter Try.func49, Try.ntmps49
  go_wp2
  go_loop [3, 4] (fun nv iv => ∃ j s : Nat, j ≤ W.length ∧ iv = .int .i64 (j : Int) ∧ nv = .int .i64 (s : Int) ∧ Hid (s = usd ((W.map (·.1)).take j))) (fun _ iv => W.length - (intOf iv).toNat)
  case atStart => exact ⟨0, 0, Nat.zero_le _, rfl, rfl, rfl⟩
  case round =>
    obtain ⟨j, s, hj, rfl, rfl, HA⟩ := hrel
    by_cases hjl : j < W.length
    · obtain ⟨g, off, cap, a, c, e, h1, h2, hg, hgr, r0, r1, r2, _, _⟩ := HH.out.elem j hjl
      simp only [Value.slice.injEq] at e
      obtain ⟨rfl, _, rfl⟩ := e
      have ht := usd_take (W.map (·.1)) (j := j) (by simpa using hjl)
      simp only [List.getElem_map] at ht
      have hle := usd_take_le (W.map (·.1)) (j + 1)
      have hs := HA.out
      rw [ht, ← hs] at hle
      obtain ⟨m, hm⟩ : ∃ m, W[j].1.2.1.length = m := ⟨_, rfl⟩
      rw [hm] at r1 ht hle
      have HT := hide ht
      have hb := HU.out
      have hbd : s + m ≤ 4611686018427387904 := by omega
      have hji : (j : Int) < (W.length : Int) := by omega
      have hws : IntKind.i64.wrap ((s : Int) + (m : Int)) = (s : Int) + (m : Int) := by rw [IntKind.wrap_i64]; omega
      clear r0 r2 hm ht hle hs hb
      go_wp2
      go_round
      case rel => exact ⟨j + 1, s + m, by omega, by go_num, by go_num, by show s + m = _; rw [HT.out, ← HA.out]⟩
      case measure => simp [intOf]; omega
    · have hjl' : j = W.length := by omega
      have HE : Hid (s = usd (W.map (·.1))) := by
        show _ = _
        rw [HA.out, List.take_of_length_le (by rw [List.length_map]; omega)]
      go_wp2
      go_ret
      exact ⟨by rw [← HE.out]; rfl, rfl⟩
end
theorem isN_any (s : ByteArray) (hs : s.size ≤ 4611686018427387904) (w : World) : Calls Try.prog 45 #[.string s] w fun e w' => e = .returned (.bool (nm s)) ∧ w' = w := by
  have HY := hide (nm_true (s := s))
  have HN : Hid (∀ j, j < s.size → okN (s.get! j).toNat = false → nm s = false) := fun j h1 h2 => nm_false (.inr (.inr ⟨j, h1, h2⟩))
  have HZ := hide (nm_false (s := s))
  go_enter Try.func45, Try.ntmps45
  go_wp2
  go_loop [3] (fun vi => ∃ k : Nat, k ≤ s.size ∧ vi = .int .i64 k ∧ Hid (∀ j, j < k → okN (s.get! j).toNat = true)) (fun vi => s.size - (intOf vi).toNat)
  case atStart => exact ⟨0, Nat.zero_le _, rfl, fun j hj => absurd hj (by omega)⟩
  case round =>
    obtain ⟨k, hk, rfl, HK⟩ := hrel
    by_cases hkn : k < s.size
    · have hg := get_at s k hkn
      have hlt : s[k].toNat < 256 := UInt8.toNat_lt _
      rcases (show s[k].toNat = 46 ∨ (s[k].toNat ≠ 46 ∧ s[k].toNat < 97) ∨ (s[k].toNat ≠ 46 ∧ ¬ s[k].toNat < 97 ∧ 122 < s[k].toNat) ∨ (s[k].toNat ≠ 46 ∧ ¬ s[k].toNat < 97 ∧ ¬ 122 < s[k].toNat) by omega) with h5 | ⟨h5, h6⟩ | ⟨h5, h6, h7⟩ | ⟨h5, h6, h7⟩
      · have HB : Hid (okN s[k].toNat = true) := by show okN s[k].toNat = true; rw [h5]; rfl
        go_wp2
        go_round
        case rel => exact ⟨k + 1, by omega, by go_num, fun j hj => by
          by_cases e : j = k
          · subst e; rw [hg]; exact HB.out
          · exact HK.out j (by omega)⟩
        case measure => simp [intOf]; omega
      · have b5 : ¬ ((s[k].toNat : Nat) : Int) = 46 := by omega
        have HB : Hid (okN s[k].toNat = false) := by show okN s[k].toNat = false; unfold okN; simp; omega
        have HF := hide (HN.out k hkn (by rw [hg]; exact HB.out))
        have z6 : ((s[k].toNat : Nat) : Int) < 97 := by omega
        clear h5 h6
        go_wp2
        go_ret
        exact ⟨by rw [HF.out]; rfl, rfl⟩
      · have b5 : ¬ ((s[k].toNat : Nat) : Int) = 46 := by omega
        have HB : Hid (okN s[k].toNat = false) := by show okN s[k].toNat = false; unfold okN; simp; omega
        have HF := hide (HN.out k hkn (by rw [hg]; exact HB.out))
        have z6 : ¬ ((s[k].toNat : Nat) : Int) < 97 := by omega
        have z7 : 122 < ((s[k].toNat : Nat) : Int) := by omega
        clear h5 h6 h7
        go_wp2
        go_ret
        exact ⟨by rw [HF.out]; rfl, rfl⟩
      · have b5 : ¬ ((s[k].toNat : Nat) : Int) = 46 := by omega
        have HB : Hid (okN s[k].toNat = true) := by show okN s[k].toNat = true; unfold okN; simp; omega
        have z6 : ¬ ((s[k].toNat : Nat) : Int) < 97 := by omega
        have z7 : ¬ 122 < ((s[k].toNat : Nat) : Int) := by omega
        clear h5 h6 h7
        go_wp2
        go_round
        case rel => exact ⟨k + 1, by omega, by go_num, fun j hj => by
          by_cases e : j = k
          · subst e; rw [hg]; exact HB.out
          · exact HK.out j (by omega)⟩
        case measure => simp [intOf]; omega
    · have hkn' : k = s.size := by omega
      subst hkn'
      have HKK := hide (fun j hj => HK.out j hj)
      by_cases h1 : s.size < 1
      · have HF := hide (HZ.out (.inl h1))
        have z1 : ¬ (1 : Int) ≤ ((s.size : Nat) : Int) := by omega
        go_wp2
        go_ret
        exact ⟨by rw [HF.out]; rfl, rfl⟩
      · by_cases h2 : 16 < s.size
        · have HF := hide (HZ.out (.inr (.inl h2)))
          have z1 : (1 : Int) ≤ ((s.size : Nat) : Int) := by omega
          have z2 : ¬ ((s.size : Nat) : Int) ≤ 16 := by omega
          clear h1 h2
          go_wp2
          go_ret
          exact ⟨by rw [HF.out]; simp <;> omega, rfl⟩
        · have HT := hide (HY.out (by omega) (by omega) HKK.out)
          have z1 : (1 : Int) ≤ ((s.size : Nat) : Int) := by omega
          have z2 : ((s.size : Nat) : Int) ≤ 16 := by omega
          clear h1 h2
          go_wp2
          go_ret
          exact ⟨by rw [HT.out]; simp <;> omega, rfl⟩
end Go.Proofs.Ytgkdecjlanbmhaa
