import Derived.Test.YtdcoafpenkofoaaGreatDoorProg
import Derived.Test.YtdcoafpenkofoaaGreatDoorJRdM9
import Derived.WalkLawsBesides
import Derived.Handy
import Derived.Outline
import Derived.Test.YtdcoafpenkofoaaGreatDoorJGetM9

/- octet.Sum's contract. -/
namespace Go.Proofs.YtdcoafpenkofoaaGreatDoor
open Go.RowKit
set_option linter.unusedVariables false

theorem halves_cells (w : World) (t : TypeId) (j : Nat) (hj : j < 16) :
    (w.alloc (Obj.cells #[Value.int IntKind.u32 0, Value.int IntKind.u32 498536548, Value.int IntKind.u32 997073096,
          Value.int IntKind.u32 651767980, Value.int IntKind.u32 1994146192, Value.int IntKind.u32 1802195444,
          Value.int IntKind.u32 1303535960, Value.int IntKind.u32 1342533948, Value.int IntKind.u32 3988292384,
          Value.int IntKind.u32 4027552580, Value.int IntKind.u32 3604390888, Value.int IntKind.u32 3412177804,
          Value.int IntKind.u32 2607071920, Value.int IntKind.u32 2262029012, Value.int IntKind.u32 2685067896,
          Value.int IntKind.u32 3183342108] t)).cell? ⟨w.heap.size, j, none⟩ = some (.int .u32 ((Oc.half j : Nat) : Int)) := by
  rw [World.cell?_alloc_at _ _ _ _ rfl]
  have h : j = 0 ∨ j = 1 ∨ j = 2 ∨ j = 3 ∨ j = 4 ∨ j = 5 ∨ j = 6 ∨ j = 7 ∨ j = 8 ∨ j = 9 ∨ j = 10 ∨ j = 11 ∨ j = 12 ∨ j = 13 ∨ j = 14 ∨ j = 15 := by omega
  rcases h with rfl | rfl | rfl | rfl | rfl | rfl | rfl | rfl | rfl | rfl | rfl | rfl | rfl | rfl | rfl | rfl <;> rfl

set_option maxHeartbeats 1000000 in
theorem sum_any (pb po n cap : Nat) (ls : List (List Nat)) (w : World) (hn : n ≤ 140737488355328) (hl : ls.length = n) (hlt : 0 < n → pb < w.heap.size)
    (hp : ∀ k, k < n → ∃ x m c, w.cell? ⟨pb, po + k, none⟩ = some (.slice x m c) ∧ m ≤ 140737488355328 ∧ Rd w x m (ls.getD k [])) :
    Calls Tryz.prog 175 #[.slice (some ⟨pb, po, none⟩) n cap] w fun e w' => e = .returned (.int .u32 ((4294967295 ^^^ Oc.crc 4294967295 ls.flatten : Nat) : Int)) ∧ Below w.heap.size w w' := by
  go_enter Tryz.func175, Tryz.ntmps175
  have HP : Hid (∀ k, k < n → ∃ x m c, w.cell? ⟨pb, po + k, none⟩ = some (.slice x m c) ∧ m ≤ 140737488355328 ∧ Rd w x m (ls.getD k [])) := hp
  have hfl : ∀ k, k < ls.length → ∀ c ∈ ls.getD k [], c < 256 := fun k hk => by
    obtain ⟨_, _, _, _, _, h⟩ := hp k (by omega)
    exact h.2.1
  have HL : Hid (∀ k, ∀ c ∈ (ls.take k).flatten, c < 256) := fun k => flat_lt hfl k
  clear hp hfl
  go_wp2
  go_loopw [4, 12] (fun r i wr => ∃ k : Nat, k ≤ n ∧ i = .int .i64 k ∧ r = .int .u32 ((Oc.crc 4294967295 (ls.take k).flatten : Nat) : Int) ∧ Below w.heap.size w wr ∧
      Hid (∀ j, j < 16 → wr.cell? ⟨w.heap.size, j, none⟩ = some (.int .u32 ((Oc.half j : Nat) : Int)))) (fun _ i _ => n - (intOf i).toNat)
  case atStart =>
    exact ⟨0, Nat.zero_le _, rfl, rfl, (Below.refl _ _).alloc (Nat.le_refl _) _, fun j hj => halves_cells w _ j hj⟩
  case round =>
    obtain ⟨k, hk, rfl, rfl, hb, HT⟩ := hrel
    by_cases hkn : k < n
    · obtain ⟨x, m, c, hcell, hm, hrd⟩ := HP.out k hkn
      have hcell' : wr.cell? ⟨pb, po + k, none⟩ = some (.slice x m c) := (hb.cell (p := ⟨pb, po + k, none⟩) (hlt (by omega))).trans hcell
      have hR : Oc.crc 4294967295 (ls.take k).flatten < 4294967296 := Oc.crc_lt _ _ (by omega) (HL.out k)
      have HS : Hid (Oc.crc 4294967295 (ls.take (k + 1)).flatten = Oc.crc (Oc.crc 4294967295 (ls.take k).flatten) (ls.getD k [])) := crc_flat_snoc _ _ _ (by omega)
      generalize Oc.crc 4294967295 (ls.take k).flatten = R at *
      generalize ls.getD k [] = l at *
      have HR : Hid (Rd w x m l) := hrd
      clear hrd hcell
      go_wp2
      go_loop [4, 18] (fun r i => ∃ j : Nat, j ≤ m ∧ i = .int .i64 j ∧ r = .int .u32 ((Oc.crc R (l.take j) : Nat) : Int)) (fun _ i => m - (intOf i).toNat)
      case atStart => exact ⟨0, Nat.zero_le _, rfl, rfl⟩
      case round =>
        obtain ⟨j, hj, rfl, rfl⟩ := hrel
        by_cases hjm : j < m
        · obtain ⟨b, off, rfl, hblt, hc0⟩ := HR.out.2.2 (by omega)
          have hc := (hb.cell (p := ⟨b, off + j, none⟩) hblt).trans (hc0 j hjm)
          have hcl := HR.out.lt j hjm
          have hq : Oc.crc R (l.take j) < 4294967296 := Oc.crc_lt _ _ hR (take_lt HR.out.2.1 j)
          have HS2 : Hid (Oc.crc R (l.take (j + 1)) = Oc.stp (Oc.crc R (l.take j)) (l.getD j 0)) := by rw [take_snocN _ _ (by rw [HR.out.1]; exact hjm), Oc.crc_snoc]; exact rfl
          generalize l.getD j 0 = y at *
          generalize Oc.crc R (l.take j) = q at *
          clear hc0
          have hx : q ^^^ y < 4294967296 := Nat.xor_lt_two_pow (n := 32) hq (by omega)
          have e1 := Go.u32_xor_nat q y hq (by omega)
          have HZ : Hid (Oc.stp q y = Oc.nib (Oc.nib (q ^^^ y))) := rfl
          generalize q ^^^ y = x1 at *
          have e2 : bits .and .u32 (x1 : Int) 15 = ((x1 % 16 : Nat) : Int) := by rw [show (15 : Int) = ((15 : Nat) : Int) from rfl, Go.u32_and_nat _ _ hx (by omega), Go.nat_mask4]
          have c1 := HT.out (x1 % 16) (by omega)
          have hh1 := Oc.half_lt (x1 % 16)
          have e3 : bits .xor .u32 ((x1 : Int) / 16) ((Oc.half (x1 % 16) : Nat) : Int) = ((Oc.nib x1 : Nat) : Int) := by
            rw [show (x1 : Int) / 16 = ((x1 / 16 : Nat) : Int) by omega, Go.u32_xor_nat _ _ (by omega) hh1]; exact rfl
          have hy : Oc.nib x1 < 4294967296 := Oc.nib_lt _ hx
          generalize Oc.half (x1 % 16) = h1 at *
          generalize Oc.nib x1 = y1 at *
          have hj1 : x1 % 16 < 16 := by omega
          generalize x1 % 16 = j1 at *
          have e4 : bits .and .u32 (y1 : Int) 15 = ((y1 % 16 : Nat) : Int) := by rw [show (15 : Int) = ((15 : Nat) : Int) from rfl, Go.u32_and_nat _ _ hy (by omega), Go.nat_mask4]
          have c2 := HT.out (y1 % 16) (by omega)
          have hh2 := Oc.half_lt (y1 % 16)
          have e5 : bits .xor .u32 ((y1 : Int) / 16) ((Oc.half (y1 % 16) : Nat) : Int) = ((Oc.nib y1 : Nat) : Int) := by
            rw [show (y1 : Int) / 16 = ((y1 / 16 : Nat) : Int) by omega, Go.u32_xor_nat _ _ (by omega) hh2]; exact rfl
          have hz : Oc.nib y1 < 4294967296 := Oc.nib_lt _ hy
          generalize Oc.half (y1 % 16) = h2 at *
          generalize Oc.nib y1 = z1 at *
          have hj2 : y1 % 16 < 16 := by omega
          generalize y1 % 16 = j2 at *
          go_wp2
          go_round
          case rel => exact ⟨j + 1, by omega, by go_num, by rw [HS2.out, HZ.out]⟩
          case measure => simp [intOf]; omega
        · have hjm' : j = m := by omega
          subst hjm'
          have hfin : l.take j = l := List.take_of_length_le (by rw [HR.out.1]; omega)
          have HF : Hid (l.take j = l) := hfin
          clear hfin
          go_wp2
          go_roundw
          case rel => exact ⟨k + 1, by omega, by go_num, by rw [HS.out, HF.out], hb, HT⟩
          case measure => simp [intOf]; omega
    · have hkn' : k = n := by omega
      subst hkn'
      have HF : Hid (ls.take k = ls) := List.take_of_length_le (by omega)
      have hq : Oc.crc 4294967295 ls.flatten < 4294967296 := Oc.crc_lt _ _ (by omega) (by have := HL.out k; rwa [HF.out] at this)
      go_wp2
      go_ret
      rw [HF.out]
      generalize Oc.crc 4294967295 ls.flatten = q at *
      refine ⟨ret_intJ ?_, hb⟩
      exact Go.u32_xor_nat 4294967295 q (by omega) hq

set_option maxHeartbeats 1000000 in
theorem sum_none (a : Option Addr) (cap : Nat) (w : World) :
    Calls Tryz.prog 175 #[.slice a 0 cap] w fun e w' => e = .returned (.int .u32 0) ∧ Below w.heap.size w w' := by
  go_enter Tryz.func175, Tryz.ntmps175
  go_wp2
  refine wp_loop_rounds 1 ?_
  rw [rounds_succ]
  go_wp2
  go_ret
  exact ⟨rfl, (Below.refl _ _).alloc (Nat.le_refl _) _⟩
end Go.Proofs.YtdcoafpenkofoaaGreatDoor


/- Stage 20: octet's calls at the widths that a log has. -/
namespace Go.Proofs.YtdcoafpenkofoaaGreatDoor
open Go.RowKit
set_option linter.unusedVariables false
set_option linter.unusedSimpArgs false
theorem Rd.drop {w : World} {b off n : Nat} {l : List Nat} (h : Rd w (some ⟨b, off, none⟩) n l) {k : Nat} (hk : k ≤ n) : Rd w (some ⟨b, off + k, none⟩) (n - k) (l.drop k) := by
  obtain ⟨h1, h2, h3⟩ := h
  refine ⟨by rw [List.length_drop]; omega, fun c hc => h2 c (List.mem_of_mem_drop hc), fun h0 => ?_⟩
  obtain ⟨b', off', e, hlt, hc⟩ := h3 (by omega)
  simp only [Option.some.injEq, Addr.mk.injEq, and_true] at e
  obtain ⟨rfl, rfl⟩ := e
  refine ⟨b, off + k, rfl, hlt, fun j hj => ?_⟩
  rw [Nat.add_assoc, hc (k + j) (by omega)]
  simp [List.getD_eq_getElem?_getD]
theorem Rd.take {w : World} {a : Option Addr} {n : Nat} {l : List Nat} (h : Rd w a n l) {k : Nat} (hk : k ≤ n) : Rd w a k (l.take k) := by
  obtain ⟨h1, h2, h3⟩ := h
  refine ⟨by rw [List.length_take]; omega, fun c hc => h2 c (List.mem_of_mem_take hc), fun h0 => ?_⟩
  obtain ⟨b', off', e, hlt, hc⟩ := h3 (by omega)
  refine ⟨b', off', e, hlt, fun j hj => ?_⟩
  rw [hc j (by omega)]
  simp [List.getD_eq_getElem?_getD, hj]
theorem get4 (a : Option Addr) (n cap i : Nat) (l : List Nat) (w : World) (hik : i + 4 ≤ n) (hcap : n ≤ cap) (hn : n ≤ 281474976710656) (hrd : Rd w a n l) :
    Calls Tryz.prog 183 #[.slice a n cap, .int .i64 (i : Int), .int .i64 4] w fun e w' => e = .returned (.tuple #[.int .u64 ((getN ((l.drop i).take 4) : Nat) : Int), .int .i64 0]) ∧ w = w' :=
  get_yes a n cap i 4 l w (by omega) (by omega) hik hcap hn hrd
theorem get4_zero (a : Option Addr) (n cap : Nat) (l : List Nat) (w : World) (hik : 4 ≤ n) (hcap : n ≤ cap) (hn : n ≤ 281474976710656) (hrd : Rd w a n l) :
    Calls Tryz.prog 183 #[.slice a n cap, .int .i64 0, .int .i64 4] w fun e w' => e = .returned (.tuple #[.int .u64 ((getN (l.take 4) : Nat) : Int), .int .i64 0]) ∧ w = w' :=
  get_yes a n cap 0 4 l w (by omega) (by omega) (by omega) hcap hn hrd
theorem sum1 (g : Nat) (a : Option Addr) (m c : Nat) (l : List Nat) (w : World) (hg : w.cell? ⟨g, 0, none⟩ = some (.slice a m c)) (hm : m ≤ 140737488355328) (hrd : Rd w a m l) :
    Calls Tryz.prog 175 #[.slice (some ⟨g, 0, none⟩) 1 1] w fun e w' => e = .returned (.int .u32 ((sumN l : Nat) : Int)) ∧ Below w.heap.size w w' := by
  have h := sum_any g 0 1 1 [l] w (by omega) rfl (fun _ => by
    have := block_lt_of_cell hg
    exact this) (fun k hk => by
    have : k = 0 := by omega
    subst this
    exact ⟨a, m, c, hg, hm, hrd⟩)
  simpa [sumN] using h
end Go.Proofs.YtdcoafpenkofoaaGreatDoor
