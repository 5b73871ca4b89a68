
/- present, of any queue. -/
import Derived.Test.YtnbhifakfehefaaKExp
import Derived.Laws.MakeOwn
namespace Go.Proofs.Ytnbhifakfehefaa
open Go.RowKit
set_option linter.unusedVariables false
set_option linter.unusedSimpArgs false
def slA : Value → Option Addr
  | .slice a _ _ => a
  | _ => none
def slC : Value → Nat
  | .slice _ _ c => c
  | _ => 0
/-- an item as an entry of the list -/
def evB (E : Nat → It) (D : Nat → List Nat) (b : Nat) : Ev := ⟨(E b).seq, (E b).pri, (E b).exp, (E b).dur, (E b).cnt, (E b).hol, slA (E b).dat, (D b).length, slC (E b).dat⟩
theorem evB_dat {B : Nat} {w : World} {E : Nat → It} {D : Nat → List Nat} {b : Nat} (h : Ob B w (E b).dat (D b)) : (E b).dat = .slice (slA (E b).dat) (D b).length (slC (E b).dat) := by
  obtain ⟨a, c, e⟩ := row_form h.1
  rw [e]
  rfl
theorem make_ents (w : World) (n : Nat) (hn : n ≤ 4096) : ∃ cur, (Instr.makeSlice 33 (.int .i64 (n : Int)) (.int .i64 (n : Int))).run Try.prog w = .ok (.slice (some ⟨w.heap.size, 0, none⟩) n n) (w.alloc (.cells cur 37)) ∧ cur.size = n * 7 := by
  obtain ⟨i, z, hi, hz, hzs, his, hib⟩ := Try.infoE
  have h := run_makeSlice (P := Try.prog) (w := w) 33 37 i z Try.underlying33 hi hz .i64 .i64 (n : Int) (n : Int) (by omega) (Int.le_refl _) (by rw [his]; simp; omega) (by rw [hib]; omega) (by omega)
  rw [his] at h
  simp only [Int.toNat_natCast] at h
  exact ⟨_, h, size_madeCells _ _⟩
def PrI (w : World) (L : List Nat) (E : Nat → It) (D : Nat → List Nat) (n : Nat) (wr : World) : Prop := Below w.heap.size w wr ∧ w.heap.size < wr.heap.size ∧ ∃ cur, wr.heap[w.heap.size]? = some (.cells cur 37 (0, 0)) ∧ cur.size = L.length * 7 ∧ wr.rangeAt w.heap.size 0 (((L.take n).map (evB E D)).flatMap Ev.enc)
theorem PrI.next {w wr : World} {L : List Nat} {E : Nat → It} {D : Nat → List Nat} {n : Nat} (h : PrI w L E D n wr) (hn : n < L.length) : PrI w L E D (n + 1) (wr.setCells w.heap.size (n * 7) (evB E D (hv L n)).enc) := by
  obtain ⟨h1, h2, cur, h3, h4, h5⟩ := h
  have hgr := setCs_grown w.heap.size (evB E D (hv L n)).enc (n * 7) wr
  obtain ⟨cur', k1, k2⟩ := setCs_keeps w.heap.size (evB E D (hv L n)).enc (n * 7) wr cur _ _ h3
  have hlen : (((L.take n).map (evB E D)).flatMap Ev.enc).length = n * 7 := by
    have := ekOk.all ((L.take n).map (evB E D))
    rw [List.length_map, List.length_take, Nat.min_eq_left (by omega)] at this
    exact this
  refine ⟨⟨hgr.os.trans h1.os, hgr.tape.trans h1.tape, hgr.output.trans h1.output, Nat.le_trans h1.size hgr.size, fun k hk => (hgr.block k (by omega) (fun e => by simp at e; omega)).trans (h1.block k hk)⟩, Nat.lt_of_lt_of_le h2 hgr.size, cur', k1, by omega, ?_⟩
  rw [take_next hn, List.map_append, List.flatMap_append]
  refine range_app (World.rangeAt_setCells_apart h5 _ _ _ (.inr (.inl (by rw [hlen]; omega)))) ?_
  rw [hlen, Nat.zero_add]
  have e : ([hv L n].map (evB E D)).flatMap Ev.enc = (evB E D (hv L n)).enc := by simp
  rw [e]
  refine World.rangeAt_setCells_same _ _ _ _ (fun j hj => ?_)
  have hj7 : j < 7 := hj
  have hlt : n * 7 + j < cur.size := by omega
  refine ⟨?_, by simp [World.frozen?, h3]⟩
  rw [cellOf h3 _ _ (Array.getElem?_eq_getElem hlt)]
  rfl
set_option maxRecDepth 100000 in
set_option maxHeartbeats 4000000 in
theorem present_any (B qb : Nat) (c : Cf) (hi : Int) (A F : Value) (L H : List Nat) (E : Nat → It) (D : Nat → List Nat) (w : World) (hs : Qs w B qb c hi A F L H E D) :
    Calls Try.prog 37 #[.pointer (some ⟨qb, 0, none⟩)] w fun e w' => e = .returned (.slice (some ⟨w.heap.size, 0, none⟩) L.length L.length) ∧ Hid (∃ ks : List Ev, ks.Perm (L.map (evB E D)) ∧ (∀ i j (hi : i < ks.length) (hj : j < ks.length), i < j → 0 ≤ Ev.cf ks[j] ks[i]) ∧ Wy EK w' w.heap.size (.slice (some ⟨w.heap.size, 0, none⟩) L.length L.length) ks ∧ Below w.heap.size w w') := by
  have c6 := hs.q.cell.2.2.2.2.2.2.1
  obtain ⟨aA, cA, hA⟩ := row_form hs.ra
  have HA := hide hA
  rw [hA] at c6
  obtain ⟨nL, hnL⟩ : ∃ nL, L.length = nL := ⟨_, rfl⟩
  have HNL := hide hnL
  have hL4 : nL ≤ 4096 := by have := hs.len; omega
  have hql := hs.q.lt
  rw [hnL] at c6 ⊢
  obtain ⟨cur0, hmk, hc0⟩ := make_ents w nL hL4
  obtain ⟨W0, hW0⟩ : ∃ W0, w.alloc (.cells cur0 37) = W0 := ⟨_, rfl⟩
  rw [hW0] at hmk
  have HP0 : Hid (PrI w L E D 0 W0) := by
    refine ⟨by rw [← hW0]; exact bel1 (Below.refl _ _) (Nat.le_refl _) _, by rw [← hW0]; simp, cur0, by rw [← hW0]; exact heap_new _ _, by rw [hnL]; exact hc0, fun j u hu => by simp at hu⟩
  have hb0 := HP0.out.1
  have c60 := cell_on hb0 c6
  have hql0 : qb < W0.heap.size := Nat.lt_of_lt_of_le hql hb0.size
  have HS := hide hs
  clear hs hA hnL hW0 hc0 hb0
  go_enter Try.func37, Try.ntmps37
  go_wp2_with fail
  go_loopw [17] (fun v17 wr => ∃ n : Nat, v17 = .int .i64 (n : Int) ∧ n ≤ nL ∧ Hid (PrI w L E D n wr)) (fun v17 _ => nL - (intOf v17).toNat)
  case atStart => exact ⟨0, rfl, Nat.zero_le _, HP0⟩
  case round =>
    rename World => wr
    clear HP0 c60 c6 hmk
    obtain ⟨n, rfl, hn, HI⟩ := hrel
    by_cases hnl : n < nL
    · have hnl' : (n : Int) < (nL : Int) := by omega
      have hwn : IntKind.i64.wrap ((n : Int) + 1) = (n : Int) + 1 := by rw [IntKind.wrap_i64]; omega
      have hnL2 : n < L.length := by have := HNL.out; omega
      obtain ⟨hbw, hgl, cur, hcu, hcs, _⟩ := HI.out
      have hQ := HS.out.below hbw
      obtain ⟨g, cap, hA, cn, hcap⟩ := row_cell hQ.ra n hnL2
      rw [HA.out, HNL.out] at hA
      cases hA
      obtain ⟨b, hb⟩ : ∃ b, hv L n = b := ⟨_, rfl⟩
      have hbL : b ∈ L := by rw [← hb]; exact hv_mem L n hnL2
      obtain ⟨p, hib⟩ := hQ.it b hbL
      rw [hb] at cn
      unfold ptr at cn
      obtain ⟨y0, y1, y2, y3, y4, y5, y6, _⟩ := hib.cells
      unfold It.at at y0 y1 y2 y3 y4 y5 y6
      simp only at y0 y1 y2 y3 y4 y5 y6
      rw [evB_dat (hQ.dat b hbL)] at y6
      have hbl := hib.lt
      have hga := cell_lt cn
      have hz : ∀ j, j < 7 → ∃ u, wr.cell? ⟨w.heap.size, n * 7 + j, none⟩ = some u := fun j hj => by
        have hlt : n * 7 + j < cur.size := by omega
        exact ⟨cur[n * 7 + j], cellOf hcu _ _ (Array.getElem?_eq_getElem hlt)⟩
      obtain ⟨u0, z0⟩ := hz 0 (by omega)
      obtain ⟨u1, z1⟩ := hz 1 (by omega)
      obtain ⟨u2, z2⟩ := hz 2 (by omega)
      obtain ⟨u3, z3⟩ := hz 3 (by omega)
      obtain ⟨u4, z4⟩ := hz 4 (by omega)
      obtain ⟨u5, z5⟩ := hz 5 (by omega)
      obtain ⟨u6, z6⟩ := hz 6 (by omega)
      rw [Nat.add_zero] at z0
      have f0 : wr.frozen? ⟨w.heap.size, n * 7, none⟩ = false := by simp [World.frozen?, hcu]
      have f1 : wr.frozen? ⟨w.heap.size, n * 7 + 1, none⟩ = false := by simp [World.frozen?, hcu]
      have f2 : wr.frozen? ⟨w.heap.size, n * 7 + 2, none⟩ = false := by simp [World.frozen?, hcu]
      have f3 : wr.frozen? ⟨w.heap.size, n * 7 + 3, none⟩ = false := by simp [World.frozen?, hcu]
      have f4 : wr.frozen? ⟨w.heap.size, n * 7 + 4, none⟩ = false := by simp [World.frozen?, hcu]
      have f5 : wr.frozen? ⟨w.heap.size, n * 7 + 5, none⟩ = false := by simp [World.frozen?, hcu]
      have f6 : wr.frozen? ⟨w.heap.size, n * 7 + 6, none⟩ = false := by simp [World.frozen?, hcu]
      have HNX := hide (HI.out.next hnL2)
      rw [hb] at HNX
      clear hbw hcu hcs hQ hib hz hb
      go_wp2_with fail
      go_roundw
      case rel => exact ⟨n + 1, by go_num, by omega, HNX⟩
      case measure => simp [intOf]; omega
    · obtain rfl : nL = n := by omega
      have HWY : Hid (Wy EK wr w.heap.size (.slice (some ⟨w.heap.size, 0, none⟩) nL nL) (L.map (evB E D))) := by
        obtain ⟨hbw, hgl, cur, hcu, hcs, hr⟩ := HI.out
        rw [List.take_of_length_le (by rw [HNL.out]; exact Nat.le_refl _)] at hr
        refine .inr ⟨w.heap.size, 0, nL, cur, by rw [List.length_map, HNL.out], Nat.le_refl _, by rw [List.length_map, HNL.out]; exact Nat.le_refl _, by unfold maxLen; omega, hcu, ?_, hr⟩
        have := HNL.out
        show 0 + nL * 7 ≤ _
        omega
      have HSO := hide (sort_out HWY.out (by rw [List.length_map, HNL.out]; exact hL4))
      go_wp2_with fail
      refine Calls.mono HSO.out ?_
      rintro e w4 ⟨rfl, HSP⟩
      go_wp2
      go_ret
      obtain ⟨ks, s1, s2, s3, s4⟩ := HSP.out
      refine ⟨rfl, ks, s1, s2, s3, ?_⟩
      have h1 := HI.out.1
      exact ⟨s4.os.trans h1.os, s4.tape.trans h1.tape, s4.output.trans h1.output, Nat.le_trans h1.size s4.size, fun k hk => (s4.block k (by have := h1.size; omega) (fun e => by simp [Value.ownBlock] at e; omega)).trans (h1.block k hk)⟩
end Go.Proofs.Ytnbhifakfehefaa
