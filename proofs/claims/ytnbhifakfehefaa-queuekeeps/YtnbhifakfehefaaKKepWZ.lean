import Derived.Test.YtnbhifakfehefaaKKepRZ
import Derived.Sort.CutIn

/- QueueKeeps: the walk. -/
namespace Go.Proofs.Ytnbhifakfehefaa
open Go.RowKit Go.Shelf
set_option linter.unusedVariables false
set_option linter.unusedSimpArgs false
set_option pp.maxSteps 200000
set_option pp.deepTerms true
attribute [local go_sem] Oper.semAt_some
theorem make_ints (w : World) (n : Nat) (hn : n ≤ 2000000000000) : ∃ cur, (Instr.makeSlice 34 (.int .i64 (n : Int)) (.int .i64 (n : Int))).run Try.prog w = .ok (.slice (some ⟨w.heap.size, 0, none⟩) n n) (w.alloc (.cells cur 3)) ∧ cur.size = n ∧ ∀ k, k < n → cur[k]? = some (.int .i64 0) := by
  have h0 : (Try.prog.info? 3).map (fun i => (i.zero, i.size, i.bytes)) = some (some (.int .i64 0), 1, 8) := by kernel_rfl
  obtain ⟨i, hi, hz, his, hib⟩ := info_parts h0
  have h := run_make (P := Try.prog) w 34 3 i _ Try.underlying34 hi hz .i64 .i64 (n : Int) (n : Int) (by omega) (Int.le_refl _) (by rw [hib]; omega) (by omega)
  rw [his, Nat.mul_one] at h
  simp only [Int.toNat_natCast] at h
  refine ⟨_, h, size_madeCells _ _, fun k hk => ?_⟩
  unfold madeCells
  simp [Value.cells, hk, Nat.mod_one]
def aFr (tm : Array Value) (x : Ev) (bx : Nat) : Act := { tmps := (tm.setIfInBounds 204 (.agg #[.int .i64 x.seq, .int .i64 x.pri, .int .i64 x.exp, .bool x.dur, .int .i64 x.cnt, .int .i64 x.hol, .slice x.a x.n x.c])).setIfInBounds 30 (.pointer (some ⟨bx, 0, none⟩)), defers := [] }
/-- an operation of the script -/
structure Od where
  k : Int
  a : Int
  b : Int
  fi : Int
  la : Option Addr
  ln : Nat
  lc : Nat
  fl : Bool
  e : Ev
def Od.enc (o : Od) : List Value := [.int .i64 o.k, .int .i64 o.a, .int .i64 o.b, .int .i64 o.fi, .slice o.la o.ln o.lc, .bool o.fl, .int .i64 o.e.seq, .int .i64 o.e.pri, .int .i64 o.e.exp, .bool o.e.dur, .int .i64 o.e.cnt, .int .i64 o.e.hol, .slice o.e.a o.e.n o.e.c]
def OpIn (w : World) (a : Option Addr) (n : Nat) (g : Nat → Od) : Prop := 0 < n → ∃ b off, a = some ⟨b, off, none⟩ ∧ b < w.heap.size ∧ ∀ j, j < n → ∀ i u, (g j).enc[i]? = some u → w.cell? ⟨b, off + j * 13 + i, none⟩ = some u
/-- ahead of the i-th entry: in, out -/
def KpI (w w0 : World) (qb : Nat) (mo : Int) (f : Nat → Ev) (i inn out : Nat) (wr : World) : Prop := ∃ m h, KSt w w0 qb mo f i m h wr ∧ inn = out + m
set_option maxRecDepth 100000 in
set_option maxHeartbeats 16000000 in
theorem keeps_in (n : Nat) (HN1 : Hid (1 ≤ n)) (mo : Int) (a0 : Option Addr) (n0 c0 : Nat) (f : Nat → Ev) (a2 : Option Addr) (n2 c2 : Nat) (g : Nat → Od) (w : World) (hE : InE w a0 n0 f) (hn0 : n0 ≤ 1954687338211) (hO : OpIn w a2 n2 g) (hn2 : n2 ≤ 140737488351232) :
    CallsIn Fence.wide n Try.prog 6 #[.int .i64 mo, .slice a0 n0 c0, .slice a2 n2 c2] w (fun e w' => e = .returned (.bool true) ∧ Below w.heap.size w w') := by
  have hdd : ∀ k : Nat, (Fence.wide.depth.isSome = true → 1 ≤ k) := fun k h => by cases h
  obtain ⟨w0, hw0⟩ : ∃ w0, (w.alloc (Obj.cells #[.slice a0 n0 c0] 33)).alloc (Obj.cells #[.bool false] 4) = w0 := ⟨_, rfl⟩
  have HB0 : Hid (Below w.heap.size w w0) := by rw [← hw0]; exact bel1 (bel1 (Below.refl _ _) (Nat.le_refl _) _) (by simp) _
  have HX4 : Hid (w0.heap[w.heap.size]? = some (.cells #[.slice a0 n0 c0] 33 (0, 0))) := by show _ = _; rw [← hw0]; exact heap_past (heap_new _ _) _
  have HX6 : Hid (w0.heap[w.heap.size + 1]? = some (.cells #[.bool false] 4 (0, 0))) := by
    show _ = _
    rw [← hw0]
    have := heap_new (w.alloc (Obj.cells #[.slice a0 n0 c0] 33)) (Obj.cells #[.bool false] 4)
    simpa using this
  have HZ0 : Hid (w0.heap.size = w.heap.size + 2) := by show _ = _; rw [← hw0]; simp
  have HE := hide hE
  have HO := hide hO
  have HN0 := hide hn0
  have HN2 := hide hn2
  have HW0 := hide hw0
  clear hE hO hn0 hn2 hw0
  refine callsIn_of_wp_marks Try.func6 rfl trivial ?_ rfl
  simp only [Try.ntmps6, List.size_toArray, List.length_cons, List.length_nil, Nat.reduceAdd, Nat.reduceSub, Array.replicate_succ, Array.replicate_zero, List.push_toArray, List.append_toArray, List.nil_append, List.cons_append]
  gi_wp2_with fail
  rw [HW0.out]
  refine ⟨trivial, hdd _, ?_⟩
  refine (callsIn_wide.2 (live_any w0)).mono ?_
  rintro e w1 ⟨rfl, hb1⟩
  have HB1 := hide hb1
  clear hb1
  gi_wp2_with fail
  refine ⟨trivial, hdd _, ?_⟩
  refine (callsIn_wide.2 (new_any (cK mo) (by show (1 : Nat) ≤ _; decide) (by show (0 : Nat) ≤ _; decide) w1)).mono ?_
  rintro e w2 (⟨ho, rfl, hb2⟩ | ⟨ho, qb, rfl, HN, hb2⟩)
  · rw [cK_ok] at ho
    have hmo : mo < 1 ∨ 4096 < mo := by
      have := of_decide_eq_false ho
      omega
    have hx6 : w2.heap[w.heap.size + 1]? = some (.cells #[.bool false] 4 (0, 0)) := by
      have h0 := HX6.out
      have h1 := (HB1.out.block _ (Array.getElem?_eq_some_iff.1 h0).1).trans h0
      exact (hb2.block _ (Array.getElem?_eq_some_iff.1 h1).1).trans h1
    have c6 : w2.cell? ⟨w.heap.size + 1, 0, none⟩ = some (.bool false) := by simp [World.cell?, hx6]
    have f6 : w2.frozen? ⟨w.heap.size + 1, 0, none⟩ = false := by simp [World.frozen?, hx6]
    have HBE : Hid (Below w.heap.size w w2) := belOn (belOn HB0.out HB0.out.size HB1.out) (Nat.le_trans HB0.out.size HB1.out.size) hb2
    clear ho hb2
    by_cases h1 : mo < 1
    · gi_wp2_with fail
      have q6 : (w2.setCell ⟨w.heap.size + 1, 0, none⟩ (.bool true)).cell? ⟨w.heap.size + 1, 0, none⟩ = some (.bool true) := by simp [World.cell?, blk_set w2 _ 0 _ hx6]
      refine ⟨.bool true, by simp [results, Try.f6, go_sem, q6], rfl, ?_⟩
      exact HBE.out.setCell (p := ⟨w.heap.size + 1, 0, none⟩) (by show w.heap.size ≤ w.heap.size + 1; omega) _
    · have h2 : 4096 < mo := hmo.resolve_left h1
      gi_wp2_with fail
      have q6 : (w2.setCell ⟨w.heap.size + 1, 0, none⟩ (.bool true)).cell? ⟨w.heap.size + 1, 0, none⟩ = some (.bool true) := by simp [World.cell?, blk_set w2 _ 0 _ hx6]
      refine ⟨.bool true, by simp [results, Try.f6, go_sem, q6], rfl, ?_⟩
      exact HBE.out.setCell (p := ⟨w.heap.size + 1, 0, none⟩) (by show w.heap.size ≤ w.heap.size + 1; omega) _
  · rw [cK_ok] at ho
    have HMO : Hid (1 ≤ mo ∧ mo ≤ 4096) := of_decide_eq_true (p := 1 ≤ mo ∧ mo ≤ 4096) ho
    have HK0 : Hid (KpI w w0 qb mo f 0 0 0 w2) := ⟨0, 0, ⟨belOn HB1.out HB1.out.size hb2, by have := HMO.out; omega, 0, _, _, [], [], e0, fun _ => [], Qs.empty HN.out.2 (Nat.le_trans HB1.out.size HN.out.1) _ _, Int.le_refl _, rfl, rfl, fun b hb => by simp at hb⟩, rfl⟩
    have hmo1 : 1 ≤ mo ∧ mo ≤ 4096 := HMO.out
    clear ho hb2 HN
    gi_wp2_with fail
    gi_loopw [9, 10, 11] (fun v9 v10 v11 wr => ∃ i inn out : Nat, v9 = .int .i64 (inn : Int) ∧ v10 = .int .i64 (out : Int) ∧ v11 = .int .i64 (i : Int) ∧ i ≤ n0 ∧ inn ≤ i ∧ Hid (KpI w w0 qb mo f i inn out wr)) (fun _ _ v11 _ => n0 - (intOf v11).toNat)
    case atStart => exact ⟨0, 0, 0, rfl, rfl, rfl, Nat.zero_le _, Nat.le_refl _, HK0⟩
    case round =>
      rename World => wr
      clear HK0
      obtain ⟨i, inn, out, rfl, rfl, rfl, hin, hii, HI⟩ := hrel
      obtain ⟨m, h, hK, hio⟩ := HI.out
      have HIO := hide hio
      have HK := hide hK
      have hx4 : wr.heap[w.heap.size]? = some (.cells #[.slice a0 n0 c0] 33 (0, 0)) := (hK.1.block _ (Array.getElem?_eq_some_iff.1 HX4.out).1).trans HX4.out
      have c4 : wr.cell? ⟨w.heap.size, 0, none⟩ = some (.slice a0 n0 c0) := by simp [World.cell?, hx4]
      have hl4 : w.heap.size < wr.heap.size := cell_lt c4
      have hi48 : i ≤ 1954687338211 := by have := HN0.out; omega
      clear hK hio hx4
      by_cases hlt : i < n0
      · have hlt' : (i : Int) < (n0 : Int) := by omega
        clear HI
        obtain ⟨ge, off, ha0, hgl, hce⟩ := HE.out.row (by omega)
        subst ha0
        have hup : Below w.heap.size w wr := belOn HB0.out HB0.out.size HK.out.1
        have HCE : Hid (∀ j u, (f i).enc[j]? = some u → wr.cell? ⟨ge, off + i * 7 + j, none⟩ = some u) := fun j u hu => (hup.cell (p := ⟨ge, off + i * 7 + j, none⟩) hgl).trans (hce i hlt j u hu)
        have e0 := HCE.out 0 _ rfl
        have e1 := HCE.out 1 _ rfl
        have e2 := HCE.out 2 _ rfl
        have e3 := HCE.out 3 _ rfl
        have e4 := HCE.out 4 _ rfl
        have e5 := HCE.out 5 _ rfl
        have e6 := HCE.out 6 _ rfl
        rw [Nat.add_zero] at e0
        have hglr : ge < wr.heap.size := Nat.lt_of_lt_of_le hgl hup.size
        have hwi : IntKind.i64.wrap ((i : Int) + 1) = (i : Int) + 1 := by rw [IntKind.wrap_i64]; omega
        obtain ⟨l, hln, hlr, hlnil, hlcap⟩ := HE.out.dat i hlt
        obtain ⟨W1, hW1⟩ : ∃ W1, wr.alloc (Obj.cells #[.int .i64 ((i : Int) + 1), .int .i64 (f i).pri, .int .i64 (f i).exp, .bool (f i).dur, .int .i64 (f i).cnt, .int .i64 (f i).hol, .slice (f i).a (f i).n (f i).c] 37) = W1 := ⟨_, rfl⟩
        have hbW : Below wr.heap.size wr W1 := by rw [← hW1]; exact bel1 (Below.refl _ _) (Nat.le_refl _) _
        have HH1 : Hid (W1.heap[wr.heap.size]? = some (.cells #[.int .i64 ((i : Int) + 1), .int .i64 (f i).pri, .int .i64 (f i).exp, .bool (f i).dur, .int .i64 (f i).cnt, .int .i64 (f i).hol, .slice (f i).a (f i).n (f i).c] 37 (0, 0))) := by rw [← hW1]; exact heap_new _ _
        have HK1 := hide (HK.out.below hbW)
        obtain ⟨bb, hbb⟩ : ∃ bb, (m : Int) - (h : Int) = bb := ⟨_, rfl⟩
        have HBB := hide hbb
        obtain ⟨pa, hpa⟩ : ∃ pa, (h : Int) = pa := ⟨_, rfl⟩
        have HPA := hide hpa
        have hbnd := HK.out.bnd
        have hpab : 0 ≤ pa ∧ pa ≤ 4096 := by omega
        have HL1 := hide (len_k HK1.out pa bb hpa.symm hbb.symm)
        have HLD : Hid ((f i).n = l.length ∧ Rd w (f i).a (f i).n l ∧ ((f i).a = none → (f i).c = 0) ∧ (f i).n ≤ (f i).c) := ⟨hln, hlr, hlnil, hlcap⟩
        have HW1 := hide hW1
        clear hup hce hgl hln hlr hlnil hlcap hbW hW1 hbb hpa HCE HK
        gi_wp2_with fail
        rw [HW1.out]
        refine ⟨trivial, hdd _, ?_⟩
        refine (callsIn_wide.2 HL1.out).mono ?_
        rintro e w3 ⟨rfl, HK3⟩
        have hx3 := (HK3.out.2.block _ (Array.getElem?_eq_some_iff.1 HH1.out).1).trans HH1.out
        obtain ⟨x0, x1, x2, x3, x4, x5, x6⟩ := ent_cells hx3
        have hx3l := (Array.getElem?_eq_some_iff.1 hx3).1
        have HPK := hide (put_k HB0.out HK3.out.1 l HLD.out.1 HLD.out.2.1 HLD.out.2.2.1 HLD.out.2.2.2 HMO.out.2)
        clear e0 e1 e2 e3 e4 e5 e6 hx3 HL1 HK1 HW1 HH1 hglr
        gi_wp2_with fail
        refine ⟨trivial, hdd _, ?_⟩
        refine (callsIn_wide.2 HPK.out).mono ?_
        rintro e w4 ⟨z, rfl, HZ⟩
        clear x0 x1 x2 x3 x4 x5 x6 hx3l HPK HK3
        have HZ4 : Hid (∃ m4 h4, KSt w w0 qb mo f (i + 1) m4 h4 w4 ∧ (((z == 0) = false ∧ (z = 170 → (m : Int) = mo) ∧ m4 = m ∧ h4 = h) ∨ (z = 0 ∧ m4 = m + 1 ∧ h4 = h + 1))) := by
          rcases HZ.out with ⟨hz, hz170, hk4⟩ | ⟨rfl, hk4⟩
          · exact ⟨m, h, hk4, .inl ⟨hz, hz170, rfl, rfl⟩⟩
          · exact ⟨m + 1, h + 1, hk4, .inr ⟨rfl, rfl, rfl⟩⟩
        obtain ⟨m4, h4, hk4, hor⟩ := HZ4.out
        have HOR := hide hor
        have HK4 := hide hk4
        obtain ⟨q4, hq4⟩ : ∃ q4, (m4 : Int) - (h4 : Int) = q4 := ⟨_, rfl⟩
        obtain ⟨p4, hp4⟩ : ∃ p4, (h4 : Int) = p4 := ⟨_, rfl⟩
        have HQ4 := hide hq4
        have HP4 := hide hp4
        have HL4 := hide (len_k HK4.out p4 q4 hp4.symm hq4.symm)
        clear hk4 hor HZ HZ4 hq4 hp4
        gi_wp2_with fail
        refine ⟨trivial, hdd _, ?_⟩
        refine (callsIn_wide.2 HL4.out).mono ?_
        rintro e w5 ⟨rfl, HX5⟩
        have HK4' := hide HX5.out.1
        clear HX5 HL4 HK4
        gi_upto_if 79 with fail
        gi_cut [9] from 275 (fun v9 wx => ∃ (j m5 h5 : Nat), v9 = .int .i64 (j : Int) ∧ j ≤ i + 1 ∧ Hid (KSt w w0 qb mo f (i + 1) m5 h5 wx) ∧ j = out + m5)
        case first =>
          rcases HOR.out with ⟨hz, hz170, hm4, hh4⟩ | ⟨hz0, hm4, hh4⟩
          · have hp : p4 = pa := by have := HP4.out; have := HPA.out; omega
            have hq : q4 = bb := by have := HP4.out; have := HPA.out; have := HQ4.out; have := HBB.out; omega
            subst hp hq
            have hsum : IntKind.i64.wrap (p4 + q4) = (m : Int) := by rw [IntKind.wrap_i64]; have := HPA.out; have := HBB.out; omega
            have HZ170 := hide hz170
            have HM4 := hide hm4
            clear hz170 hm4 hh4 HOR
            by_cases hz1 : z = 170
            · subst hz1
              have hmm : (m : Int) = mo := HZ170.out rfl
              have hmm2 : ((m : Int) == mo) = true := by rw [beq_iff_eq]; exact hmm
              have hmm3 : ((m : Int) != mo) = false := by simp [bne, hmm2]
              clear hmm
              gi_wp2_with fail
              gi_meet
              exact ⟨inn, m4, h4, rfl, by omega, HK4', by have := HIO.out; have := HM4.out; omega⟩
            · have hz1' : (z == 170) = false := by rw [beq_eq_false_iff_ne]; exact hz1
              gi_wp2_with fail
              gi_meet
              exact ⟨inn, m4, h4, rfl, by omega, HK4', by have := HIO.out; have := HM4.out; omega⟩
          · subst hz0
            have hp : p4 = pa + 1 := by have := HP4.out; have := HPA.out; omega
            have hq : q4 = bb := by have := HP4.out; have := HPA.out; have := HQ4.out; have := HBB.out; omega
            subst hp hq
            have hwp : IntKind.i64.wrap (pa + 1) = pa + 1 := by rw [IntKind.wrap_i64]; omega
            have hwq : IntKind.i64.wrap ((inn : Int) + 1) = (inn : Int) + 1 := by rw [IntKind.wrap_i64]; omega
            have HM4 := hide hm4
            clear hm4 hh4 HOR
            gi_wp2_with fail
            gi_meet
            exact ⟨inn + 1, m4, h4, by go_num, by omega, HK4', by have := HIO.out; have := HM4.out; omega⟩
        case rest =>
          rename World => w6
          obtain ⟨j, m5, h5, rfl, hj5, HK5, hio5⟩ := hcut
          have HIO5 := hide hio5
          clear hio5 HOR HQ4 HP4 HK4' HPA HBB HIO HLD
          gi_upto_if 113 with fail
          gi_cut [10, 18, 19, 20, 21, 22, 23, 24, 113] from 275 (fun v10 _ _ _ _ _ _ _ _ wx => ∃ (o m7 h7 : Nat), v10 = .int .i64 (o : Int) ∧ Hid (KSt w w0 qb mo f (i + 1) m7 h7 wx) ∧ j = o + m7)
          case first =>
            by_cases hs2 : i < n2
            · have hs2' : (i : Int) < (n2 : Int) := by omega
              obtain ⟨gb, ob, ha2, hgb, hcb⟩ := HO.out (by omega)
              subst ha2
              have hup5 : Below w.heap.size w w6 := belOn HB0.out HB0.out.size HK5.out.1
              have HCB : Hid (∀ j u, (g i).enc[j]? = some u → w6.cell? ⟨gb, ob + i * 13 + j, none⟩ = some u) := fun j u hu => (hup5.cell (p := ⟨gb, ob + i * 13 + j, none⟩) hgb).trans (hcb i hs2 j u hu)
              have hgb5 : gb < w6.heap.size := Nat.lt_of_lt_of_le hgb hup5.size
              obtain ⟨gi, hgi⟩ : ∃ gi, g i = gi := ⟨_, rfl⟩
              rw [hgi] at HCB
              obtain ⟨kk, aa, ba, fi, la, ln, lc, fl, ⟨es, ep, ex, ed, ec, eh, ea, en, ecc⟩⟩ := gi
              have d0 : w6.cell? ⟨gb, ob + i * 13, none⟩ = some (.int .i64 kk) := HCB.out 0 _ rfl
              have d1 : w6.cell? ⟨gb, ob + i * 13 + 1, none⟩ = some (.int .i64 aa) := HCB.out 1 _ rfl
              have d2 : w6.cell? ⟨gb, ob + i * 13 + 2, none⟩ = some (.int .i64 ba) := HCB.out 2 _ rfl
              have d3 : w6.cell? ⟨gb, ob + i * 13 + 3, none⟩ = some (.int .i64 fi) := HCB.out 3 _ rfl
              have d4 : w6.cell? ⟨gb, ob + i * 13 + 4, none⟩ = some (.slice la ln lc) := HCB.out 4 _ rfl
              have d5 : w6.cell? ⟨gb, ob + i * 13 + 5, none⟩ = some (.bool fl) := HCB.out 5 _ rfl
              have d6 : w6.cell? ⟨gb, ob + i * 13 + 6, none⟩ = some (.int .i64 es) := HCB.out 6 _ rfl
              have d7 : w6.cell? ⟨gb, ob + i * 13 + 7, none⟩ = some (.int .i64 ep) := HCB.out 7 _ rfl
              have d8 : w6.cell? ⟨gb, ob + i * 13 + 8, none⟩ = some (.int .i64 ex) := HCB.out 8 _ rfl
              have d9 : w6.cell? ⟨gb, ob + i * 13 + 9, none⟩ = some (.bool ed) := HCB.out 9 _ rfl
              have d10 : w6.cell? ⟨gb, ob + i * 13 + 10, none⟩ = some (.int .i64 ec) := HCB.out 10 _ rfl
              have d11 : w6.cell? ⟨gb, ob + i * 13 + 11, none⟩ = some (.int .i64 eh) := HCB.out 11 _ rfl
              have d12 : w6.cell? ⟨gb, ob + i * 13 + 12, none⟩ = some (.slice ea en ecc) := HCB.out 12 _ rfl
              obtain ⟨W6, hW6⟩ : ∃ W6, w6.alloc (Obj.cells #[.int .i64 kk, .int .i64 aa, .int .i64 ba, .int .i64 fi, .slice la ln lc, .bool fl, .int .i64 es, .int .i64 ep, .int .i64 ex, .bool ed, .int .i64 ec, .int .i64 eh, .slice ea en ecc] 48) = W6 := ⟨_, rfl⟩
              have HK6 : Hid (KSt w w0 qb mo f (i + 1) m5 h5 W6) := by rw [← hW6]; exact HK5.out.below (bel1 (Below.refl _ _) (Nat.le_refl _) _)
              have HW6 := hide hW6
              clear hup5 hcb HCB hW6 hgb HK5 hgi
              by_cases hk2 : kk = 2
              · have HKK := hide hk2
                rw [hk2] at d0 HW6
                clear hk2
                gi_wp2_with fail
                rw [HW6.out]
                refine ⟨trivial, hdd _, ?_⟩
                refine (callsIn_wide.2 (take_k HK6.out aa)).mono ?_
                rintro e w7 ⟨v7, rfl, HX7⟩
                obtain ⟨h7, hk7⟩ := HX7.out
                have HK7 := hide hk7
                clear hk7 HX7
                gi_wp2_with fail
                gi_meet
                exact ⟨out, _, _, by go_num, HK7.out, by have := HIO5.out; omega⟩
              · have hn2 : (kk == 2) = false := by rw [beq_eq_false_iff_ne]; exact hk2
                by_cases hk4 : kk = 4
                · have HKK := hide hk4
                  rw [hk4] at d0 HW6
                  clear hk4
                  gi_wp2_with fail
                  rw [HW6.out]
                  refine ⟨trivial, hdd _, ?_⟩
                  refine (callsIn_wide.2 (back_k HK6.out aa ba)).mono ?_
                  rintro e w7 ⟨y, d, z7, rfl, HX7⟩
                  rcases HX7.out with ⟨rfl, h7, hk7⟩ | ⟨rfl, rfl, hm7, h7, hk7⟩
                  · by_cases hz7 : z7 = 0
                    · subst hz7
                      obtain ⟨W8, hW8⟩ : ∃ W8, w7.alloc (Obj.cells #[.int .i64 y.seq, .int .i64 y.pri, .int .i64 y.exp, .bool y.dur, .int .i64 y.cnt, .int .i64 y.hol, .slice y.a y.n y.c] 37) = W8 := ⟨_, rfl⟩
                      have HK8 : Hid (KSt w w0 qb mo f (i + 1) (m5) h7 W8) := by rw [← hW8]; exact hk7.below (bel1 (Below.refl _ _) (Nat.le_refl _) _)
                      have HW8 := hide hW8
                      clear hk7 hW8 HX7
                      gi_wp2_with (rw [HW8.out])
                      gi_meet
                      exact ⟨out, _, _, by go_num, HK8.out, by have := HIO5.out; omega⟩
                    · have hz7' : (z7 == 0) = false := by rw [beq_eq_false_iff_ne]; exact hz7
                      obtain ⟨W8, hW8⟩ : ∃ W8, w7.alloc (Obj.cells #[.int .i64 y.seq, .int .i64 y.pri, .int .i64 y.exp, .bool y.dur, .int .i64 y.cnt, .int .i64 y.hol, .slice y.a y.n y.c] 37) = W8 := ⟨_, rfl⟩
                      have HK8 : Hid (KSt w w0 qb mo f (i + 1) (m5) h7 W8) := by rw [← hW8]; exact hk7.below (bel1 (Below.refl _ _) (Nat.le_refl _) _)
                      have HW8 := hide hW8
                      clear hk7 hW8 HX7
                      gi_wp2_with (rw [HW8.out])
                      gi_meet
                      exact ⟨out, _, _, by go_num, HK8.out, by have := HIO5.out; omega⟩
                  · obtain ⟨W8, hW8⟩ : ∃ W8, w7.alloc (Obj.cells #[.int .i64 y.seq, .int .i64 y.pri, .int .i64 y.exp, .bool y.dur, .int .i64 y.cnt, .int .i64 y.hol, .slice y.a y.n y.c] 37) = W8 := ⟨_, rfl⟩
                    have HK8 : Hid (KSt w w0 qb mo f (i + 1) (m5 - 1) h7 W8) := by rw [← hW8]; exact hk7.below (bel1 (Below.refl _ _) (Nat.le_refl _) _)
                    have HW8 := hide hW8
                    have hwo : IntKind.i64.wrap ((out : Int) + 1) = (out : Int) + 1 := by rw [IntKind.wrap_i64]; have := HIO5.out; omega
                    clear hk7 hW8 HX7
                    gi_wp2_with (rw [HW8.out])
                    gi_meet
                    exact ⟨(out + 1), _, _, by go_num, HK8.out, by have := HIO5.out; omega⟩
                · have hn4 : (kk == 4) = false := by rw [beq_eq_false_iff_ne]; exact hk4
                  by_cases hk5 : kk = 5
                  · have HKK := hide hk5
                    rw [hk5] at d0 HW6
                    clear hk5
                    gi_wp2_with fail
                    rw [HW6.out]
                    refine ⟨trivial, hdd _, ?_⟩
                    refine (callsIn_wide.2 (rem_k HK6.out aa ba)).mono ?_
                    rintro e w7 ⟨y, z7, rfl, HX7⟩
                    rcases HX7.out with ⟨hz7, h7, hk7⟩ | ⟨rfl, hm7, h7, hk7⟩
                    · obtain ⟨W8, hW8⟩ : ∃ W8, w7.alloc (Obj.cells #[.int .i64 y.seq, .int .i64 y.pri, .int .i64 y.exp, .bool y.dur, .int .i64 y.cnt, .int .i64 y.hol, .slice y.a y.n y.c] 37) = W8 := ⟨_, rfl⟩
                      have HK8 : Hid (KSt w w0 qb mo f (i + 1) (m5) h7 W8) := by rw [← hW8]; exact hk7.below (bel1 (Below.refl _ _) (Nat.le_refl _) _)
                      have HW8 := hide hW8
                      clear hk7 hW8 HX7
                      gi_wp2_with (rw [HW8.out])
                      gi_meet
                      exact ⟨out, _, _, by go_num, HK8.out, by have := HIO5.out; omega⟩
                    · obtain ⟨W8, hW8⟩ : ∃ W8, w7.alloc (Obj.cells #[.int .i64 y.seq, .int .i64 y.pri, .int .i64 y.exp, .bool y.dur, .int .i64 y.cnt, .int .i64 y.hol, .slice y.a y.n y.c] 37) = W8 := ⟨_, rfl⟩
                      have HK8 : Hid (KSt w w0 qb mo f (i + 1) (m5 - 1) h7 W8) := by rw [← hW8]; exact hk7.below (bel1 (Below.refl _ _) (Nat.le_refl _) _)
                      have HW8 := hide hW8
                      have hwo : IntKind.i64.wrap ((out : Int) + 1) = (out : Int) + 1 := by rw [IntKind.wrap_i64]; have := HIO5.out; omega
                      clear hk7 hW8 HX7
                      gi_wp2_with (rw [HW8.out])
                      gi_meet
                      exact ⟨(out + 1), _, _, by go_num, HK8.out, by have := HIO5.out; omega⟩
                  · have hn5 : (kk == 5) = false := by rw [beq_eq_false_iff_ne]; exact hk5
                    by_cases hk7 : kk = 7
                    · have HKK := hide hk7
                      rw [hk7] at d0 HW6
                      clear hk7
                      gi_wp2_with fail
                      rw [HW6.out]
                      refine ⟨trivial, hdd _, ?_⟩
                      refine (callsIn_wide.2 (exp_k HK6.out aa)).mono ?_
                      rintro e w7 ⟨a7, k7, c7, rfl, hk7m, HX7⟩
                      obtain ⟨h7, hk7⟩ := HX7.out
                      have HK7 := hide hk7
                      have hwo : IntKind.i64.wrap ((out : Int) + (k7 : Int)) = (out : Int) + (k7 : Int) := by rw [IntKind.wrap_i64]; have := HIO5.out; have := HK6.out.bnd; omega
                      clear hk7 HX7
                      gi_wp2_with fail
                      gi_meet
                      exact ⟨(out + k7), _, _, by go_num, HK7.out, by have := HIO5.out; omega⟩
                    · have hn7 : (kk == 7) = false := by rw [beq_eq_false_iff_ne]; exact hk7
                      by_cases hk6 : kk = 6
                      · have HKK := hide hk6
                        rw [hk6] at d0 HW6
                        clear hk6
                        gi_wp2_with fail
                        rw [HW6.out]
                        refine ⟨trivial, hdd _, ?_⟩
                        refine (callsIn_wide.2 (rel_k HK6.out aa)).mono ?_
                        rintro e w7 ⟨v7, rfl, HX7⟩
                        obtain ⟨h7, hk7⟩ := HX7.out
                        have HK7 := hide hk7
                        clear hk7 HX7
                        gi_wp2_with fail
                        gi_meet
                        exact ⟨out, _, _, by go_num, HK7.out, by have := HIO5.out; omega⟩
                      · have hn6 : (kk == 6) = false := by rw [beq_eq_false_iff_ne]; exact hk6
                        gi_wp2_with fail
                        gi_meet
                        exact ⟨out, m5, h5, by go_num, by rw [HW6.out]; exact HK6, HIO5.out⟩
            · have hs2' : ¬ (i : Int) < (n2 : Int) := by omega
              gi_wp2_with fail
              gi_meet
              exact ⟨out, m5, h5, rfl, HK5, HIO5.out⟩
          case rest =>
            rename World => wt
            obtain ⟨o, m7, h7, rfl, HK7, hio7⟩ := hcut
            have HIO7 := hide hio7
            clear hio7 HK5
            have hbd := HK7.out.bnd
            have hmm := HK7.out.2.1
            obtain ⟨qq, hqq⟩ : ∃ qq, (m7 : Int) - (h7 : Int) = qq := ⟨_, rfl⟩
            obtain ⟨pp, hpp⟩ : ∃ pp, (h7 : Int) = pp := ⟨_, rfl⟩
            obtain ⟨ss, hss⟩ : ∃ ss, (m7 : Int) = ss := ⟨_, rfl⟩
            have HLK := hide (len_k HK7.out pp qq hpp.symm hqq.symm)
            have hs1 : IntKind.i64.wrap (pp + qq) = ss := by rw [IntKind.wrap_i64]; omega
            have hs2 : IntKind.i64.wrap ((j : Int) - (o : Int)) = ss := by rw [IntKind.wrap_i64]; have := HIO7.out; omega
            have hs3 : ¬ mo < ss := by omega
            have hs4 : decide (mo < ss) = false := by simpa using hs3
            clear hbd hmm hqq hpp hss
            gi_wp2_with fail
            refine ⟨trivial, hdd _, ?_⟩
            refine (callsIn_wide.2 HLK.out).mono ?_
            rintro e w9 ⟨rfl, HK9⟩
            gi_wp2_with fail
            go_roundw
            case rel => exact ⟨i + 1, j, o, rfl, rfl, by go_num, by omega, by omega, m7, h7, HK9.out.1, HIO7.out⟩
            case measure => simp [intOf]; omega
      · obtain rfl : n0 = i := by omega
        have hwn1 : IntKind.i64.wrap ((n0 : Int) + 1) = (n0 : Int) + 1 := by rw [IntKind.wrap_i64]; omega
        obtain ⟨cur0, hmk, hcz, hc0⟩ := make_ints wr (n0 + 1) (by omega)
        have hmk' : (Instr.makeSlice 34 (.int .i64 ((n0 : Int) + 1)) (.int .i64 ((n0 : Int) + 1))).run Try.prog wr = .ok (.slice (some ⟨wr.heap.size, 0, none⟩) (n0 + 1) (n0 + 1)) (wr.alloc (.cells cur0 3)) := by
          have e : (((n0 + 1 : Nat) : Int)) = (n0 : Int) + 1 := by omega
          rw [← e]
          exact hmk
        have HC0 : Hid (cur0.size = n0 + 1 ∧ ∀ k, k < n0 + 1 → cur0[k]? = some (.int .i64 0)) := ⟨hcz, hc0⟩
        clear hmk hcz hc0
        gi_wp2_with fail
        refine ⟨trivial, hdd _, ?_⟩
        refine (callsIn_wide.2 (all_any qb _)).mono ?_
        rintro e w7 ⟨rfl, hw7⟩
        obtain ⟨W3, hW3⟩ : ∃ W3, ((wr.alloc (Obj.cells cur0 3)).alloc (Obj.cells #[.slice (some ⟨wr.heap.size, 0, none⟩) (n0 + 1) (n0 + 1)] 34)).alloc (Obj.cells #[.int .i64 0] 3) = W3 := ⟨_, rfl⟩
        rw [hW3] at hw7 ⊢
        have hne : (binOp BinOp.eql 54 (.func (.func 36) #[] #[.pointer (some ⟨W3.heap.size, 0, none⟩)]) .nilFunc).run Try.prog w7 = .ok (.bool false) w7 := by kernel_rfl
        have HW3 := hide hW3
        have HW7 := hide hw7
        clear hW3 hw7 hmk'
        gi_wp2_with fail
        -- the range
        obtain ⟨hB0, hmm, hi, A, F, L, H, E, D, hs, hhi, hl, hh, hitm⟩ := HK.out
        have hz3 : W3.heap.size = wr.heap.size + 3 := by rw [← HW3.out]; simp
        have hz7 : w7.heap.size = wr.heap.size + 4 := by rw [HW7.out]; simp [hz3]
        have hb3 : Below wr.heap.size wr W3 := by rw [← HW3.out]; exact bel1 (bel1 (bel1 (Below.refl _ _) (Nat.le_refl _) _) (by simp) _) (by simp; omega) _
        have hb7 : Below wr.heap.size wr w7 := by rw [HW7.out]; exact bel1 hb3 hb3.size _
        have k0 : w7.heap[wr.heap.size]? = some (.cells cur0 3 (0, 0)) := by rw [HW7.out, ← HW3.out]; exact heap_past (heap_past (heap_past (heap_new _ _) _) _) _
        have k1 : w7.heap[wr.heap.size + 1]? = some (.cells #[.slice (some ⟨wr.heap.size, 0, none⟩) (n0 + 1) (n0 + 1)] 34 (0, 0)) := by
          rw [HW7.out, ← HW3.out]
          refine heap_past (heap_past ?_ _) _
          have := heap_new (wr.alloc (Obj.cells cur0 3)) (Obj.cells #[.slice (some ⟨wr.heap.size, 0, none⟩) (n0 + 1) (n0 + 1)] 34)
          simpa using this
        have k2 : w7.heap[wr.heap.size + 2]? = some (.cells #[.int .i64 0] 3 (0, 0)) := by
          rw [HW7.out, ← HW3.out]
          refine heap_past ?_ _
          have := heap_new ((wr.alloc (Obj.cells cur0 3)).alloc (Obj.cells #[.slice (some ⟨wr.heap.size, 0, none⟩) (n0 + 1) (n0 + 1)] 34)) (Obj.cells #[.int .i64 0] 3)
          simpa using this
        have k3 : w7.heap[wr.heap.size + 3]? = some (.cells #[.pointer (some ⟨qb, 0, none⟩)] 25 (0, 0)) := by
          rw [HW7.out, ← hz3]
          exact heap_new _ _
        have hw0S : w0.heap.size ≤ wr.heap.size := hB0.size
        have hN7 : w0.heap.size ≤ w7.heap.size := by omega
        have HJ0 : KJ w0 qb wr.heap.size n0 mo hi A F L H E D w7.heap.size [] w7 := ⟨⟨hs.below hb7, k3⟩, belOn hB0 hB0.size hb7, Nat.le_refl _, ⟨cur0, k0, HC0.out.1, fun k hk => ⟨fun ⟨b, hb, _⟩ => by simp at hb, fun _ => HC0.out.2 k hk⟩⟩, k1, k2, by simp, fun b hb => by simp at hb⟩
        have HITM := hide hitm
        have HLL := hide hl
        have hwz : w0.heap.size = w.heap.size + 2 := HZ0.out
        have HZ3 := hide hz3
        clear hs hitm hl hhi hh k0 k1 k2 k3 hb3 hb7 hne hz3
        refine range_jF (gf := 36) (lb := #[.pointer (some ⟨W3.heap.size, 0, none⟩)]) rfl (enters_of Try.func36 (by kernel_rfl) rfl) (allq_seq w0.heap.size qb W3.heap.size (cK mo) hi A F L H E D) (fun _ => rfl)
          (KJ w0 qb wr.heap.size n0 mo hi A F L H E D w7.heap.size) (fun _ _ => False) (KJ.own hN7) (fun _ _ _ _ _ h => h.elim) (fun t A' h => ⟨h.1.1, by rw [HZ3.out]; exact h.1.2⟩) (fun _ _ _ _ _ h => h.elim) (fun t x t' A' B' _ ⟨b, _, _, _, hb, _⟩ => Nc.of_below hb) (fun _ _ _ _ _ h => h.elim) [] HJ0 rfl
          (fun tm t x t' A' a' W => ∃ b bx, b ∈ L ∧ b ∉ t ∧ t' = t ++ [b] ∧ Gm 0 W x (E b) (D b) ∧ KJ w0 qb wr.heap.size n0 mo hi A F L H E D w7.heap.size t W ∧ W.heap[bx]? = some (.cells #[.int .i64 x.seq, .int .i64 x.pri, .int .i64 x.exp, .bool x.dur, .int .i64 x.cnt, .int .i64 x.hol, .slice x.a x.n x.c] 37 (0, 0)) ∧ a' = aFr tm x bx) ?assign ?body ?done (fun _ _ _ _ h => h.elim)
        case assign =>
          rintro l t x t' A' B' K hI ⟨b, hbL, hbt, rfl, hbA, hgm⟩ hK
          have hkj := (hI.below hN7 hbA).below hN7 (bel1 (Below.refl _ _) (Nat.le_refl _) (Obj.cells #[.int .i64 x.seq, .int .i64 x.pri, .int .i64 x.exp, .bool x.dur, .int .i64 x.cnt, .int .i64 x.hol, .slice x.a x.n x.c] 37))
          have hgm' : Gm 0 (B'.alloc (Obj.cells #[.int .i64 x.seq, .int .i64 x.pri, .int .i64 x.exp, .bool x.dur, .int .i64 x.cnt, .int .i64 x.hol, .slice x.a x.n x.c] 37)) x (E b) (D b) := Gm.kn ⟨hgm.1, hgm.2.1, hgm.2.2.mono (Nat.zero_le _)⟩ (KN.below (bel1 (Below.refl _ _) (Nat.le_refl _) _))
          have HH : Hid (KJ w0 qb wr.heap.size n0 mo hi A F L H E D w7.heap.size t (B'.alloc (Obj.cells #[.int .i64 x.seq, .int .i64 x.pri, .int .i64 x.exp, .bool x.dur, .int .i64 x.cnt, .int .i64 x.hol, .slice x.a x.n x.c] 37)) ∧ Gm 0 (B'.alloc (Obj.cells #[.int .i64 x.seq, .int .i64 x.pri, .int .i64 x.exp, .bool x.dur, .int .i64 x.cnt, .int .i64 x.hol, .slice x.a x.n x.c] 37)) x (E b) (D b)) := ⟨hkj, hgm'⟩
          have HKK := hide hK
          simp only [encQ]
          clear hI hbA hgm hkj hgm' hK
          gi_wp2_with fail
          refine HKK.out _ _ ((KpB.refl _ B').alloc _) ⟨b, B'.heap.size, hbL, hbt, rfl, HH.out.2, HH.out.1, heap_new _ _, ?_⟩
          simp only [aFr, List.setIfInBounds_toArray, List.set_cons_zero, List.set_cons_succ]
        case body =>
          rintro l t x t' A' a' W r r' hl' hA hW hI ⟨b, bx, hbL, hbt, rfl, hgm, hkj, hbx, rfl⟩
          have hkjp := hkj.put hN7 hW rfl hl' (.loop r')
          have hcl : ∀ (k : Nat) (cur : Array Value) (ty : TypeId) (fr : Nat × Nat), W.heap[k]? = some (Obj.cells cur ty fr) → (W.putObj l (.loop r')).heap[k]? = some (Obj.cells cur ty fr) := fun k cur ty fr hk => by
            refine (World.putObj_heap_other (fun e => ?_)).trans hk
            subst e
            rw [hk] at hW
            cases hW
          have hbxp := hcl _ _ _ _ hbx
          have hgmp : Gm 0 (W.putObj l (.loop r')) x (E b) (D b) := hgm.kn ⟨by simp, fun k cur ty fr e _ => hcl k cur ty fr e⟩
          obtain ⟨Wp, hWp⟩ : ∃ Wp, W.putObj l (.loop r') = Wp := ⟨_, rfl⟩
          rw [hWp] at hkjp hbxp hgmp ⊢
          clear hcl hbx hkj hgm hI hA hW hWp
          obtain ⟨j, hj, hsq, hpri, hexp, hdur, hcnt, hc01, hhol, hfn, hrd⟩ := HITM.out b hbL
          obtain ⟨⟨g1, g2, g3, g4, g5, g6⟩, g7, g8⟩ := hgmp
          obtain ⟨xs, xp, xe, xd, xc, xh, xa, xn, xq⟩ := x
          simp only at g1 g2 g3 g4 g5 g6 g7 g8 hbxp
          have e1 : xs = ((j + 1 : Nat) : Int) := by rw [g1, hsq]; omega
          obtain ⟨sq, hsqn⟩ : ∃ sq, j + 1 = sq := ⟨_, rfl⟩
          rw [hsqn] at e1
          subst e1
          have HSEQ : Hid ((E b).seq = (sq : Int)) := g1.symm
          have hsqb : sq < n0 + 1 := by omega
          have hsq1 : (1 : Int) ≤ (sq : Int) := by omega
          have hsq2 : (sq : Int) ≤ (n0 : Int) := by omega
          have hsq3 : (sq : Int) < ((n0 + 1 : Nat) : Int) := by omega
          have hsqw : IntKind.i64.wrap ((sq : Int) - 1) = (j : Int) := by rw [IntKind.wrap_i64]; omega
          obtain ⟨ge, off, ha0, hgl, hce⟩ := HE.out.row (by omega)
          subst ha0
          have hupp : Below w.heap.size w Wp := belOn HB0.out HB0.out.size hkjp.2.1
          have hfj : f j = ⟨(f j).seq, xp, xe, xd, (f j).cnt, (f j).hol, (f j).a, xn, (f j).c⟩ := by
            have q1 : (f j).pri = xp := by rw [g2, hpri]
            have q2 : (f j).exp = xe := by rw [g3, hexp]
            have q3 : (f j).dur = xd := by rw [g4, hdur]
            have q4 : (f j).n = xn := by rw [g7, hfn]
            rw [← q1, ← q2, ← q3, ← q4]
          have hcx : (f j).cnt ≤ xc := by rw [g5]; exact hcnt
          have HOB : Hid (Ob 0 Wp (.slice xa xn xq) (D b)) := g8
          have HRD2 : Hid (Rd w (f j).a xn (D b)) := by rw [hfj] at hrd; exact hrd
          obtain ⟨fs, fc, fh, fa, fq, hfe⟩ : ∃ fs fc fh fa fq, (f j).seq = fs ∧ (f j).cnt = fc ∧ (f j).hol = fh ∧ (f j).a = fa ∧ (f j).c = fq := ⟨_, _, _, _, _, rfl, rfl, rfl, rfl, rfl⟩
          obtain ⟨hf1, hf2, hf3, hf4, hf5⟩ := hfe
          rw [hf1, hf2, hf3, hf4, hf5] at hfj
          rw [hf2] at hcx
          rw [hf4] at HRD2
          have HCE : Hid (∀ k u, ([.int .i64 fs, .int .i64 xp, .int .i64 xe, .bool xd, .int .i64 fc, .int .i64 fh, .slice fa xn fq] : List Value)[k]? = some u → Wp.cell? ⟨ge, off + j * 7 + k, none⟩ = some u) := fun k u hu => (hupp.cell (p := ⟨ge, off + j * 7 + k, none⟩) hgl).trans (hce j hj k u (by rw [hfj]; exact hu))
          have hx4 : Wp.heap[w.heap.size]? = some (.cells #[.slice (some ⟨ge, off, none⟩) n0 c0] 33 (0, 0)) := (hkjp.2.1.block _ (Array.getElem?_eq_some_iff.1 HX4.out).1).trans HX4.out
          have c4p : Wp.cell? ⟨w.heap.size, 0, none⟩ = some (.slice (some ⟨ge, off, none⟩) n0 c0) := by simp [World.cell?, hx4]
          have HX4P := hide hx4
          obtain ⟨y0, y1, y2, y3, y4, y5, y6⟩ := ent_cells hbxp
          obtain ⟨s0, s0f⟩ := hkjp.fresh hbL hbt HSEQ.out hsqb
          have k1 := hkjp.2.2.2.2.1
          have k2 := hkjp.2.2.2.2.2.1
          have c27 : Wp.cell? ⟨wr.heap.size + 1, 0, none⟩ = some (.slice (some ⟨wr.heap.size, 0, none⟩) (n0 + 1) (n0 + 1)) := by simp [World.cell?, k1]
          have c28 : Wp.cell? ⟨wr.heap.size + 1 + 1, 0, none⟩ = some (.int .i64 (t.length : Int)) := by
            have : Wp.heap[wr.heap.size + 1 + 1]? = _ := k2
            simp [World.cell?, this]
          have f28 : Wp.frozen? ⟨wr.heap.size + 1 + 1, 0, none⟩ = false := by
            have : Wp.heap[wr.heap.size + 1 + 1]? = _ := k2
            simp [World.frozen?, this]
          have htl : t.length ≤ 4096 := by
            have := nodup_le t L hkjp.2.2.2.2.2.2.1 hkjp.2.2.2.2.2.2.2
            have := hkjp.1.1.len
            omega
          have hwt : IntKind.i64.wrap ((t.length : Int) + 1) = (t.length : Int) + 1 := by rw [IntKind.wrap_i64]; omega
          have hSl : wr.heap.size < Wp.heap.size := cell_lt s0
          have hbxl : bx < Wp.heap.size := (Array.getElem?_eq_some_iff.1 hbxp).1
          have h4l : w.heap.size < Wp.heap.size := cell_lt c4p
          have hgep : ge < Wp.heap.size := Nat.lt_of_lt_of_le hgl hupp.size
          have HKJ := hide hkjp
          have HBX := hide hbxp
          have HN7' := hide hN7
          simp only [aFr, List.setIfInBounds_toArray, List.set_cons_zero, List.set_cons_succ]
          clear g1 g2 g3 g4 g5 g6 g7 g8 hsq hpri hexp hdur hcnt hc01 hhol hfn hrd hce hupp hfj hf1 hf2 hf3 hf4 hf5 hx4 k1 k2 hkjp hbxp
          gi_upto_region 53 with fail
          clear y0 y1 y2 y3 y4 y5 y6 s0 s0f c27 c28 f28 c4p
          obtain ⟨W4, hW4⟩ : ∃ W4, (Wp.setCell ⟨wr.heap.size, sq, none⟩ (.int .i64 1)).setCell ⟨wr.heap.size + 1 + 1, 0, none⟩ (.int .i64 ((t.length : Int) + 1)) = W4 := ⟨_, rfl⟩
          have hkp4 : ∀ k, k ≠ wr.heap.size → k ≠ wr.heap.size + 1 + 1 → W4.heap[k]? = Wp.heap[k]? := fun k a1 a2 => by
            rw [← hW4]
            exact (blk_set_other _ ⟨wr.heap.size + 1 + 1, 0, none⟩ _ k a2).trans (blk_set_other _ ⟨wr.heap.size, sq, none⟩ _ k a1)
          have hz4 : W4.heap.size = Wp.heap.size := by rw [← hW4]; simp
          have htS : ∀ (k : Nat) (cur : Array Value) (ty : TypeId) (fr : Nat × Nat), Wp.heap[k]? = some (Obj.cells cur ty fr) → ty ≠ 3 → k ≠ wr.heap.size ∧ k ≠ wr.heap.size + 1 + 1 := fun k cur ty fr hk hty => by
            obtain ⟨_, _, _, ⟨cu, q1, _⟩, _, q2, _⟩ := HKJ.out
            refine ⟨fun e => ?_, fun e => ?_⟩
            · subst e
              rw [q1] at hk
              cases hk
              exact hty rfl
            · subst e
              have q2' : Wp.heap[wr.heap.size + 1 + 1]? = _ := q2
              rw [q2'] at hk
              cases hk
              exact hty rfl
          have hbx4 : W4.heap[bx]? = some (.cells #[.int .i64 (sq : Int), .int .i64 xp, .int .i64 xe, .bool xd, .int .i64 xc, .int .i64 xh, .slice xa xn xq] 37 (0, 0)) := by
            obtain ⟨q1, q2⟩ := htS _ _ _ _ HBX.out (by decide)
            exact (hkp4 bx q1 q2).trans HBX.out
          have hx44 : W4.heap[w.heap.size]? = some (.cells #[.slice (some ⟨ge, off, none⟩) n0 c0] 33 (0, 0)) := (hkp4 _ (by omega) (by omega)).trans HX4P.out
          obtain ⟨W5, hW5⟩ : ∃ W5, W4.alloc (Obj.cells #[.int .i64 fs, .int .i64 xp, .int .i64 xe, .bool xd, .int .i64 fc, .int .i64 fh, .slice fa xn fq] 37) = W5 := ⟨_, rfl⟩
          have HKN : Hid (KJ w0 qb wr.heap.size n0 mo hi A F L H E D w7.heap.size (t ++ [b]) W5) := by
            rw [← hW5, ← hW4]
            exact HKJ.out.next hw0S hbL hbt HSEQ.out hsqb _
          have HBX5 : Hid (W5.heap[bx]? = some (.cells #[.int .i64 (sq : Int), .int .i64 xp, .int .i64 xe, .bool xd, .int .i64 xc, .int .i64 xh, .slice xa xn xq] 37 (0, 0))) := by rw [← hW5]; exact heap_past hbx4 _
          have H31 : Hid (W5.heap[W4.heap.size]? = some (.cells #[.int .i64 fs, .int .i64 xp, .int .i64 xe, .bool xd, .int .i64 fc, .int .i64 fh, .slice fa xn fq] 37 (0, 0))) := by rw [← hW5]; exact heap_new _ _
          have HSB : Hid (Calls Try.prog 20 #[.slice xa xn xq, .slice fa xn fq] W5 fun e w' => e = .returned (.bool true) ∧ w' = W5) := by
            have hbb5 : Below w.heap.size w W5 := belOn HB0.out HB0.out.size HKN.out.2.1
            refine sameBytes_eq xa fa xn xq fq (D b) W5 ?_ (HRD2.out.below hbb5)
            have ho := HOB.out.keep (w' := W5) (fun k e => by
              rcases HOB.out.1.2 with ⟨hv, _⟩ | ⟨g', cap', cur', hv, _, hg', _⟩
              · rw [hv] at e
                cases e
              · rw [hv] at e
                cases e
                obtain ⟨q1, q2⟩ := htS _ _ _ _ hg' (by decide)
                rw [hg', ← hW5]
                exact heap_past ((hkp4 _ q1 q2).trans hg') _)
            obtain ⟨a9, c9, q1, _, _, q2⟩ := ho.rb
            simp only [Value.slice.injEq] at q1
            obtain ⟨rfl, rfl, rfl⟩ := q1
            exact q2
          have HKB : Hid (KpB w7.heap.size Wp W5) := by
            rw [← hW5, ← hW4]
            exact (((KpB.refl _ Wp).set (by omega) _ _).set (by omega) _ _).alloc _
          have d0 : W4.cell? ⟨ge, off + j * 7, none⟩ = some (.int .i64 fs) := (World.cell?_of_block (a := ⟨ge, off + j * 7, none⟩) (hkp4 ge (by have := HB0.out.size; omega) (by have := HB0.out.size; omega))).trans (HCE.out 0 _ rfl)
          have d1 : W4.cell? ⟨ge, off + j * 7 + 1, none⟩ = some (.int .i64 xp) := (World.cell?_of_block (a := ⟨ge, off + j * 7 + 1, none⟩) (hkp4 ge (by have := HB0.out.size; omega) (by have := HB0.out.size; omega))).trans (HCE.out 1 _ rfl)
          have d2 : W4.cell? ⟨ge, off + j * 7 + 2, none⟩ = some (.int .i64 xe) := (World.cell?_of_block (a := ⟨ge, off + j * 7 + 2, none⟩) (hkp4 ge (by have := HB0.out.size; omega) (by have := HB0.out.size; omega))).trans (HCE.out 2 _ rfl)
          have d3 : W4.cell? ⟨ge, off + j * 7 + 3, none⟩ = some (.bool xd) := (World.cell?_of_block (a := ⟨ge, off + j * 7 + 3, none⟩) (hkp4 ge (by have := HB0.out.size; omega) (by have := HB0.out.size; omega))).trans (HCE.out 3 _ rfl)
          have d4 : W4.cell? ⟨ge, off + j * 7 + 4, none⟩ = some (.int .i64 fc) := (World.cell?_of_block (a := ⟨ge, off + j * 7 + 4, none⟩) (hkp4 ge (by have := HB0.out.size; omega) (by have := HB0.out.size; omega))).trans (HCE.out 4 _ rfl)
          have d5 : W4.cell? ⟨ge, off + j * 7 + 5, none⟩ = some (.int .i64 fh) := (World.cell?_of_block (a := ⟨ge, off + j * 7 + 5, none⟩) (hkp4 ge (by have := HB0.out.size; omega) (by have := HB0.out.size; omega))).trans (HCE.out 5 _ rfl)
          have d6 : W4.cell? ⟨ge, off + j * 7 + 6, none⟩ = some (.slice fa xn fq) := (World.cell?_of_block (a := ⟨ge, off + j * 7 + 6, none⟩) (hkp4 ge (by have := HB0.out.size; omega) (by have := HB0.out.size; omega))).trans (HCE.out 6 _ rfl)
          have c44 : W4.cell? ⟨w.heap.size, 0, none⟩ = some (.slice (some ⟨ge, off, none⟩) n0 c0) := by simp [World.cell?, hx44]
          obtain ⟨y0, y1, y2, y3, y4, y5, y6⟩ := ent_cells hbx4
          have hbxl4 : bx < W4.heap.size := by rw [hz4]; exact hbxl
          have hge4 : ge < W4.heap.size := by rw [hz4]; exact hgep
          have h4l4 : w.heap.size < W4.heap.size := by rw [hz4]; exact h4l
          have hjn : (j : Int) < (n0 : Int) := by omega
          have HW4 := hide hW4
          have HW5 := hide hW5
          rw [HW4.out]
          clear hW4 hW5 hkp4 htS hbx4 hx44 hz4 hbxl hgep h4l hSl
          gi_wp2_with fail
          rw [HW5.out]
          refine ⟨trivial, hdd _, ?_⟩
          refine (CallsIn.inRound l (callsIn_wide.2 HSB.out)).mono ?_
          rintro e W6 ⟨rfl, rfl⟩
          clear y0 y1 y2 y3 y4 y5 y6 d0 d1 d2 d3 d4 d5 d6 c44
          obtain ⟨y0, y1, y2, y3, y4, y5, y6⟩ := ent_cells HBX5.out
          obtain ⟨d0, d1, d2, d3, d4, d5, d6⟩ := ent_cells H31.out
          have hbxl5 : bx < W6.heap.size := (Array.getElem?_eq_some_iff.1 HBX5.out).1
          have h31l5 : W4.heap.size < W6.heap.size := (Array.getElem?_eq_some_iff.1 H31.out).1
          have hcx1 : ¬ xc < fc := by omega
          have hcx2 : decide (xc < fc) = false := by simpa using hcx1
          gi_wp2_with fail
          exact ⟨HKB.out, t ++ [b], rfl, HKN.out⟩
        case done =>
          rintro Dd t W hD hF hI hK
          have ht : t.length = m := by rw [hF.1.length_eq]; exact HLL.out
          have k2 := hI.2.2.2.2.2.1
          rw [ht] at k2
          have c28 : W.cell? ⟨wr.heap.size + 1 + 1, 0, none⟩ = some (.int .i64 (m : Int)) := by
            have : W.heap[wr.heap.size + 1 + 1]? = _ := k2
            simp [World.cell?, this]
          have l28 := cell_lt c28
          have hx6 : W.heap[w.heap.size + 1]? = some (.cells #[.bool false] 4 (0, 0)) := (hI.2.1.block _ (Array.getElem?_eq_some_iff.1 HX6.out).1).trans HX6.out
          have c6 : W.cell? ⟨w.heap.size + 1, 0, none⟩ = some (.bool false) := by simp [World.cell?, hx6]
          have f6 : W.frozen? ⟨w.heap.size + 1, 0, none⟩ = false := by simp [World.frozen?, hx6]
          have hsub : IntKind.i64.wrap ((inn : Int) - (out : Int)) = (m : Int) := by rw [IntKind.wrap_i64]; have := HIO.out; have := HK.out.bnd; omega
          have HBE : Hid (Below w.heap.size w W) := belOn HB0.out HB0.out.size hI.2.1
          have hD6 : Dd ≠ w.heap.size + 1 := by omega
          have HKD : Hid ((W.setCell ⟨w.heap.size + 1, 0, none⟩ (.bool true)).heap[Dd]? = some (.deferred (some []))) := (blk_set_other _ ⟨w.heap.size + 1, 0, none⟩ _ Dd hD6).trans hK
          have HX6' := hide hx6
          have HDZ : Hid (w.heap.size + 2 ≤ Dd) := by show _ ≤ _; omega
          clear hF hI hK k2 hx6
          gi_wp2_with fail
          have q5 : (W.setCell ⟨w.heap.size + 1, 0, none⟩ (.bool true)).cell? ⟨w.heap.size + 1, 0, none⟩ = some (.bool true) := by simp [World.cell?, blk_set W _ 0 _ HX6'.out]
          have q6 : ∀ o : Obj, ((W.setCell ⟨w.heap.size + 1, 0, none⟩ (.bool true)).putObj Dd o).cell? ⟨w.heap.size + 1, 0, none⟩ = some (.bool true) := fun o => (World.cell?_of_block (a := ⟨w.heap.size + 1, 0, none⟩) (World.putObj_heap_other (fun e => hD6 e.symm))).trans q5
          have hfin : Below w.heap.size w (W.setCell ⟨w.heap.size + 1, 0, none⟩ (.bool true)) := HBE.out.setCell (p := ⟨w.heap.size + 1, 0, none⟩) (by show w.heap.size ≤ w.heap.size + 1; omega) _
          refine ⟨by simp, .inl ⟨_, _, rfl, run_takeDeferred HKD.out, ?_⟩⟩
          refine ⟨.bool true, by simp [results, Try.f6, go_sem, q6], rfl, hfin.os, hfin.tape, hfin.output, ?_, fun k hk => ?_⟩
          · have := hfin.size
            simpa using this
          · exact (World.putObj_heap_other (by have := HDZ.out; omega)).trans (hfin.block k hk)
theorem keeps_walk (mo : Int) (a0 : Option Addr) (n0 c0 : Nat) (f : Nat → Ev) (a2 : Option Addr) (n2 c2 : Nat) (g : Nat → Od) (w : World) (hE : InE w a0 n0 f) (hn0 : n0 ≤ 1954687338211) (hO : OpIn w a2 n2 g) (hn2 : n2 ≤ 140737488351232) :
    Calls Try.prog 6 #[.int .i64 mo, .slice a0 n0 c0, .slice a2 n2 c2] w (fun e w' => e = .returned (.bool true) ∧ Below w.heap.size w w') :=
  callsIn_wide.1 (keeps_in 2 (hide (by decide)) mo a0 n0 c0 f a2 n2 c2 g w hE hn0 hO hn2)
end Go.Proofs.Ytnbhifakfehefaa
