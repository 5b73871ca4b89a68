import Derived.Test.YtgpimajdcfoigabDoorD36
import Derived.Test.YtgpimajdcfoigabDoorD37

/- codec's reader: elements' closure. -/
namespace Go.Proofs.YtgpimajdcfoigabDoor
open Go.RowKit
set_option linter.unusedVariables false
set_option linter.unusedSimpArgs false
/-- the boxes of elements: the reader, the kind, the place, the depth -/
structure EBx (N R : Nat) (k place d : Nat) (W : World) : Prop where
  b0 : W.heap[N]? = some (.cells #[.pointer (some ⟨R, 0, none⟩)] 55)
  b1 : W.heap[N + 1]? = some (.cells #[.int .i64 (k : Int)] 3)
  b2 : W.heap[N + 2]? = some (.cells #[.int .i64 (place : Int)] 3)
  b3 : W.heap[N + 3]? = some (.cells #[.int .i64 (d : Int)] 3)
  sz : N + 5 ≤ W.heap.size
theorem EBx.keep {N R k place d : Nat} {W W' : World} (h : EBx N R k place d W) (hk : ∀ b, N ≤ b → b ≤ N + 3 → W'.heap[b]? = W.heap[b]?) (hs : W.heap.size ≤ W'.heap.size) : EBx N R k place d W' :=
  ⟨(hk _ (by omega) (by omega)).trans h.b0, (hk _ (by omega) (by omega)).trans h.b1, (hk _ (by omega) (by omega)).trans h.b2, (hk _ (by omega) (by omega)).trans h.b3, by have := h.sz; omega⟩
/-- what stays while elements reads -/
structure EG (w0 : World) (N R k place d : Nat) (W : World) : Prop where
  gro : Gro R w0 W
  bx : EBx N R k place d W
structure EF (w0 : World) (N R k place d : Nat) (W : World) : Prop where
  g : EG w0 N R k place d W
  bl : W.heap[N + 4]? = some (.cells #[.slice none 0 0] 23)
theorem EG.on {w0 : World} {N R k place d : Nat} {W W' : World} (h : EG w0 N R k place d W) (hg : Gro R W W') (hR : R < N) : EG w0 N R k place d W' :=
  ⟨h.gro.trans hg, h.bx.keep (fun b h1 h2 => hg.block b (by have := h.bx.sz; omega) (by simp; omega)) hg.size⟩
theorem EF.on {w0 : World} {N R k place d : Nat} {W W' : World} (h : EF w0 N R k place d W) (hg : Gro R W W') (hR : R < N) : EF w0 N R k place d W' :=
  ⟨h.g.on hg hR, (hg.block (N + 4) (by have := h.g.bx.sz; omega) (by simp; omega)).trans h.bl⟩
/-- what elements has gathered -/
def EJ (N : Nat) (xs : List T) (W : World) : Prop := ∃ ys lv, Gat (N + 5) (N + 4) ys lv W ∧ V.ts ys = xs
/-- elements' closure, as mathematics -/
def relemI (l : List Nat) (f k place : Nat) (count q fin : Nat) (sz : Int) : Res (List T × Nat) :=
  if k = 22 ∧ count % 2 ≠ 0 then .error ((place : Int), 34) else if k = 22 ∧ 1024 < count / 2 then .error ((place : Int), 2) else rmany (fun r => rvalG l (rdat badB twiceW l f) f r fin sz) count q
/-- what a call of value is asked -/
def ValAt (f d R : Nat) (a : Option Addr) (n cap : Nat) (l : List Nat) : Prop := ∀ (q fin : Nat) (sz : Int) W, Src W R a n cap l → RB W R a n cap q fin sz → q ≤ fin → fin ≤ n →
  Calls Tryd.prog 17 #[.pointer (some ⟨R, 0, none⟩), .int .i64 ((d : Int) + 1)] W (Outc (rval badB twiceW l f q fin sz) R W (GotV R a n cap q fin sz W))
/-- behind i elements -/
structure EL (w0 : World) (N R k place d : Nat) (a : Option Addr) (n cap q fin : Nat) (sz : Int) (Rf : Nat → Res (T × Nat)) (count : Nat) (tot : Res (List T × Nat)) (i : Nat) (ys : List V) (lv : Value) (q' : Nat) (wr : World) : Prop where
  eg : EG w0 N R k place d wr
  gat : Gat (N + 5) (N + 4) ys lv wr
  len : ys.length = i
  rb : RB wr R a n cap q' fin sz
  q1 : q + i ≤ q'
  q2 : q' ≤ fin
  tot : tot = bindR (rmany Rf (count - i) q') (fun zs => .ok (V.ts ys ++ zs.1, zs.2))
theorem EL.err {w0 : World} {N R k place d : Nat} {a : Option Addr} {n cap q fin : Nat} {sz : Int} {Rf : Nat → Res (T × Nat)} {count : Nat} {tot : Res (List T × Nat)} {i : Nat} {ys : List V} {lv : Value} {q' : Nat} {wr : World} (h : EL w0 N R k place d a n cap q fin sz Rf count tot i ys lv q' wr) (hi : i < count) {x : Int × Int} (hx : Rf q' = .error x) : tot = .error x := by
  rw [h.tot, show count - i = (count - (i + 1)) + 1 by omega, rmany_b, hx]
  rfl
theorem EL.fin {w0 : World} {N R k place d : Nat} {a : Option Addr} {n cap q fin : Nat} {sz : Int} {Rf : Nat → Res (T × Nat)} {count : Nat} {tot : Res (List T × Nat)} {i : Nat} {ys : List V} {lv : Value} {q' : Nat} {wr : World} (h : EL w0 N R k place d a n cap q fin sz Rf count tot i ys lv q' wr) (hi : i = count) : tot = .ok (V.ts ys, q') := by
  rw [h.tot, hi, Nat.sub_self, rmany]
  simp [bindR]
theorem EL.nxt {w0 : World} {N R k place d : Nat} {a : Option Addr} {n cap q fin : Nat} {sz : Int} {Rf : Nat → Res (T × Nat)} {count : Nat} {tot : Res (List T × Nat)} {i : Nat} {ys : List V} {lv : Value} {q' : Nat} {wr : World} (h : EL w0 N R k place d a n cap q fin sz Rf count tot i ys lv q' wr) (hi : i < count) {y : V} {q2 : Nat} (hx : Rf q' = .ok (y.t, q2)) :
    tot = bindR (rmany Rf (count - (i + 1)) q2) (fun zs => .ok (V.ts (ys ++ [y]) ++ zs.1, zs.2)) := by
  rw [h.tot, show count - i = (count - (i + 1)) + 1 by omega, rmany_b, hx]
  unfold bindR
  simp only
  cases rmany Rf (count - (i + 1)) q2 with
  | error x => rfl
  | ok zs => simp [V.ts_map]
/-- behind the call and the slice of one: what an append wants -/
structure App4 (M R : Nat) (wr : World) (i : Nat) (la : Option Addr) (lc : Nat) (ys : List V) (y : V) (tq : T × Nat) (q' fin : Nat) (sz : Int) (a : Option Addr) (n cap zb : Nat) (W4 : World) : Prop where
  gro : Gro R wr W4
  row : W4.ownsRow M 25 5 (.slice la i lc) i (flat ys)
  news : ∀ j u, zeroW[j]? = some u → W4.cell? ((⟨zb, 0, none⟩ : Addr).add j) = some u
  one : ∀ u ∈ zeroW, u.oneCell' = true
  m1 : i + 1 ≤ maxLen
  m2 : (i + 1) * 64 ≤ 140737488355328
  base : M ≤ W4.heap.size
  lies : LiesIn (fun b => wr.heap.size ≤ b ∧ b < W4.heap.size) W4 y
  yt : y.t = tq.1
  rb : RB W4 R a n cap tq.2 fin sz
  q1 : q' ≤ tq.2
  q2 : tq.2 ≤ fin
theorem zero_news {W4 : World} {zb : Nat} (h : W4.heap[zb]? = some (Obj.cells #[.int .i64 0, .int .u64 0, .string ⟨#[]⟩, .slice none 0 0, .int .i64 0] 25)) : ∀ j u, zeroW[j]? = some u → W4.cell? ((⟨zb, 0, none⟩ : Addr).add j) = some u := by
  intro j u hu
  have hj : j < 5 := by
    have := (List.getElem?_eq_some_iff.1 hu).1
    simpa [zeroW] using this
  match j, hj with
  | 0, _ => simp [zeroW] at hu; subst hu; simp [World.cell?, Addr.add, h]
  | 1, _ => simp [zeroW] at hu; subst hu; simp [World.cell?, Addr.add, h]
  | 2, _ => simp [zeroW] at hu; subst hu; simp [World.cell?, Addr.add, h]
  | 3, _ => simp [zeroW] at hu; subst hu; simp [World.cell?, Addr.add, h]
  | 4, _ => simp [zeroW] at hu; subst hu; simp [World.cell?, Addr.add, h]
theorem zero_one : ∀ u ∈ zeroW, u.oneCell' = true := by
  intro u hu
  simp only [zeroW, List.mem_cons, List.not_mem_nil, or_false] at hu
  rcases hu with rfl | rfl | rfl | rfl | rfl <;> rfl
theorem app4_a {M lb R : Nat} {wr w1 : World} {i : Nat} {la : Option Addr} {lc : Nat} {ys : List V} {y : V} {tq : T × Nat} {q' fin : Nat} {sz : Int} {a : Option Addr} {n cap : Nat} (hG : Gat M lb ys (.slice la i lc) wr) (hlen : ys.length = i) (hMl : lb ≠ R ∧ R < M ∧ M ≤ wr.heap.size) (hi : i < 4294967296)
    (hY : y.t = tq.1 ∧ LiesIn (fun b => wr.drew.heap.size ≤ b ∧ b < w1.heap.size) w1 y ∧ RB w1 R a n cap tq.2 fin sz ∧ q' ≤ tq.2 ∧ tq.2 ≤ fin) (hg : Gro R wr w1) :
    App4 M R wr i la lc ys y tq q' fin sz a n cap w1.heap.size (w1.alloc (Obj.cells #[.int .i64 0, .int .u64 0, .string ⟨#[]⟩, .slice none 0 0, .int .i64 0] 25)) := by
  have hgs := hg.size
  refine ⟨hg.alloc _, ?_, zero_news (World.alloc_heap_new _ _), zero_one, by unfold maxLen; omega, by omega, by simp; omega, hY.2.1.keep (fun b hb o => World.cell?_of_block (Below.heap_alloc _ _ _ hb.2)) (fun b hb => ⟨hb.1, by simp; omega⟩), hY.1, hY.2.2.1.alloc _, hY.2.2.2.1, hY.2.2.2.2⟩
  have := (hG.gro (hg.alloc (Obj.cells #[.int .i64 0, .int .u64 0, .string ⟨#[]⟩, .slice none 0 0, .int .i64 0] 25)) hMl.1 hMl.2.1).row
  rw [hlen] at this
  exact this
theorem app4_b {M lb R : Nat} {wr W4 : World} {i : Nat} {la : Option Addr} {lc : Nat} {ys : List V} {y : V} {tq : T × Nat} {q' fin : Nat} {sz : Int} {a : Option Addr} {n cap : Nat} (hG : Gat M lb ys (.slice la i lc) wr) (hlen : ys.length = i) (hMl : lb ≠ R ∧ R < M ∧ M ≤ wr.heap.size) (hi : i < 4294967296)
    (hY : y.t = tq.1 ∧ LiesIn (fun b => (wr.drew.alloc (Obj.cells #[.int .i64 0, .int .u64 0, .string ⟨#[]⟩, .slice none 0 0, .int .i64 0] 25)).heap.size ≤ b ∧ b < W4.heap.size) W4 y ∧ RB W4 R a n cap tq.2 fin sz ∧ q' ≤ tq.2 ∧ tq.2 ≤ fin) (hg1 : Gro R (wr.drew.alloc (Obj.cells #[.int .i64 0, .int .u64 0, .string ⟨#[]⟩, .slice none 0 0, .int .i64 0] 25)) W4) :
    App4 M R wr i la lc ys y tq q' fin sz a n cap wr.heap.size W4 := by
  have hg : Gro R wr W4 := ((Gro.refl R wr).drew.alloc _).trans hg1
  have hgs := hg.size
  have hg1s := hg1.size
  have hsa : (wr.drew.alloc (Obj.cells #[.int .i64 0, .int .u64 0, .string ⟨#[]⟩, .slice none 0 0, .int .i64 0] 25)).heap.size = wr.heap.size + 1 := by rw [World.size_alloc]; rfl
  have hRl := (Array.getElem?_eq_some_iff.1 hG.box).1
  refine ⟨hg, ?_, zero_news ((hg1.block _ (by omega) (by simp; omega)).trans (World.alloc_heap_new _ _)), zero_one, by unfold maxLen; omega, by omega, by omega, hY.2.1.keep (fun b hb o => rfl) (fun b hb => ⟨by omega, hb.2⟩), hY.1, hY.2.2.1, hY.2.2.2.1, hY.2.2.2.2⟩
  have := (hG.gro hg hMl.1 hMl.2.1).row
  rw [hlen] at this
  exact this
theorem own_some {w : World} {base : Nat} {t : TypeId} {i : Nat} {v : Value} {xs : List Value} (h : w.ownsRow base t 5 v (i + 1) xs) : ∃ g c cur, v = .slice (some ⟨g, 0, none⟩) (i + 1) c ∧ base ≤ g ∧ w.heap[g]? = some (.cells cur t (0, 0)) ∧ (i + 1) * 5 ≤ cur.size := by
  rcases h.2 with ⟨_, h⟩ | ⟨g, c, cur, e, hb, hh, hle, _, hsz, _⟩
  · omega
  · exact ⟨g, c, cur, e, hb, hh, by rw [hsz]; exact Nat.mul_le_mul_right 5 hle⟩
/-- behind the append -/
structure App5 (M : Nat) (ys : List V) (i : Nat) (la : Option Addr) (lc g c : Nat) (W4 w5 : World) : Prop where
  own : w5.ownsRow M 25 5 (.slice (some ⟨g, 0, none⟩) (i + 1) c) (i + 1) (flat ys ++ zeroW)
  grow : W4.grownBy w5 (Value.slice la i lc).ownBlock
  at_ : (Value.slice (some ⟨g, 0, none⟩) (i + 1) c).ownBlock = (Value.slice la i lc).ownBlock ∨ (Value.slice (some ⟨g, 0, none⟩) (i + 1) c).ownBlock = some W4.heap.size
  gM : M ≤ g
  cur : ∃ cur, w5.heap[g]? = some (.cells cur 25 (0, 0)) ∧ (i + 1) * 5 ≤ cur.size
theorem App5.low {M : Nat} {ys : List V} {i : Nat} {la : Option Addr} {lc g c : Nat} {W4 w5 : World} (h : App5 M ys i la lc g c W4 w5) (b : Nat) (hb : b < M) (hr : W4.ownsRow M 25 5 (.slice la i lc) i (flat ys)) (hM : M ≤ W4.heap.size) : w5.heap[b]? = W4.heap[b]? :=
  h.grow.block b (by omega) (fun e => by have := (ownsRow_lt hr e.symm).1; omega)
theorem EL.push {w0 : World} {N R k place d : Nat} {a : Option Addr} {n cap q fin : Nat} {sz : Int} {Rf : Nat → Res (T × Nat)} {count : Nat} {tot : Res (List T × Nat)} {i : Nat} {ys : List V} {la : Option Addr} {lc q' : Nat} {wr : World} {y : V} {t : T} {q2 zb g c : Nat} {W4 w5 wf : World} (h : EL w0 N R k place d a n cap q fin sz Rf count tot i ys (.slice la i lc) q' wr) (hi : i < count) (hP : App4 (N + 5) R wr i la lc ys y (t, q2) q' fin sz a n cap zb W4) (hQ : App5 (N + 5) ys i la lc g c W4 w5) (hf : Fin2 w5 wf g (N + 4) i y (.slice (some ⟨g, 0, none⟩) (i + 1) c)) (hx : Rf q' = .ok (t, q2)) (hlt : q' < q2) (hR : R < N) (hN : w0.heap.size = N) :
    EL w0 N R k place d a n cap q fin sz Rf count tot (i + 1) (ys ++ [y]) (.slice (some ⟨g, 0, none⟩) (i + 1) c) q2 wf := by
  have hlen := h.len
  have hyt := hP.yt
  simp only at hyt
  subst hyt
  have hq1 := h.q1
  have hp2 := hP.q2
  have hsz := h.eg.bx.sz
  obtain ⟨p1, p2, p3, p4⟩ := Gat.push (R := R) h.gat (by omega) (by omega) (by omega) hsz hP.gro hP.lies (zs := zeroW) rfl (by rw [hlen]) (by rw [hlen]; exact hQ.own) hQ.grow hQ.at_ (by rw [hlen]; exact hf)
  have hb : ∀ b, b < N + 4 → b ≠ R → wf.heap[b]? = wr.heap[b]? := fun b h1 h2 => (p3 b (by omega) (by omega)).trans (hP.gro.block b (by omega) (by simpa using h2))
  refine ⟨⟨p2 w0 h.eg.gro (by omega) (by omega), h.eg.bx.keep (fun b h1 h2 => hb b (by omega) (by omega)) p4⟩, p1, by simp [hlen], (p3 R (by omega) (by omega)).trans hP.rb, by omega, hp2, h.nxt hi hx⟩
set_option maxRecDepth 100000 in
set_option maxHeartbeats 4000000 in
theorem elems1_any (w0 : World) (N R k place d f : Nat) (a : Option Addr) (n cap : Nat) (l : List Nat) (hN : w0.heap.size = N) (hs0 : Src w0 R a n cap l) (hR : R < N) (hk : k ≤ 24) (hd : d ≤ 32) (hpl : place ≤ 281474976710656) (HV : Hid (ValAt f d R a n cap l))
    (count q fin : Nat) (sz : Int) (w : World) (hF : EF w0 N R k place d w) (hr : RB w R a n cap q fin sz) (hq : q ≤ fin) (hfin : fin ≤ n) (hcn : count < 4294967296) (hfq : fin ≤ q + 4294967296) :
    Calls Tryd.prog 57 #[.int .i64 (count : Int), .pointer (some ⟨N + 1, 0, none⟩), .pointer (some ⟨N + 2, 0, none⟩), .pointer (some ⟨N + 4, 0, none⟩), .pointer (some ⟨N, 0, none⟩), .pointer (some ⟨N + 3, 0, none⟩)] w
      (OutJ (relemI l f k place count q fin sz) R a n cap fin sz (EG w0 N R k place d) (EJ N)) := by
  have hb := hF.g.bx
  have c0 : w.cell? ⟨N, 0, none⟩ = some (.pointer (some ⟨R, 0, none⟩)) := by simp [World.cell?, hb.b0]
  have c1 : w.cell? ⟨N + 1, 0, none⟩ = some (.int .i64 (k : Int)) := by simp [World.cell?, hb.b1]
  have c2 : w.cell? ⟨N + 2, 0, none⟩ = some (.int .i64 (place : Int)) := by simp [World.cell?, hb.b2]
  have c3 : w.cell? ⟨N + 3, 0, none⟩ = some (.int .i64 (d : Int)) := by simp [World.cell?, hb.b3]
  have hsz := hb.sz
  have HFF := hide hF
  have HRR := hide hr
  clear hb hF hr
  unfold relemI
  by_cases hodd : k = 22 ∧ count % 2 ≠ 0
  · rw [if_pos hodd]
    obtain ⟨rfl, ho⟩ := hodd
    have ho' : (((count : Int) % 2) == 0) = false := by rw [beq_eq_false_iff_ne]; omega
    have hon : (((count : Int) % 2) != 0) = true := by simpa using ho'
    go_enter Tryd.func57, Tryd.ntmps57
    go_wp2
    exact ⟨rfl, rfl, rfl, HFF.out.g⟩
  rw [if_neg hodd]
  by_cases hbig : k = 22 ∧ 1024 < count / 2
  · rw [if_pos hbig]
    obtain ⟨rfl, hg⟩ := hbig
    have ho : (((count : Int) % 2) == 0) = true := by simp; omega
    have hon : (((count : Int) % 2) != 0) = false := by simpa using ho
    have hgi : (1024 : Int) < (count : Int) / 2 := by omega
    clear hodd
    go_enter Tryd.func57, Tryd.ntmps57
    go_wp2
    exact ⟨rfl, rfl, rfl, HFF.out.g⟩
  rw [if_neg hbig]
  generalize hRf : (fun r => rvalG l (rdat badB twiceW l f) f r fin sz) = Rf
  have HRF : Hid (∀ r, Rf r = rval badB twiceW l f r fin sz) := fun r => by rw [← hRf]; rfl
  generalize htt : rmany Rf count q = tot
  have HL0 : Hid (EL w0 N R k place d a n cap q fin sz Rf count tot 0 [] (.slice none 0 0) q w) := ⟨HFF.out.g, ⟨HFF.out.bl, ⟨rfl, .inl ⟨rfl, rfl⟩⟩, by simp⟩, rfl, HRR.out, Nat.le_refl _, hq, by
    rw [← htt, Nat.sub_zero]
    unfold bindR
    cases rmany Rf count q <;> simp [V.ts]⟩
  clear htt hRf
  obtain ⟨i0, hi0, hzz⟩ := Option.map_eq_some_iff.1 Tryd.infoV
  simp only [Prod.mk.injEq] at hzz
  obtain ⟨hz0, hz1, hz2⟩ := hzz
  have HI0 := hide hi0
  have HZ0 := hide hz0
  have HZ1 := hide hz1
  have HZ2 := hide hz2
  have HBIG := hide hbig
  have HODD := hide hodd
  have HFIN := hide (And.intro hfq hfin)
  have HS0 := hide hs0
  clear hbig hodd hi0 hz0 hz1 hz2 hfq hfin hs0 hpl hk
  have hc22 : (((k : Int) == 22) = false) ∨ (k = 22 ∧ (((count : Int) % 2) != 0) = false ∧ ((count : Int) / 2 ≤ 1024)) := by
    by_cases h : k = 22
    · refine .inr ⟨h, ?_, ?_⟩
      · have := HODD.out
        simp [h] at this
        simp; omega
      · have := HBIG.out
        simp [h] at this
        omega
    · left; rw [beq_eq_false_iff_ne]; omega
  clear HBIG HODD
  rcases hc22 with hkb | ⟨rfl, hon, hgi⟩
  all_goals
    go_enter Tryd.func57, Tryd.ntmps57
    go_wp2
    go_loopw [26] (fun u wr => ∃ i : Nat, u = .int .i64 (i : Int) ∧ i ≤ count ∧ Hid (∃ ys lv q', EL w0 N R _ place d a n cap q fin sz Rf count tot i ys lv q' wr)) (fun u _ => count - (intOf u).toNat)
    case atStart => exact ⟨0, rfl, Nat.zero_le _, _, _, _, HL0.out⟩
    case round =>
      obtain ⟨i, rfl, hi, HX⟩ := hrel
      obtain ⟨ys, lv, q', hL⟩ := HX.out
      have HL := hide hL
      clear hL HX
      by_cases hic : i < count
      · obtain ⟨la, lc, hlv, hnil, hllc⟩ := HL.out.gat.slice
        rw [HL.out.len] at hlv
        subst hlv
        have hbx := HL.out.eg.bx
        have hsw := hbx.sz
        have HKP : Hid (∀ L W', (∀ b, N ≤ b → b ≤ N + 4 → W'.heap[b]? = wr.heap[b]?) → Kept (fun W' => W'.cell? ⟨N, 0, none⟩ = some (.pointer (some ⟨R, 0, none⟩)) ∧ W'.cell? ⟨N + 3, 0, none⟩ = some (.int .i64 (d : Int))) (fun z W' => z = 10 → W'.cell? ⟨N + 4, 0, none⟩ = some (.slice la i lc)) L W') := fun L W' hk => by
          have e0 := (hk N (by omega) (by omega)).trans hbx.b0
          have e3 := (hk (N + 3) (by omega) (by omega)).trans hbx.b3
          have e4 := (hk (N + 4) (by omega) (by omega)).trans HL.out.gat.box
          exact ⟨⟨by simp [World.cell?, e0], by simp [World.cell?, e3]⟩, fun z _ _ => by simp [World.cell?, e4]⟩
        have HB0 : Hid (∀ b, N ≤ b → b ≤ N + 4 → wr.drew.heap[b]? = wr.heap[b]?) := fun _ _ _ => rfl
        have HSRC : Hid (∀ W', Gro R wr W' → Src W' R a n cap l) := fun W' hg => (HS0.out.gro HL.out.eg.gro).gro hg
        have HGB : Hid (∀ W', Gro R wr W' → ∀ b, N ≤ b → b ≤ N + 4 → W'.heap[b]? = wr.heap[b]?) := fun W' hg b h1 h2 => hg.block b (by omega) (by simp; omega)
        have HVV : Hid (∀ W', Gro R wr W' → RB W' R a n cap q' fin sz → Calls Tryd.prog 17 #[.pointer (some ⟨R, 0, none⟩), .int .i64 ((d : Int) + 1)] W' (Outc (rval badB twiceW l f q' fin sz) R W' (GotV R a n cap q' fin sz W'))) := fun W' hg hr => HV.out q' fin sz W' (HSRC.out W' hg) hr HL.out.q2 HFIN.out.2
        have hdw : IntKind.i64.wrap ((d : Int) + 1) = (d : Int) + 1 := by rw [IntKind.wrap_i64]; omega
        clear hbx c0 c1 c2 c3 hnil hllc
        go_wp2_with fail
        cases hrv : rval badB twiceW l f q' fin sz with
        | error x =>
          have HVE : Hid (∀ W', Gro R wr W' → RB W' R a n cap q' fin sz → Calls Tryd.prog 17 #[.pointer (some ⟨R, 0, none⟩), .int .i64 ((d : Int) + 1)] W' (fun e w' => e = Flt x ∧ Gro R W' w')) := fun W' h1 h2 => by
            have := HVV.out W' h1 h2
            rw [hrv] at this
            exact this
          have HTE : Hid (tot = .error x) := HL.out.err hic ((HRF.out q').trans hrv)
          clear HVV hrv
          refine wp_region_Z (S := fun W' => W'.cell? ⟨N, 0, none⟩ = some (.pointer (some ⟨R, 0, none⟩)) ∧ W'.cell? ⟨N + 3, 0, none⟩ = some (.int .i64 (d : Int))) (C := fun z W' => z = 10 → W'.cell? ⟨N + 4, 0, none⟩ = some (.slice la i lc)) (by kernel_rfl) (HKP.out _ _ HB0.out) (fun hHeld => ?_)
          clear hHeld
          refine Z_take (i := 0) (d := 28) (v := ?_) (Zs := [10]) rfl rfl (by kernel_rfl) (by kernel_rfl) (by kernel_rfl) (fun _ _ _ h => h) (fun _ h => absurd h (by decide)) (by kernel_rfl) rfl ?_ (HKP.out _ _ HB0.out) ?_
          rotate_left
          · intro w hSw hC
            have hC10 := hC 10 (by simp) rfl; try dsimp only at hSw
            go_simp
            try with_reducible rfl
          try simp only [List.setIfInBounds_toArray, List.set_cons_zero, List.set_cons_succ]
          refine Z_take (i := 1) (d := 29) (v := ?_) (Zs := []) rfl rfl (by kernel_rfl) (by kernel_rfl) (by kernel_rfl) (fun _ _ _ h => h) (fun _ h => absurd h (by decide)) (by kernel_rfl) rfl ?_ (HKP.out _ _ HB0.out) ?_
          rotate_left
          · intro w hSw hC
            try dsimp only at hSw
            go_simp
            try with_reducible rfl
          try simp only [List.setIfInBounds_toArray, List.set_cons_zero, List.set_cons_succ]
          refine Z_take (i := 2) (d := 30) (v := ?_) (Zs := []) rfl rfl (by kernel_rfl) (by kernel_rfl) (by kernel_rfl) (fun _ _ _ h => h) (fun _ h => absurd h (by decide)) (by kernel_rfl) rfl ?_ (HKP.out _ _ HB0.out) ?_
          rotate_left
          · intro w hSw hC
            try dsimp only at hSw
            go_simp
            try with_reducible rfl
          try simp only [List.setIfInBounds_toArray, List.set_cons_zero, List.set_cons_succ]
          refine Z_take (i := 3) (d := 31) (v := ?_) (Zs := []) rfl rfl (by kernel_rfl) (by kernel_rfl) (by kernel_rfl) (fun _ _ _ h => h) (fun _ h => absurd h (by decide)) (by kernel_rfl) rfl ?_ (HKP.out _ _ HB0.out) ?_
          rotate_left
          · intro w hSw hC
            try dsimp only at hSw
            go_simp
            try with_reducible rfl
          try simp only [List.setIfInBounds_toArray, List.set_cons_zero, List.set_cons_succ]
          refine Z_take (i := 5) (d := 33) (v := ?_) (Zs := []) rfl rfl (by kernel_rfl) (by kernel_rfl) (by kernel_rfl) (fun _ _ _ h => h) (fun _ h => absurd h (by decide)) (by kernel_rfl) rfl ?_ (HKP.out _ _ HB0.out) ?_
          rotate_left
          · intro w hSw hC
            try dsimp only at hSw
            go_simp
            try with_reducible rfl
          try simp only [List.setIfInBounds_toArray, List.set_cons_zero, List.set_cons_succ]
          refine wpAnyZ_ready (rs := [4, 6]) (by kernel_rfl) (by simp) ?_
          refine AllReadyZ.cons rfl (fun K hK => ?_) (AllReadyZ.cons rfl (fun K hK => ?_) AllReadyZ.nil)
          · go_simp
            try rw [hdw]
            refine Calls.mono (HVE.out _ (Gro.refl R wr).drew HL.out.rb) ?_
            rintro e1 w1 ⟨rfl, hg1⟩
            exact ⟨rfl, HTE.out ▸ ⟨rfl, HL.out.eg.on (((Gro.refl R wr).drew).trans hg1) hR⟩⟩
          · go_simp
            refine hK.out _ _ (HKP.out _ _ (HGB.out _ ((Gro.refl R wr).drew.alloc _))) (fun _ => ?_)
            clear hK K
            refine wpAnyZ_ready (rs := [4]) (by kernel_rfl) (by simp) ?_
            refine AllReadyZ.cons rfl (fun K hK => ?_) AllReadyZ.nil
            go_simp
            try rw [hdw]
            refine Calls.mono (HVE.out _ ((Gro.refl R wr).drew.alloc _) (HL.out.rb.drew.alloc _)) ?_
            rintro e1 w1 ⟨rfl, hg1⟩
            exact ⟨rfl, HTE.out ▸ ⟨rfl, HL.out.eg.on (((Gro.refl R wr).drew.alloc _).trans hg1) hR⟩⟩

        | ok tq =>
          obtain ⟨t, q2⟩ := tq
          have HVO : Hid (∀ W', Gro R wr W' → RB W' R a n cap q' fin sz → Calls Tryd.prog 17 #[.pointer (some ⟨R, 0, none⟩), .int .i64 ((d : Int) + 1)] W' (fun e w' => GotV R a n cap q' fin sz W' (t, q2) e w' ∧ Gro R W' w')) := fun W' h1 h2 => by
            have := HVV.out W' h1 h2
            rw [hrv] at this
            exact this
          have HRV := hide ((HRF.out q').trans hrv)
          clear HVV hrv
          refine wp_region_Z (S := fun W' => W'.cell? ⟨N, 0, none⟩ = some (.pointer (some ⟨R, 0, none⟩)) ∧ W'.cell? ⟨N + 3, 0, none⟩ = some (.int .i64 (d : Int))) (C := fun z W' => z = 10 → W'.cell? ⟨N + 4, 0, none⟩ = some (.slice la i lc)) (by kernel_rfl) (HKP.out _ _ HB0.out) (fun hHeld => ?_)
          clear hHeld
          refine Z_take (i := 0) (d := 28) (v := ?_) (Zs := [10]) rfl rfl (by kernel_rfl) (by kernel_rfl) (by kernel_rfl) (fun _ _ _ h => h) (fun _ h => absurd h (by decide)) (by kernel_rfl) rfl ?_ (HKP.out _ _ HB0.out) ?_
          rotate_left
          · intro w hSw hC
            have hC10 := hC 10 (by simp) rfl; try dsimp only at hSw
            go_simp
            try with_reducible rfl
          try simp only [List.setIfInBounds_toArray, List.set_cons_zero, List.set_cons_succ]
          refine Z_take (i := 1) (d := 29) (v := ?_) (Zs := []) rfl rfl (by kernel_rfl) (by kernel_rfl) (by kernel_rfl) (fun _ _ _ h => h) (fun _ h => absurd h (by decide)) (by kernel_rfl) rfl ?_ (HKP.out _ _ HB0.out) ?_
          rotate_left
          · intro w hSw hC
            try dsimp only at hSw
            go_simp
            try with_reducible rfl
          try simp only [List.setIfInBounds_toArray, List.set_cons_zero, List.set_cons_succ]
          refine Z_take (i := 2) (d := 30) (v := ?_) (Zs := []) rfl rfl (by kernel_rfl) (by kernel_rfl) (by kernel_rfl) (fun _ _ _ h => h) (fun _ h => absurd h (by decide)) (by kernel_rfl) rfl ?_ (HKP.out _ _ HB0.out) ?_
          rotate_left
          · intro w hSw hC
            try dsimp only at hSw
            go_simp
            try with_reducible rfl
          try simp only [List.setIfInBounds_toArray, List.set_cons_zero, List.set_cons_succ]
          refine Z_take (i := 3) (d := 31) (v := ?_) (Zs := []) rfl rfl (by kernel_rfl) (by kernel_rfl) (by kernel_rfl) (fun _ _ _ h => h) (fun _ h => absurd h (by decide)) (by kernel_rfl) rfl ?_ (HKP.out _ _ HB0.out) ?_
          rotate_left
          · intro w hSw hC
            try dsimp only at hSw
            go_simp
            try with_reducible rfl
          try simp only [List.setIfInBounds_toArray, List.set_cons_zero, List.set_cons_succ]
          refine Z_take (i := 5) (d := 33) (v := ?_) (Zs := []) rfl rfl (by kernel_rfl) (by kernel_rfl) (by kernel_rfl) (fun _ _ _ h => h) (fun _ h => absurd h (by decide)) (by kernel_rfl) rfl ?_ (HKP.out _ _ HB0.out) ?_
          rotate_left
          · intro w hSw hC
            try dsimp only at hSw
            go_simp
            try with_reducible rfl
          try simp only [List.setIfInBounds_toArray, List.set_cons_zero, List.set_cons_succ]
          refine wpAnyZ_ready (rs := [4, 6]) (by kernel_rfl) (by simp) ?_
          refine AllReadyZ.cons rfl (fun K hK => ?_) (AllReadyZ.cons rfl (fun K hK => ?_) AllReadyZ.nil)
          · go_simp
            try rw [hdw]
            refine Calls.mono (HVO.out _ (Gro.refl R wr).drew HL.out.rb) ?_
            rintro e1 w1 ⟨⟨y, rfl, HY⟩, hg1⟩
            have HG1 : Hid (Gro R wr w1) := ((Gro.refl R wr).drew).trans hg1
            clear hg1
            refine hK.out _ _ (HKP.out _ _ (HGB.out _ HG1.out)) (fun _ => ?_)
            clear hK K
            refine wpAnyZ_ready (rs := [6]) (by kernel_rfl) (by simp) ?_
            refine AllReadyZ.cons rfl (fun K hK => ?_) AllReadyZ.nil
            go_simp
            refine hK.out _ _ (HKP.out _ _ (HGB.out _ (HG1.out.alloc _))) (fun _ => ?_)
            clear hK K
            have HP : Hid (App4 (N + 5) R wr i la lc ys y (t, q2) q' fin sz a n cap w1.heap.size (w1.alloc (Obj.cells #[.int .i64 0, .int .u64 0, .string ⟨#[]⟩, .slice none 0 0, .int .i64 0] 25))) := app4_a HL.out.gat HL.out.len (by omega) (by omega) HY.out HG1.out
            generalize w1.alloc (Obj.cells #[.int .i64 0, .int .u64 0, .string ⟨#[]⟩, .slice none 0 0, .int .i64 0] 25) = W4 at HP ⊢
            generalize w1.heap.size = zb at HP ⊢
            clear HY HG1
            refine wpAnyZ_ready (rs := [7]) (by kernel_rfl) (by simp) ?_
            refine AllReadyZ.cons rfl (fun K hK => ?_) AllReadyZ.nil
            refine step_append_at rfl (.tmp 28) (.tmp 34) 23 rfl (N + 5) 25 i0 _ 5 64 Tryd.underlying23 HI0.out HZ0.out HZ1.out HZ2.out rfl (by decide) _ i (flat ys) rfl HP.out.row ⟨zb, 0, none⟩ 1 1 zeroW rfl rfl HP.out.news HP.out.one HP.out.m1 HP.out.m2 HP.out.base ?_
            intro v' w5 hown hgrow hat
            obtain ⟨g, c, cur, rfl, hgM, hgh, hgsz⟩ := own_some hown
            have HQ : Hid (App5 (N + 5) ys i la lc g c W4 w5) := ⟨hown, hgrow, hat, hgM, cur, hgh, hgsz⟩
            clear hown hgrow hat
            refine hK.out _ _ (HKP.out _ _ (fun b h1 h2 => (HQ.out.low b (by omega) HP.out.row HP.out.base).trans (HGB.out _ HP.out.gro b h1 h2))) (fun _ => ?_)
            clear hK K
            have hi1 : (i : Int) < (i : Int) + 1 := by omega
            refine Z_take (i := 8) (d := 36) (v := .pointer (some ⟨g, i * 5, none⟩)) (Zs := []) rfl rfl (by kernel_rfl) (by kernel_rfl) (by kernel_rfl) (fun _ _ _ h => h) (fun _ h => absurd h (by decide)) (by kernel_rfl) rfl ?_ (HKP.out _ _ (fun b h1 h2 => (HQ.out.low b (by omega) HP.out.row HP.out.base).trans (HGB.out _ HP.out.gro b h1 h2))) ?_
            · intro w hSw hC
              clear hC hSw
              go_simp
              done
            try simp only [List.setIfInBounds_toArray, List.set_cons_zero, List.set_cons_succ]
            refine wpAnyZ_ready (rs := [9, 10]) (by kernel_rfl) (by simp) ?_
            have HKQ : Hid (∀ L W', L.getD 10 true = true → (∀ b, N ≤ b → b ≤ N + 3 → W'.heap[b]? = w5.heap[b]?) → Kept (fun W' => W'.cell? ⟨N, 0, none⟩ = some (.pointer (some ⟨R, 0, none⟩)) ∧ W'.cell? ⟨N + 3, 0, none⟩ = some (.int .i64 (d : Int))) (fun z W' => z = 10 → W'.cell? ⟨N + 4, 0, none⟩ = some (.slice la i lc)) L W') := fun L W' hL hk => by
              have hk' : ∀ b, N ≤ b → b ≤ N + 3 → W'.heap[b]? = wr.heap[b]? := fun b h1 h2 => (hk b h1 h2).trans ((HQ.out.low b (by omega) HP.out.row HP.out.base).trans (HGB.out _ HP.out.gro b h1 (by omega)))
              have e0 := (hk' N (by omega) (by omega)).trans HL.out.eg.bx.b0
              have e3 := (hk' (N + 3) (by omega) (by omega)).trans HL.out.eg.bx.b3
              exact ⟨⟨by simp [World.cell?, e0], by simp [World.cell?, e3]⟩, fun z hz e => by subst e; rw [hL] at hz; cases hz⟩
            obtain ⟨cur, hgh, hgsz⟩ := HQ.out.cur
            have hgM := HQ.out.gM
            have hb4 : w5.heap[N + 4]? = some (.cells #[.slice la i lc] 23) := (HQ.out.low (N + 4) (by omega) HP.out.row HP.out.base).trans ((HGB.out _ HP.out.gro (N + 4) (by omega) (by omega)).trans HL.out.gat.box)
            have HGH := hide hgh
            have HB4 := hide hb4
            have kk : ∀ j, j < 5 → ∃ u, w5.cell? ⟨g, i * 5 + j, none⟩ = some u := fun j hj => ⟨cur[i * 5 + j]'(by omega), by simp [World.cell?, hgh]⟩
            obtain ⟨u0, k0⟩ := kk 0 (by omega)
            obtain ⟨u1, k1⟩ := kk 1 (by omega)
            obtain ⟨u2, k2⟩ := kk 2 (by omega)
            obtain ⟨u3, k3⟩ := kk 3 (by omega)
            obtain ⟨u4, k4⟩ := kk 4 (by omega)
            have z0 : ∀ o, w5.frozen? ⟨g, o, none⟩ = false := fun o => by simp [World.frozen?, hgh]
            have b4 : w5.cell? ⟨N + 4, 0, none⟩ = some (.slice la i lc) := by simp [World.cell?, hb4]
            have z4 : w5.frozen? ⟨N + 4, 0, none⟩ = false := by simp [World.frozen?, hb4]
            have hg5 : g < w5.heap.size := (Array.getElem?_eq_some_iff.1 hgh).1
            have hl5 : N + 4 < w5.heap.size := (Array.getElem?_eq_some_iff.1 hb4).1
            have hne : g ≠ N + 4 := by omega
            have hne' : N + 4 ≠ g := by omega
            clear kk hgh hb4
            rw [Nat.add_zero] at k0
            refine AllReadyZ.cons rfl (fun K hK => ?_) (AllReadyZ.cons rfl (fun K hK => ?_) AllReadyZ.nil)
            · go_simp
              refine hK.out _ _ (HKP.out _ _ (fun b h1 h2 => by rw [put5_eq, put5_far (by omega)]; exact (HQ.out.low b (by omega) HP.out.row HP.out.base).trans (HGB.out _ HP.out.gro b h1 h2))) (fun _ => ?_)
              clear hK K
              rw [put5_eq]
              have hF2 := fin_a (w5 := w5) (g := g) (lb := N + 4) (i := i) (y := y) (v' := .slice (some ⟨g, 0, none⟩) (i + 1) c) HB4.out hne'
              have HF2 := hide hF2
              have b5 : (put5 w5 g (i * 5) y).cell? ⟨N + 4, 0, none⟩ = some (.slice la i lc) := (World.cell?_of_block (put5_far hne')).trans b4
              have z5 : (put5 w5 g (i * 5) y).frozen? ⟨N + 4, 0, none⟩ = false := (World.frozen?_of_block (put5_far hne')).trans z4
              have hl6 : N + 4 < (put5 w5 g (i * 5) y).heap.size := by rw [put5_size]; exact hl5
              clear hF2 k0 k1 k2 k3 k4 z0 b4 z4
              have HKR := hide (fun b (_ : N ≤ b) (h2 : b ≤ N + 3) => (put5_far (w := w5) (o := i * 5) (y := y) (show b ≠ g by omega)))
              generalize put5 w5 g (i * 5) y = W9 at *
              refine wpAnyZ_ready (rs := [10]) (by kernel_rfl) (by simp) ?_
              refine AllReadyZ.cons rfl (fun K hK => ?_) AllReadyZ.nil
              go_simp
              refine hK.out _ _ (HKQ.out _ _ (by kernel_rfl) (fun b h1 h2 => (heap_far0 (by omega)).trans (HKR.out b h1 h2))) (fun _ => ?_)
              clear hK K
              refine wpAnyZ_done (by kernel_rfl) ?_ _
              have HNX := hide (EL.push HL.out hic HP.out HQ.out HF2.out HRV.out (rval_far badB twiceW l ((HRF.out q').symm.trans HRV.out)).1 hR hN)
              clear HF2 HKR HKQ HKP HGB HSRC HVO HP HQ
              go_wp2
              go_roundw
              case rel => exact ⟨i + 1, by go_num, by omega, _, _, _, HNX.out⟩
              case measure => simp [intOf]; omega
            · go_simp
              refine hK.out _ _ (HKQ.out _ _ (by kernel_rfl) (fun b h1 h2 => heap_far0 (by omega))) (fun _ => ?_)
              clear hK K
              have hF2 := fin_b (w5 := w5) (g := g) (lb := N + 4) (i := i) (y := y) (v' := .slice (some ⟨g, 0, none⟩) (i + 1) c) HB4.out hne'
              have HF2 := hide hF2
              have HKR := hide (fun b (_ : N ≤ b) (h2 : b ≤ N + 3) => (heap_far0 (W := w5) (o := 0) (u := .slice (some ⟨g, 0, none⟩) (i + 1) c) (show b ≠ N + 4 by omega)))
              have k0' : (w5.setCell ⟨N + 4, 0, none⟩ (.slice (some ⟨g, 0, none⟩) (i + 1) c)).cell? ⟨g, i * 5, none⟩ = some u0 := (World.cell?_of_block (heap_far0 hne)).trans k0
              have k1' : (w5.setCell ⟨N + 4, 0, none⟩ (.slice (some ⟨g, 0, none⟩) (i + 1) c)).cell? ⟨g, i * 5 + 1, none⟩ = some u1 := (World.cell?_of_block (heap_far0 hne)).trans k1
              have k2' : (w5.setCell ⟨N + 4, 0, none⟩ (.slice (some ⟨g, 0, none⟩) (i + 1) c)).cell? ⟨g, i * 5 + 2, none⟩ = some u2 := (World.cell?_of_block (heap_far0 hne)).trans k2
              have k3' : (w5.setCell ⟨N + 4, 0, none⟩ (.slice (some ⟨g, 0, none⟩) (i + 1) c)).cell? ⟨g, i * 5 + 3, none⟩ = some u3 := (World.cell?_of_block (heap_far0 hne)).trans k3
              have k4' : (w5.setCell ⟨N + 4, 0, none⟩ (.slice (some ⟨g, 0, none⟩) (i + 1) c)).cell? ⟨g, i * 5 + 4, none⟩ = some u4 := (World.cell?_of_block (heap_far0 hne)).trans k4
              have z0' : ∀ o, (w5.setCell ⟨N + 4, 0, none⟩ (.slice (some ⟨g, 0, none⟩) (i + 1) c)).frozen? ⟨g, o, none⟩ = false := fun o => (World.frozen?_of_block (heap_far0 hne)).trans (z0 o)
              have hg6 : g < (w5.setCell ⟨N + 4, 0, none⟩ (.slice (some ⟨g, 0, none⟩) (i + 1) c)).heap.size := by simpa using hg5
              clear hF2 k0 k1 k2 k3 k4 z0 b4 z4
              generalize w5.setCell ⟨N + 4, 0, none⟩ (.slice (some ⟨g, 0, none⟩) (i + 1) c) = W9 at *
              refine wpAnyZ_ready (rs := [9]) (by kernel_rfl) (by simp) ?_
              refine AllReadyZ.cons rfl (fun K hK => ?_) AllReadyZ.nil
              go_simp
              refine hK.out _ _ (HKQ.out _ _ (by kernel_rfl) (fun b h1 h2 => by rw [put5_eq, put5_far (by omega)]; exact HKR.out b h1 h2)) (fun _ => ?_)
              clear hK K
              rw [put5_eq]
              refine wpAnyZ_done (by kernel_rfl) ?_ _
              have HNX := hide (EL.push HL.out hic HP.out HQ.out HF2.out HRV.out (rval_far badB twiceW l ((HRF.out q').symm.trans HRV.out)).1 hR hN)
              clear HF2 HKR HKQ HKP HGB HSRC HVO HP HQ k0' k1' k2' k3' k4' z0' hg6
              generalize put5 W9 g (i * 5) y = W10 at *
              go_wp2
              go_roundw
              case rel => exact ⟨i + 1, by go_num, by omega, _, _, _, HNX.out⟩
              case measure => simp [intOf]; omega

          · go_simp
            have HG0 : Hid (Gro R wr (wr.drew.alloc (Obj.cells #[.int .i64 0, .int .u64 0, .string ⟨#[]⟩, .slice none 0 0, .int .i64 0] 25))) := (Gro.refl R wr).drew.alloc _
            refine hK.out _ _ (HKP.out _ _ (HGB.out _ HG0.out)) (fun _ => ?_)
            clear hK K
            refine wpAnyZ_ready (rs := [4]) (by kernel_rfl) (by simp) ?_
            refine AllReadyZ.cons rfl (fun K hK => ?_) AllReadyZ.nil
            go_simp
            try rw [hdw]
            refine Calls.mono (HVO.out _ HG0.out (HL.out.rb.drew.alloc _)) ?_
            rintro e1 W4 ⟨⟨y, rfl, HY⟩, hg1⟩
            have HP : Hid (App4 (N + 5) R wr i la lc ys y (t, q2) q' fin sz a n cap wr.heap.size W4) := app4_b HL.out.gat HL.out.len (by omega) (by omega) HY.out hg1
            clear hg1 HY
            refine hK.out _ _ (HKP.out _ _ (HGB.out _ HP.out.gro)) (fun _ => ?_)
            clear hK K
            have hzd : wr.drew.heap.size = wr.heap.size := rfl
            try rw [hzd]
            clear hzd
            generalize hzb : wr.heap.size = zb at HP ⊢
            clear hzb HG0
            refine wpAnyZ_ready (rs := [7]) (by kernel_rfl) (by simp) ?_
            refine AllReadyZ.cons rfl (fun K hK => ?_) AllReadyZ.nil
            refine step_append_at rfl (.tmp 28) (.tmp 34) 23 rfl (N + 5) 25 i0 _ 5 64 Tryd.underlying23 HI0.out HZ0.out HZ1.out HZ2.out rfl (by decide) _ i (flat ys) rfl HP.out.row ⟨zb, 0, none⟩ 1 1 zeroW rfl rfl HP.out.news HP.out.one HP.out.m1 HP.out.m2 HP.out.base ?_
            intro v' w5 hown hgrow hat
            obtain ⟨g, c, cur, rfl, hgM, hgh, hgsz⟩ := own_some hown
            have HQ : Hid (App5 (N + 5) ys i la lc g c W4 w5) := ⟨hown, hgrow, hat, hgM, cur, hgh, hgsz⟩
            clear hown hgrow hat
            refine hK.out _ _ (HKP.out _ _ (fun b h1 h2 => (HQ.out.low b (by omega) HP.out.row HP.out.base).trans (HGB.out _ HP.out.gro b h1 h2))) (fun _ => ?_)
            clear hK K
            have hi1 : (i : Int) < (i : Int) + 1 := by omega
            refine Z_take (i := 8) (d := 36) (v := .pointer (some ⟨g, i * 5, none⟩)) (Zs := []) rfl rfl (by kernel_rfl) (by kernel_rfl) (by kernel_rfl) (fun _ _ _ h => h) (fun _ h => absurd h (by decide)) (by kernel_rfl) rfl ?_ (HKP.out _ _ (fun b h1 h2 => (HQ.out.low b (by omega) HP.out.row HP.out.base).trans (HGB.out _ HP.out.gro b h1 h2))) ?_
            · intro w hSw hC
              clear hC hSw
              go_simp
              done
            try simp only [List.setIfInBounds_toArray, List.set_cons_zero, List.set_cons_succ]
            refine wpAnyZ_ready (rs := [9, 10]) (by kernel_rfl) (by simp) ?_
            have HKQ : Hid (∀ L W', L.getD 10 true = true → (∀ b, N ≤ b → b ≤ N + 3 → W'.heap[b]? = w5.heap[b]?) → Kept (fun W' => W'.cell? ⟨N, 0, none⟩ = some (.pointer (some ⟨R, 0, none⟩)) ∧ W'.cell? ⟨N + 3, 0, none⟩ = some (.int .i64 (d : Int))) (fun z W' => z = 10 → W'.cell? ⟨N + 4, 0, none⟩ = some (.slice la i lc)) L W') := fun L W' hL hk => by
              have hk' : ∀ b, N ≤ b → b ≤ N + 3 → W'.heap[b]? = wr.heap[b]? := fun b h1 h2 => (hk b h1 h2).trans ((HQ.out.low b (by omega) HP.out.row HP.out.base).trans (HGB.out _ HP.out.gro b h1 (by omega)))
              have e0 := (hk' N (by omega) (by omega)).trans HL.out.eg.bx.b0
              have e3 := (hk' (N + 3) (by omega) (by omega)).trans HL.out.eg.bx.b3
              exact ⟨⟨by simp [World.cell?, e0], by simp [World.cell?, e3]⟩, fun z hz e => by subst e; rw [hL] at hz; cases hz⟩
            obtain ⟨cur, hgh, hgsz⟩ := HQ.out.cur
            have hgM := HQ.out.gM
            have hb4 : w5.heap[N + 4]? = some (.cells #[.slice la i lc] 23) := (HQ.out.low (N + 4) (by omega) HP.out.row HP.out.base).trans ((HGB.out _ HP.out.gro (N + 4) (by omega) (by omega)).trans HL.out.gat.box)
            have HGH := hide hgh
            have HB4 := hide hb4
            have kk : ∀ j, j < 5 → ∃ u, w5.cell? ⟨g, i * 5 + j, none⟩ = some u := fun j hj => ⟨cur[i * 5 + j]'(by omega), by simp [World.cell?, hgh]⟩
            obtain ⟨u0, k0⟩ := kk 0 (by omega)
            obtain ⟨u1, k1⟩ := kk 1 (by omega)
            obtain ⟨u2, k2⟩ := kk 2 (by omega)
            obtain ⟨u3, k3⟩ := kk 3 (by omega)
            obtain ⟨u4, k4⟩ := kk 4 (by omega)
            have z0 : ∀ o, w5.frozen? ⟨g, o, none⟩ = false := fun o => by simp [World.frozen?, hgh]
            have b4 : w5.cell? ⟨N + 4, 0, none⟩ = some (.slice la i lc) := by simp [World.cell?, hb4]
            have z4 : w5.frozen? ⟨N + 4, 0, none⟩ = false := by simp [World.frozen?, hb4]
            have hg5 : g < w5.heap.size := (Array.getElem?_eq_some_iff.1 hgh).1
            have hl5 : N + 4 < w5.heap.size := (Array.getElem?_eq_some_iff.1 hb4).1
            have hne : g ≠ N + 4 := by omega
            have hne' : N + 4 ≠ g := by omega
            clear kk hgh hb4
            rw [Nat.add_zero] at k0
            refine AllReadyZ.cons rfl (fun K hK => ?_) (AllReadyZ.cons rfl (fun K hK => ?_) AllReadyZ.nil)
            · go_simp
              refine hK.out _ _ (HKP.out _ _ (fun b h1 h2 => by rw [put5_eq, put5_far (by omega)]; exact (HQ.out.low b (by omega) HP.out.row HP.out.base).trans (HGB.out _ HP.out.gro b h1 h2))) (fun _ => ?_)
              clear hK K
              rw [put5_eq]
              have hF2 := fin_a (w5 := w5) (g := g) (lb := N + 4) (i := i) (y := y) (v' := .slice (some ⟨g, 0, none⟩) (i + 1) c) HB4.out hne'
              have HF2 := hide hF2
              have b5 : (put5 w5 g (i * 5) y).cell? ⟨N + 4, 0, none⟩ = some (.slice la i lc) := (World.cell?_of_block (put5_far hne')).trans b4
              have z5 : (put5 w5 g (i * 5) y).frozen? ⟨N + 4, 0, none⟩ = false := (World.frozen?_of_block (put5_far hne')).trans z4
              have hl6 : N + 4 < (put5 w5 g (i * 5) y).heap.size := by rw [put5_size]; exact hl5
              clear hF2 k0 k1 k2 k3 k4 z0 b4 z4
              have HKR := hide (fun b (_ : N ≤ b) (h2 : b ≤ N + 3) => (put5_far (w := w5) (o := i * 5) (y := y) (show b ≠ g by omega)))
              generalize put5 w5 g (i * 5) y = W9 at *
              refine wpAnyZ_ready (rs := [10]) (by kernel_rfl) (by simp) ?_
              refine AllReadyZ.cons rfl (fun K hK => ?_) AllReadyZ.nil
              go_simp
              refine hK.out _ _ (HKQ.out _ _ (by kernel_rfl) (fun b h1 h2 => (heap_far0 (by omega)).trans (HKR.out b h1 h2))) (fun _ => ?_)
              clear hK K
              refine wpAnyZ_done (by kernel_rfl) ?_ _
              have HNX := hide (EL.push HL.out hic HP.out HQ.out HF2.out HRV.out (rval_far badB twiceW l ((HRF.out q').symm.trans HRV.out)).1 hR hN)
              clear HF2 HKR HKQ HKP HGB HSRC HVO HP HQ
              go_wp2
              go_roundw
              case rel => exact ⟨i + 1, by go_num, by omega, _, _, _, HNX.out⟩
              case measure => simp [intOf]; omega
            · go_simp
              refine hK.out _ _ (HKQ.out _ _ (by kernel_rfl) (fun b h1 h2 => heap_far0 (by omega))) (fun _ => ?_)
              clear hK K
              have hF2 := fin_b (w5 := w5) (g := g) (lb := N + 4) (i := i) (y := y) (v' := .slice (some ⟨g, 0, none⟩) (i + 1) c) HB4.out hne'
              have HF2 := hide hF2
              have HKR := hide (fun b (_ : N ≤ b) (h2 : b ≤ N + 3) => (heap_far0 (W := w5) (o := 0) (u := .slice (some ⟨g, 0, none⟩) (i + 1) c) (show b ≠ N + 4 by omega)))
              have k0' : (w5.setCell ⟨N + 4, 0, none⟩ (.slice (some ⟨g, 0, none⟩) (i + 1) c)).cell? ⟨g, i * 5, none⟩ = some u0 := (World.cell?_of_block (heap_far0 hne)).trans k0
              have k1' : (w5.setCell ⟨N + 4, 0, none⟩ (.slice (some ⟨g, 0, none⟩) (i + 1) c)).cell? ⟨g, i * 5 + 1, none⟩ = some u1 := (World.cell?_of_block (heap_far0 hne)).trans k1
              have k2' : (w5.setCell ⟨N + 4, 0, none⟩ (.slice (some ⟨g, 0, none⟩) (i + 1) c)).cell? ⟨g, i * 5 + 2, none⟩ = some u2 := (World.cell?_of_block (heap_far0 hne)).trans k2
              have k3' : (w5.setCell ⟨N + 4, 0, none⟩ (.slice (some ⟨g, 0, none⟩) (i + 1) c)).cell? ⟨g, i * 5 + 3, none⟩ = some u3 := (World.cell?_of_block (heap_far0 hne)).trans k3
              have k4' : (w5.setCell ⟨N + 4, 0, none⟩ (.slice (some ⟨g, 0, none⟩) (i + 1) c)).cell? ⟨g, i * 5 + 4, none⟩ = some u4 := (World.cell?_of_block (heap_far0 hne)).trans k4
              have z0' : ∀ o, (w5.setCell ⟨N + 4, 0, none⟩ (.slice (some ⟨g, 0, none⟩) (i + 1) c)).frozen? ⟨g, o, none⟩ = false := fun o => (World.frozen?_of_block (heap_far0 hne)).trans (z0 o)
              have hg6 : g < (w5.setCell ⟨N + 4, 0, none⟩ (.slice (some ⟨g, 0, none⟩) (i + 1) c)).heap.size := by simpa using hg5
              clear hF2 k0 k1 k2 k3 k4 z0 b4 z4
              generalize w5.setCell ⟨N + 4, 0, none⟩ (.slice (some ⟨g, 0, none⟩) (i + 1) c) = W9 at *
              refine wpAnyZ_ready (rs := [9]) (by kernel_rfl) (by simp) ?_
              refine AllReadyZ.cons rfl (fun K hK => ?_) AllReadyZ.nil
              go_simp
              refine hK.out _ _ (HKQ.out _ _ (by kernel_rfl) (fun b h1 h2 => by rw [put5_eq, put5_far (by omega)]; exact HKR.out b h1 h2)) (fun _ => ?_)
              clear hK K
              rw [put5_eq]
              refine wpAnyZ_done (by kernel_rfl) ?_ _
              have HNX := hide (EL.push HL.out hic HP.out HQ.out HF2.out HRV.out (rval_far badB twiceW l ((HRF.out q').symm.trans HRV.out)).1 hR hN)
              clear HF2 HKR HKQ HKP HGB HSRC HVO HP HQ k0' k1' k2' k3' k4' z0' hg6
              generalize put5 W9 g (i * 5) y = W10 at *
              go_wp2
              go_roundw
              case rel => exact ⟨i + 1, by go_num, by omega, _, _, _, HNX.out⟩
              case measure => simp [intOf]; omega

      · have hie : i = count := by omega
        subst hie
        go_wp2
        first | go_end0 | refine bodyPost_ret (results_none rfl _ _ _) rfl ?_
        rw [HL.out.fin rfl]
        exact ⟨rfl, HL.out.rb, HL.out.q2, ⟨ys, lv, HL.out.gat, rfl⟩, HL.out.eg⟩
end Go.Proofs.YtgpimajdcfoigabDoor
