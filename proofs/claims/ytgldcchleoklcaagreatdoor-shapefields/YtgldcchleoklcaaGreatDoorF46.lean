/- HFlW -/
import Derived.Test.YtgldcchleoklcaaGreatDoorF34
import Derived.Test.YtgldcchleoklcaaGreatDoorF35
import Derived.Deep.MidRow
import Derived.OwnWalk
namespace Go.Proofs.YtgldcchleoklcaaGreatDoor
open Go.RowKit
set_option linter.unusedVariables false
set_option linter.unusedSimpArgs false
theorem Tryz.infoI : (Tryz.prog.info? 3).map (fun i => (i.zero, i.size, i.bytes)) = some (some (.int .i64 0), 1, 8) := by kernel_rfl
theorem Tryz.infoLI : (Tryz.prog.info? 64).map (fun i => (i.zero, i.size, i.bytes)) = some (some (.slice none 0 0), 1, 24) := by kernel_rfl
theorem Tryz.infoLF : (Tryz.prog.info? 23).map (fun i => (i.zero, i.size, i.bytes)) = some (some (.slice none 0 0), 1, 24) := by kernel_rfl
theorem Tryz.sizeF9 : (Tryz.prog.info? 66).map (·.size) = some 9 := by kernel_rfl
def Ek : El := ⟨3, 1, fun i => [.int .i64 (-1000 - (i : Int))]⟩
def Ef : El := ⟨66, 9, fun i => [.string ⟨#[]⟩, .int .i64 (-1000 - (i : Int)), .slice none 0 0, .bool false, .int .i64 0, .int .u64 0, .string ⟨#[]⟩, .slice none 0 0, .int .i64 0]⟩
theorem ek_ok : Ek.Ok := ⟨by decide, fun _ => rfl, fun i u hu => by
  simp only [Ek, List.mem_cons, List.not_mem_nil, or_false] at hu
  subst hu
  rfl⟩
theorem ef_ok : Ef.Ok := ⟨by decide, fun _ => rfl, fun i u hu => by
  simp only [Ef, List.mem_cons, List.not_mem_nil, or_false] at hu
  rcases hu with rfl | rfl | rfl | rfl | rfl | rfl | rfl | rfl | rfl <;> rfl⟩
theorem ef_all (i : Nat) : ((#[.string ⟨#[]⟩, .int .i64 (-1000 - (i : Int)), .slice none 0 0, .bool false, .int .i64 0, .int .u64 0, .string ⟨#[]⟩, .slice none 0 0, .int .i64 0] : Array Value).all fun x => x.oneCell') = true := all_oneCell_toArray (cs := Ef.m i) (ef_ok.one i)
structure FGiven (b0 : Nat) (SF : List Value) (ns : List Nat) (KS : List Value) (w : World) : Prop where
  len : SF.length = 3 ∧ ns.length = 3
  box : w.heap[b0]? = some (.cells SF.toArray 23 (0, 0))
  f : OwnsE Ef w SF
  k : OwnsE Ek w KS
  tot : KS.length = ns.sum ∧ KS.length ≤ 100
  row : ∀ i (h : i < SF.length) (h' : i < ns.length), ∃ a, SF[i] = .slice a ns[i] ns[i] ∧ ns[i] ≤ 20 ∧ ∀ q, q < ns[i] → ∃ g, a = some ⟨g, 0, none⟩ ∧ g < w.heap.size ∧ ∃ h : (ns.take i).sum + q < KS.length, w.cell? ⟨g, q * 9 + 2, none⟩ = some KS[(ns.take i).sum + q]
  apart : ∀ g, g ∈ blocksOf SF → g ∉ blocksOf KS
theorem FGiven.b0F {b0 : Nat} {SF KS : List Value} {ns : List Nat} {w : World} (h : FGiven b0 SF ns KS w) : b0 ∉ blocksOf SF ∧ b0 ∉ blocksOf KS := by
  constructor
  · intro hg
    obtain ⟨s, hs, e⟩ := List.mem_filterMap.1 hg
    rcases h.f.1 s hs with rfl | ⟨g', n, rfl, _, cs, q1, _⟩
    · cases e
    · cases e
      rw [h.box] at q1
      have this : 23 = 66 := congrArg (fun o => match o with | some (Obj.cells _ t _) => t | _ => 0) q1
      exact absurd this (by decide)
  · intro hg
    obtain ⟨s, hs, e⟩ := List.mem_filterMap.1 hg
    rcases h.k.1 s hs with rfl | ⟨g', n, rfl, _, cs, q1, _⟩
    · cases e
    · cases e
      rw [h.box] at q1
      have this : 23 = 3 := congrArg (fun o => match o with | some (Obj.cells _ t _) => t | _ => 0) q1
      exact absurd this (by decide)
theorem one_cellF (a : Option Addr) (n c : Nat) : ∀ u ∈ ([.slice a n c] : List Value), u.oneCell' = true := fun u hu => by
  simp only [List.mem_cons, List.not_mem_nil, or_false] at hu
  subst hu
  rfl
theorem newsArr (X : World) (cs : Array Value) (t : TypeId) : ∀ q u, (cs.toList)[q]? = some u → (X.alloc (.cells cs t)).cell? ((⟨X.heap.size, 0, none⟩ : Addr).add q) = some u := fun q u hq => by
  rw [add0]
  unfold World.cell?
  simp only [World.alloc_heap_new]
  rwa [Array.getElem?_toList] at hq
theorem ownsRow_slice0 {w : World} {base : Nat} {t : TypeId} {sz n c : Nat} {a : Option Addr} {xs : List Value} (h : w.ownsRow base t sz (.slice a n c) n xs) : (a = none ∧ n = 0) ∨ ∃ g, a = some ⟨g, 0, none⟩ := by
  rcases h.2 with ⟨e, h0⟩ | ⟨g, cap, cur, e, _⟩
  · cases e
    exact .inl ⟨rfl, rfl⟩
  · cases e
    exact .inr ⟨g, rfl⟩
theorem GrowsE.tell {E : El} {tl : TypeId} {S : List Value} {B i m : Nat} {vl vg : Value} {G : List Value} {wr W' : World} (h : GrowsE E tl S B i m vl vg G wr)
    (hS : ∀ i (h : i < S.length), ∃ a n, S[i] = .slice a n n ∧ n ≤ 200 ∧ (∀ g, a = some ⟨g, 0, none⟩ → g < wr.heap.size ∧ RdE E wr g n i) ∧ ((a = none ∧ n = 0) ∨ ∃ g, a = some ⟨g, 0, none⟩)) (hW : Below wr.heap.size wr W') :
    ∃ A C, vg = .slice A G.length C ∧ G.length ≤ C ∧ ∀ q (hq : q < G.length), ∃ gb a n c, A = some ⟨gb, 0, none⟩ ∧ gb < W'.heap.size ∧ W'.cell? ⟨gb, q, none⟩ = some (.slice a n c) ∧ n ≤ c ∧ n ≤ 200 ∧ ∀ j, j < n → ∃ g, a = some ⟨g, 0, none⟩ ∧ g < W'.heap.size ∧ ∀ t, t < E.sz → W'.cell? ⟨g, j * E.sz + t, none⟩ = (E.m (q / 8))[t]? := by
  obtain ⟨A, C, e1, e2, e3⟩ := h.rows
  refine ⟨A, C, e1, e2, fun q hq => ?_⟩
  obtain ⟨gb, f1, f2, f3, f4⟩ := e3 q hq
  have hsz := hW.size
  have hc := (hW.cell (p := ⟨gb, q, none⟩) f3).trans f4
  by_cases h7 : q % 8 = 7
  · obtain ⟨h', e⟩ := (h.items q hq).1 h7
    obtain ⟨a, n, q1, q2, q3, q4⟩ := hS _ h'
    rw [e, q1] at hc
    refine ⟨gb, a, n, n, f1, by omega, hc, Nat.le_refl _, q2, fun j hj => ?_⟩
    rcases q4 with ⟨rfl, rfl⟩ | ⟨g, rfl⟩
    · omega
    · obtain ⟨p1, p2⟩ := q3 g rfl
      exact ⟨g, rfl, by omega, fun t ht => (hW.cell (p := ⟨g, j * E.sz + t, none⟩) p1).trans (p2 j t hj ht)⟩
  · obtain ⟨g, n, c, q1, ⟨q2, q3⟩, q4, q5, q6, q7⟩ := (h.items q hq).2 h7
    rw [q1] at hc
    exact ⟨gb, _, n, c, f1, by omega, hc, q2, q3, fun j hj => ⟨g, rfl, by omega, fun t ht => (hW.cell (p := ⟨g, j * E.sz + t, none⟩) q5).trans (q6 j t hj ht)⟩⟩
theorem kinds_one (S : List Value) (hS : ∀ s ∈ S, s = .slice none 0 0 ∨ ∃ g n, s = .slice (some ⟨g, 0, none⟩) n n) (i : Nat) (h : i < S.length) : ∀ u ∈ [S[i]], u.oneCell' = true := fun u hu => by
  obtain rfl : u = S[i] := by simpa using hu
  rcases hS _ (List.getElem_mem h) with e | ⟨g, n, e⟩ <;> rw [e] <;> rfl
set_option maxRecDepth 100000 in
set_option maxHeartbeats 30000000 in
theorem fieldsOwned_any (b0 : Nat) (SF : List Value) (ns : List Nat) (KS : List Value) (w : World) (hg : FGiven b0 SF ns KS w) :
    Calls Tryz.prog 13 #[.slice (some ⟨b0, 0, none⟩) 3 3] w fun e w' => e = .returned (.bool true) ∧ Hid (TurnS (SF ++ KS) w w') := by
  have HGV := hide hg
  have hb0 : b0 < w.heap.size := (Array.getElem?_eq_some_iff.1 hg.box).1
  have HSI : Hid (∀ W' : World, W'.heap[b0]? = w.heap[b0]? → ∀ i (h : i < SF.length), W'.cell? ⟨b0, i, none⟩ = some SF[i]) := fun W' hW i h => by
    have e := hW.trans hg.box
    unfold World.cell?
    simp only [e]
    simp [h]
  have hsf : SF.length = 3 := hg.len.1
  have hns : ns.length = 3 := hg.len.2
  have HSF := hide hsf
  have HNS := hide hns
  have hK100 : KS.length ≤ 100 := hg.tot.2
  obtain ⟨NK, hNK⟩ : ∃ NK, KS.length = NK := ⟨_, rfl⟩
  have HNK := hide hNK
  rw [hNK] at hK100
  have HKone : Hid (∀ i (h : i < KS.length), ∀ u ∈ [KS[i]], u.oneCell' = true) := kinds_one KS (fun s hs => (hg.k.1 s hs).elim .inl (fun ⟨g, n, e, _⟩ => .inr ⟨g, n, e⟩))
  have HFone : Hid (∀ i (h : i < SF.length), ∀ u ∈ [SF[i]], u.oneCell' = true) := kinds_one SF (fun s hs => (hg.f.1 s hs).elim .inl (fun ⟨g, n, e, _⟩ => .inr ⟨g, n, e⟩))
  have HKform : Hid (∀ i (h : i < KS.length), ∃ a n, KS[i] = .slice a n n) := fun i h => by
    rcases hg.k.1 _ (List.getElem_mem h) with e | ⟨g, n, e, _⟩
    · exact ⟨none, 0, e⟩
    · exact ⟨_, n, e⟩
  have HFform : Hid (∀ i (h : i < SF.length), ∃ a n, SF[i] = .slice a n n) := fun i h => by
    rcases hg.f.1 _ (List.getElem_mem h) with e | ⟨g, n, e, _⟩
    · exact ⟨none, 0, e⟩
    · exact ⟨_, n, e⟩
  obtain ⟨iI, hiI, hzI⟩ := Option.map_eq_some_iff.1 Tryz.infoI
  obtain ⟨iL, hiL, hzL⟩ := Option.map_eq_some_iff.1 Tryz.infoLI
  obtain ⟨iF, hiF, hzF⟩ := Option.map_eq_some_iff.1 Tryz.infoF
  obtain ⟨iG, hiG, hzG⟩ := Option.map_eq_some_iff.1 Tryz.infoLF
  simp only [Prod.mk.injEq] at hzI hzL hzF hzG
  have HI := hide (And.intro hiI hzI)
  have HL := hide (And.intro hiL hzL)
  have HF := hide (And.intro hiF hzF)
  have HG9 := hide (And.intro hiG hzG)
  clear hiI hzI hiL hzL hiF hzF hiG hzG hg hsf hns hNK
  go_enter Tryz.func13, Tryz.ntmps13
  go_wp2
  go_loopw [3, 4] (fun kv u wr => ∃ (i m : Nat) (A : Option Addr) (C : Nat), u = .int .i64 i ∧ i ≤ 3 ∧ kv = .slice A m C ∧ Hid (m = (ns.take i).sum) ∧ m ≤ NK ∧ Hid (Below w.heap.size w wr) ∧ Hid (wr.ownsRow w.heap.size 64 1 (.slice A m C) m (KS.take m))) (fun _ u _ => 3 - (intOf u).toNat)
  case atStart => exact ⟨0, 0, none, 0, rfl, by omega, rfl, by rw [List.take_zero]; rfl, Nat.zero_le _, Below.refl _ _, World.ownsRow_nil _ _ _ _⟩
  case round =>
    obtain ⟨i, m, A, C, rfl, hi, rfl, HM, hmN, HB, HR⟩ := hrel
    have hszr := HB.out.size
    by_cases hi3 : i < 3
    · have hi3i : (i : Int) < 3 := by omega
      have his : i < SF.length := by rw [HSF.out]; exact hi3
      have hin : i < ns.length := by rw [HNS.out]; exact hi3
      obtain ⟨a, hSi, hn20, hrow⟩ := HGV.out.row i his hin
      obtain ⟨n, hn⟩ : ∃ n, ns[i] = n := ⟨_, rfl⟩
      rw [hn] at hSi hn20 hrow
      have HROW := hide hrow
      have HSUM : Hid ((ns.take (i + 1)).sum = m + n) := by
        rw [Hid, List.take_succ_eq_append_getElem hin, List.sum_append, ← HM.out, hn]
        simp
      have HCI : Hid (∀ W' : World, Below w.heap.size w W' → W'.cell? ⟨b0, i, none⟩ = some (.slice a n n)) := fun W' h => by
        rw [← hSi]
        exact HSI.out W' (h.block b0 hb0) i his
      clear hrow hSi hn
      go_wp2
      go_loopw [3, 5] (fun kv u wx => ∃ (q : Nat) (A : Option Addr) (C : Nat), u = .int .i64 q ∧ q ≤ n ∧ kv = .slice A (m + q) C ∧ m + q ≤ NK ∧ Hid (Below w.heap.size w wx) ∧ Hid (wx.ownsRow w.heap.size 64 1 (.slice A (m + q) C) (m + q) (KS.take (m + q)))) (fun _ u _ => n - (intOf u).toNat)
      case atStart => exact ⟨0, A, C, rfl, Nat.zero_le _, rfl, hmN, HB, HR⟩
      case round =>
        obtain ⟨q, A, C, rfl, hq, rfl, hmq, HBx, HRx⟩ := hrel
        have hszx := HBx.out.size
        have hc0 := HCI.out _ HBx.out
        have hb0x : b0 < wr.heap.size := by omega
        by_cases hqn : q < n
        · obtain ⟨g, rfl, hgl, hKl, hcell⟩ : ∃ g, a = some ⟨g, 0, none⟩ ∧ g < w.heap.size ∧ ∃ h : m + q < KS.length, w.cell? ⟨g, q * 9 + 2, none⟩ = some KS[m + q] := by
            rw [HM.out]
            exact HROW.out q hqn
          have hcg := (HBx.out.cell (p := ⟨g, q * 9 + 2, none⟩) hgl).trans hcell
          have hgx : g < wr.heap.size := by omega
          have HTK : Hid (KS.take (m + q + 1) = KS.take (m + q) ++ [KS[m + q]]) := List.take_succ_eq_append_getElem hKl
          have HONE := hide (HKone.out _ hKl)
          have hmq1 : m + q + 1 ≤ NK := by have := HNK.out; omega
          have HOWN : Hid (∀ o, (wr.alloc o).ownsRow w.heap.size 64 1 (.slice A (m + q) C) (m + q) (KS.take (m + q))) := fun o => HRx.out.alloc o
          have HEND : Hid (∀ o v' w3, w3.ownsRow w.heap.size 64 1 v' (m + q + 1) (KS.take (m + q) ++ [KS[m + q]]) → (wr.alloc o).grownBy w3 (Value.slice A (m + q) C).ownBlock → Below w.heap.size w w3 ∧ w3.ownsRow w.heap.size 64 1 v' (m + q + 1) (KS.take (m + q + 1))) := fun o v' w3 h1 h2 => ⟨(HBx.out.trans (bel1 (Below.refl _ _) hszx o)).grown h2 (by simp; omega) (fun k hk => (ownsRow_lt HRx.out hk).1), by rw [HTK.out]; exact h1⟩
          clear hcell
          obtain ⟨ka, kn, hkf⟩ := HKform.out _ hKl
          rw [hkf] at hcg HONE HEND
          clear hkf
          go_wp2_with (at_builtin; refine wpList_append_own_at _ rfl (.tmp 37) (.tmp 46) 67 rfl w.heap.size 64 iL _ 1 24 Tryz.underlying67 HL.out.1 HL.out.2.1 HL.out.2.2.1 HL.out.2.2.2 rfl (by decide) _ (m + q) _ rfl (HOWN.out _) ⟨wr.heap.size, 0, none⟩ 1 1 [.slice ka kn kn] rfl rfl (cell_one_new wr _ _) HONE.out (by simp [maxLen]; omega) (by omega) (by simp; omega) ?_; intro v' w3 hown' hgrow _ hat; obtain ⟨g', cap', rfl⟩ := ownsRow_succ hown'; obtain ⟨hB3, hR3⟩ := HEND.out _ _ _ hown' hgrow; have HB3 := hide hB3; have HR3 := hide hR3; clear hB3 hR3 hown' hgrow hat)
          go_roundw
          case rel => exact ⟨q + 1, some ⟨g', 0, none⟩, cap', by go_num, hqn, rfl, hmq1, HB3, HR3⟩
          case measure => simp [intOf]; omega
        · obtain rfl : q = n := by omega
          go_wp2
          go_roundw
          case rel => exact ⟨i + 1, m + q, A, C, by go_num, hi3, rfl, HSUM.out.symm, hmq, HBx, HRx⟩
          case measure => simp [intOf]; omega
    · obtain rfl : i = 3 := by omega
      obtain ⟨w1, rfl⟩ : ∃ w1, w1 = wr := ⟨_, rfl⟩
      have HmK : Hid (m = NK) := by
        have h1 := HM.out
        have h2 := HGV.out.tot.1
        have h3 : ns.take 3 = ns := List.take_of_length_le (by rw [HNS.out]; exact Nat.le_refl _)
        rw [h3, ← h2, HNK.out] at h1
        exact h1
      have hmk := HmK.out
      subst hmk
      have HKR : Hid (∀ W' : World, (∀ g, g < w1.heap.size → w.heap.size ≤ g → W'.heap[g]? = w1.heap[g]?) → ∀ q (h : q < KS.length), ∃ kb, A = some ⟨kb, 0, none⟩ ∧ w.heap.size ≤ kb ∧ kb < w1.heap.size ∧ W'.cell? ⟨kb, q, none⟩ = some KS[q]) := fun W' hW q h => by
        rcases HR.out.2 with ⟨e, h0⟩ | ⟨g, cap, cur, e, hb, hg, hc, hm, hs, ht⟩
        · have := HNK.out
          omega
        · cases e
          have hgl := (Array.getElem?_eq_some_iff.1 hg).1
          refine ⟨g, rfl, hb, hgl, ?_⟩
          have hg' := (hW g hgl hb).trans hg
          unfold World.cell?
          simp only [hg']
          have e1 : (cur.toList.take (m * 1))[q]? = cur.toList[q]? := List.getElem?_take_of_lt (by have := HNK.out; omega)
          rw [ht, List.getElem?_take_of_lt (by have := HNK.out; omega), List.getElem?_eq_getElem h] at e1
          rw [← Array.getElem?_toList, ← e1]
          rfl
      have hmC : m ≤ C := by
        rcases HR.out.2 with ⟨e, h0⟩ | ⟨g, cap, cur, e, hb, hg, hc, hm, hs, ht⟩
        · cases e; omega
        · cases e; exact hc
      have HO1 : Hid (OwnsE Ek w1 KS) := HGV.out.k.keep (fun g hg => HB.out.block g (HGV.out.k.lt hg))
      have HKlow : Hid (∀ g, g ∈ blocksOf KS → g < w.heap.size) := fun g hg => HGV.out.k.lt hg
      have HFlow : Hid (∀ g, g ∈ blocksOf SF → g < w.heap.size) := fun g hg => HGV.out.f.lt hg
      go_wp2
      go_loopw [6] (fun u wr => ∃ (i : Nat), u = .int .i64 i ∧ i ≤ m ∧ Hid (MarksE Ek KS i w1 wr)) (fun u _ => m - (intOf u).toNat)
      case atStart => exact ⟨0, rfl, Nat.zero_le _, MarksE.start HO1.out⟩
      case round =>
        obtain ⟨i, rfl, hi, HMK⟩ := hrel
        have hszr := HMK.out.turns.size
        by_cases him : i < m
        · have hik : i < KS.length := by rw [HNK.out]; exact him
          have HNX := hide (HMK.out.next hik)
          obtain ⟨kb, hA, hkb1, hkb2, hck⟩ := HKR.out wr (fun g h1 h2 => HMK.out.turns.block g h1 (fun hm => by have := HKlow.out g hm; omega)) i hik
          have hkbr : kb < wr.heap.size := by omega
          have HKC : Hid (∀ W' : World, TurnS KS w1 W' → W'.cell? ⟨kb, i, none⟩ = some KS[i] ∧ kb < W'.heap.size) := fun W' h => by
            obtain ⟨kb', e, _, _, hc⟩ := HKR.out W' (fun g h1 h2 => h.block g h1 (fun hm => by have := HKlow.out g hm; omega)) i hik
            rw [hA] at e
            cases e
            exact ⟨hc, by have := h.size; omega⟩
          subst hA
          rcases HMK.out.owns.1 _ (List.getElem_mem hik) with e | ⟨g, n, e, hn, hblk⟩
          · rw [e] at hck
            have HN2 := hide (HNX.out (fun g n c e' => by rw [e] at e'; cases e'))
            clear HNX HKC
            go_wp2
            go_loopw [7] (fun u wx => u = .int .i64 0 ∧ wx = wr) (fun u _ => 0)
            case atStart => exact ⟨rfl, rfl⟩
            case round =>
              obtain ⟨rfl, rfl⟩ := hrel
              go_wp2
              go_roundw
              case rel => exact ⟨i + 1, by go_num, him, HN2⟩
              case measure => simp [intOf]; omega
          · rw [e] at hck
            have HE := hide e
            rw [e] at HKC
            have hgK : g ∈ blocksOf KS := mem_blocks (List.getElem_mem hik) (by rw [e]; rfl)
            have HGK := hide hgK
            clear e hgK hblk HNX
            go_wp2
            go_loopw [7] (fun u wx => ∃ q : Nat, u = .int .i64 q ∧ q ≤ n ∧ Hid (MarksE Ek KS i w1 wx) ∧ Hid (RdE Ek wx g q i)) (fun u _ => n - (intOf u).toNat)
            case atStart => exact ⟨0, rfl, Nat.zero_le _, HMK, fun j t hj => absurd hj (by omega)⟩
            case round =>
              obtain ⟨q, rfl, hq, HM1, HR1⟩ := hrel
              obtain ⟨hck1, hkb3⟩ := HKC.out _ HM1.out.turns
              by_cases hqn : q < n
              · have hblk : Blk wr g 3 (n * 1) := by
                  rcases HM1.out.owns.1 _ (List.getElem_mem hik) with e' | ⟨g', n', e', _, qq⟩
                  · rw [HE.out] at e'; cases e'
                  · rw [HE.out] at e'; cases e'; exact qq
                obtain ⟨z, cz⟩ := hblk.some q (by omega)
                have fz := hblk.free
                have hgl := hblk.lt
                have HPUT := hide (HM1.out.put ek_ok hik HE.out hqn HR1.out)
                clear hblk
                go_wp2
                go_roundw
                case rel =>
                  have hp := HPUT.out
                  have e1 : q * Ek.sz = q := Nat.mul_one q
                  rw [e1] at hp
                  exact ⟨q + 1, by go_num, hqn, hp.1, hp.2⟩
                case measure => simp [intOf]; omega
              · obtain rfl : q = n := by omega
                have HN2 := hide (HM1.out.next hik (fun g' n' c' e' => by rw [HE.out] at e'; cases e'; exact HR1.out))
                go_wp2
                go_roundw
                case rel => exact ⟨i + 1, by go_num, him, HN2⟩
                case measure => simp [intOf]; omega
        · obtain rfl : m = i := by omega
          obtain ⟨w2, rfl⟩ : ∃ w2, w2 = wr := ⟨_, rfl⟩
          have hsz1 := HB.out.size
          have hsz2 := HMK.out.turns.size
          have HEQ2 : Hid (∀ g, g < w.heap.size → g ∉ blocksOf KS → w2.heap[g]? = w.heap[g]?) := fun g h1 h2 => (HMK.out.turns.block g (Nat.lt_of_lt_of_le h1 HB.out.size) h2).trans (HB.out.block g h1)
          have HB0N := hide HGV.out.b0F
          have HO2 : Hid (OwnsE Ef w2 SF) := HGV.out.f.keep (fun g hg => HEQ2.out g (HGV.out.f.lt hg) (HGV.out.apart g hg))
          have HCB : Hid (∀ W' : World, TurnS SF w2 W' → ∀ i (h : i < SF.length), W'.cell? ⟨b0, i, none⟩ = some SF[i] ∧ b0 < W'.heap.size) := fun W' h i hi => ⟨HSI.out W' ((h.block b0 (by omega) HB0N.out.1).trans (HEQ2.out b0 hb0 HB0N.out.2)) i hi, by have := h.size; omega⟩
          go_wp2
          go_loopw [8] (fun u wr => ∃ (i : Nat), u = .int .i64 i ∧ i ≤ 3 ∧ Hid (MarksE Ef SF i w2 wr)) (fun u _ => 3 - (intOf u).toNat)
          case atStart => exact ⟨0, rfl, Nat.zero_le _, MarksE.start HO2.out⟩
          case round =>
            obtain ⟨i, rfl, hi, HMF⟩ := hrel
            have hszr := HMF.out.turns.size
            by_cases hi3 : i < 3
            · have hi3i : (i : Int) < 3 := by omega
              have his : i < SF.length := by rw [HSF.out]; exact hi3
              have HNX := hide (HMF.out.next his)
              obtain ⟨hck, hb0r⟩ := HCB.out _ HMF.out.turns i his
              have HKC : Hid (∀ W' : World, TurnS SF w2 W' → W'.cell? ⟨b0, i, none⟩ = some SF[i] ∧ b0 < W'.heap.size) := fun W' h => HCB.out W' h i his
              rcases HMF.out.owns.1 _ (List.getElem_mem his) with e | ⟨g, n, e, hn, hblk⟩
              · rw [e] at hck
                have HN2 := hide (HNX.out (fun g n c e' => by rw [e] at e'; cases e'))
                clear HNX HKC e
                go_wp2
                go_loopw [9] (fun u wx => u = .int .i64 0 ∧ wx = wr) (fun u _ => 0)
                case atStart => exact ⟨rfl, rfl⟩
                case round =>
                  obtain ⟨rfl, rfl⟩ := hrel
                  go_wp2
                  go_roundw
                  case rel => exact ⟨i + 1, by go_num, hi3, HN2⟩
                  case measure => simp [intOf]; omega
              · rw [e] at hck
                have HE := hide e
                rw [e] at HKC
                have HGK := hide (show g ∈ blocksOf SF from mem_blocks (List.getElem_mem his) (by rw [e]; rfl))
                clear e hblk HNX
                go_wp2
                go_loopw [9] (fun u wx => ∃ q : Nat, u = .int .i64 q ∧ q ≤ n ∧ Hid (MarksE Ef SF i w2 wx) ∧ Hid (RdE Ef wx g q i)) (fun u _ => n - (intOf u).toNat)
                case atStart => exact ⟨0, rfl, Nat.zero_le _, HMF, fun j t hj => absurd hj (by omega)⟩
                case round =>
                  obtain ⟨q, rfl, hq, HM1, HR1⟩ := hrel
                  obtain ⟨hck1, hb01⟩ := HKC.out _ HM1.out.turns
                  by_cases hqn : q < n
                  · have hblk : Blk wr g 66 (n * 9) := by
                      rcases HM1.out.owns.1 _ (List.getElem_mem his) with e' | ⟨g', n', e', _, qq⟩
                      · rw [HE.out] at e'; cases e'
                      · rw [HE.out] at e'; cases e'; exact qq
                    have HTH : Hid (wr.there g (q * 9) 9) := fun j hj => ⟨by obtain ⟨z, hz⟩ := hblk.some (q * 9 + j) (by omega); rw [hz]; rfl, hblk.free _⟩
                    have hgl := hblk.lt
                    obtain ⟨W2, hW2⟩ : ∃ W2, W2 = wr.setCells g (q * 9) (#[.string ⟨#[]⟩, .int .i64 (-1000 - (i : Int)), .slice none 0 0, .bool false, .int .i64 0, .int .u64 0, .string ⟨#[]⟩, .slice none 0 0, .int .i64 0] : Array Value).toList := ⟨_, rfl⟩
                    have HPUT : Hid (MarksE Ef SF i w2 W2 ∧ RdE Ef W2 g (q + 1) i) := by
                      rw [hW2]
                      exact HM1.out.put ef_ok his HE.out hqn HR1.out
                    have HW2 := hide hW2
                    clear hblk hW2
                    go_wp2_with (refine wpList_store_mid rfl 66 (.tmp 94) (.tmp 93) rfl g (q * 9) #[.string ⟨#[]⟩, .int .i64 (-1000 - (i : Int)), .slice none 0 0, .bool false, .int .i64 0, .int .u64 0, .string ⟨#[]⟩, .slice none 0 0, .int .i64 0] rfl rfl HTH.out Tryz.sizeF9 (ef_all i) ?_; rw [← HW2.out])
                    go_roundw
                    case rel => exact ⟨q + 1, by go_num, hqn, HPUT.out.1, HPUT.out.2⟩
                    case measure => simp [intOf]; omega
                  · obtain rfl : q = n := by omega
                    have HN2 := hide (HM1.out.next his (fun g' n' c' e' => by rw [HE.out] at e'; cases e'; exact HR1.out))
                    go_wp2
                    go_roundw
                    case rel => exact ⟨i + 1, by go_num, hi3, HN2⟩
                    case measure => simp [intOf]; omega
            · obtain rfl : i = 3 := by omega
              simp only [show ((3 : Nat) : Int) = 3 from rfl]
              obtain ⟨w3, rfl⟩ : ∃ w3, w3 = wr := ⟨_, rfl⟩
              have hsz3 := HMF.out.turns.size
              have HAP : Hid (∀ g, g ∈ blocksOf KS → g ∉ blocksOf SF) := fun g h1 h2 => HGV.out.apart g h2 h1
              have HK3 : Hid ((∀ W' : World, Below w3.heap.size w3 W' → ∀ i (h : i < KS.length), ∃ a n, KS[i] = .slice a n n ∧ n ≤ 100 ∧ W'.ownsRow 0 Ek.ty Ek.sz (.slice a n n) n (Ek.row n i) ∧ ∀ g, (Value.slice a n n).ownBlock = some g → g < w3.heap.size) ∧ ∀ i (h : i < KS.length), ∃ kb, A = some ⟨kb, 0, none⟩ ∧ ∀ W' : World, Below w3.heap.size w3 W' → W'.cell? ⟨kb, i, none⟩ = some KS[i] ∧ kb < W'.heap.size) := by
                refine ⟨fun W' hW i h => ?_, fun i h => ?_⟩
                · rcases HMK.out.owns.1 _ (List.getElem_mem h) with e | ⟨g, n, e, hn, hblk⟩
                  · exact ⟨none, 0, e, by omega, World.ownsRow_nil _ _ _ _, fun g hg => by cases hg⟩
                  · have hgm : g ∈ blocksOf KS := mem_blocks (List.getElem_mem h) (by rw [e]; rfl)
                    have hgl := HKlow.out g hgm
                    have hsame : W'.heap[g]? = w2.heap[g]? := (hW.block g (by omega)).trans (HMF.out.turns.block g (by omega) (HAP.out g hgm))
                    obtain ⟨cs, q1, q2⟩ := hblk
                    refine ⟨_, n, e, hn, own_rdE ek_ok ⟨cs, hsame.trans q1, q2⟩ ((HMK.out.full i h (by rw [← HNK.out]; exact h) g n n e).same hsame) (by unfold maxLen; omega) (Nat.zero_le _), fun g' hg' => ?_⟩
                    cases hg'
                    show g < w3.heap.size
                    omega
                · obtain ⟨kb, hA, h1, h2, _⟩ := HKR.out w1 (fun _ _ _ => rfl) i h
                  refine ⟨kb, hA, fun W' hW => ?_⟩
                  obtain ⟨kb', hA', _, _, hc⟩ := HKR.out W' (fun g g1 g2 => ((hW.block g (by omega)).trans (HMF.out.turns.block g (by omega) (fun hm => by have := HFlow.out g hm; omega))).trans (HMK.out.turns.block g g1 (fun hm => by have := HKlow.out g hm; omega))) i h
                  rw [hA] at hA'
                  cases hA'
                  exact ⟨hc, by have := hW.size; omega⟩
              go_wp2
              go_loopw [10, 11] (fun gv u wr => ∃ (G : List Value) (gv' : Value) (i : Nat), gv' = gv ∧ u = .int .i64 i ∧ i ≤ m ∧ G.length = 8 * i ∧ Hid (∃ j n v, GrowsE Ek 64 KS w3.heap.size j n v gv' G wr) ∧ Hid (Below w3.heap.size w3 wr)) (fun _ u _ => m - (intOf u).toNat)
              case atStart => exact ⟨[], _, 0, rfl, rfl, Nat.zero_le _, rfl, ⟨_, _, _, GrowsE.start rfl⟩, Below.refl _ _⟩
              case round =>
                obtain ⟨G, gv, i, rfl, rfl, hi, hG, HG, HBW⟩ := hrel
                have hszr := HBW.out.size
                by_cases hil : i < m
                · have his : i < KS.length := by rw [HNK.out]; exact hil
                  obtain ⟨a, n, e, hn, HOW, HLT⟩ := HK3.out.1 _ HBW.out i his
                  obtain ⟨kb, hA, hck⟩ := HK3.out.2 i his
                  rw [e] at hck
                  have HE := hide e
                  have HCK : Hid (∀ W' : World, Below w3.heap.size w3 W' → W'.cell? ⟨kb, i, none⟩ = some (.slice a n n) ∧ kb < W'.heap.size) := hck
                  have hc1 := (hck wr HBW.out).1
                  have hkr := (hck wr HBW.out).2
                  have HU : Hid (GrowsE Ek 64 KS w3.heap.size i n (.slice a n n) gv G wr) := by
                    obtain ⟨j, m', v, hg⟩ := HG.out
                    exact hg.other HOW (fun a n c e => by cases e; rfl) HLT
                  subst hA
                  clear hck e HOW HLT HG
                  go_wp2
                  clear hc1
                  go_loopw [10, 12, 13] (fun gv lv u wz => ∃ (G' : List Value) (gv' lv' : Value) (k : Nat), gv' = gv ∧ lv' = lv ∧ u = .int .i64 k ∧ k ≤ 7 ∧ G'.length = 8 * i + k ∧ Hid (GrowsE Ek 64 KS w3.heap.size i (n + k) lv' gv' G' wz) ∧ Hid (Below w3.heap.size w3 wz)) (fun _ _ u _ => 7 - (intOf u).toNat)
                  case atStart => exact ⟨G, _, _, 0, rfl, rfl, rfl, by omega, by omega, HU, HBW⟩
                  case round =>
                    obtain ⟨G', gv', lv', k, rfl, rfl, rfl, hk, hG', HG', HB4⟩ := hrel
                    by_cases hk7 : k < 7
                    · have hbA := bel1 (Below.refl wr.heap.size wr) (Nat.le_refl _) (Obj.cells (#[.int .i64 (-1000 - (i : Int))] : Array Value) 3)
                      have HG5 := hide (HG'.out.below hbA)
                      have HB5 := hide (belOn HB4.out HG'.out.size hbA)
                      have HNEWS := hide (cell_one_new wr (.int .i64 (-1000 - (i : Int))) 3)
                      have HM1 : Hid (n + k + 1 ≤ maxLen) := (by show n + k + 1 ≤ maxLen; unfold maxLen; omega)
                      have HM2 : Hid ((n + k + 1) * 8 ≤ 140737488355328) := (by show (n + k + 1) * 8 ≤ 140737488355328; omega)
                      have HM3' : Hid (G'.length + 1 ≤ maxLen) := (by show G'.length + 1 ≤ maxLen; unfold maxLen; omega)
                      have HM4 : Hid ((G'.length + 1) * 24 ≤ 140737488355328) := (by show (G'.length + 1) * 24 ≤ 140737488355328; omega)
                      have HM5 : Hid (n + k + 1 ≤ 200) := (by show n + k + 1 ≤ 200; omega)
                      have HG8 : Hid (G'.length / 8 = i) := (by show G'.length / 8 = i; omega)
                      have HG7n : Hid (G'.length % 8 ≠ 7) := (by show G'.length % 8 ≠ 7; omega)
                      have HGL : Hid (∀ x : Value, (G' ++ [x]).length = 8 * i + (k + 1)) := fun x => (by rw [List.length_append, hG']; rfl)
                      clear hbA HG' HU hG'
                      go_wp2_with (first
                        | (at_builtin; (refine wpList_append_either _ rfl (.tmp 109) (.tmp 112) 64 rfl 0 3 iI _ 1 8 Tryz.underlying64 HI.out.1 HI.out.2.1 HI.out.2.2.1 HI.out.2.2.2 rfl (by decide) _ (n + k) _ rfl HG5.out.row ⟨wr.heap.size, 0, none⟩ 1 (Ek.m i) rfl rfl HNEWS.out (ek_ok.one i) HM1.out HM2.out (Nat.zero_le _) ?_; intro v6 w6 hown6 hor6; obtain ⟨g6, cap6, rfl⟩ := ownsRow_succ hown6; have hown6' : w6.ownsRow 0 (Ek).ty (Ek).sz (.slice (some ⟨g6, 0, none⟩) (n + k + 1) cap6) (n + k + 1) ((Ek).row (n + k + 1) i) := (by rw [rowE_succ]; exact hown6); have HP6 := hide (HG5.out.push ek_ok hown6' hor6); have HB6 := hide (bel1 (HP6.out.2.2 _ HB5.out) HP6.out.1.size (Obj.cells #[.slice (some ⟨g6, 0, none⟩) (n + k + 1) cap6] 64)); have HG6 := hide (HP6.out.1.below (bel1 (Below.refl w6.heap.size w6) (Nat.le_refl _) (Obj.cells #[.slice (some ⟨g6, 0, none⟩) (n + k + 1) cap6] 64))); clear hown6 hown6' hor6))
                        | (at_builtin; (refine wpList_append_either _ rfl (.tmp 114) (.tmp 116) 67 rfl w3.heap.size 64 iL _ 1 24 Tryz.underlying67 HL.out.1 HL.out.2.1 HL.out.2.2.1 HL.out.2.2.2 rfl (by decide) _ G'.length G' rfl HG6.out.grow ⟨w6.heap.size, 0, none⟩ 1 [.slice (some ⟨g6, 0, none⟩) (n + k + 1) cap6] rfl rfl (cell_one_new w6 _ 64) (one_cellF _ _ _) HM3'.out HM4.out HG6.out.size ?_; intro v7 w7 hown7 hor7; have HG7 := hide (HG6.out.take ek_ok HP6.out.2.1 HG8.out HG7n.out HM5.out hown7 hor7); clear hown7 hor7)))
                      go_roundw
                      case rel => exact ⟨G' ++ [Value.slice (some ⟨g6, 0, none⟩) (n + k + 1) cap6], v7, _, k + 1, rfl, rfl, by go_num, hk7, HGL.out _, (show GrowsE Ek 64 KS w3.heap.size i (n + (k + 1)) (.slice (some ⟨g6, 0, none⟩) (n + k + 1) cap6) v7 (G' ++ [.slice (some ⟨g6, 0, none⟩) (n + k + 1) cap6]) w7 from HG7.out.1), HG7.out.2 _ HB6.out⟩
                      case measure => simp [intOf]; omega
                    · obtain rfl : k = 7 := by omega
                      have hc2 := (HCK.out wr HB4.out).1
                      have hk2 := (HCK.out wr HB4.out).2
                      have hbA := bel1 (Below.refl wr.heap.size wr) (Nat.le_refl _) (Obj.cells #[.slice a n n] 64)
                      have HG5 := hide (HG'.out.below hbA)
                      have HB5 := hide (belOn HB4.out HG'.out.size hbA)
                      have HM3' : Hid (G'.length + 1 ≤ maxLen) := (by show G'.length + 1 ≤ maxLen; unfold maxLen; omega)
                      have HM4 : Hid ((G'.length + 1) * 24 ≤ 140737488355328) := (by show (G'.length + 1) * 24 ≤ 140737488355328; omega)
                      have HG7m : Hid (G'.length % 8 = 7) := (by show G'.length % 8 = 7; omega)
                      have HX : Hid (∃ h' : G'.length / 8 < KS.length, Value.slice a n n = KS[G'.length / 8]) := (by
                        have hq : G'.length / 8 = i := by omega
                        simp only [hq]
                        exact ⟨his, HE.out.symm⟩)
                      have HGL : Hid (∀ x : Value, (G' ++ [x]).length = 8 * (i + 1)) := fun x => (by rw [List.length_append, hG']; simp; omega)
                      clear hbA HG' HU hG'
                      go_wp2_with (at_builtin; (refine wpList_append_either _ rfl (.tmp 118) (.tmp 123) 67 rfl w3.heap.size 64 iL _ 1 24 Tryz.underlying67 HL.out.1 HL.out.2.1 HL.out.2.2.1 HL.out.2.2.2 rfl (by decide) _ G'.length G' rfl HG5.out.grow ⟨wr.heap.size, 0, none⟩ 1 [.slice a n n] rfl rfl (cell_one_new wr _ 64) (one_cellF _ _ _) HM3'.out HM4.out HG5.out.size ?_; intro v7 w7 hown7 hor7; have HG7 := hide (HG5.out.takeO HG7m.out HX.out hown7 hor7); clear hown7 hor7))
                      go_roundw
                      case rel => exact ⟨G' ++ [Value.slice a n n], v7, i + 1, rfl, by go_num, hil, HGL.out _, ⟨_, _, _, HG7.out.1⟩, HG7.out.2 _ HB5.out⟩
                      case measure => simp [intOf]; omega
                · obtain rfl : m = i := by omega
                  obtain ⟨w4, rfl⟩ : ∃ w4, w4 = wr := ⟨_, rfl⟩
                  have hsz4 := HBW.out.size
                  have HS5 : Hid ((∀ W' : World, Below w4.heap.size w4 W' → ∀ i (h : i < SF.length), ∃ a n, SF[i] = .slice a n n ∧ n ≤ 100 ∧ W'.ownsRow 0 Ef.ty Ef.sz (.slice a n n) n (Ef.row n i) ∧ ∀ g, (Value.slice a n n).ownBlock = some g → g < w4.heap.size) ∧ ∀ i (h : i < SF.length), ∃ kb, kb = b0 ∧ ∀ W' : World, Below w4.heap.size w4 W' → W'.cell? ⟨kb, i, none⟩ = some SF[i] ∧ kb < W'.heap.size) := by
                    refine ⟨fun W' hW i h => ?_, fun i h => ⟨b0, rfl, fun W' hW => ?_⟩⟩
                    · rcases HMF.out.owns.1 _ (List.getElem_mem h) with e | ⟨g, n, e, hn, hblk⟩
                      · exact ⟨none, 0, e, by omega, World.ownsRow_nil _ _ _ _, fun g hg => by cases hg⟩
                      · have hgm : g ∈ blocksOf SF := mem_blocks (List.getElem_mem h) (by rw [e]; rfl)
                        have hgl := HFlow.out g hgm
                        have hsame : W'.heap[g]? = w3.heap[g]? := (hW.block g (by omega)).trans (HBW.out.block g (by omega))
                        obtain ⟨cs, q1, q2⟩ := hblk
                        refine ⟨_, n, e, hn, own_rdE ef_ok ⟨cs, hsame.trans q1, q2⟩ ((HMF.out.full i h (by rw [← HSF.out]; exact h) g n n e).same hsame) (by unfold maxLen; omega) (Nat.zero_le _), fun g' hg' => ?_⟩
                        cases hg'
                        show g < w4.heap.size
                        omega
                    · have hcb := (HCB.out w3 HMF.out.turns i h).1
                      exact ⟨((hW.cell (p := ⟨b0, i, none⟩) (by show b0 < w4.heap.size; omega)).trans (HBW.out.cell (p := ⟨b0, i, none⟩) (by show b0 < w3.heap.size; omega))).trans hcb, by have := hW.size; omega⟩
                  obtain ⟨GK, hGK⟩ : ∃ GK, GK = G := ⟨_, rfl⟩
                  subst hGK
                  have HGK8 : Hid (GK.length = 8 * m) := hG
                  have hGK1 : GK.length ≤ 800 := by omega
                  have HGKs := HG
                  have HBK := HBW
                  obtain ⟨gk, hgk⟩ : ∃ gk, gk = gv := ⟨_, rfl⟩
                  subst hgk
                  clear hG
                  go_wp2
                  go_loopw [14, 15] (fun gv u wr => ∃ (G : List Value) (gv' : Value) (i : Nat), gv' = gv ∧ u = .int .i64 i ∧ i ≤ 3 ∧ G.length = 8 * i ∧ Hid (∃ j n v, GrowsE Ef 23 SF w4.heap.size j n v gv' G wr) ∧ Hid (Below w4.heap.size w4 wr)) (fun _ u _ => 3 - (intOf u).toNat)
                  case atStart => exact ⟨[], _, 0, rfl, rfl, Nat.zero_le _, rfl, ⟨_, _, _, GrowsE.start rfl⟩, Below.refl _ _⟩
                  case round =>
                    obtain ⟨G, gv, i, rfl, rfl, hi, hG, HG, HBW⟩ := hrel
                    have hszr := HBW.out.size
                    by_cases hil : i < 3
                    · have hi3i : (i : Int) < 3 := by omega
                      have his : i < SF.length := by rw [HSF.out]; exact hil
                      obtain ⟨a, n, e, hn, HOW, HLT⟩ := HS5.out.1 _ HBW.out i his
                      obtain ⟨kb, hA, hck⟩ := HS5.out.2 i his
                      rw [e] at hck
                      have HE := hide e
                      have HCK : Hid (∀ W' : World, Below w4.heap.size w4 W' → W'.cell? ⟨kb, i, none⟩ = some (.slice a n n) ∧ kb < W'.heap.size) := hck
                      have hc1 := (hck wr HBW.out).1
                      have hkr := (hck wr HBW.out).2
                      have HU : Hid (GrowsE Ef 23 SF w4.heap.size i n (.slice a n n) gv G wr) := by
                        obtain ⟨j, m', v, hg⟩ := HG.out
                        exact hg.other HOW (fun a n c e => by cases e; rfl) HLT
                      subst hA
                      clear hck e HOW HLT HG
                      go_wp2
                      clear hc1
                      go_loopw [14, 16, 17] (fun gv lv u wz => ∃ (G' : List Value) (gv' lv' : Value) (k : Nat), gv' = gv ∧ lv' = lv ∧ u = .int .i64 k ∧ k ≤ 7 ∧ G'.length = 8 * i + k ∧ Hid (GrowsE Ef 23 SF w4.heap.size i (n + k) lv' gv' G' wz) ∧ Hid (Below w4.heap.size w4 wz)) (fun _ _ u _ => 7 - (intOf u).toNat)
                      case atStart => exact ⟨G, _, _, 0, rfl, rfl, rfl, by omega, by omega, HU, HBW⟩
                      case round =>
                        obtain ⟨G', gv', lv', k, rfl, rfl, rfl, hk, hG', HG', HB4⟩ := hrel
                        by_cases hk7 : k < 7
                        · have hbA := bel1 (Below.refl wr.heap.size wr) (Nat.le_refl _) (Obj.cells (#[.string ⟨#[]⟩, .int .i64 (-1000 - (i : Int)), .slice none 0 0, .bool false, .int .i64 0, .int .u64 0, .string ⟨#[]⟩, .slice none 0 0, .int .i64 0] : Array Value) 66)
                          have HG5 := hide (HG'.out.below hbA)
                          have HB5 := hide (belOn HB4.out HG'.out.size hbA)
                          have HNEWS := hide (newsArr wr (#[.string ⟨#[]⟩, .int .i64 (-1000 - (i : Int)), .slice none 0 0, .bool false, .int .i64 0, .int .u64 0, .string ⟨#[]⟩, .slice none 0 0, .int .i64 0] : Array Value) 66)
                          have HM1 : Hid (n + k + 1 ≤ maxLen) := (by show n + k + 1 ≤ maxLen; unfold maxLen; omega)
                          have HM2 : Hid ((n + k + 1) * 120 ≤ 140737488355328) := (by show (n + k + 1) * 120 ≤ 140737488355328; omega)
                          have HM3' : Hid (G'.length + 1 ≤ maxLen) := (by show G'.length + 1 ≤ maxLen; unfold maxLen; omega)
                          have HM4 : Hid ((G'.length + 1) * 24 ≤ 140737488355328) := (by show (G'.length + 1) * 24 ≤ 140737488355328; omega)
                          have HM5 : Hid (n + k + 1 ≤ 200) := (by show n + k + 1 ≤ 200; omega)
                          have HG8 : Hid (G'.length / 8 = i) := (by show G'.length / 8 = i; omega)
                          have HG7n : Hid (G'.length % 8 ≠ 7) := (by show G'.length % 8 ≠ 7; omega)
                          have HGL : Hid (∀ x : Value, (G' ++ [x]).length = 8 * i + (k + 1)) := fun x => (by rw [List.length_append, hG']; rfl)
                          clear hbA HG' HU hG'
                          go_wp2_with (first
                            | (at_builtin; (refine wpList_append_either _ rfl (.tmp 139) (.tmp 143) 23 rfl 0 66 iF _ 9 120 Tryz.underlying23 HF.out.1 HF.out.2.1 HF.out.2.2.1 HF.out.2.2.2 rfl (by decide) _ (n + k) _ rfl HG5.out.row ⟨wr.heap.size, 0, none⟩ 1 (Ef.m i) rfl rfl HNEWS.out (ef_ok.one i) HM1.out HM2.out (Nat.zero_le _) ?_; intro v6 w6 hown6 hor6; obtain ⟨g6, cap6, rfl⟩ := ownsRow_succ hown6; have hown6' : w6.ownsRow 0 (Ef).ty (Ef).sz (.slice (some ⟨g6, 0, none⟩) (n + k + 1) cap6) (n + k + 1) ((Ef).row (n + k + 1) i) := (by rw [rowE_succ]; exact hown6); have HP6 := hide (HG5.out.push ef_ok hown6' hor6); have HB6 := hide (bel1 (HP6.out.2.2 _ HB5.out) HP6.out.1.size (Obj.cells #[.slice (some ⟨g6, 0, none⟩) (n + k + 1) cap6] 23)); have HG6 := hide (HP6.out.1.below (bel1 (Below.refl w6.heap.size w6) (Nat.le_refl _) (Obj.cells #[.slice (some ⟨g6, 0, none⟩) (n + k + 1) cap6] 23))); clear hown6 hown6' hor6))
                            | (at_builtin; (refine wpList_append_either _ rfl (.tmp 145) (.tmp 147) 29 rfl w4.heap.size 23 iG _ 1 24 Tryz.underlying29 HG9.out.1 HG9.out.2.1 HG9.out.2.2.1 HG9.out.2.2.2 rfl (by decide) _ G'.length G' rfl HG6.out.grow ⟨w6.heap.size, 0, none⟩ 1 [.slice (some ⟨g6, 0, none⟩) (n + k + 1) cap6] rfl rfl (cell_one_new w6 _ 23) (one_cellF _ _ _) HM3'.out HM4.out HG6.out.size ?_; intro v7 w7 hown7 hor7; have HG7 := hide (HG6.out.take ef_ok HP6.out.2.1 HG8.out HG7n.out HM5.out hown7 hor7); clear hown7 hor7)))
                          go_roundw
                          case rel => exact ⟨G' ++ [Value.slice (some ⟨g6, 0, none⟩) (n + k + 1) cap6], v7, _, k + 1, rfl, rfl, by go_num, hk7, HGL.out _, (show GrowsE Ef 23 SF w4.heap.size i (n + (k + 1)) (.slice (some ⟨g6, 0, none⟩) (n + k + 1) cap6) v7 (G' ++ [.slice (some ⟨g6, 0, none⟩) (n + k + 1) cap6]) w7 from HG7.out.1), HG7.out.2 _ HB6.out⟩
                          case measure => simp [intOf]; omega
                        · obtain rfl : k = 7 := by omega
                          have hc2 := (HCK.out wr HB4.out).1
                          have hk2 := (HCK.out wr HB4.out).2
                          have hbA := bel1 (Below.refl wr.heap.size wr) (Nat.le_refl _) (Obj.cells #[.slice a n n] 23)
                          have HG5 := hide (HG'.out.below hbA)
                          have HB5 := hide (belOn HB4.out HG'.out.size hbA)
                          have HM3' : Hid (G'.length + 1 ≤ maxLen) := (by show G'.length + 1 ≤ maxLen; unfold maxLen; omega)
                          have HM4 : Hid ((G'.length + 1) * 24 ≤ 140737488355328) := (by show (G'.length + 1) * 24 ≤ 140737488355328; omega)
                          have HG7m : Hid (G'.length % 8 = 7) := (by show G'.length % 8 = 7; omega)
                          have HX : Hid (∃ h' : G'.length / 8 < SF.length, Value.slice a n n = SF[G'.length / 8]) := (by
                            have hq : G'.length / 8 = i := by omega
                            simp only [hq]
                            exact ⟨his, HE.out.symm⟩)
                          have HGL : Hid (∀ x : Value, (G' ++ [x]).length = 8 * (i + 1)) := fun x => (by rw [List.length_append, hG']; simp; omega)
                          clear hbA HG' HU hG'
                          go_wp2_with (at_builtin; (refine wpList_append_either _ rfl (.tmp 149) (.tmp 154) 29 rfl w4.heap.size 23 iG _ 1 24 Tryz.underlying29 HG9.out.1 HG9.out.2.1 HG9.out.2.2.1 HG9.out.2.2.2 rfl (by decide) _ G'.length G' rfl HG5.out.grow ⟨wr.heap.size, 0, none⟩ 1 [.slice a n n] rfl rfl (cell_one_new wr _ 23) (one_cellF _ _ _) HM3'.out HM4.out HG5.out.size ?_; intro v7 w7 hown7 hor7; have HG7 := hide (HG5.out.takeO HG7m.out HX.out hown7 hor7); clear hown7 hor7))
                          go_roundw
                          case rel => exact ⟨G' ++ [Value.slice a n n], v7, i + 1, rfl, by go_num, hil, HGL.out _, ⟨_, _, _, HG7.out.1⟩, HG7.out.2 _ HB5.out⟩
                          case measure => simp [intOf]; omega
                    · obtain rfl : i = 3 := by omega
                      simp only [show ((3 : Nat) : Int) = 3 from rfl]
                      obtain ⟨w5, rfl⟩ : ∃ w5, w5 = wr := ⟨_, rfl⟩
                      have hsz5 := HBW.out.size
                      have hG1 : G.length ≤ 800 := by omega
                      have HIF0 : Hid (∃ AF CF, gv = .slice AF G.length CF ∧ G.length ≤ CF ∧ ∀ q (hq : q < G.length), ∃ gb a n c, AF = some ⟨gb, 0, none⟩ ∧ gb < w5.heap.size ∧ w5.cell? ⟨gb, q, none⟩ = some (.slice a n c) ∧ n ≤ c ∧ n ≤ 200 ∧ ∀ j, j < n → ∃ g, a = some ⟨g, 0, none⟩ ∧ g < w5.heap.size ∧ w5.cell? ⟨g, j * 9 + 1, none⟩ = some (.int .i64 (-1000 - (q : Int) / 8))) := by
                        obtain ⟨j, m', v, hg⟩ := HG.out
                        obtain ⟨AF, CF, e1, e2, e3⟩ := hg.tell (fun i h => by
                          obtain ⟨a, n, q1, q2, q3, q4⟩ := HS5.out.1 w5 HBW.out i h
                          exact ⟨a, n, q1, by omega, fun g hg => by
                            subst hg
                            exact ⟨by have := q4 g rfl; omega, rdE_own ef_ok q3⟩, (ownsRow_slice0 q3)⟩) (Below.refl _ _)
                        refine ⟨AF, CF, e1, e2, fun q hq => ?_⟩
                        obtain ⟨gb, a, n, c, f1, f2, f3, f4, f5, f6⟩ := e3 q hq
                        refine ⟨gb, a, n, c, f1, f2, f3, f4, f5, fun j hj => ?_⟩
                        obtain ⟨g, p1, p2, p3⟩ := f6 j hj
                        refine ⟨g, p1, p2, (p3 1 (by decide)).trans ?_⟩
                        have : ((q / 8 : Nat) : Int) = (q : Int) / 8 := by omega
                        rw [← this]
                        rfl
                      have HIK0 : Hid (∃ AK CK, gk = .slice AK GK.length CK ∧ GK.length ≤ CK ∧ ∀ q (hq : q < GK.length), ∃ gb a n c, AK = some ⟨gb, 0, none⟩ ∧ gb < w5.heap.size ∧ w5.cell? ⟨gb, q, none⟩ = some (.slice a n c) ∧ n ≤ c ∧ n ≤ 200 ∧ ∀ j, j < n → ∃ g, a = some ⟨g, 0, none⟩ ∧ g < w5.heap.size ∧ w5.cell? ⟨g, j, none⟩ = some (.int .i64 (-1000 - (q : Int) / 8))) := by
                        obtain ⟨j, m', v, hg⟩ := HGKs.out
                        obtain ⟨AF, CF, e1, e2, e3⟩ := hg.tell (fun i h => by
                          obtain ⟨a, n, q1, q2, q3, q4⟩ := HK3.out.1 w4 HBK.out i h
                          exact ⟨a, n, q1, by omega, fun g hg => by
                            subst hg
                            exact ⟨by have := q4 g rfl; omega, rdE_own ek_ok q3⟩, (ownsRow_slice0 q3)⟩) HBW.out
                        refine ⟨AF, CF, e1, e2, fun q hq => ?_⟩
                        obtain ⟨gb, a, n, c, f1, f2, f3, f4, f5, f6⟩ := e3 q hq
                        refine ⟨gb, a, n, c, f1, f2, f3, f4, f5, fun j hj => ?_⟩
                        obtain ⟨g, p1, p2, p3⟩ := f6 j hj
                        have h0 := p3 0 (by decide)
                        have ez : j * Ek.sz + 0 = j := Nat.mul_one j
                        rw [ez] at h0
                        refine ⟨g, p1, p2, h0.trans ?_⟩
                        have : ((q / 8 : Nat) : Int) = (q : Int) / 8 := by omega
                        rw [← this]
                        rfl
                      obtain ⟨AF, CF, e1, hGF, hIF⟩ := HIF0.out
                      obtain ⟨AK, CK, e2, hGKC, hIK⟩ := HIK0.out
                      subst e1 e2
                      have HIF := hide hIF
                      have HIK := hide hIK
                      have HEND : Hid (TurnS (SF ++ KS) w w5) := by
                        have hbl : blocksOf (SF ++ KS) = blocksOf SF ++ blocksOf KS := by simp [blocksOf]
                        have t1 := HMK.out.turns
                        have t2 := HMF.out.turns
                        exact ⟨HBW.out.os.trans (HBK.out.os.trans (t2.os.trans (t1.os.trans HB.out.os))), HBW.out.tape.trans (HBK.out.tape.trans (t2.tape.trans (t1.tape.trans HB.out.tape))), HBW.out.output.trans (HBK.out.output.trans (t2.output.trans (t1.output.trans HB.out.output))), by omega, fun k hk hn => by
                          rw [hbl, List.mem_append] at hn
                          exact (HBW.out.block k (by omega)).trans ((HBK.out.block k (by omega)).trans ((t2.block k (by omega) (fun h => hn (.inl h))).trans ((t1.block k (by omega) (fun h => hn (.inr h))).trans (HB.out.block k hk))))⟩
                      clear HIF0 HIK0 hIF hIK hG HG HGKs HS5 HK3
                      go_wp2
                      go_loopw [18] (fun u wx => ∃ q : Nat, u = .int .i64 q ∧ q ≤ GK.length ∧ w5 = wx) (fun u _ => GK.length - (intOf u).toNat)
                      case atStart => exact ⟨0, rfl, Nat.zero_le _, rfl⟩
                      case round =>
                        obtain ⟨q, rfl, hq, rfl⟩ := hrel
                        by_cases hql : q < GK.length
                        · obtain ⟨gb, a, n, c, hA, hgb, hcell, hnc, hn200, hrow⟩ := HIK.out q hql
                          subst hA
                          have HROW := hide hrow
                          clear hrow
                          go_wp2
                          go_loopw [19] (fun u wx => ∃ j : Nat, u = .int .i64 j ∧ j ≤ n ∧ w5 = wx) (fun u _ => n - (intOf u).toNat)
                          case atStart => exact ⟨0, rfl, Nat.zero_le _, rfl⟩
                          case round =>
                            obtain ⟨j, rfl, hj, rfl⟩ := hrel
                            by_cases hjn : j < n
                            · obtain ⟨g, rfl, hg, hc⟩ := HROW.out j hjn
                              go_wp2
                              go_roundw
                              case rel => exact ⟨j + 1, by go_num, hjn, trivial⟩
                              case measure => simp [intOf]; omega
                            · obtain rfl : j = n := by omega
                              go_wp2
                              go_roundw
                              case rel => exact ⟨q + 1, by go_num, hql, trivial⟩
                              case measure => simp [intOf]; omega
                        · obtain rfl : q = GK.length := by omega
                          go_wp2
                          go_loopw [20] (fun u wx => ∃ q : Nat, u = .int .i64 q ∧ q ≤ G.length ∧ w5 = wx) (fun u _ => G.length - (intOf u).toNat)
                          case atStart => exact ⟨0, rfl, Nat.zero_le _, rfl⟩
                          case round =>
                            obtain ⟨q, rfl, hq, rfl⟩ := hrel
                            by_cases hql : q < G.length
                            · obtain ⟨gb, a, n, c, hA, hgb, hcell, hnc, hn200, hrow⟩ := HIF.out q hql
                              subst hA
                              have HROW := hide hrow
                              clear hrow
                              go_wp2
                              go_loopw [21] (fun u wx => ∃ j : Nat, u = .int .i64 j ∧ j ≤ n ∧ w5 = wx) (fun u _ => n - (intOf u).toNat)
                              case atStart => exact ⟨0, rfl, Nat.zero_le _, rfl⟩
                              case round =>
                                obtain ⟨j, rfl, hj, rfl⟩ := hrel
                                by_cases hjn : j < n
                                · obtain ⟨g, rfl, hg, hc⟩ := HROW.out j hjn
                                  go_wp2
                                  go_roundw
                                  case rel => exact ⟨j + 1, by go_num, hjn, trivial⟩
                                  case measure => simp [intOf]; omega
                                · obtain rfl : j = n := by omega
                                  go_wp2
                                  go_roundw
                                  case rel => exact ⟨q + 1, by go_num, hql, trivial⟩
                                  case measure => simp [intOf]; omega
                            · obtain rfl : q = G.length := by omega
                              go_wp2
                              go_ret
                              exact ⟨rfl, HEND⟩
end Go.Proofs.YtgldcchleoklcaaGreatDoor
