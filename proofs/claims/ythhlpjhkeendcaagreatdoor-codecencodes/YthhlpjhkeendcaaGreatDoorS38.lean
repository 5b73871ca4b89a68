/- E0, E1, E2, E3, E4 -/
import Derived.Test.YthhlpjhkeendcaaGreatDoorS34
import Derived.Test.YthhlpjhkeendcaaGreatDoorS37
import Derived.Laws.AppendOwnNone
import Derived.Deep.Onto
import Derived.BigQuiet
namespace Go.Proofs.YthhlpjhkeendcaaGreatDoor
set_option linter.unusedVariables false
set_option linter.unusedSimpArgs false
namespace E
open Go.RowKit Go.Deep
def Rb (w : World) (v : Value) (l : List Nat) : Prop := ∃ a cap, v = .slice a l.length cap ∧ (a = none → cap = 0) ∧ l.length ≤ cap ∧ Rd w a l.length l
def Ob (B : Nat) (w : World) (v : Value) (l : List Nat) : Prop := w.ownsRow B 5 1 v l.length (l.map bV) ∧ ∀ c ∈ l, c < 256
def At (B : Nat) (v : Value) : Prop := ∀ g, v.ownBlock = some g → B ≤ g
section
variable {B : Nat} {w w' : World} {v : Value} {l : List Nat}
theorem At.mono (h : At B v) {B' : Nat} (hb : B' ≤ B) : At B' v := fun g hg => Nat.le_trans hb (h g hg)
theorem At.nil (B n c : Nat) : At B (.slice none n c) := fun g hg => by cases hg
theorem Rb.below (h : Rb w v l) (hb : Below w.heap.size w w') : Rb w' v l := by
  obtain ⟨a, cap, e, h1, h2, h3⟩ := h
  exact ⟨a, cap, e, h1, h2, h3.below hb⟩
theorem Ob.rb (h : Ob B w v l) : Rb w v l := by
  obtain ⟨h, hb⟩ := h
  rcases h.2 with ⟨rfl, h0⟩ | ⟨g, cap, cur, rfl, hbg, hg, hnc, hrest⟩
  · exact ⟨none, 0, by rw [h0], fun _ => rfl, by omega, rfl, hb, fun h => absurd h (by omega)⟩
  · refine ⟨_, cap, rfl, (fun e => by cases e), hnc, rfl, hb, fun _ => ⟨g, 0, rfl, (h.lt g rfl).2, fun j hj => ?_⟩⟩
    rw [Nat.zero_add, h.cellAt j (by omega), List.getElem?_map, List.getElem?_eq_getElem (by omega)]
    simp [bV, List.getD_eq_getElem?_getD, List.getElem?_eq_getElem (show j < l.length by omega)]
theorem Ob.mono (h : Ob B w v l) {B' : Nat} (hb : B' ≤ B) : Ob B' w v l := ⟨h.1.mono hb, h.2⟩
theorem Ob.lt (h : Ob B w v l) (g : Nat) (hg : v.ownBlock = some g) : B ≤ g ∧ g < w.heap.size := h.1.lt g hg
theorem Ob.below (h : Ob B w v l) (hb : Below w.heap.size w w') : Ob B w' v l :=
  ⟨h.1.kept (row := none) ⟨hb.os, hb.tape, hb.output, hb.size, fun k hk _ => hb.block k hk⟩ (by cases h0 : v.ownBlock <;> simp), h.2⟩
theorem Ob.at (h : Ob B w v l) : At B v := fun g hg => (h.lt g hg).1
theorem Ob.nil (B : Nat) (w : World) : Ob B w (.slice none 0 0) [] := ⟨World.ownsRow_nil _ _ _ _, by simp⟩
end
theorem Rd.nil (w : World) (a : Option Addr) : Rd w a 0 [] := ⟨rfl, by simp, fun h => absurd h (by omega)⟩
theorem Rb.nil (w : World) : Rb w (.slice none 0 0) [] := ⟨none, 0, rfl, fun _ => rfl, Nat.le_refl _, Rd.nil w none⟩
theorem wpList_app (w : World) {ops : Array Oper} {rest : List Oper} {o : Oper} {a : Act} {Q : Exit → Act → World → Prop} (hgd : o.guard = none) (s x : Operand)
    (ho : o.op = .call { callee := .builtin .append, args := #[s, x], argTypes := #[28, 28] })
    (base : Nat) (v : Value) (l : List Nat) (hs : a.eval s = v) (hown : Ob base w v l)
    (u : Value) (t : List Nat) (hx : a.eval x = u) (hr : Rb w u t) (hz : l.length + t.length ≤ 140737488355328) (hbase : base ≤ w.heap.size)
    (h : ∀ v' w', Ob base w' v' (l ++ t) → w.grownBy w' v.ownBlock → wpList Tryz.prog ops Q rest (a.put o.dst v') w') :
    wpList Tryz.prog ops Q (o :: rest) a w := by
  obtain ⟨src, c, rfl, hnil, hcap, hrd⟩ := hr
  obtain ⟨i0, hi, hz0, hz1, hz2⟩ := info_parts Tryz.info5
  have hlt : ∀ c ∈ l ++ t, c < 256 := fun c hc => (List.mem_append.1 hc).elim (hown.2 c) (hrd.2.1 c)
  cases src with
  | some ad =>
    refine wpList_append_own w hgd s x 28 ho base 5 i0 (.int .u8 0) 1 1 Tryz.underlying28 hi hz0 hz1 hz2 rfl (by omega) v l.length _ hs hown.1 ad t.length c (t.map bV) hx (by simp) (fun j u hj => ?_) (map_news t) (by unfold maxLen; omega) (by omega) hbase (fun v' w' r1 r2 _ => h v' w' ⟨by rw [List.map_append, List.length_append]; exact r1, hlt⟩ r2)
    have hjt : j < t.length := by have := (List.getElem?_eq_some_iff.1 hj).1; simpa using this
    obtain ⟨b, off, he, hb, hc⟩ := hrd.2.2 (by omega)
    simp only [Option.some.injEq] at he
    subst he
    have h1 := hc j hjt
    rw [List.getElem?_map, List.getElem?_eq_getElem hjt] at hj
    simp only [Option.map_some, Option.some.injEq] at hj
    rw [← hj]
    have e : (⟨b, off, none⟩ : Addr).add j = ⟨b, off + j, none⟩ := by by_cases h : j = 0 <;> simp [Addr.add, h]
    rw [e, h1, List.getD_eq_getElem?_getD, List.getElem?_eq_getElem hjt]
    rfl
  | none =>
    have hc := hnil rfl
    subst hc
    have ht : t = [] := List.length_eq_zero_iff.1 (by omega)
    subst ht
    refine wpList_append_own_none hgd s x 28 ho base 5 i0 1 Tryz.underlying28 hi v l.length _ hs hown.1 hx ?_
    exact h v w (by simpa using hown) ⟨rfl, rfl, rfl, Nat.le_refl _, fun _ _ _ => rfl⟩
theorem cell_new1 (w : World) (v : Value) (t : TypeId) : (w.alloc (.cells #[v] t)).cell? ⟨w.heap.size, 0, none⟩ = some v := by
  rw [World.cell?_alloc_at _ _ _ _ rfl]; rfl
theorem one_rb (w : World) (c : Nat) (hc : c < 256) : Rb (w.alloc (.cells #[.int .u8 (c : Int)] 5)) (.slice (some ⟨w.heap.size, 0, none⟩) 1 1) [c] := by
  refine ⟨_, 1, rfl, (fun e => by cases e), Nat.le_refl _, rfl, by simpa using hc, fun _ => ⟨w.heap.size, 0, rfl, by simp, fun j hj => ?_⟩⟩
  have : j = 0 := by simpa using hj
  subst this
  exact cell_new1 w _ _
set_option maxRecDepth 100000 in
set_option maxHeartbeats 2000000 in
theorem word_any (N k : Nat) (w : World) (hN : N < 18446744073709551616) (h8 : k ≤ 8) :
    Calls Tryz.prog 48 #[.int .u64 (N : Int), .int .i64 (k : Int)] w fun e w' => ∃ v, e = .returned v ∧ Hid (Ob w.heap.size w' v (digs N k)) ∧ Below w.heap.size w w' := by
  have hwk : IntKind.i64.wrap ((k : Int) - 1) = (k : Int) - 1 := by rw [IntKind.wrap_i64]; omega
  go_enter Tryz.func48, Tryz.ntmps48
  go_wp2
  go_loopw [5, 6] (fun vl i wr => ∃ z : Int, ∃ j : Nat, i = .int .i64 z ∧ z + j + 1 = k ∧ -1 ≤ z ∧ Hid (Ob w.heap.size wr vl ((digs N k).take j)) ∧ Below w.heap.size w wr) (fun _ i _ => (intOf i + 1).toNat)
  case atStart => exact ⟨_, 0, rfl, by omega, by omega, Ob.nil _ _, Below.refl _ _⟩
  case round =>
    obtain ⟨z, j, rfl, hz, hzm, HO, hbw⟩ := hrel
    by_cases hz0 : 0 ≤ z
    · obtain ⟨q, rfl⟩ := Int.eq_ofNat_of_zero_le hz0
      have HTK := hide (take_snocN (digs N k) j (by rw [digs_length]; omega))
      have HDG : Hid ((digs N k).getD j 0 = dig N q) := by show _ = _; rw [digs_getD N k j (by omega)]; congr 1; omega
      have hX : (N : Int) / 2 ^ (8 * q) % 256 = ((dig N q : Nat) : Int) := by
        unfold dig
        rw [show (256 : Nat) ^ q = 2 ^ (8 * q) by rw [Nat.pow_mul]]
        simp
      have hx2 : dig N q < 256 := Nat.mod_lt _ (by omega)
      generalize dig N q = X at *
      have HBw := hide hbw
      clear hbw
      have HO1 : Hid (Ob w.heap.size (wr.alloc (.cells #[.int .u8 (X : Int)] 5)) u5 ((digs N k).take j)) := HO.out.below (bel1 (Below.refl _ _) (Nat.le_refl _) _)
      have HR1 := hide (one_rb wr X hx2)
      have hlj : ((digs N k).take j).length = j := by rw [List.length_take, digs_length]; omega
      have HLj := hide hlj
      clear hlj
      go_wp2_with (at_builtin; go_loud (refine wpList_app _ rfl (.tmp 13) (.tmp 19) rfl w.heap.size _ ((digs N k).take j) rfl HO1.out _ [X] rfl HR1.out (by have := HLj.out; simp only [List.length_cons, List.length_nil]; omega) (by have := HBw.out.size; simp; omega) ?_; intro vl' w3 r1 r2; have HR3 := hide r1; have HB3 := hide ((bel1 HBw.out HBw.out.size _).grown r2 (by have := HBw.out.size; simp; omega) (fun g hg => (HO.out.lt g hg).1)); clear r1 r2))
      go_roundw
      case rel => exact ⟨_, j + 1, rfl, by omega, by omega, by rw [HTK.out, HDG.out]; exact HR3, HB3.out⟩
      case measure => simp [intOf]
    · have hjn : j = k := by omega
      subst hjn
      have HO2 : Hid (Ob w.heap.size wr u5 (digs N j)) := by
        have := HO.out
        rw [List.take_of_length_le (by rw [digs_length]; omega)] at this
        exact this
      go_wp2
      go_ret
      exact ⟨_, rfl, HO2, hbw⟩
end E
namespace E
open Go.RowKit Go.Deep
set_option maxRecDepth 100000 in
set_option maxHeartbeats 2000000 in
theorem number_any (l : List Nat) (v : Value) (w : World) (h : Rb w v l) (h8 : l.length ≤ 8) :
    Calls Tryz.prog 79 #[v] w fun e w' => e = .returned (.int .u64 ((getN l : Nat) : Int)) ∧ Below w.heap.size w w' := by
  obtain ⟨a, cap, rfl, hnil, hcap, hrd⟩ := h
  have HRd := hide hrd
  clear hrd
  go_enter Tryz.func79, Tryz.ntmps79
  go_wp2
  go_loopw [3, 4] (fun u i wr => ∃ j : Nat, u = .int .u64 ((getN (l.take j) : Nat) : Int) ∧ i = .int .i64 (j : Int) ∧ j ≤ l.length ∧ Below w.heap.size w wr) (fun _ i _ => l.length + 1 - (intOf i).toNat)
  case atStart => exact ⟨0, rfl, rfl, by omega, Below.refl _ _⟩
  case round =>
    obtain ⟨j, rfl, rfl, hj, hbw⟩ := hrel
    by_cases hjl : j < l.length
    · obtain ⟨b, off, rfl, hb, hc⟩ := HRd.out.2.2 (by omega)
      have hcj : wr.cell? ⟨b, off + j, none⟩ = some (.int .u8 ((l.getD j 0 : Nat) : Int)) := (hbw.cell (p := ⟨b, off + j, none⟩) hb).trans (hc j hjl)
      have hbr : b < wr.heap.size := Nat.lt_of_lt_of_le hb hbw.size
      obtain ⟨X, hX⟩ : ∃ X, l.getD j 0 = X := ⟨_, rfl⟩
      have hXl : X < 256 := by
        rw [← hX, List.getD_eq_getElem?_getD, List.getElem?_eq_getElem hjl]
        exact HRd.out.2.1 _ (List.getElem_mem hjl)
      rw [hX] at hcj
      have HS := hide (take_snocN l j hjl)
      have hlt : getN (l.take j) < 256 ^ 7 := by
        have h1 := getN_lt (l.take j) (fun c hc => HRd.out.2.1 c (List.mem_of_mem_take hc))
        rw [List.length_take] at h1
        exact Nat.lt_of_lt_of_le h1 (Nat.pow_le_pow_right (by omega) (by omega))
      obtain ⟨N, hN⟩ : ∃ N, getN (l.take j) = N := ⟨_, rfl⟩
      rw [hN] at hlt ⊢
      have HN2 : Hid (getN (l.take (j + 1)) = N * 256 + X) := by show _ = _; rw [HS.out, getN_snoc, hN, hX]
      have hlt2 : N < 72057594037927936 := hlt
      have HJ := hide (or_join N X hlt2 hXl)
      clear hc HS hX hlt
      go_wp2
      rw [HJ.out]
      exact ⟨⟨j + 1, by rw [HN2.out], by go_num, by omega, hbw⟩, by simp [intOf]; omega⟩
    · have hje : j = l.length := by omega
      subst hje
      rw [List.take_length]
      go_wp2
      go_ret
      exact ⟨rfl, hbw⟩
def sx (l : List Nat) : Nat := if 0 < l.length ∧ l.length < 8 ∧ 128 ≤ l.getD 0 0 then getN l + (18446744073709551616 - 256 ^ l.length) else getN l
set_option maxRecDepth 100000 in
set_option maxHeartbeats 4000000 in
theorem signed_any (l : List Nat) (v : Value) (w : World) (h : Rb w v l) (h8 : l.length ≤ 8) :
    Calls Tryz.prog 81 #[v] w fun e w' => e = .returned (.int .u64 ((sx l : Nat) : Int)) ∧ Below w.heap.size w w' := by
  have HNm := hide (number_any l v w h h8)
  obtain ⟨a, cap, rfl, hnil, hcap, hrd⟩ := h
  have HRd := hide hrd
  have HLt : Hid (getN l < 256 ^ l.length) := getN_lt l hrd.2.1
  obtain ⟨n, hn⟩ : ∃ n, l.length = n := ⟨_, rfl⟩
  obtain ⟨N, hN⟩ : ∃ N, getN l = N := ⟨_, rfl⟩
  have hsx : sx l = if 0 < n ∧ n < 8 ∧ 128 ≤ l.getD 0 0 then N + (18446744073709551616 - 256 ^ n) else N := by unfold sx; rw [hn, hN]
  rw [hN, hn] at HNm
  rw [hN, hn] at HLt
  have HRn : Hid (Rd w a n l) := by rw [← hn]; exact hrd
  rw [hn]
  clear hrd HRd
  by_cases h0 : 0 < n
  · obtain ⟨b, off, rfl, hb, hc⟩ := HRn.out.2.2 h0
    have hc0 := hc 0 h0
    rw [Nat.add_zero] at hc0
    obtain ⟨X, hX⟩ : ∃ X, l.getD 0 0 = X := ⟨_, rfl⟩
    rw [hX] at hc0 hsx
    have HC : Hid (∀ w1, Below w.heap.size w w1 → w1.cell? ⟨b, off, none⟩ = some (.int .u8 (X : Int)) ∧ b < w1.heap.size) := fun w1 hb1 => ⟨(hb1.cell (p := ⟨b, off, none⟩) hb).trans hc0, Nat.lt_of_lt_of_le hb hb1.size⟩
    clear hc hc0 hX
    by_cases h7 : n < 8
    · by_cases hx : 128 ≤ X
      · have hs : ((sx l : Nat) : Int) = (N : Int) + (18446744073709551616 - 256 ^ n) := by
          rw [hsx, if_pos ⟨h0, h7, hx⟩]
          rcases (by omega : n = 1 ∨ n = 2 ∨ n = 3 ∨ n = 4 ∨ n = 5 ∨ n = 6 ∨ n = 7) with rfl | rfl | rfl | rfl | rfl | rfl | rfl <;> simp
        rw [hs]
        clear hs hsx
        have hdx : decide (128 ≤ (X : Int)) = true := by simp; omega
        have HLt2 := HLt.out
        rcases (by omega : n = 1 ∨ n = 2 ∨ n = 3 ∨ n = 4 ∨ n = 5 ∨ n = 6 ∨ n = 7) with rfl | rfl | rfl | rfl | rfl | rfl | rfl
        all_goals
          go_enter Tryz.func81, Tryz.ntmps81
          go_wp2_with (go_at_call 79; refine HNm.out.mono ?_; rintro e1 w1 ⟨rfl, hb1⟩; refine Shut.out ?_)
          unfold Shut
          obtain ⟨hc0, hbl⟩ := HC.out w1 hb1
          go_wp2
          go_ret
          exact ⟨congrArg (fun z => Ending.returned (Value.int IntKind.u64 z)) (by rw [IntKind.wrap_u64]; omega), hb1⟩
      · have hs : sx l = N := by rw [hsx, if_neg (fun h => hx h.2.2)]
        rw [hs]
        clear hs hsx
        have hdx : decide (128 ≤ (X : Int)) = false := by simp; omega
        rcases (by omega : n = 1 ∨ n = 2 ∨ n = 3 ∨ n = 4 ∨ n = 5 ∨ n = 6 ∨ n = 7) with rfl | rfl | rfl | rfl | rfl | rfl | rfl
        all_goals
          go_enter Tryz.func81, Tryz.ntmps81
          go_wp2_with (go_at_call 79; refine HNm.out.mono ?_; rintro e1 w1 ⟨rfl, hb1⟩; refine Shut.out ?_)
          unfold Shut
          obtain ⟨hc0, hbl⟩ := HC.out w1 hb1
          go_wp2
          go_ret
          exact ⟨rfl, hb1⟩
    · have hs : sx l = N := by rw [hsx, if_neg (fun h => h7 h.2.1)]
      rw [hs]
      have hn8 : n = 8 := by omega
      subst hn8
      clear hs hsx
      go_enter Tryz.func81, Tryz.ntmps81
      go_wp2_with (go_at_call 79; refine HNm.out.mono ?_; rintro e1 w1 ⟨rfl, hb1⟩; refine Shut.out ?_)
      unfold Shut
      go_wp2
      go_ret
      exact ⟨rfl, hb1⟩
  · have hs : sx l = N := by rw [hsx, if_neg (fun h => h0 h.1)]
    rw [hs]
    have hn8 : n = 0 := by omega
    subst hn8
    clear hs hsx
    go_enter Tryz.func81, Tryz.ntmps81
    go_wp2_with (go_at_call 79; refine HNm.out.mono ?_; rintro e1 w1 ⟨rfl, hb1⟩; refine Shut.out ?_)
    unfold Shut
    go_wp2
    go_ret
    exact ⟨rfl, hb1⟩
end E
namespace E
open Go.RowKit Go.Deep
theorem heap_lst (w : World) (o : Obj) : (w.alloc o).heap[w.heap.size]? = some o := by
  show (w.heap.push o)[w.heap.size]? = _
  simp
def sgK (k : Int) : Bool := decide (k = 6) || decide (k = 7) || decide (k = 8) || decide (k = 9) || decide (k = 16)
set_option maxRecDepth 100000 in
set_option maxHeartbeats 4000000 in
theorem isSigned_any (k : Int) (w : World) (h : 0 ≤ k ∧ k ≤ 24) :
    Calls Tryz.prog 80 #[.int .i64 k] w fun e w' => e = .returned (.bool (sgK k)) ∧ w = w' := by
  rcases (by omega : k = 0 ∨ k = 1 ∨ k = 2 ∨ k = 3 ∨ k = 4 ∨ k = 5 ∨ k = 6 ∨ k = 7 ∨ k = 8 ∨ k = 9 ∨ k = 10 ∨ k = 11 ∨ k = 12 ∨ k = 13 ∨ k = 14 ∨ k = 15 ∨ k = 16 ∨ k = 17 ∨ k = 18 ∨ k = 19 ∨ k = 20 ∨ k = 21 ∨ k = 22 ∨ k = 23 ∨ k = 24) with rfl | rfl | rfl | rfl | rfl | rfl | rfl | rfl | rfl | rfl | rfl | rfl | rfl | rfl | rfl | rfl | rfl | rfl | rfl | rfl | rfl | rfl | rfl | rfl | rfl
  all_goals
    go_enter Tryz.func80, Tryz.ntmps80
    go_wp2
    go_ret
    exact ⟨rfl, rfl⟩
def allC : List Nat := [64, 65, 66, 86, 80, 96, 67, 82, 112, 68, 83, 128, 81, 97, 84, 113, 85, 129, 114, 130, 116, 132, 148, 115, 131, 152, 160, 176, 161, 177, 163, 179, 69, 192, 208, 193, 209, 224, 240, 0]
def widC (c : Nat) : Int := if c ∈ [64, 65, 66, 67, 68, 69] then 0 else if c ∈ [86, 80, 82, 83, 81, 84, 85] then 1 else if c ∈ [96, 97] then 2 else if c ∈ [112, 113, 114, 115, 116] then 4 else if c ∈ [128, 129, 130, 131, 132] then 8 else if c ∈ [148, 152] then 16 else -1
def wideC (c : Nat) : Nat := if c ∈ [160, 161, 163, 192, 193, 224] then 1 else 4
set_option maxRecDepth 100000 in
set_option maxHeartbeats 8000000 in
theorem width_any (c : Nat) (h : c ∈ allC) (w : World) :
    Calls Tryz.prog 78 #[.int .i64 (c : Int)] w fun e w' => e = .returned (.int .i64 (widC c)) ∧ w = w' := by
  simp only [allC, List.mem_cons, List.not_mem_nil, or_false] at h
  rcases h with rfl | rfl | rfl | rfl | rfl | rfl | rfl | rfl | rfl | rfl | rfl | rfl | rfl | rfl | rfl | rfl | rfl | rfl | rfl | rfl | rfl | rfl | rfl | rfl | rfl | rfl | rfl | rfl | rfl | rfl | rfl | rfl | rfl | rfl | rfl | rfl | rfl | rfl | rfl | rfl
  all_goals
    go_enter Tryz.func78, Tryz.ntmps78
    go_wp2
    go_ret
    exact ⟨rfl, rfl⟩
set_option maxRecDepth 100000 in
set_option maxHeartbeats 8000000 in
theorem wide_any (c : Nat) (h : c ∈ allC) (w : World) :
    Calls Tryz.prog 47 #[.int .i64 (c : Int)] w fun e w' => e = .returned (.int .i64 (wideC c : Nat)) ∧ w = w' := by
  simp only [allC, List.mem_cons, List.not_mem_nil, or_false] at h
  rcases h with rfl | rfl | rfl | rfl | rfl | rfl | rfl | rfl | rfl | rfl | rfl | rfl | rfl | rfl | rfl | rfl | rfl | rfl | rfl | rfl | rfl | rfl | rfl | rfl | rfl | rfl | rfl | rfl | rfl | rfl | rfl | rfl | rfl | rfl | rfl | rfl | rfl | rfl | rfl | rfl
  all_goals
    go_enter Tryz.func47, Tryz.ntmps47
    go_wp2
    go_ret
    exact ⟨rfl, rfl⟩
def codesK (k : Int) : List Nat := [[64], [65, 66, 86], [80], [96], [67, 82, 112], [68, 83, 128], [81], [97], [84, 113], [85, 129], [114], [130], [116], [132], [148], [115], [131], [152], [160, 176], [161, 177], [163, 179], [69, 192, 208], [193, 209], [224, 240], [0]].getD k.toNat []
def Its (w : World) (g : Nat) (L : List Nat) : Prop := w.heap[g]? = some (.cells (L.map fun c : Nat => Value.int .i64 (c : Int)).toArray 3 (0, 0))
set_option maxRecDepth 100000 in
set_option maxHeartbeats 8000000 in
theorem codes_any (k : Int) (w : World) (h : 0 ≤ k ∧ k ≤ 24) :
    Calls Tryz.prog 32 #[.int .i64 k] w fun e w' => e = .returned (.slice (some ⟨w.heap.size, 0, none⟩) (codesK k).length (codesK k).length) ∧ Hid (Its w' w.heap.size (codesK k)) ∧ Below w.heap.size w w' := by
  have hf : ∀ k : Int, 12 ≤ k → k ≤ 24 → Calls Tryz.prog 44 #[.int .i64 k] w fun e w' => e = .returned (.slice (some ⟨w.heap.size, 0, none⟩) (codesK k).length (codesK k).length) ∧ Hid (Its w' w.heap.size (codesK k)) ∧ Below w.heap.size w w' := by
    intro k h1 h2
    rcases (by omega : k = 12 ∨ k = 13 ∨ k = 14 ∨ k = 15 ∨ k = 16 ∨ k = 17 ∨ k = 18 ∨ k = 19 ∨ k = 20 ∨ k = 21 ∨ k = 22 ∨ k = 23 ∨ k = 24) with rfl | rfl | rfl | rfl | rfl | rfl | rfl | rfl | rfl | rfl | rfl | rfl | rfl
    all_goals
      go_enter Tryz.func44, Tryz.ntmps44
      go_wp2
      go_ret
      exact ⟨rfl, heap_lst w _, bel1 (Below.refl _ _) (Nat.le_refl _) _⟩
  by_cases h12 : 12 ≤ k
  · have HF := hide (hf k h12 h.2)
    clear hf
    rcases (by omega : k = 12 ∨ k = 13 ∨ k = 14 ∨ k = 15 ∨ k = 16 ∨ k = 17 ∨ k = 18 ∨ k = 19 ∨ k = 20 ∨ k = 21 ∨ k = 22 ∨ k = 23 ∨ k = 24) with rfl | rfl | rfl | rfl | rfl | rfl | rfl | rfl | rfl | rfl | rfl | rfl | rfl
    all_goals
      go_enter Tryz.func32, Tryz.ntmps32
      go_wp2_with (go_at_call 44; refine HF.out.mono ?_; rintro e1 w1 ⟨rfl, hi1, hb1⟩)
      go_ret
      exact ⟨rfl, hi1, hb1⟩
  · clear hf
    rcases (by omega : k = 0 ∨ k = 1 ∨ k = 2 ∨ k = 3 ∨ k = 4 ∨ k = 5 ∨ k = 6 ∨ k = 7 ∨ k = 8 ∨ k = 9 ∨ k = 10 ∨ k = 11) with rfl | rfl | rfl | rfl | rfl | rfl | rfl | rfl | rfl | rfl | rfl | rfl
    all_goals
      go_enter Tryz.func32, Tryz.ntmps32
      go_wp2
      go_ret
      exact ⟨rfl, heap_lst w _, bel1 (Below.refl _ _) (Nat.le_refl _) _⟩
end E
namespace E
open Go.RowKit Go.Deep
def spanB (wd n : Nat) (inn : List Nat) : List Nat := digs (wd + inn.length) wd ++ (digs n wd ++ inn)
def spanOk (wd n : Nat) (inn : List Nat) : Bool := decide (wd = 4) || (decide (n ≤ 255) && decide (wd + inn.length ≤ 255))
def TwoB (B : Nat) (w w' : World) (l : List Nat) (ok : Bool) (v : Value) : Prop := ∃ u, v = .tuple #[u, .bool ok] ∧ Rb w' u l ∧ Below w.heap.size w w' ∧ At B u
def Two (w : World) : World → List Nat → Bool → Value → Prop := TwoB w.heap.size w
theorem digs_len2 (wd a n : Nat) : (digs a wd).length + (digs n wd).length = wd + wd := by rw [digs_length, digs_length]
set_option maxRecDepth 100000 in
set_option maxHeartbeats 4000000 in
theorem spanned_any (c wd n : Nat) (inn : List Nat) (v : Value) (w : World) (hc : c ∈ allC) (hw : wideC c = wd) (hwd : wd = 1 ∨ wd = 4) (hn : n ≤ 1099511627776) (hr : Rb w v inn) (hi : inn.length ≤ 1099511627776) :
    Calls Tryz.prog 49 #[.int .i64 (c : Int), .int .i64 (n : Int), v] w fun e w' => ∃ u, e = .returned u ∧ Two w w' (spanB wd n inn) (spanOk wd n inn) u := by
  have HW := hide (wide_any c hc w)
  rw [hw] at HW
  obtain ⟨a, cap, hv, hnil, hcap, hrd⟩ := hr
  have HR : Hid (Rb w v inn) := ⟨a, cap, hv, hnil, hcap, hrd⟩
  obtain ⟨L, hL⟩ : ∃ L, inn.length = L := ⟨_, rfl⟩
  rw [hL] at hv hi
  have HL := hide hL
  have HV := hide hv
  obtain ⟨S, hS⟩ : ∃ S, wd + L = S := ⟨_, rfl⟩
  have hs1 : IntKind.i64.wrap ((wd : Int) + (L : Int)) = (S : Int) := by rw [IntKind.wrap_i64]; omega
  have hs2 : IntKind.u64.wrap (S : Int) = (S : Int) := by rw [IntKind.wrap_u64]; omega
  have hs3 : IntKind.u64.wrap (n : Int) = (n : Int) := by rw [IntKind.wrap_u64]; omega
  have HB : Hid (spanB wd n inn = digs S wd ++ digs n wd ++ inn) := by show _ = _; unfold spanB; rw [hL, hS, List.append_assoc]
  have HOk : Hid (spanOk wd n inn = (decide (wd = 4) || (decide (n ≤ 255) && decide (S ≤ 255)))) := by show _ = _; unfold spanOk; rw [hL, hS]
  have HD2 := hide (digs_len2 wd S n)
  rw [hv]
  have hSb : S ≤ 1099511627780 := by omega
  clear hL hS hrd hnil hcap hv
  have HWd : Hid (∀ w1, Calls Tryz.prog 48 #[.int .u64 (S : Int), .int .i64 (wd : Int)] w1 fun e w' => ∃ v, e = .returned v ∧ Hid (Ob w1.heap.size w' v (digs S wd)) ∧ Below w1.heap.size w1 w') := fun w1 => word_any S wd w1 (by omega) (by omega)
  have HWn : Hid (∀ w1, Calls Tryz.prog 48 #[.int .u64 (n : Int), .int .i64 (wd : Int)] w1 fun e w' => ∃ v, e = .returned v ∧ Hid (Ob w1.heap.size w' v (digs n wd)) ∧ Below w1.heap.size w1 w') := fun w1 => word_any n wd w1 (by omega) (by omega)
  have hwd2 : wd ≤ 4 := by omega
  go_enter Tryz.func49, Tryz.ntmps49
  go_wp2_with (first | (go_at_call 47; refine HW.out.mono ?_; rintro e0 w0 ⟨rfl, rfl⟩) | (go_at_call 48; refine (HWd.out _).mono ?_; rintro e1 w1 ⟨v1, rfl, ho1, hb1⟩; refine Shut.out ?_))
  unfold Shut
  clear HW HWd
  go_wp2_with (first | (go_at_call 48; refine (HWn.out _).mono ?_; rintro e2 w2 ⟨v2, rfl, ho2, hb2⟩; refine Shut.out ?_))
  unfold Shut
  have HB1 := hide hb1
  have HO2 : Hid (Ob w.heap.size w2 v1 (digs S wd)) := ho1.out.below hb2
  have HR2 : Hid (Rb w2 v2 (digs n wd)) := ho2.out.rb
  have HB2 : Hid (Below w.heap.size w w2) := hb1.trans (hb2.mono hb1.size)
  clear hb1 hb2 ho1 ho2 HWn
  go_wp2_with (first | (at_builtin; go_loud (refine wpList_app _ rfl (.tmp 21) (.tmp 25) rfl w.heap.size _ (digs S wd) rfl HO2.out _ (digs n wd) rfl HR2.out (by have := HD2.out; omega) (by have := HB2.out.size; omega) ?_; intro v3 w3 r1 r2; refine Shut.out ?_)))
  unfold Shut
  have HO3 : Hid (Ob w.heap.size w3 v3 (digs S wd ++ digs n wd)) := r1
  have HB3 : Hid (Below w.heap.size w w3) := HB2.out.grown r2 HB2.out.size (fun g hg => (HO2.out.lt g hg).1)
  have HR3 : Hid (Rb w3 (.slice a L cap) inn) := by
    have := HR.out.below HB3.out
    rw [HV.out] at this
    exact this
  clear r1 r2 HO2 HR2 HB2
  go_wp2_with (first | (at_builtin; go_loud (refine wpList_app _ rfl (.tmp 27) (.tmp 28) rfl w.heap.size _ (digs S wd ++ digs n wd) rfl HO3.out _ inn rfl HR3.out (by have := HD2.out; have := HL.out; rw [List.length_append]; omega) (by have := HB3.out.size; omega) ?_; intro v4 w4 r1 r2; refine Shut.out ?_)))
  unfold Shut
  have HA4 := hide r1.at
  have HO4 : Hid (Rb w4 v4 (digs S wd ++ digs n wd ++ inn)) := r1.rb
  have HB4 : Hid (Below w.heap.size w w4) := HB3.out.grown r2 HB3.out.size (fun g hg => (HO3.out.lt g hg).1)
  clear r1 r2 HO3 HR3 HB3 HR
  rcases hwd with rfl | rfl
  · by_cases h1 : n ≤ 255
    · have hd1 : decide ((n : Int) ≤ 255) = true := by simp; omega
      by_cases h2 : S ≤ 255
      · have hd2 : decide ((S : Int) ≤ 255) = true := by simp; omega
        go_wp2
        go_ret2
        exact ⟨_, rfl, v4, (by show Value.tuple #[v4, .bool true] = _; rw [HOk.out]; simp [h1, h2]), by rw [HB.out]; exact HO4.out, HB4.out, HA4.out⟩
      · have hd2 : decide ((S : Int) ≤ 255) = false := by simp; omega
        go_wp2
        go_ret2
        exact ⟨_, rfl, v4, (by show Value.tuple #[v4, .bool false] = _; rw [HOk.out]; simp [h1, h2]), by rw [HB.out]; exact HO4.out, HB4.out, HA4.out⟩
    · have hd1 : decide ((n : Int) ≤ 255) = false := by simp; omega
      go_wp2
      go_ret2
      exact ⟨_, rfl, v4, (by show Value.tuple #[v4, .bool false] = _; rw [HOk.out]; simp [h1]), by rw [HB.out]; exact HO4.out, HB4.out, HA4.out⟩
  · go_wp2
    go_ret2
    exact ⟨_, rfl, v4, (by show Value.tuple #[v4, .bool true] = _; rw [HOk.out]; simp), by rw [HB.out]; exact HO4.out, HB4.out, HA4.out⟩
end E
namespace E
open Go.RowKit Go.Deep
theorem bel_drewN (w : World) (n : Nat) : Below w.heap.size w (w.drewN n) := ⟨rfl, rfl, rfl, Nat.le_refl _, fun _ _ => rfl⟩
def numC : List Nat := [64, 86, 80, 82, 83, 81, 84, 85, 96, 97, 112, 113, 114, 115, 116, 128, 129, 130, 131, 132]
def backN (k : Int) (l : List Nat) : Nat := if sgK k then sx l else getN l
def numOk (k : Int) (n wd : Nat) : Bool := decide (wd = 0) || decide (backN k (digs n wd) = n)
theorem num_all {c : Nat} (h : c ∈ numC) : c ∈ allC ∧ ((c : Int) == 65) = false ∧ ((c : Int) == 66) = false ∧ ((c : Int) == 67) = false ∧ ((c : Int) == 68) = false ∧ ((c : Int) == 69) = false ∧ ((c : Int) == 148) = false ∧ ((c : Int) == 152) = false := by
  simp only [numC, List.mem_cons, List.not_mem_nil, or_false] at h
  rcases h with rfl | rfl | rfl | rfl | rfl | rfl | rfl | rfl | rfl | rfl | rfl | rfl | rfl | rfl | rfl | rfl | rfl | rfl | rfl | rfl <;> decide
set_option maxRecDepth 100000 in
set_option maxHeartbeats 4000000 in
theorem fixed_num (c wd : Nat) (v : V) (w : World) (hc : c ∈ numC) (hw : widC c = (wd : Int)) (h8 : wd ≤ 8) (hk : 0 ≤ v.k ∧ v.k ≤ 24) (N : Nat) (hN : v.n = (N : Int)) (hNl : N < 18446744073709551616) :
    Calls Tryz.prog 50 #[.int .i64 (c : Int), .agg #[.int .i64 v.k, .int .u64 v.n, .string v.s, .slice v.a v.l.length v.c, .int .i64 v.e]] w fun e w' => ∃ u, e = .returned u ∧ Two w w' (digs N wd) (numOk v.k N wd) u := by
  obtain ⟨h0, h1, h2, h3, h4, h5, h6, h7⟩ := num_all hc
  obtain ⟨V0, hV0⟩ : ∃ V0, w.alloc (.cells #[.int .i64 v.k, .int .u64 v.n, .string v.s, .slice v.a v.l.length v.c, .int .i64 v.e] 25) = V0 := ⟨_, rfl⟩
  have b0 : V0.heap[w.heap.size]? = some (.cells #[.int .i64 v.k, .int .u64 v.n, .string v.s, .slice v.a v.l.length v.c, .int .i64 v.e] 25 (0, 0)) := hV0 ▸ heap_lst w _
  have HB0 : Hid (Below w.heap.size w V0) := hV0 ▸ bel1 (Below.refl _ _) (Nat.le_refl _) _
  have HC : Hid (∀ W, Below V0.heap.size V0 W → W.cell? ⟨w.heap.size, 0, none⟩ = some (.int .i64 v.k) ∧ W.cell? ⟨w.heap.size, 1, none⟩ = some (.int .u64 (N : Int)) ∧ w.heap.size < W.heap.size) := fun W hb => by
    have hl := (Array.getElem?_eq_some_iff.1 b0).1
    have e := (hb.block _ hl).trans b0
    exact ⟨by simp [World.cell?, e], by simp [World.cell?, e, hN], Nat.lt_of_lt_of_le hl hb.size⟩
  have HWd := hide (width_any c h0 V0)
  rw [hw] at HWd
  have HWo := hide (word_any N wd V0 hNl h8)
  have HV0 := hide hV0
  have HSg : Hid (∀ w1, Calls Tryz.prog 80 #[.int .i64 v.k] w1 fun e w' => e = .returned (.bool (sgK v.k)) ∧ w1 = w') := fun w1 => isSigned_any v.k w1 hk
  have HDl := hide (digs_length N wd)
  clear hV0 b0 hN hw hk
  go_enter Tryz.func50, Tryz.ntmps50
  go_wp2_with (first | (rw [HV0.out]; refine Shut.out ?_))
  unfold Shut
  obtain ⟨c0, c1, cl⟩ := HC.out V0 (Below.refl _ _)
  go_wp2_with (first | (go_at_call 78; refine HWd.out.mono ?_; rintro e0 w0 ⟨rfl, rfl⟩) | (go_at_call 48; refine HWo.out.mono ?_; rintro e1 w1 ⟨v1, rfl, ho1, hb1⟩; refine Shut.out ?_))
  unfold Shut
  obtain ⟨d0, d1, dl⟩ := HC.out w1 hb1
  have HR1 := hide ho1.out.rb
  have HA1 : Hid (At w.heap.size v1) := ho1.out.at.mono HB0.out.size
  have HNm := hide (number_any (digs N wd) v1 w1 HR1.out (by rw [HDl.out]; exact h8))
  clear c0 c1 cl HWd HWo ho1
  have HB1 := hide hb1
  clear hb1
  go_wp2_with (first | (go_at_call 79; refine HNm.out.mono ?_; rintro e2 w2 ⟨rfl, hb2⟩; refine Shut.out ?_))
  unfold Shut
  have HB2 := hide (HB1.out.trans (hb2.mono HB1.out.size))
  have HR2 := hide (HR1.out.below hb2)
  obtain ⟨f0, f1, fl⟩ := HC.out w2 HB2.out
  clear d0 d1 dl hb2 HNm HB1 HR1
  obtain ⟨sg, hsg⟩ : ∃ sg, sgK v.k = sg := ⟨_, rfl⟩
  rw [hsg] at HSg
  have HSge := hide hsg
  clear hsg
  go_wp2_with (first | (go_at_call 80; refine (HSg.out _).mono ?_; rintro e3 w3 ⟨rfl, rfl⟩; refine Shut.out ?_))
  unfold Shut
  have key : ∀ (W : World) (M : Nat), backN v.k (digs N wd) = M → Below V0.heap.size V0 W → Rb W v1 (digs N wd) → ∀ b : Bool, b = (decide (wd = 0) || decide (M = N)) → Two w W (digs N wd) (numOk v.k N wd) (.tuple #[v1, .bool b]) := fun W M hM hb hr b hbe =>
    ⟨v1, by unfold numOk; rw [hM, hbe], hr, HB0.out.trans (hb.mono HB0.out.size), HA1.out⟩
  have HKey := hide key
  clear key
  cases sg with
  | false =>
    have HBk : Hid (backN v.k (digs N wd) = getN (digs N wd)) := by show _ = _; unfold backN; rw [HSge.out]; rfl
    obtain ⟨M, hM⟩ : ∃ M, getN (digs N wd) = M := ⟨_, rfl⟩
    rw [hM] at HBk ⊢
    clear hM
    have HBW := HB2
    have HRW := HR2
    by_cases hw0 : wd = 0
    · have hd : decide ((wd : Int) = 0) = true := by simp; omega
      have hbq : (((wd : Nat) : Int) == 0) = true := by simp; omega
      go_wp2
      go_quiet (fail)
      go_wp2
      go_ret2
      exact ⟨_, rfl, HKey.out _ M HBk.out (HBW.out.trans ((bel_drewN _ _).mono HBW.out.size)) (HRW.out.below (bel_drewN _ _)) _ (by simp [hw0])⟩
    · have hd : decide ((wd : Int) = 0) = false := by simp; omega
      have hbq : (((wd : Nat) : Int) == 0) = false := by simp; omega
      by_cases hmn : M = N
      · have hmq : ((M : Int) == (N : Int)) = true := by simp; omega
        go_wp2
        go_quiet (fail)
        go_wp2
        go_ret2
        exact ⟨_, rfl, HKey.out _ M HBk.out (HBW.out.trans ((bel_drewN _ _).mono HBW.out.size)) (HRW.out.below (bel_drewN _ _)) _ (by simp [hw0, hmn])⟩
      · have hmq : ((M : Int) == (N : Int)) = false := by simp; omega
        go_wp2
        go_quiet (fail)
        go_wp2
        go_ret2
        exact ⟨_, rfl, HKey.out _ M HBk.out (HBW.out.trans ((bel_drewN _ _).mono HBW.out.size)) (HRW.out.below (bel_drewN _ _)) _ (by simp [hw0, hmn])⟩
  | true =>
    have HSi := hide (signed_any (digs N wd) v1 w2 HR2.out (by rw [HDl.out]; exact h8))
    have HBk : Hid (backN v.k (digs N wd) = sx (digs N wd)) := by show _ = _; unfold backN; rw [HSge.out]; rfl
    obtain ⟨M, hM⟩ : ∃ M, sx (digs N wd) = M := ⟨_, rfl⟩
    rw [hM] at HBk HSi
    clear hM
    go_wp2_with (first | (go_at_call 81; refine HSi.out.mono ?_; rintro e4 w4 ⟨rfl, hb4⟩; refine Shut.out ?_))
    unfold Shut
    have HBW := hide (HB2.out.trans (hb4.mono HB2.out.size))
    have HRW := hide (HR2.out.below hb4)
    clear f0 f1 fl HB2 HR2 HSi hb4
    obtain ⟨f0, f1, fl⟩ := HC.out w4 HBW.out
    by_cases hw0 : wd = 0
    · have hd : decide ((wd : Int) = 0) = true := by simp; omega
      have hbq : (((wd : Nat) : Int) == 0) = true := by simp; omega
      go_wp2
      go_quiet (fail)
      go_wp2
      go_ret2
      exact ⟨_, rfl, HKey.out _ M HBk.out (HBW.out.trans ((bel_drewN _ _).mono HBW.out.size)) (HRW.out.below (bel_drewN _ _)) _ (by simp [hw0])⟩
    · have hd : decide ((wd : Int) = 0) = false := by simp; omega
      have hbq : (((wd : Nat) : Int) == 0) = false := by simp; omega
      by_cases hmn : M = N
      · have hmq : ((M : Int) == (N : Int)) = true := by simp; omega
        go_wp2
        go_quiet (fail)
        go_wp2
        go_ret2
        exact ⟨_, rfl, HKey.out _ M HBk.out (HBW.out.trans ((bel_drewN _ _).mono HBW.out.size)) (HRW.out.below (bel_drewN _ _)) _ (by simp [hw0, hmn])⟩
      · have hmq : ((M : Int) == (N : Int)) = false := by simp; omega
        go_wp2
        go_quiet (fail)
        go_wp2
        go_ret2
        exact ⟨_, rfl, HKey.out _ M HBk.out (HBW.out.trans ((bel_drewN _ _).mono HBW.out.size)) (HRW.out.below (bel_drewN _ _)) _ (by simp [hw0, hmn])⟩
end E
end Go.Proofs.YthhlpjhkeendcaaGreatDoor
