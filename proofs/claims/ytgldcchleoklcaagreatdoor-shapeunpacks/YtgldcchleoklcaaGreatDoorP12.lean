/- VApp, VMark, VOwn, VGrow, VOwned, VTakes, VGots -/
import Derived.Test.YtgldcchleoklcaaGreatDoorP11
import Derived.Test.YtgldcchleoklcaaGreatDoorP09
import Derived.WalkKit
import Derived.ArgAppend
import Derived.OwnWalk
namespace Go.Proofs.YtgldcchleoklcaaGreatDoor
open Go.RowKit
theorem ownsRow_base5 {w : World} {base base' : Nat} {e : TypeId} {size : Nat} {v : Value} {n : Nat} {xs : List Value} (h : w.ownsRow base e size v n xs) (hb : base' ≤ base) : w.ownsRow base' e size v n xs := by
  refine ⟨h.1, ?_⟩
  rcases h.2 with hn | ⟨g, cap, cur, hv, hbg, rest⟩
  · exact .inl hn
  · exact .inr ⟨g, cap, cur, hv, Nat.le_trans hb hbg, rest⟩
theorem wpList_append_either {P : Program} (w : World) {ops : Array Oper} {rest : List Oper} {o : Oper} {a : Act} {Q : Exit → Act → World → Prop} (hgd : o.guard = none) (s x : Operand) (t : TypeId)
    (ho : o.op = .call { callee := .builtin .append, args := #[s, x], argTypes := #[t, t] })
    (base : Nat) (e : TypeId) (i : TypeInfo) (z : Value) (size bytes : Nat) (ht : P.underlying t = some (.slice e)) (hi : P.info? e = some i) (hz : i.zero = some z)
    (hsize : i.size = size) (hby : i.bytes = bytes) (hzs : z.cells.size = size) (hsz : 0 < size)
    (v : Value) (n : Nat) (xs : List Value) (hs : a.eval s = v) (hown : w.ownsRow base e size v n xs)
    (ad : Addr) (c : Nat) (news : List Value) (hx : a.eval x = .slice (some ad) 1 c) (hl : news.length = 1 * size) (hnews : ∀ j u, news[j]? = some u → w.cell? (ad.add j) = some u) (h1 : ∀ u ∈ news, u.oneCell' = true)
    (h63 : n + 1 ≤ maxLen) (hbytes : (n + 1) * bytes ≤ 140737488355328) (hbase : base ≤ w.heap.size)
    (h : ∀ v' w', w'.ownsRow base e size v' (n + 1) (xs ++ news) → ((w.grownBy w' none ∧ ∃ g, v'.ownBlock = some g ∧ w.heap.size ≤ g) ∨ (w.grownBy w' v.ownBlock ∧ ∃ g cap, v = .slice (some ⟨g, 0, none⟩) n cap ∧ n + 1 ≤ cap ∧ v'.ownBlock = some g)) → wpList P ops Q rest (a.put o.dst v') w') :
    wpList P ops Q (o :: rest) a w := by
  have fin : ∀ v' w', w'.ownsRow w.heap.size e size v' (n + 1) (xs ++ news) → w.grownBy w' none → wpList P ops Q rest (a.put o.dst v') w' := fun v' w' r1 r2 => by
    refine h v' w' (ownsRow_base5 r1 hbase) (.inl ⟨r2, ?_⟩)
    rcases r1.2 with ⟨_, h0⟩ | ⟨g, cap, cur, rfl, hbg, _⟩
    · omega
    · exact ⟨g, rfl, hbg⟩
  rcases hown.2 with ⟨rfl, rfl⟩ | ⟨g, cap, cur, rfl, hb, hg, hnc, hm, hcs, htk⟩
  · have hxs : xs = [] := List.eq_nil_of_length_eq_zero (by simpa using hown.1)
    subst hxs
    exact wpList_append_grows w hgd s x t ho e i z size bytes ht hi hz hsize hby hzs hsz none 0 0 [] hs (fun _ => ⟨rfl, rfl⟩) (by simp) (fun b hb => by cases hb) ad 1 c news hx hl hnews h1 (by omega) h63 hbytes fin
  · by_cases hroom : n + 1 ≤ cap
    · exact wpList_append_fits w hgd s x t ho base e i size ht hi hsize g n cap xs hs hown ad 1 c news hx hl hnews h1 hroom fun w' r1 r2 => h _ w' r1 (.inr ⟨r2, g, cap, rfl, hroom, rfl⟩)
    · exact wpList_append_grows w hgd s x t ho e i z size bytes ht hi hz hsize hby hzs hsz (some ⟨g, 0, none⟩) n cap xs hs (fun hh => by cases hh) hown.1 (fun b hb j u hj => by
        simp only [Option.some.injEq] at hb
        subst hb
        exact hown.cells rfl j u hj) ad 1 c news hx hl hnews h1 (by omega) h63 hbytes fin
set_option linter.unusedVariables false
set_option linter.unusedSimpArgs false
def markV (i : Nat) : V := .of (-1000 - i) i ⟨#[]⟩ none 0 0 []
set_option maxRecDepth 100000 in
set_option maxHeartbeats 1000000 in
theorem mark_any (n : Nat) (hn : n ≤ 2199023255552) (w : World) :
    Calls Tryz.prog 40 #[.int .i64 n] w fun e w' => e = .returned (.agg #[.int .i64 (-1000 - (n : Int)), .int .u64 n, .string ⟨#[]⟩, .slice none 0 0, .int .i64 0]) ∧ Below w.heap.size w w' := by
  have h1 : (-9223372036854775808 : Int) ≤ -1000 - (n : Int) := by omega
  have h2 : -1000 - (n : Int) ≤ 9223372036854775807 := by omega
  go_enter Tryz.func40, Tryz.ntmps40
  go_wp2
  have hh := World.alloc_heap_new w (Obj.cells #[.int .i64 (-1000 - (n : Int)), .int .u64 n, .string ⟨#[]⟩, .slice none 0 0, .int .i64 0] 42)
  have hbb : Below w.heap.size w (w.alloc (Obj.cells #[.int .i64 (-1000 - (n : Int)), .int .u64 n, .string ⟨#[]⟩, .slice none 0 0, .int .i64 0] 42)) := bel1 (Below.refl _ _) (Nat.le_refl _) _
  generalize w.alloc (Obj.cells #[.int .i64 (-1000 - (n : Int)), .int .u64 n, .string ⟨#[]⟩, .slice none 0 0, .int .i64 0] 42) = W at hh hbb ⊢
  have j0 : W.cell? ⟨w.heap.size, 0, none⟩ = some (.int .i64 (-1000 - (n : Int))) := by simp [World.cell?, hh]
  have j1 : W.cell? ⟨w.heap.size, 1, none⟩ = some (.int .u64 n) := by simp [World.cell?, hh]
  have j2 : W.cell? ⟨w.heap.size, 2, none⟩ = some (.string ⟨#[]⟩) := by simp [World.cell?, hh]
  have j3 : W.cell? ⟨w.heap.size, 3, none⟩ = some (.slice none 0 0) := by simp [World.cell?, hh]
  have j4 : W.cell? ⟨w.heap.size, 4, none⟩ = some (.int .i64 0) := by simp [World.cell?, hh]
  exact bodyPost_ret (v := .agg #[.int .i64 (-1000 - (n : Int)), .int .u64 n, .string ⟨#[]⟩, .slice none 0 0, .int .i64 0]) (by simp [results, Tryz.results40, go_sem, j0, j1, j2, j3, j4]) rfl ⟨rfl, hbb⟩
def Full (w : World) (a : Option Addr) (m i : Nat) : Prop := 0 < m → ∃ b o, a = some ⟨b, o, none⟩ ∧ Row w b o (List.replicate m (markV i))
set_option maxRecDepth 100000 in
set_option maxHeartbeats 1000000 in
theorem marked_any (a : Option Addr) (m c i : Nat) (hm : m ≤ 2199023255552) (hmc : m ≤ c) (hi : i ≤ 2199023255552) (w : World) (hf : Full w a m i) (hlt : ∀ x, a = some x → x.block < w.heap.size) :
    Calls Tryz.prog 41 #[.slice a m c, .int .i64 i] w fun e w' => e = .returned (.bool true) ∧ Below w.heap.size w w' := by
  have HF := hide hf
  have HLT := hide hlt
  clear hf hlt
  go_enter Tryz.func41, Tryz.ntmps41
  have h1 : (-9223372036854775808 : Int) ≤ -1000 - (i : Int) := by omega
  have h2 : -1000 - (i : Int) ≤ 9223372036854775807 := by omega
  go_wp2
  go_loopw [5] (fun u wr => ∃ (j : Nat), u = .int .i64 j ∧ j ≤ m ∧ Below w.heap.size w wr) (fun u _ => m - (intOf u).toNat)
  case atStart => exact ⟨0, rfl, Nat.zero_le _, Below.refl _ _⟩
  case round =>
    obtain ⟨j, rfl, hj, hb⟩ := hrel
    have hsz := hb.size
    by_cases hjl : j < m
    · obtain ⟨b, o, rfl, hr⟩ := HF.out (by omega)
      have hbl : b < w.heap.size := HLT.out _ rfl
      obtain ⟨x0, x1, x2, x3, x4⟩ := (hr.below hb hbl) j (by simpa using hjl)
      rw [List.getElem_replicate] at x0 x1
      rw [show (markV i).k = -1000 - (i : Int) from rfl] at x0
      rw [show (markV i).n = (i : Int) from rfl] at x1
      clear x2 x3 x4 hr
      go_wp2
      go_roundw
      case rel => exact ⟨j + 1, by go_num, hjl, hb⟩
      case measure => simp [intOf]; omega
    · obtain rfl : j = m := by omega
      go_wp2
      go_ret
      exact ⟨rfl, hb⟩
def blocksOf (S : List Value) : List Nat := S.filterMap Value.ownBlock
def OwnsX (w : World) (S : List Value) : Prop := (∀ s ∈ S, s = .slice none 0 0 ∨ ∃ g n, s = .slice (some ⟨g, 0, none⟩) n n ∧ Blk w g 42 (n * 5)) ∧ (blocksOf S).Nodup
theorem Owns.toX {w : World} {lo hi : Nat} {S : List Value} (h : Owns w lo hi S) : OwnsX w S :=
  ⟨fun s hs => (h.1 s hs).elim .inl (fun ⟨g, n, e, _, _, q⟩ => .inr ⟨g, n, e, q⟩), h.2⟩
theorem mem_blocks {S : List Value} {s : Value} {g : Nat} (h : s ∈ S) (e : s.ownBlock = some g) : g ∈ blocksOf S := List.mem_filterMap.2 ⟨s, h, e⟩
theorem OwnsX.keep {w w' : World} {S : List Value} (h : OwnsX w S) (hk : ∀ g, g ∈ blocksOf S → w'.heap[g]? = w.heap[g]?) : OwnsX w' S := by
  refine ⟨fun s hs => ?_, h.2⟩
  rcases h.1 s hs with e | ⟨g, n, e, cs, q3, q4⟩
  · exact .inl e
  · exact .inr ⟨g, n, e, cs, (hk g (mem_blocks hs (by rw [e]; rfl))).trans q3, q4⟩
theorem OwnsX.lt {w : World} {S : List Value} (h : OwnsX w S) {g : Nat} (hg : g ∈ blocksOf S) : g < w.heap.size := by
  obtain ⟨s, hs, e⟩ := List.mem_filterMap.1 hg
  rcases h.1 s hs with rfl | ⟨g', n, rfl, q⟩
  · cases e
  · cases e
    exact q.lt
theorem OwnsX.other {w : World} {S : List Value} (h : OwnsX w S) {p : Nat} {cs : Array Value} {t : TypeId} (hp : w.heap[p]? = some (.cells cs t (0, 0))) (ht : t ≠ 42) : p ∉ blocksOf S := by
  intro hg
  obtain ⟨s, hs, e⟩ := List.mem_filterMap.1 hg
  rcases h.1 s hs with rfl | ⟨g', n, rfl, cs', q1, q2⟩
  · cases e
  · cases e
    rw [hp] at q1
    cases q1
    exact ht rfl
theorem OwnsX.apart {w : World} {S : List Value} (h : OwnsX w S) {i j g : Nat} (hi' : i < S.length) (hj : j < S.length) (hne : i ≠ j) (e : S[i].ownBlock = some g) : S[j].ownBlock ≠ some g := by
  have hp := h.2
  unfold blocksOf List.Nodup at hp
  rw [List.pairwise_filterMap] at hp
  rw [List.pairwise_iff_getElem] at hp
  intro e'
  rcases Nat.lt_or_gt_of_ne hne with hlt | hlt
  · exact hp i j hi' hj hlt g e g e' rfl
  · exact hp j i hj hi' hlt g e' g e rfl
theorem OwnsX.get {w : World} {S : List Value} (h : OwnsX w S) {i : Nat} (hi' : i < S.length) : S[i] = .slice none 0 0 ∨ ∃ g n, S[i] = .slice (some ⟨g, 0, none⟩) n n ∧ Blk w g 42 (n * 5) := h.1 _ (List.getElem_mem hi')
structure TurnS (S : List Value) (w w' : World) : Prop where
  os : w'.os = w.os
  tape : w'.tape = w.tape
  output : w'.output = w.output
  size : w.heap.size ≤ w'.heap.size
  block : ∀ k, k < w.heap.size → k ∉ blocksOf S → w'.heap[k]? = w.heap[k]?
theorem TurnS.refl (S : List Value) (w : World) : TurnS S w w := ⟨rfl, rfl, rfl, Nat.le_refl _, fun _ _ _ => rfl⟩
theorem TurnS.below {S : List Value} {a b c : World} (h : TurnS S a b) (k : Below b.heap.size b c) : TurnS S a c :=
  ⟨k.os.trans h.os, k.tape.trans h.tape, k.output.trans h.output, Nat.le_trans h.size k.size, fun i hi hn => (k.block i (Nat.lt_of_lt_of_le hi h.size)).trans (h.block i hi hn)⟩
theorem TurnS.cellAt {S : List Value} {a b : World} (h : TurnS S a b) {g : Nat} (hg : g ∈ blocksOf S) (o : Nat) (v : Value) : TurnS S a (b.setCell ⟨g, o, none⟩ v) :=
  ⟨h.os, h.tape, h.output, by have := h.size; simp [World.setCell]; omega, fun i hi hn => by rw [Below.heap_setCell _ _ _ _ (by show i ≠ g; intro e; subst e; exact hn hg)]; exact h.block i hi hn⟩
theorem TurnS.wrote {S : List Value} {a b : World} (h : TurnS S a b) {g : Nat} (hg : g ∈ blocksOf S) (o : Nat) (y : V) : TurnS S a (put5 b g o y) := by
  rw [← put5_eq]
  exact ((((h.cellAt hg _ _).cellAt hg _ _).cellAt hg _ _).cellAt hg _ _).cellAt hg _ _
def FullV (w : World) (v : Value) (i : Nat) : Prop := ∀ a m c, v = .slice a m c → Full w a m i
theorem FullV.same {w w' : World} {v : Value} {i : Nat} (h : FullV w v i) (hs : ∀ g, v.ownBlock = some g → Same w w' g) : FullV w' v i := by
  intro a m c e hm
  subst e
  obtain ⟨b, o, rfl, hr⟩ := h _ _ _ rfl hm
  exact ⟨b, o, rfl, hr.same (hs b rfl)⟩
theorem FullV.nought (w : World) (i : Nat) : FullV w (.slice none 0 0) i := by
  intro a m c e hm
  cases e
  omega
structure Marks (S : List Value) (i : Nat) (w wr : World) : Prop where
  turns : TurnS S w wr
  owns : OwnsX wr S
  full : ∀ j (h : j < S.length), j < i → FullV wr S[j] j
theorem Marks.start {S : List Value} {w : World} (h : OwnsX w S) : Marks S 0 w w := ⟨TurnS.refl _ _, h, fun _ _ h => by omega⟩
theorem Marks.below {S : List Value} {i : Nat} {w wr w1 : World} (h : Marks S i w wr) (hb : Below wr.heap.size wr w1) : Marks S i w w1 := by
  refine ⟨h.turns.below hb, h.owns.keep (fun g hg => hb.block g (h.owns.lt hg)), fun j hj hji => (h.full j hj hji).same (fun g hg o => ?_)⟩
  exact hb.cell (p := ⟨g, o, none⟩) (h.owns.lt (mem_blocks (List.getElem_mem hj) hg))
theorem Marks.put {S : List Value} {i k g n : Nat} {w wr : World} (h : Marks S i w wr) (hi' : i < S.length) (e : S[i] = .slice (some ⟨g, 0, none⟩) n n) (hk : k < n) (hr : Row wr g 0 (List.replicate k (markV i))) : Marks S i w (put5 wr g (k * 5) (markV i)) ∧ Row (put5 wr g (k * 5) (markV i)) g 0 (List.replicate (k + 1) (markV i)) := by
  have hgm : g ∈ blocksOf S := mem_blocks (List.getElem_mem hi') (by rw [e]; rfl)
  rcases h.owns.get hi' with e' | ⟨g', n', e', q3⟩
  · rw [e] at e'; cases e'
  · rw [e] at e'
    cases e'
    refine ⟨⟨h.turns.wrote hgm _ _, ⟨fun s hs => ?_, h.owns.2⟩, fun j hj hji => (h.full j hj hji).same (fun g' hg' => put5_same _ _ _ _ _ (fun eq => ?_))⟩, ?_⟩
    · rcases h.owns.1 s hs with e | ⟨g', n', e, p3⟩
      · exact .inl e
      · refine .inr ⟨g', n', e, ?_⟩
        by_cases hg : g' = g
        · subst hg
          exact put5_blk p3 _ _
        · obtain ⟨cs, c1, c2⟩ := p3
          exact ⟨cs, (put5_heap _ _ _ _ _ hg).trans c1, c2⟩
    · subst eq
      exact h.owns.apart hj hi' (by omega) hg' (by rw [e]; rfl)
    · have := put5_row (y := markV i) q3 hr (by rw [List.length_replicate]; omega)
      rw [List.length_replicate] at this
      rw [List.replicate_succ']
      exact this
theorem Marks.next {S : List Value} {i g n : Nat} {w wr : World} (h : Marks S i w wr) (hi' : i < S.length) (e : S[i] = .slice (some ⟨g, 0, none⟩) n n) (hr : Row wr g 0 (List.replicate n (markV i))) : Marks S (i + 1) w wr := by
  refine ⟨h.turns, h.owns, fun j hj hji => ?_⟩
  by_cases hj' : j = i
  · subst hj'
    intro a m c e' hm
    rw [e] at e'
    cases e'
    exact ⟨g, 0, rfl, hr⟩
  · exact h.full j hj (by omega)
theorem Marks.skip {S : List Value} {i : Nat} {w wr : World} (h : Marks S i w wr) (hi' : i < S.length) (e : S[i] = .slice none 0 0) : Marks S (i + 1) w wr := by
  refine ⟨h.turns, h.owns, fun j hj hji => ?_⟩
  by_cases hj' : j = i
  · subst hj'
    rw [e]
    exact FullV.nought _ _
  · exact h.full j hj (by omega)
theorem own_of_row {w : World} {base g : Nat} {l : List V} (hb : Blk w g 42 (l.length * 5)) (hr : Row w g 0 l) (hn : l.length ≤ maxLen) (hlo : base ≤ g) :
    w.ownsRow base 42 5 (.slice (some ⟨g, 0, none⟩) l.length l.length) l.length (flat l) := by
  obtain ⟨cs, h1, h2⟩ := hb
  refine ⟨flat_length l, .inr ⟨g, l.length, cs, rfl, hlo, h1, Nat.le_refl _, hn, h2, ?_⟩⟩
  refine List.ext_getElem? (fun k => ?_)
  by_cases hk : k < l.length * 5
  · rw [List.getElem?_take_of_lt hk, Array.getElem?_toList]
    have hi : k / 5 < l.length := by omega
    have hq : k % 5 < 5 := Nat.mod_lt _ (by decide)
    have e := flat_get l (k / 5) (k % 5) hi hq
    rw [show k / 5 * 5 + k % 5 = k by omega] at e
    rw [e]
    obtain ⟨r0, r1, r2, r3, r4⟩ := hr (k / 5) hi
    simp only [World.cell?, h1] at r0 r1 r2 r3 r4
    have hc : k % 5 = 0 ∨ k % 5 = 1 ∨ k % 5 = 2 ∨ k % 5 = 3 ∨ k % 5 = 4 := by omega
    rcases hc with c | c | c | c | c
    · rw [show 0 + k / 5 * 5 = k by omega] at r0
      rw [c]
      simpa [words] using r0
    · rw [show 0 + k / 5 * 5 + 1 = k by omega] at r1
      rw [c]
      simpa [words] using r1
    · rw [show 0 + k / 5 * 5 + 2 = k by omega] at r2
      rw [c]
      simpa [words] using r2
    · rw [show 0 + k / 5 * 5 + 3 = k by omega] at r3
      rw [c]
      simpa [words] using r3
    · rw [show 0 + k / 5 * 5 + 4 = k by omega] at r4
      rw [c]
      simpa [words] using r4
  · rw [List.getElem?_eq_none (by rw [List.length_take]; omega), List.getElem?_eq_none (by rw [flat_length]; omega)]
theorem row_take {w : World} {g : Nat} {l : List V} (h : Row w g 0 l) (m : Nat) : Row w g 0 (l.take m) := by
  intro i hi
  have h1 : i < l.length := by rw [List.length_take] at hi; omega
  have := h i h1
  rw [List.getElem_take]
  exact this
structure Grows (B i m : Nat) (vl vg : Value) (G : List Value) (wr : World) : Prop where
  size : B ≤ wr.heap.size
  row : wr.ownsRow 0 42 5 vl m (flat (List.replicate m (markV i)))
  low : (∃ g, vl.ownBlock = some g ∧ B ≤ g) ∨ (∀ a n c, vl = .slice a n c → n = c)
  grow : wr.ownsRow B 31 1 vg G.length G
  apart : ∀ g, vl.ownBlock = some g → vg.ownBlock ≠ some g
  items : ∀ q (h : q < G.length), ∃ g n c, G[q] = .slice (some ⟨g, 0, none⟩) n c ∧ (n ≤ c ∧ n ≤ 2000000000000) ∧ B ≤ g ∧ g < wr.heap.size ∧ Row wr g 0 (List.replicate n (markV (q / 12))) ∧ vg.ownBlock ≠ some g ∧ (vl.ownBlock = some g → q / 12 = i ∧ n ≤ m)
theorem Grows.push {B i m : Nat} {vl vg v' : Value} {G : List Value} {wr w' : World} (h : Grows B i m vl vg G wr) (h1 : w'.ownsRow 0 42 5 v' (m + 1) (flat (List.replicate (m + 1) (markV i))))
    (h2 : (wr.grownBy w' none ∧ ∃ g, v'.ownBlock = some g ∧ wr.heap.size ≤ g) ∨ (wr.grownBy w' vl.ownBlock ∧ ∃ g cap, vl = .slice (some ⟨g, 0, none⟩) m cap ∧ m + 1 ≤ cap ∧ v'.ownBlock = some g)) :
    Grows B i (m + 1) v' vg G w' ∧ (∃ g, v'.ownBlock = some g ∧ B ≤ g) ∧ ∀ w0, Below B w0 wr → Below B w0 w' := by
  rcases h2 with ⟨hg, g, e, hge⟩ | ⟨hg, g, cap, rfl, hc, e⟩
  · have hB : B ≤ g := Nat.le_trans h.size hge
    refine ⟨⟨Nat.le_trans h.size hg.size, h1, .inl ⟨g, e, hB⟩, ownsRow_keep h.grow (fun k hk => hg.block k (ownsRow_lt h.grow hk).2 (by simp)), fun k hk hv => ?_, fun q hq => ?_⟩, ⟨g, e, hB⟩, fun w0 hw => hw.grown hg h.size (fun k hk => by cases hk)⟩
    · have := (ownsRow_lt h.grow hv).2
      rw [e] at hk
      cases hk
      omega
    · obtain ⟨k, n, c, e1, e2, e3, e4, e5, e6, e7⟩ := h.items q hq
      refine ⟨k, n, c, e1, e2, e3, Nat.lt_of_lt_of_le e4 hg.size, e5.same (fun o => World.cell?_of_block (hg.block k e4 (by simp))), e6, fun hv => ?_⟩
      rw [e] at hv
      cases hv
      omega
  · have hB : B ≤ g := by
      rcases h.low with ⟨g', e', hb⟩ | h'
      · cases e'
        exact hb
      · have := h' _ _ _ rfl
        omega
    have hrow : Row w' g 0 (List.replicate (m + 1) (markV i)) := by
      rcases h1.2 with ⟨_, h0⟩ | ⟨g', cap', cur, rfl, _⟩
      · omega
      · cases e
        exact flat_row h1
    refine ⟨⟨Nat.le_trans h.size hg.size, h1, .inl ⟨g, e, hB⟩, ownsRow_keep h.grow (fun k hk => hg.block k (ownsRow_lt h.grow hk).2 (fun e' => ?_)), fun k hk hv => ?_, fun q hq => ?_⟩, ⟨g, e, hB⟩, fun w0 hw => hw.grown hg h.size (fun k hk => by cases hk; exact hB)⟩
    · have := h.apart k e'.symm
      exact this hk
    · rw [e] at hk
      cases hk
      exact h.apart g rfl hv
    · obtain ⟨k, n, c, e1, e2, e3, e4, e5, e6, e7⟩ := h.items q hq
      by_cases hkg : k = g
      · subst hkg
        obtain ⟨f1, f2⟩ := e7 rfl
        refine ⟨k, n, c, e1, e2, e3, Nat.lt_of_lt_of_le e4 hg.size, ?_, e6, fun _ => ⟨f1, by omega⟩⟩
        have := row_take hrow n
        rw [List.take_replicate, Nat.min_eq_left (by omega)] at this
        rw [f1]
        exact this
      · refine ⟨k, n, c, e1, e2, e3, Nat.lt_of_lt_of_le e4 hg.size, e5.same (fun o => World.cell?_of_block (hg.block k e4 (fun e' => ?_))), e6, fun hv => ?_⟩
        · cases e'
          exact hkg rfl
        · rw [e] at hv
          cases hv
          exact absurd rfl hkg
theorem Grows.take {B i m : Nat} {vl vg v' : Value} {G : List Value} {wr w' : World} (h : Grows B i m vl vg G wr) (hlo : ∃ g, vl.ownBlock = some g ∧ B ≤ g) (hi : G.length / 12 = i) (hm : m ≤ 2000000000000) (h1 : w'.ownsRow B 31 1 v' (G.length + 1) (G ++ [vl]))
    (h2 : (wr.grownBy w' none ∧ ∃ g, v'.ownBlock = some g ∧ wr.heap.size ≤ g) ∨ (wr.grownBy w' vg.ownBlock ∧ ∃ g cap, vg = .slice (some ⟨g, 0, none⟩) G.length cap ∧ G.length + 1 ≤ cap ∧ v'.ownBlock = some g)) :
    Grows B i m vl v' (G ++ [vl]) w' ∧ ∀ w0, Below B w0 wr → Below B w0 w' := by
  have hne : ∀ g, (∃ vl', vl' = vl ∧ vl'.ownBlock = some g) ∨ (∃ q, ∃ h : q < G.length, G[q].ownBlock = some g) → g < wr.heap.size ∧ v'.ownBlock ≠ some g ∧ w'.heap[g]? = wr.heap[g]? := by
    intro g hg
    have hlt : g < wr.heap.size ∧ vg.ownBlock ≠ some g := by
      rcases hg with ⟨_, rfl, hg⟩ | ⟨q, hq, hg⟩
      · exact ⟨(ownsRow_lt h.row hg).2, h.apart g hg⟩
      · obtain ⟨k, n, c, e1, e2, e3, e4, e5, e6, e7⟩ := h.items q hq
        rw [e1] at hg
        cases hg
        exact ⟨e4, e6⟩
    rcases h2 with ⟨hg2, k, e, hk⟩ | ⟨hg2, k, cap, rfl, hc, e⟩
    · exact ⟨hlt.1, fun e' => by rw [e] at e'; cases e'; omega, hg2.block g hlt.1 (by simp)⟩
    · exact ⟨hlt.1, fun e' => by rw [e] at e'; cases e'; exact hlt.2 rfl, hg2.block g hlt.1 (fun e' => hlt.2 e'.symm)⟩
  have hsz : wr.heap.size ≤ w'.heap.size := by
    rcases h2 with ⟨hg2, _⟩ | ⟨hg2, _⟩ <;> exact hg2.size
  refine ⟨?_, fun w0 hw => ?_⟩
  rotate_left
  · rcases h2 with ⟨hg2, _⟩ | ⟨hg2, _⟩
    · exact hw.grown hg2 h.size (fun k hk => by cases hk)
    · exact hw.grown hg2 h.size (fun k hk => (ownsRow_lt h.grow hk).1)
  refine ⟨Nat.le_trans h.size hsz, ownsRow_keep h.row (fun g hg => (hne g (.inl ⟨_, rfl, hg⟩)).2.2), .inl hlo, by rw [List.length_append]; exact h1, fun g hg => (hne g (.inl ⟨_, rfl, hg⟩)).2.1, fun q hq => ?_⟩
  by_cases hq' : q < G.length
  · obtain ⟨k, n, c, e1, e2, e3, e4, e5, e6, e7⟩ := h.items q hq'
    have := hne k (.inr ⟨q, hq', by rw [e1]; rfl⟩)
    refine ⟨k, n, c, by rw [List.getElem_append_left hq']; exact e1, e2, e3, Nat.lt_of_lt_of_le e4 hsz, e5.same (fun o => World.cell?_of_block this.2.2), this.2.1, e7⟩
  · have hql : q = G.length := by simp at hq; omega
    subst hql
    obtain ⟨g, e, hb⟩ := hlo
    have hh := hne g (.inl ⟨_, rfl, e⟩)
    have hr := h.row
    rcases hr.2 with ⟨rfl, _⟩ | ⟨g', cap, cur, rfl, _, _, hcap, _⟩
    · cases e
    · cases e
      refine ⟨g', m, cap, by simp, ⟨hcap, hm⟩, hb, Nat.lt_of_lt_of_le hh.1 hsz, ?_, hh.2.1, fun _ => ⟨hi, Nat.le_refl _⟩⟩
      rw [hi]
      exact (flat_row hr).same (fun o => World.cell?_of_block hh.2.2)
theorem Grows.below {B i m : Nat} {vl vg : Value} {G : List Value} {wr w' : World} (h : Grows B i m vl vg G wr) (hb : Below wr.heap.size wr w') : Grows B i m vl vg G w' := by
  refine ⟨Nat.le_trans h.size hb.size, ownsRow_keep h.row (fun g hg => hb.block g (ownsRow_lt h.row hg).2), h.low, ownsRow_keep h.grow (fun g hg => hb.block g (ownsRow_lt h.grow hg).2), h.apart, fun q hq => ?_⟩
  obtain ⟨k, n, c, e1, e2, e3, e4, e5, e6, e7⟩ := h.items q hq
  exact ⟨k, n, c, e1, e2, e3, Nat.lt_of_lt_of_le e4 hb.size, e5.same (fun o => World.cell?_of_block (hb.block k e4)), e6, e7⟩
theorem Grows.start {w : World} : Grows w.heap.size 0 0 (.slice none 0 0) (.slice none 0 0) [] w := by
  refine ⟨Nat.le_refl _, ⟨rfl, .inl ⟨rfl, rfl⟩⟩, .inr (fun a n c e => by cases e; rfl), ⟨rfl, .inl ⟨rfl, rfl⟩⟩, fun g hg => (by cases hg), fun q hq => (by simp at hq)⟩
theorem flat_more (m : Nat) (x : V) : flat (List.replicate m x) ++ words x = flat (List.replicate (m + 1) x) := by
  rw [List.replicate_succ', flat_append]
  simp [flat]
theorem Grows.at {B i m : Nat} {vl vg : Value} {G : List Value} {wr : World} (h : Grows B i m vl vg G wr) {q : Nat} (hq : q < G.length) : ∃ g n c, G[q] = .slice (some ⟨g, 0, none⟩) n c ∧ n ≤ c ∧ n ≤ 2000000000000 ∧ Full wr (some ⟨g, 0, none⟩) n (q / 12) ∧ g < wr.heap.size := by
  obtain ⟨k, n, c, e1, e2, e3, e4, e5, e6, e7⟩ := h.items q hq
  exact ⟨k, n, c, e1, e2.1, e2.2, fun _ => ⟨k, 0, rfl, e5⟩, e4⟩
theorem Grows.rows {B i m : Nat} {vl vg : Value} {G : List Value} {wr : World} (h : Grows B i m vl vg G wr) : ∃ A C, vg = .slice A G.length C ∧ G.length ≤ C ∧ ∀ q (hq : q < G.length), ∃ g, A = some ⟨g, 0, none⟩ ∧ g < wr.heap.size ∧ wr.cell? ⟨g, q, none⟩ = some G[q] := by
  have hh := h.grow
  rcases hh.2 with ⟨e, h0⟩ | ⟨g, cap, cur, e, h1, h2, h3, _⟩
  · exact ⟨none, 0, by rw [h0, e], by omega, fun q hq => by omega⟩
  · refine ⟨_, cap, e, h3, fun q hq => ⟨g, rfl, (Array.getElem?_eq_some_iff.1 h2).1, ?_⟩⟩
    have := hh.cells (g := g) (by rw [e]; rfl) q G[q] (List.getElem?_eq_getElem hq)
    rw [show (⟨g, q, none⟩ : Addr) = (⟨g, 0, none⟩ : Addr).add q by by_cases h : q = 0 <;> simp [Addr.add, h]]
    exact this
theorem Marks.at {S : List Value} {w wr : World} (h : Marks S S.length w wr) {q : Nat} (hq : q < S.length) (hn : ∀ s ∈ S, ∀ a m c, s = .slice a m c → m ≤ 1000000000000) : ∃ A n, S[q] = .slice A n n ∧ n ≤ 1000000000000 ∧ Full wr A n q ∧ ∀ x, A = some x → x.block < wr.heap.size := by
  have hfull := h.full q hq hq
  rcases h.owns.get hq with e | ⟨gi, n, e, hblk⟩
  · exact ⟨none, 0, e, by omega, hfull _ _ _ e, fun x hx => by cases hx⟩
  · exact ⟨_, n, e, hn S[q] (List.getElem_mem hq) _ _ _ e, hfull _ _ _ e, fun x hx => by cases hx; exact hblk.lt⟩
theorem Grows.other {B i m j n : Nat} {vl vg u : Value} {G : List Value} {wr : World} (h : Grows B i m vl vg G wr) (hu : wr.ownsRow 0 42 5 u n (flat (List.replicate n (markV j)))) (hl : ∀ a n c, u = .slice a n c → n = c) (hb : ∀ g, u.ownBlock = some g → g < B) : Grows B j n u vg G wr := by
  refine ⟨h.size, hu, .inr hl, h.grow, fun g hg hv => ?_, fun q hq => ?_⟩
  · have := (ownsRow_lt h.grow hv).1
    have := hb g hg
    omega
  · obtain ⟨k, n, c, e1, e2, e3, e4, e5, e6, e7⟩ := h.items q hq
    refine ⟨k, n, c, e1, e2, e3, e4, e5, e6, fun hv => ?_⟩
    have := hb k hv
    omega
structure BookAt (p g C : Nat) (S : List Value) (w : World) : Prop where
  box : w.heap[p]? = some (.cells #[.slice (some ⟨g, 0, none⟩) S.length C] 49 (0, 0))
  row : ∃ cur, w.heap[g]? = some (.cells cur 31 (0, 0)) ∧ cur.toList.take S.length = S
theorem BookAt.cell {p g C : Nat} {S : List Value} {w : World} (h : BookAt p g C S w) : w.cell? ⟨p, 0, none⟩ = some (.slice (some ⟨g, 0, none⟩) S.length C) := by simp [World.cell?, h.box]
theorem BookAt.item {p g C : Nat} {S : List Value} {w : World} (h : BookAt p g C S w) (i : Nat) (hi : i < S.length) : w.cell? ⟨g, i, none⟩ = some S[i] := by
  obtain ⟨cur, h1, h2⟩ := h.row
  have : cur[i]? = some S[i] := by
    have e : (cur.toList.take S.length)[i]? = S[i]? := by rw [h2]
    rw [List.getElem?_take_of_lt hi] at e
    rw [← Array.getElem?_toList, e]
    exact List.getElem?_eq_getElem hi
  simp [World.cell?, h1, this]
theorem BookAt.turn {p g C : Nat} {S : List Value} {w wr : World} (h : BookAt p g C S w) (ho : OwnsX w S) (ht : TurnS S w wr) : BookAt p g C S wr := by
  obtain ⟨cur, h1, h2⟩ := h.row
  exact ⟨(ht.block p (Array.getElem?_eq_some_iff.1 h.box).1 (ho.other h.box (by decide))).trans h.box, cur, (ht.block g (Array.getElem?_eq_some_iff.1 h1).1 (ho.other h1 (by decide))).trans h1, h2⟩
theorem put5_markV (w : World) (b o i : Nat) :
    (((((w.setCell ⟨b, o, none⟩ (.int .i64 (-1000 - (i : Int)))).setCell ⟨b, o + 1, none⟩ (.int .u64 i)).setCell ⟨b, o + 2, none⟩ (.string ⟨#[]⟩)).setCell ⟨b, o + 3, none⟩ (.slice none 0 0)).setCell ⟨b, o + 4, none⟩ (.int .i64 0)) = put5 w b o (markV i) :=
  put5_of w b o (-1000 - (i : Int)) i ⟨#[]⟩ none 0 0 []
theorem one_cell (a : Option Addr) (n c : Nat) : ∀ u ∈ ([.slice a n c] : List Value), u.oneCell' = true := fun u hu => by
  simp only [List.mem_cons, List.not_mem_nil, or_false] at hu
  subst hu
  rfl
set_option maxRecDepth 100000 in
set_option maxHeartbeats 2000000 in
theorem owned_any (p g C : Nat) (S : List Value) (w : World) (hbk : BookAt p g C S w) (ho : OwnsX w S) (hS : S.length ≤ 100000000000) (hC : S.length ≤ C) (hn : ∀ s ∈ S, ∀ a m c, s = .slice a m c → m ≤ 1000000000000) :
    Calls Tryz.prog 23 #[.pointer (some ⟨p, 0, none⟩)] w fun e w' => e = .returned (.bool true) ∧ Hid (TurnS S w w') := by
  have HB := hide hbk
  have HO := hide ho
  have HN := hide hn
  have hcp := hbk.cell
  have hpl : p < w.heap.size := (Array.getElem?_eq_some_iff.1 hbk.box).1
  clear hbk ho hn
  obtain ⟨i0, hi0, hzz⟩ := Option.map_eq_some_iff.1 Tryz.infoV
  simp only [Prod.mk.injEq] at hzz
  obtain ⟨hz0, hz1, hz2⟩ := hzz
  obtain ⟨i1, hi1, hyy⟩ := Option.map_eq_some_iff.1 Tryz.infoL
  simp only [Prod.mk.injEq] at hyy
  obtain ⟨hy0, hy1, hy2⟩ := hyy
  go_enter Tryz.func23, Tryz.ntmps23
  go_wp2_with fail
  go_loopw [3] (fun u wr => ∃ (i : Nat), u = .int .i64 i ∧ i ≤ S.length ∧ Hid (Marks S i w wr)) (fun u _ => S.length - (intOf u).toNat)
  case atStart => exact ⟨0, rfl, Nat.zero_le _, Marks.start HO.out⟩
  case round =>
    obtain ⟨i, rfl, hi, HM⟩ := hrel
    have hcp1 := (HB.out.turn HO.out HM.out.turns).cell
    by_cases hil : i < S.length
    · have hit := (HB.out.turn HO.out HM.out.turns).item i hil
      rcases HM.out.owns.get hil with e | ⟨gi, n, e, hblk⟩
      · rw [e] at hit
        have HMN := hide (HM.out.skip hil e)
        have hsz : g < wr.heap.size := by
          obtain ⟨cur, h1, _⟩ := (HB.out.turn HO.out HM.out.turns).row
          exact (Array.getElem?_eq_some_iff.1 h1).1
        go_wp2_with fail
        go_loopw [5] (fun u w1 => u = .int .i64 0 ∧ w1 = wr) (fun u _ => 0)
        case atStart => exact ⟨rfl, rfl⟩
        case round =>
          obtain ⟨rfl, rfl⟩ := hrel
          go_wp2
          go_roundw
          case rel => exact ⟨i + 1, by go_num, hil, HMN⟩
          case measure => simp [intOf]; omega
      · rw [e] at hit
        have hnn : n ≤ 1000000000000 := HN.out S[i] (List.getElem_mem hil) _ _ _ e
        go_wp2_with fail
        go_loopw [5] (fun u w1 => ∃ k : Nat, u = .int .i64 k ∧ k ≤ n ∧ Hid (Marks S i w w1) ∧ Hid (Row w1 gi 0 (List.replicate k (markV i)))) (fun u _ => n - (intOf u).toNat)
        case atStart => exact ⟨0, rfl, Nat.zero_le _, HM, fun q hq => by simp at hq⟩
        case round =>
          obtain ⟨k, rfl, hk, HM1, HR1⟩ := hrel
          by_cases hkn : k < n
          · have hkb : Blk wr gi 42 (n * 5) := by
              rcases HM1.out.owns.get hil with e' | ⟨g', n', e', q⟩
              · rw [e] at e'; cases e'
              · rw [e] at e'; cases e'; exact q
            have HKB := hide hkb
            have hgl := hkb.lt
            clear hkb hit hcp1
            go_wp2_with fail
            refine (mark_any i (by omega) _).mono ?_
            rintro e1 w2 ⟨rfl, hb2⟩
            have hk2 : Blk w2 gi 42 (n * 5) := HKB.out.below hb2 hgl
            obtain ⟨z0, c0⟩ := hk2.some (k * 5) (by omega)
            obtain ⟨z1, c1⟩ := hk2.some (k * 5 + 1) (by omega)
            obtain ⟨z2, c2⟩ := hk2.some (k * 5 + 2) (by omega)
            obtain ⟨z3, c3⟩ := hk2.some (k * 5 + 3) (by omega)
            obtain ⟨z4, c4⟩ := hk2.some (k * 5 + 4) (by omega)
            have f0 := hk2.free
            have HM2 := hide (HM1.out.below hb2)
            have HR2 := hide (HR1.out.below hb2 hgl)
            clear hk2 hb2
            go_wp2
            go_roundw
            case rel =>
              rw [put5_markV]
              have hh := HM2.out.put hil e hkn HR2.out
              exact ⟨k + 1, by go_num, hkn, hh.1, hh.2⟩
            case measure => simp [intOf]; omega
          · obtain rfl : k = n := by omega
            go_wp2
            go_roundw
            case rel => exact ⟨i + 1, by go_num, hil, HM1.out.next hil e HR1.out⟩
            case measure => simp [intOf]; omega
    · obtain rfl : i = S.length := by omega
      obtain ⟨w2, rfl⟩ : ∃ w2, w2 = wr := ⟨_, rfl⟩
      go_wp2_with fail
      go_loopw [6, 7] (fun gv u w3 => ∃ (G : List Value) (gv' : Value) (i : Nat), gv' = gv ∧ u = .int .i64 i ∧ i ≤ S.length ∧ G.length = 12 * i ∧ Hid (∃ j m v, Grows w2.heap.size j m v gv' G w3) ∧ Below w2.heap.size w2 w3) (fun _ u _ => S.length - (intOf u).toNat)
      case atStart => exact ⟨[], _, 0, rfl, rfl, Nat.zero_le _, rfl, ⟨_, _, _, Grows.start⟩, Below.refl _ _⟩
      case round =>
        obtain ⟨G, gv, i, rfl, rfl, hi, hG, HG, hb3⟩ := hrel
        have HM3 := hide (HM.out.below hb3)
        have hcp3 := (HB.out.turn HO.out HM3.out.turns).cell
        by_cases hil : i < S.length
        · have hit := (HB.out.turn HO.out HM3.out.turns).item i hil
          obtain ⟨A, n, hSi, hnn, HU⟩ : ∃ A n, S[i] = .slice A n n ∧ n ≤ 1000000000000 ∧ Hid (Grows w2.heap.size i n (.slice A n n) gv G wr) := by
            obtain ⟨j, m, v, hg⟩ := HG.out
            have hfull := HM3.out.full i hil hil
            rcases HM3.out.owns.get hil with e | ⟨gi, n, e, hblk⟩
            · exact ⟨none, 0, e, by omega, hg.other (World.ownsRow_nil _ _ _ _) (fun a n c e => by cases e; rfl) (fun g hg => by cases hg)⟩
            · have hnn : n ≤ 1000000000000 := HN.out S[i] (List.getElem_mem hil) _ _ _ e
              have hlt : gi < w2.heap.size := HM.out.owns.lt (mem_blocks (List.getElem_mem hil) (by rw [e]; rfl))
              have hrow : Row wr gi 0 (List.replicate n (markV i)) := by
                by_cases h0 : 0 < n
                · obtain ⟨b, o, e', hr⟩ := hfull _ _ _ e h0
                  cases e'
                  exact hr
                · obtain rfl : n = 0 := by omega
                  exact fun q hq => by simp at hq
              have hown := own_of_row (base := 0) (l := List.replicate n (markV i)) (by rw [List.length_replicate]; exact hblk) hrow (by rw [List.length_replicate]; unfold maxLen; omega) (Nat.zero_le _)
              rw [List.length_replicate] at hown
              exact ⟨_, n, e, hnn, hg.other hown (fun a n c e => by cases e; rfl) (fun g hg => by cases hg; exact hlt)⟩
          rw [hSi] at hit
          go_wp2_with fail
          go_loopw [6, 8, 9] (fun gv lv u w4 => ∃ (G' : List Value) (gv' lv' : Value) (k : Nat), gv' = gv ∧ lv' = lv ∧ u = .int .i64 k ∧ k ≤ 12 ∧ G'.length = 12 * i + k ∧ Hid (Grows w2.heap.size i (n + k) lv' gv' G' w4) ∧ Below w2.heap.size w2 w4) (fun _ _ u _ => 12 - (intOf u).toNat)
          case atStart => exact ⟨G, _, _, 0, rfl, rfl, rfl, by omega, by omega, HU, hb3⟩
          case round =>
            obtain ⟨G', gv', lv', k, rfl, rfl, rfl, hk, hG', HG', hb4⟩ := hrel
            clear hit hcp3 hcp hcp1
            by_cases hk12 : k < 12
            · go_wp2_with fail
              refine (mark_any i (by omega) _).mono ?_
              rintro e1 w5 ⟨rfl, hb5⟩
              have hs5 := hb5.size
              have hbA := bel1 (Below.refl w5.heap.size w5) (Nat.le_refl _) (Obj.cells #[.int .i64 (-1000 - (i : Int)), .int .u64 i, .string ⟨#[]⟩, .slice none 0 0, .int .i64 0] 42)
              have HG5 := hide ((HG'.out.below hb5).below hbA)
              have HB5 := hide (belOn (belOn hb4 HG'.out.size hb5) (Nat.le_trans HG'.out.size hs5) hbA)
              have HNEWS := hide (news5 w5 (markV i))
              have HM1 : Hid (n + k + 1 ≤ maxLen) := (by show n + k + 1 ≤ maxLen; unfold maxLen; omega)
              have HM2 : Hid ((n + k + 1) * 64 ≤ 140737488355328) := (by show (n + k + 1) * 64 ≤ 140737488355328; omega)
              have HM3' : Hid (G'.length + 1 ≤ maxLen) := (by show G'.length + 1 ≤ maxLen; unfold maxLen; omega)
              have HM4 : Hid ((G'.length + 1) * 24 ≤ 140737488355328) := (by show (G'.length + 1) * 24 ≤ 140737488355328; omega)
              have HM5 : Hid (n + k + 1 ≤ 2000000000000) := (by show n + k + 1 ≤ 2000000000000; omega)
              have HG12 : Hid (G'.length / 12 = i) := (by show G'.length / 12 = i; omega)
              clear hb5 hbA hb4 HG' HU HG HM3 hb3
              go_wp2_with (first
                | (at_builtin; go_loud (refine wpList_append_either _ rfl (.tmp 61) (.tmp 64) 31 rfl 0 42 i0 _ 5 64 Tryz.underlying31 hi0 hz0 hz1 hz2 rfl (by decide) _ (n + k) _ rfl HG5.out.row ⟨w5.heap.size, 0, none⟩ 1 (words (markV i)) rfl rfl HNEWS.out (V.words_one _) HM1.out HM2.out (Nat.zero_le _) ?_; intro v6 w6 hown6 hor6; obtain ⟨g6, cap6, rfl⟩ := ownsRow_succ hown6; rw [flat_more] at hown6; have HP6 := hide (HG5.out.push hown6 hor6); have HB6 := hide (bel1 (HP6.out.2.2 _ HB5.out) HP6.out.1.size (Obj.cells #[.slice (some ⟨g6, 0, none⟩) (n + k + 1) cap6] 31)); have HG6 := hide (HP6.out.1.below (bel1 (Below.refl w6.heap.size w6) (Nat.le_refl _) (Obj.cells #[.slice (some ⟨g6, 0, none⟩) (n + k + 1) cap6] 31))); clear hown6 hor6))
                | (at_builtin; go_loud (refine wpList_append_either _ rfl (.tmp 66) (.tmp 68) 47 rfl w2.heap.size 31 i1 _ 1 24 Tryz.underL hi1 hy0 hy1 hy2 rfl (by decide) _ G'.length G' rfl HG6.out.grow ⟨w6.heap.size, 0, none⟩ 1 [.slice (some ⟨g6, 0, none⟩) (n + k + 1) cap6] rfl rfl (cell_one_new w6 _ 31) (one_cell _ _ _) HM3'.out HM4.out HG6.out.size ?_; intro v7 w7 hown7 hor7; have HG7 := hide (HG6.out.take HP6.out.2.1 HG12.out HM5.out hown7 hor7); clear hown7 hor7)))
              go_roundw
              case rel => exact ⟨G' ++ [Value.slice (some ⟨g6, 0, none⟩) (n + k + 1) cap6], v7, _, k + 1, rfl, rfl, by go_num, hk12, by simp; omega, (show Grows w2.heap.size i (n + (k + 1)) (.slice (some ⟨g6, 0, none⟩) (n + k + 1) cap6) v7 (G' ++ [.slice (some ⟨g6, 0, none⟩) (n + k + 1) cap6]) w7 from HG7.out.1), HG7.out.2 _ HB6.out⟩
              case measure => simp [intOf]; omega
            · obtain rfl : k = 12 := by omega
              go_wp2
              go_roundw
              case rel => exact ⟨G', gv', i + 1, rfl, by go_num, hil, by omega, ⟨_, _, _, HG'.out⟩, hb4⟩
              case measure => simp [intOf]; omega
        · obtain rfl : i = S.length := by omega
          obtain ⟨w3, rfl⟩ : ∃ w3, w3 = wr := ⟨_, rfl⟩
          obtain ⟨A, C2, rfl, hGC, hrows⟩ : ∃ A C, gv = .slice A G.length C ∧ G.length ≤ C ∧ Hid (∀ q (hq : q < G.length), ∃ g, A = some ⟨g, 0, none⟩ ∧ g < w3.heap.size ∧ w3.cell? ⟨g, q, none⟩ = some G[q]) := by
            obtain ⟨j, m, v, hg⟩ := HG.out
            exact hg.rows
          have HIT : Hid (∀ q (hq : q < G.length), ∃ g n c, G[q] = .slice (some ⟨g, 0, none⟩) n c ∧ n ≤ c ∧ n ≤ 2000000000000 ∧ Full w3 (some ⟨g, 0, none⟩) n (q / 12) ∧ g < w3.heap.size) := fun q hq => by
            obtain ⟨j, m, v, hg⟩ := HG.out
            exact hg.at hq
          have HT3 := hide HM3.out.turns
          have hG1 : G.length ≤ 1200000000000 := by omega
          clear hcp hcp1 hG
          go_wp2_with fail
          clear hcp3
          go_loopw [10] (fun u w4 => ∃ (q : Nat), u = .int .i64 q ∧ q ≤ S.length ∧ Below w3.heap.size w3 w4) (fun u _ => S.length - (intOf u).toNat)
          case atStart => exact ⟨0, rfl, Nat.zero_le _, Below.refl _ _⟩
          case round =>
            obtain ⟨q, rfl, hq, hb4⟩ := hrel
            have HM4 := hide (HM3.out.below hb4)
            have hcp4 := (HB.out.turn HO.out HM4.out.turns).cell
            by_cases hql : q < S.length
            · have hit := (HB.out.turn HO.out HM4.out.turns).item q hql
              obtain ⟨a4, n4, e4, hn4, hf4, hl4⟩ := HM4.out.at hql HN.out
              rw [e4] at hit
              have HF4 := hide hf4
              have HL4 := hide hl4
              clear hf4 hl4
              go_wp2_with fail
              refine (marked_any a4 n4 n4 q (by omega) (Nat.le_refl _) (by omega) _ HF4.out HL4.out).mono ?_
              rintro e5 w5 ⟨rfl, hb5⟩
              have hs5 := hb5.size
              have hs4 := hb4.size
              have HB5 := hide (belOn hb4 hs4 hb5)
              clear hb5 hit hcp4
              go_wp2
              go_roundw
              case rel => exact ⟨q + 1, by go_num, hql, HB5.out⟩
              case measure => simp [intOf]; omega
            · obtain rfl : q = S.length := by omega
              obtain ⟨w4, rfl⟩ : ∃ w4, w4 = wr := ⟨_, rfl⟩
              go_wp2_with fail
              clear hcp4
              go_loopw [12] (fun u w5 => ∃ (q : Nat), u = .int .i64 q ∧ q ≤ G.length ∧ Below w3.heap.size w3 w5) (fun u _ => G.length - (intOf u).toNat)
              case atStart => exact ⟨0, rfl, Nat.zero_le _, hb4⟩
              case round =>
                obtain ⟨q, rfl, hq', hb5⟩ := hrel
                by_cases hql : q < G.length
                · obtain ⟨gg, rfl, hgg, hcell⟩ := hrows.out q hql
                  obtain ⟨g6, n6, c6, e6, h61, h62, hf6, hl6⟩ := HIT.out q hql
                  rw [e6] at hcell
                  have hcell5 := (hb5.cell (p := ⟨gg, q, none⟩) hgg).trans hcell
                  have hs5 := hb5.size
                  have HF6 : Hid (Full wr (some ⟨g6, 0, none⟩) n6 (q / 12)) := fun h0 => by
                    obtain ⟨b, o, e, hr⟩ := hf6 h0
                    cases e
                    exact ⟨_, _, rfl, hr.below hb5 hl6⟩
                  clear hf6 hcell
                  go_wp2_with fail
                  have hd2 : (q : Int) / 12 = ((q / 12 : Nat) : Int) := by omega
                  rw [hd2]
                  refine (marked_any (some ⟨g6, 0, none⟩) n6 c6 (q / 12) (by omega) h61 (by omega) _ HF6.out (fun x hx => by cases hx; exact Nat.lt_of_lt_of_le hl6 hs5)).mono ?_
                  rintro e7 w7 ⟨rfl, hb7⟩
                  have HB7 := hide (belOn hb5 hs5 hb7)
                  clear hb7 hcell5 hd2
                  go_wp2
                  go_roundw
                  case rel => exact ⟨q + 1, by go_num, hql, HB7.out⟩
                  case measure => simp [intOf]; omega
                · obtain rfl : q = G.length := by omega
                  go_wp2
                  go_ret
                  exact ⟨rfl, HT3.out.below hb5⟩
theorem Bk.start (W : World) : Bk W.heap.size none [] (W.alloc (Obj.cells #[.slice none 0 0] 49)) (W.alloc (Obj.cells #[.slice none 0 0] 49)) :=
  ⟨none, 0, World.alloc_heap_new _ _, World.ownsRow_nil _ _ _ _, .inl rfl, rfl, rfl, rfl, Nat.le_refl _, fun _ _ _ _ => rfl⟩
theorem Bk.same {p : Nat} {S : List Value} {W wr : World} (h : Bk p none S W wr) {k : Nat} (hk : k < W.heap.size) (hp : k ≠ p) : wr.heap[k]? = W.heap[k]? := by
  obtain ⟨A, C, h1, h2, h3, h4, h5, h6, h7, h8⟩ := h
  exact h8 k hk hp (by simp)
theorem Bk.size {p : Nat} {A0 : Option Nat} {S : List Value} {W wr : World} (h : Bk p A0 S W wr) : W.heap.size ≤ wr.heap.size := by
  obtain ⟨A, C, h1, h2, h3, h4, h5, h6, h7, h8⟩ := h
  exact h7
theorem Bk.below {p : Nat} {S : List Value} {W wr : World} (h : Bk p none S W wr) {B : Nat} (hB : B ≤ p) (hW : B ≤ W.heap.size) : Below B W wr := by
  obtain ⟨A, C, h1, h2, h3, h4, h5, h6, h7, h8⟩ := h
  exact ⟨h4, h5, h6, h7, fun k hk => h8 k (by omega) (by omega) (by simp)⟩
theorem Bk.at {p : Nat} {A0 : Option Nat} {S : List Value} {W wr : World} (h : Bk p A0 S W wr) (h0 : 0 < S.length) : ∃ g C, BookAt p g C S wr ∧ S.length ≤ C := by
  obtain ⟨A, C, h1, h2, h3, _⟩ := h
  rcases h2.2 with ⟨_, e⟩ | ⟨g, cap, cur, e, hb, hg, hc, hm, hs, ht⟩
  · omega
  · cases e
    exact ⟨g, C, ⟨h1, cur, hg, by simpa using ht⟩, hc⟩
theorem take_next {p : Nat} {S : List Value} {W wr : World} (h : Bk p none S W wr) (x : V) (Q : Nat → Prop) (hx : LiesIn Q wr x) (hQ : ∀ b, Q b → b < W.heap.size ∧ b ≠ p) (hS : S.length + T.wt x.t ≤ 1099511627776) :
    Calls Tryz.prog 22 #[.pointer (some ⟨p, 0, none⟩), x.val] wr fun e w' => e = .returned (.tuple #[]) ∧ Hid (Bk p none (S ++ x.slots) W w') := by
  obtain ⟨A1, h1, hA⟩ := h.here
  have hs := h.size
  refine (take_any x p A1 S Q wr h1 hx (fun b hb => ⟨by have := (hQ b hb).1; omega, (hQ b hb).2, fun e => ?_⟩) hS).mono (fun e w' q => ⟨q.1, h.trans hA q.2.out⟩)
  rcases hA with rfl | ⟨g, rfl, hg⟩
  · cases e
  · cases e
    have := (hQ _ hb).1
    omega
theorem slots_small : ∀ v : V, ∀ s ∈ v.slots, ∀ a m c, s = .slice a m c → m ≤ T.wt v.t := by
  refine V.ind ?_
  intro k n s a c e l ih t ht a' m c' e'
  have hlen : l.length ≤ T.wts (V.ts l) := by
    clear ih ht
    induction l with
    | nil => simp
    | cons x l ihl =>
      have := wt_pos x
      simp only [V.ts, T.wts, List.length_cons]
      omega
  have hmem : ∀ x ∈ l, T.wt x.t ≤ T.wts (V.ts l) := by
    clear ih ht hlen
    induction l with
    | nil => intro x hx; simp at hx
    | cons y l ihl =>
      intro x hx
      simp only [V.ts, T.wts]
      rcases List.mem_cons.1 hx with rfl | hx
      · omega
      · have := ihl x hx
        omega
  rw [V.t_of, T.wt_of]
  rw [V.slots_of] at ht
  rcases List.mem_append.1 ht with ht | ht
  · unfold V.slotss at ht
    obtain ⟨S', hS', hm⟩ := List.mem_flatten.1 ht
    obtain ⟨x, hx, rfl⟩ := List.mem_map.1 hS'
    have h1 := ih x hx t hm a' m c' e'
    have h2 := hmem x hx
    omega
  · obtain rfl : t = .slice a l.length c := by simpa using ht
    cases e'
    omega
theorem owned_at {p : Nat} {S : List Value} {W wr : World} (h : Bk p none S W wr) (ho : OwnsX wr S) (h0 : 0 < S.length) (hS : S.length ≤ 100000000000) (hn : ∀ s ∈ S, ∀ a m c, s = .slice a m c → m ≤ 1000000000000) :
    Calls Tryz.prog 23 #[.pointer (some ⟨p, 0, none⟩)] wr fun e w' => e = .returned (.bool true) ∧ Hid (TurnS S wr w') := by
  obtain ⟨g, C, hb, hc⟩ := h.at h0
  exact owned_any p g C S wr hb ho hS hc hn
theorem TurnS.keep {S : List Value} {a b : World} (h : TurnS S a b) {B : Nat} (hB : B ≤ a.heap.size) (hS : ∀ g ∈ blocksOf S, B ≤ g) : Below B a b :=
  ⟨h.os, h.tape, h.output, h.size, fun k hk => h.block k (by omega) (fun hm => by have := hS k hm; omega)⟩
theorem Owns.blocks {w : World} {lo hi : Nat} {S : List Value} (h : Owns w lo hi S) : ∀ g ∈ blocksOf S, lo ≤ g := fun g hg => (h.mem hg).1
theorem slots_pos (v : V) : 0 < v.slots.length := by
  obtain ⟨k, n, s, a, c, e, l, rfl⟩ := V.ex v
  rw [V.slots_of]
  simp
structure Gots (B : Nat) (fs : List V) (gv : Value) (wr : World) : Prop where
  size : B ≤ wr.heap.size
  row : wr.ownsRow B 42 5 gv fs.length (flat fs)
  lies : ∀ f ∈ fs, LiesIn (fun b => B ≤ b ∧ b < wr.heap.size ∧ gv.ownBlock ≠ some b) wr f
  owns : OwnsX wr (V.slotss fs)
  apart : ∀ g ∈ blocksOf (V.slotss fs), B ≤ g ∧ g < wr.heap.size ∧ gv.ownBlock ≠ some g
theorem slotss_small (l : List V) (n : Nat) (hl : ∀ x ∈ l, T.wt x.t ≤ n) : ∀ s ∈ V.slotss l, ∀ a m c, s = .slice a m c → m ≤ n := by
  intro s hs a m c e
  unfold V.slotss at hs
  obtain ⟨S', hS', hm⟩ := List.mem_flatten.1 hs
  obtain ⟨x, hx, rfl⟩ := List.mem_map.1 hS'
  have h1 := slots_small x s hm a m c e
  have h2 := hl x hx
  omega
end Go.Proofs.YtgldcchleoklcaaGreatDoor
