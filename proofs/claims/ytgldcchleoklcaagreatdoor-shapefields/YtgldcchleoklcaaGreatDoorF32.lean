/- VApp, VMark, VOwn -/
import Derived.Test.YtgldcchleoklcaaGreatDoorF31
import Derived.Test.YtgldcchleoklcaaGreatDoorF08
import Derived.WalkKit
import Derived.ArgAppend
import Derived.OwnWalk
namespace Go.Proofs.YtgldcchleoklcaaGreatDoor
open Go.RowKit
theorem ownsRow_base5 {w : World} {base base' : Nat} {e : TypeId} {size : Nat} {v : Value} {n : Nat} {xs : List Value} (h : w.ownsRow base e size v n xs) (hb : base' ≤ base) : w.ownsRow base' e size v n xs := by
  refine ⟨h.1, ?_⟩
  rcases h.2 with hn | ⟨g, cap, cur, hv, hbg, rest⟩
  · exact .inl hn
  · exact .inr ⟨g, cap, cur, hv, Nat.le_trans hb hbg, rest⟩
theorem wpList_append_either {P : Program} (w : World) {ops : Array Oper} {rest : List Oper} {o : Oper} {a : Act} {Q : Exit → Act → World → Prop} (hgd : o.guard = none) (s x : Operand) (t : TypeId)
    (ho : o.op = .call { callee := .builtin .append, args := #[s, x], argTypes := #[t, t] })
    (base : Nat) (e : TypeId) (i : TypeInfo) (z : Value) (size bytes : Nat) (ht : P.underlying t = some (.slice e)) (hi : P.info? e = some i) (hz : i.zero = some z)
    (hsize : i.size = size) (hby : i.bytes = bytes) (hzs : z.cells.size = size) (hsz : 0 < size)
    (v : Value) (n : Nat) (xs : List Value) (hs : a.eval s = v) (hown : w.ownsRow base e size v n xs)
    (ad : Addr) (c : Nat) (news : List Value) (hx : a.eval x = .slice (some ad) 1 c) (hl : news.length = 1 * size) (hnews : ∀ j u, news[j]? = some u → w.cell? (ad.add j) = some u) (h1 : ∀ u ∈ news, u.oneCell' = true)
    (h63 : n + 1 ≤ maxLen) (hbytes : (n + 1) * bytes ≤ 140737488355328) (hbase : base ≤ w.heap.size)
    (h : ∀ v' w', w'.ownsRow base e size v' (n + 1) (xs ++ news) → ((w.grownBy w' none ∧ ∃ g, v'.ownBlock = some g ∧ w.heap.size ≤ g) ∨ (w.grownBy w' v.ownBlock ∧ ∃ g cap, v = .slice (some ⟨g, 0, none⟩) n cap ∧ n + 1 ≤ cap ∧ v'.ownBlock = some g)) → wpList P ops Q rest (a.put o.dst v') w') :
    wpList P ops Q (o :: rest) a w := by
  have fin : ∀ v' w', w'.ownsRow w.heap.size e size v' (n + 1) (xs ++ news) → w.grownBy w' none → wpList P ops Q rest (a.put o.dst v') w' := fun v' w' r1 r2 => by
    refine h v' w' (ownsRow_base5 r1 hbase) (.inl ⟨r2, ?_⟩)
    rcases r1.2 with ⟨_, h0⟩ | ⟨g, cap, cur, rfl, hbg, _⟩
    · omega
    · exact ⟨g, rfl, hbg⟩
  rcases hown.2 with ⟨rfl, rfl⟩ | ⟨g, cap, cur, rfl, hb, hg, hnc, hm, hcs, htk⟩
  · have hxs : xs = [] := List.eq_nil_of_length_eq_zero (by simpa using hown.1)
    subst hxs
    exact wpList_append_grows w hgd s x t ho e i z size bytes ht hi hz hsize hby hzs hsz none 0 0 [] hs (fun _ => ⟨rfl, rfl⟩) (by simp) (fun b hb => by cases hb) ad 1 c news hx hl hnews h1 (by omega) h63 hbytes fin
  · by_cases hroom : n + 1 ≤ cap
    · exact wpList_append_fits w hgd s x t ho base e i size ht hi hsize g n cap xs hs hown ad 1 c news hx hl hnews h1 hroom fun w' r1 r2 => h _ w' r1 (.inr ⟨r2, g, cap, rfl, hroom, rfl⟩)
    · exact wpList_append_grows w hgd s x t ho e i z size bytes ht hi hz hsize hby hzs hsz (some ⟨g, 0, none⟩) n cap xs hs (fun hh => by cases hh) hown.1 (fun b hb j u hj => by
        simp only [Option.some.injEq] at hb
        subst hb
        exact hown.cells rfl j u hj) ad 1 c news hx hl hnews h1 (by omega) h63 hbytes fin
set_option linter.unusedVariables false
set_option linter.unusedSimpArgs false
def markV (i : Nat) : V := .of (-1000 - i) i ⟨#[]⟩ none 0 0 []
def Full (w : World) (a : Option Addr) (m i : Nat) : Prop := 0 < m → ∃ b o, a = some ⟨b, o, none⟩ ∧ Row w b o (List.replicate m (markV i))
def blocksOf (S : List Value) : List Nat := S.filterMap Value.ownBlock
def OwnsX (w : World) (S : List Value) : Prop := (∀ s ∈ S, s = .slice none 0 0 ∨ ∃ g n, s = .slice (some ⟨g, 0, none⟩) n n ∧ Blk w g 42 (n * 5)) ∧ (blocksOf S).Nodup
theorem mem_blocks {S : List Value} {s : Value} {g : Nat} (h : s ∈ S) (e : s.ownBlock = some g) : g ∈ blocksOf S := List.mem_filterMap.2 ⟨s, h, e⟩
structure TurnS (S : List Value) (w w' : World) : Prop where
  os : w'.os = w.os
  tape : w'.tape = w.tape
  output : w'.output = w.output
  size : w.heap.size ≤ w'.heap.size
  block : ∀ k, k < w.heap.size → k ∉ blocksOf S → w'.heap[k]? = w.heap[k]?
theorem TurnS.refl (S : List Value) (w : World) : TurnS S w w := ⟨rfl, rfl, rfl, Nat.le_refl _, fun _ _ _ => rfl⟩
def FullV (w : World) (v : Value) (i : Nat) : Prop := ∀ a m c, v = .slice a m c → Full w a m i
structure Marks (S : List Value) (i : Nat) (w wr : World) : Prop where
  turns : TurnS S w wr
  owns : OwnsX wr S
  full : ∀ j (h : j < S.length), j < i → FullV wr S[j] j
end Go.Proofs.YtgldcchleoklcaaGreatDoor
