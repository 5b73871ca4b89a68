/- OctetJoined: steps outside the walk. -/
import Derived.Test.YtjgdebifomkkcabDoorTurnP
namespace Go.Proofs.YtjgdebifomkkcabDoor
open Go.RowKit

/-- ints that came in -/
def Ri (w : World) (a : Option Addr) (n : Nat) (zs : List Int) : Prop :=
  0 < n → ∃ b off, a = some ⟨b, off, none⟩ ∧ b < w.heap.size ∧ ∀ j, j < n → w.cell? ⟨b, off + j, none⟩ = some (.int .i64 (zs.getD j 0))

theorem Rd.sub {w : World} {a : Option Addr} {n i m : Nat} {l : List Nat} (h : Rd w a n l) (him : i + m ≤ n) (x : Option Addr) (hx : ∀ b off, a = some ⟨b, off, none⟩ → 0 < m → x = some ⟨b, off + i, none⟩) : Rd w x m ((l.drop i).take m) := by
  obtain ⟨h1, h2, h3⟩ := h
  refine ⟨by simp; omega, fun c hc => h2 c (List.mem_of_mem_drop (List.mem_of_mem_take hc)), fun hm => ?_⟩
  obtain ⟨b, off, ha, hlt, hc⟩ := h3 (by omega)
  refine ⟨b, off + i, hx b off ha hm, hlt, fun j hj => ?_⟩
  have := hc (i + j) (by omega)
  rw [show off + i + j = off + (i + j) by omega, this]
  simp [List.getD_eq_getElem?_getD, List.getElem?_drop, hj]

/-- the pieces so far: they read as ls -/
def Pieces (w : World) (els : List Value) (ls : List (List Nat)) : Prop :=
  els.length = ls.length ∧ ∀ i, i < ls.length → ∃ x m c, els[i]? = some (.slice x m c) ∧ m ≤ 140737488355328 ∧ Rd w x m (ls.getD i [])
theorem Pieces.snoc {w : World} {els : List Value} {ls : List (List Nat)} (h : Pieces w els ls) {x : Option Addr} {m c : Nat} {l : List Nat} (hm : m ≤ 140737488355328) (hr : Rd w x m l) : Pieces w (els ++ [.slice x m c]) (ls ++ [l]) := by
  refine ⟨by simp [h.1], fun i hi => ?_⟩
  by_cases hlt : i < ls.length
  · obtain ⟨y, k, d, h1, h2, h3⟩ := h.2 i hlt
    refine ⟨y, k, d, ?_, h2, ?_⟩
    · rw [List.getElem?_append_left (by rw [h.1]; exact hlt)]; exact h1
    · rwa [List.getD_eq_getElem?_getD, List.getElem?_append_left hlt, ← List.getD_eq_getElem?_getD]
  · have he : i = ls.length := by simp at hi; omega
    subst he
    refine ⟨x, m, c, ?_, hm, ?_⟩
    · rw [List.getElem?_append_right (by rw [h.1]; exact Nat.le_refl _), h.1]; simp
    · rw [List.getD_eq_getElem?_getD, List.getElem?_append_right (Nat.le_refl _)]; simpa using hr
theorem Pieces.below {w w' : World} {els : List Value} {ls : List (List Nat)} (h : Pieces w els ls) (hb : Below w.heap.size w w') : Pieces w' els ls :=
  ⟨h.1, fun i hi => by obtain ⟨y, k, d, h1, h2, h3⟩ := h.2 i hi; exact ⟨y, k, d, h1, h2, h3.below hb⟩⟩
theorem take_more (l : List Nat) (i m : Nat) : l.take (i + m) = l.take i ++ (l.drop i).take m := by rw [List.take_add]
theorem sum_own {w : World} {base g n cap : Nat} {els : List Value} {ls : List (List Nat)} (h : w.ownsRow base 27 1 (.slice (some ⟨g, 0, none⟩) n cap) n els) (hp : Pieces w els ls) (hn : n ≤ 140737488355328) :
    Calls Tryd.prog 16 #[.slice (some ⟨g, 0, none⟩) n cap] w fun e w' => e = .returned (.int .u32 ((4294967295 ^^^ Oc.crc 4294967295 ls.flatten : Nat) : Int)) ∧ Below w.heap.size w w' := by
  have hl : ls.length = n := by have := h.1; have := hp.1; omega
  refine sum_any g 0 n cap ls w hn hl (fun _ => (h.lt g rfl).2) (fun k hk => ?_)
  obtain ⟨x, m, c, h1, h2, h3⟩ := hp.2 k (by omega)
  refine ⟨x, m, c, ?_, h2, h3⟩
  rw [Nat.zero_add, h.cellAt k (by omega)]
  exact h1
theorem sum_ownv {w : World} {base n : Nat} {v : Value} {els : List Value} {ls : List (List Nat)} (h : w.ownsRow base 27 1 v n els) (h0 : 0 < n) (hp : Pieces w els ls) (hn : n ≤ 140737488355328) :
    Calls Tryd.prog 16 #[v] w fun e w' => e = .returned (.int .u32 ((4294967295 ^^^ Oc.crc 4294967295 ls.flatten : Nat) : Int)) ∧ Below w.heap.size w w' := by
  rcases h.2 with ⟨_, hz⟩ | ⟨g, cap, cur, rfl, _⟩
  · omega
  · exact sum_own h hp hn
end Go.Proofs.YtjgdebifomkkcabDoor
