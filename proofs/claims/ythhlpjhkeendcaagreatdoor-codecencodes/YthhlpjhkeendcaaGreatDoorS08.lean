/- CApartM -/
import Derived.Test.YthhlpjhkeendcaaGreatDoorS03
import Derived.Test.YthhlpjhkeendcaaGreatDoorS07
namespace Go.Proofs.YthhlpjhkeendcaaGreatDoor
set_option linter.unusedVariables false
set_option linter.unusedSimpArgs false
theorem flat_lt' {l : List V} {f : V → List Nat} (h : ∀ x ∈ l, ∀ c ∈ f x, c < 256) : ∀ c ∈ (l.map f).flatten, c < 256 := by
  intro c hc
  obtain ⟨k, hk, hck⟩ := List.mem_flatten.1 hc
  obtain ⟨x, hx, rfl⟩ := List.mem_map.1 hk
  exact h x hx c hck
theorem app_lt {x y : List Nat} (hx : ∀ c ∈ x, c < 256) (hy : ∀ c ∈ y, c < 256) : ∀ c ∈ x ++ y, c < 256 := fun c hc => (List.mem_append.1 hc).elim (hx c) (hy c)
theorem cons_lt {a : Nat} {y : List Nat} (ha : a < 256) (hy : ∀ c ∈ y, c < 256) : ∀ c ∈ a :: y, c < 256 := fun c hc => (List.mem_cons.1 hc).elim (fun e => by rw [e]; exact ha) (hy c)
theorem pick_lt' (k : Nat) (b : Bool) : pickC k b < 256 := by
  by_cases h : k < 25
  · exact pick_lt k h b
  · have h1 : codeS[k]? = none := List.getElem?_eq_none (by simp [codeS]; omega)
    have h2 : codeL[k]? = none := List.getElem?_eq_none (by simp [codeL]; omega)
    unfold pickC
    rw [List.getD_eq_getElem?_getD, List.getD_eq_getElem?_getD, h1, h2]
    cases b <;> simp
theorem code_lt (t : T) : T.code t < 256 := by
  unfold T.code codeG
  split
  · split <;> omega
  split
  · omega
  split
  · omega
  split
  · omega
  · exact pick_lt' _ _
theorem data_lt : ∀ t : T, ∀ c0, ∀ c ∈ T.data t c0, c < 256 := by
  refine V.ind ?_
  intro k n s a cc e l ih c0
  rw [data_of]
  have henc : ∀ c ∈ encs l, c < 256 := flat_lt' (fun x hx => cons_lt (code_lt x) (ih x hx _))
  have hdat : ∀ q, ∀ c ∈ datas q l, c < 256 := fun q => flat_lt' (fun x hx => ih x hx q)
  have hac : T.acode (V.of k n s a cc e l) < 256 := pick_lt' _ _
  split
  · simp
  split
  · exact app_lt (digs_lt _ _) (txt_lt s)
  split
  · exact app_lt (digs_lt _ _) (txt_lt s)
  split
  · exact txt_lt s
  split
  · exact app_lt (digs_lt _ _) (app_lt (digs_lt _ _) (cons_lt hac (hdat _)))
  split
  · exact app_lt (digs_lt _ _) (app_lt (digs_lt _ _) (cons_lt hac (hdat _)))
  split
  · exact app_lt (digs_lt _ _) (app_lt (digs_lt _ _) henc)
  split
  · exact app_lt (digs_lt _ _) (app_lt (digs_lt _ _) henc)
  split
  · exact henc
  · exact digs_lt _ _
theorem enc_lt (t : T) : ∀ c ∈ T.enc t, c < 256 := cons_lt (code_lt t) (data_lt t _)
open Go.RowKit
end Go.Proofs.YthhlpjhkeendcaaGreatDoor
