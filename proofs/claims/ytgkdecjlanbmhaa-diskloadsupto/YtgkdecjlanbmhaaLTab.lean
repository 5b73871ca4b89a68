
/- Tables: maps by texts, told by lists of pairs. -/
import Derived.Maps.RangeWalk
import Derived.OwnWalk
namespace Go.Proofs.Ytgkdecjlanbmhaa
open Go.RowKit Go.Maps
set_option linter.unusedVariables false
set_option linter.unusedSimpArgs false

def Rp {A : Type} (mk : A → Value) (D : DataW Value) (l : List (ByteArray × A)) : Prop :=
  (l.map (·.1)).Nodup ∧ ∃ es, D = .map es ∧ es.Perm (l.map fun p => (Lit.string p.1.data.toList, DataW.held (mk p.2)))

section
variable {A : Type} {mk : A → Value} {D : DataW Value} {l l' : List (ByteArray × A)} {k : ByteArray} {x : A}

theorem Rp.nil : Rp mk (.map []) ([] : List (ByteArray × A)) := ⟨by simp, [], rfl, .nil⟩

theorem Rp.perm (h : Rp mk D l) (hp : l.Perm l') : Rp mk D l' := by
  obtain ⟨hn, es, rfl, he⟩ := h
  exact ⟨(hp.map _).nodup_iff.1 hn, es, rfl, he.trans (hp.map _)⟩

theorem Rp.size (h : Rp mk D l) : Maps.size D = l.length := by
  obtain ⟨hn, es, rfl, he⟩ := h
  simpa [Maps.size_eq] using he.length_eq

theorem ba_eq {a b : ByteArray} (h : a.data.toList = b.data.toList) : a = b := by
  cases a; cases b
  simp at h
  rw [h]
theorem lit_same (a b : ByteArray) : (Lit.string a.data.toList).sameKey (.string b.data.toList) = decide (a = b) := by
  simp only [Lit.sameKey]
  by_cases h : a = b
  · simp [h]
  · have : (a.data.toList == b.data.toList) = false := by rw [beq_eq_false_iff_ne]; exact fun e => h (ba_eq e)
    rw [this]
    simp [h]

theorem Rp.has (h : Rp mk D l) (k : ByteArray) : Maps.has D (.string k.data.toList) = l.any (fun p => decide (p.1 = k)) := by
  obtain ⟨hn, es, rfl, he⟩ := h
  rw [Maps.has_eq, he.any_eq, List.any_map]
  congr 1
  funext p
  simp [lit_same]

theorem any_iff {l : List (ByteArray × A)} {k : ByteArray} : l.any (fun p => decide (p.1 = k)) = true ↔ k ∈ l.map (·.1) := by
  simp [List.any_eq_true]

theorem any_not {l : List (ByteArray × A)} {k : ByteArray} : l.any (fun p => decide (p.1 = k)) = false ↔ k ∉ l.map (·.1) := by
  rw [← Bool.not_eq_true, any_iff]

theorem Rp.at (h : Rp mk D l) (hx : (k, x) ∈ l) (z : DataW Value) : D.atKey (.string k.data.toList) z = .held (mk x) := by
  obtain ⟨hn, es, rfl, he⟩ := h
  simp only [DataW.atKey]
  have hm : (Lit.string k.data.toList, DataW.held (mk x)) ∈ es := he.mem_iff.2 (List.mem_map.2 ⟨(k, x), hx, rfl⟩)
  cases hf : es.find? (fun p => p.1.sameKey (.string k.data.toList)) with
  | none =>
    have := List.find?_eq_none.1 hf _ hm
    simp [lit_same] at this
  | some p =>
    have hp := List.mem_of_find?_eq_some hf
    have hk := List.find?_some hf
    obtain ⟨q, hq, rfl⟩ := List.mem_map.1 (he.mem_iff.1 hp)
    simp [lit_same] at hk
    have : q = (k, x) := by
      have hinj : ∀ (l : List (ByteArray × A)), (l.map (·.1)).Nodup → ∀ a ∈ l, ∀ b ∈ l, a.1 = b.1 → a = b := by
        intro l
        induction l with
        | nil => intro _ a ha; cases ha
        | cons c t ih =>
          intro hnd a ha b hb hab
          simp only [List.map_cons, List.nodup_cons] at hnd
          rcases List.mem_cons.1 ha with ea | ha2
          · rcases List.mem_cons.1 hb with eb | hb2
            · rw [ea, eb]
            · exact absurd (ea ▸ hab ▸ List.mem_map_of_mem hb2) hnd.1
          · rcases List.mem_cons.1 hb with eb | hb2
            · exact absurd (eb ▸ hab ▸ List.mem_map_of_mem ha2) hnd.1
            · exact ih hnd.2 a ha2 b hb2 hab
      exact hinj l hn q hq (k, x) hx hk
    simp [this]

theorem Rp.at_none (h : Rp mk D l) (hx : k ∉ l.map (·.1)) (z : DataW Value) : D.atKey (.string k.data.toList) z = z :=
  Maps.atKey_of_not_has (by rw [h.has, any_not]; exact hx) z

theorem nodup_filter {l : List (ByteArray × A)} (h : (l.map (·.1)).Nodup) (f : ByteArray × A → Bool) : ((l.filter f).map (·.1)).Nodup :=
  List.Nodup.sublist (List.Sublist.map _ List.filter_sublist) h

theorem Rp.del (h : Rp mk D l) (k : ByteArray) : Rp mk (D.del (.string k.data.toList)) (l.filter fun p => !decide (p.1 = k)) := by
  obtain ⟨hn, es, rfl, he⟩ := h
  refine ⟨nodup_filter hn _, _, rfl, (he.filter _).trans ?_⟩
  rw [List.filter_map]
  refine (List.Perm.of_eq ?_)
  congr 2
  funext p
  simp [lit_same, bne]

theorem insert_perm (x : Lit × DataW Value) : ∀ l : List (Lit × DataW Value), (DataW.insert x l).Perm (x :: l)
  | [] => by simp [DataW.insert]
  | y :: r => by
    simp only [DataW.insert]
    split
    · exact .refl _
    · exact ((insert_perm x r).cons y).trans (List.Perm.swap x y r)

theorem Rp.put (h : Rp mk D l) (k : ByteArray) (x : A) : Rp mk (D.put (.string k.data.toList) (.held (mk x))) ((k, x) :: l.filter fun p => !decide (p.1 = k)) := by
  obtain ⟨hn', es', hd, he'⟩ := h.del k
  obtain ⟨hn, es, rfl, he⟩ := h
  refine ⟨?_, _, rfl, ?_⟩
  · simp only [List.map_cons, List.nodup_cons]
    refine ⟨?_, hn'⟩
    simp
  · refine (insert_perm _ _).trans ?_
    have : es' = es.filter (fun p => !p.1.sameKey (.string k.data.toList)) := by
      have := hd
      simp [DataW.del] at this
      exact this.symm
    rw [List.map_cons, ← this]
    exact he'.cons _

theorem filter_none {l : List (ByteArray × A)} {k : ByteArray} (h : k ∉ l.map (·.1)) : (l.filter fun p => !decide (p.1 = k)) = l := by
  rw [List.filter_eq_self]
  intro p hp
  have : ¬ p.1 = k := fun e => h (e ▸ List.mem_map_of_mem hp)
  simp [this]

end
end Go.Proofs.Ytgkdecjlanbmhaa
