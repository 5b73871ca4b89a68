
/- Stage 13: gaps of any table; from; way; Range. -/
import Derived.Test.YtondbhdlccpklaaQGapsB
namespace Go.Proofs.Ytondbhdlccpklaa
open Go.RowKit Go.Maps
set_option linter.unusedVariables false
set_option linter.unusedSimpArgs false

/-! ### sorted lists -/
theorem sorted_eq : ∀ {l l' : List Int}, l.Pairwise (fun x y => x ≤ y) → l'.Pairwise (fun x y => x ≤ y) → l.Perm l' → l = l'
  | [], l', _, _, hp => hp.nil_eq
  | a :: t, [], _, _, hp => absurd hp.length_eq (by simp)
  | a :: t, b :: t', h1, h2, hp => by
    have h1' := List.pairwise_cons.1 h1
    have h2' := List.pairwise_cons.1 h2
    have hab : a = b := by
      have ha : a ∈ b :: t' := hp.mem_iff.1 (List.mem_cons_self ..)
      have hb : b ∈ a :: t := hp.mem_iff.2 (List.mem_cons_self ..)
      rcases List.mem_cons.1 ha with e | ha
      · exact e
      · rcases List.mem_cons.1 hb with e | hb
        · exact e.symm
        · have := h1'.1 b hb
          have := h2'.1 a ha
          omega
    subst hab
    rw [sorted_eq h1'.2 h2'.2 (List.Perm.cons_inv hp)]
theorem srt_sorted (l : List Int) : (srt l).Pairwise (fun x y => x ≤ y) := by
  have := List.pairwise_mergeSort (le := fun x y : Int => decide (x ≤ y)) (fun a b c h1 h2 => by simp at *; omega) (fun a b => by simp; omega) l
  exact this.imp (fun h => by simpa using h)
theorem srt_perm_self (l : List Int) : (srt l).Perm l := List.mergeSort_perm _ _
theorem srt_perm {l l' : List Int} (h : l.Perm l') : srt l = srt l' :=
  sorted_eq (srt_sorted l) (srt_sorted l') (((srt_perm_self l).trans h).trans (srt_perm_self l').symm)
theorem srt_of_sorted {l : List Int} (h : l.Pairwise (fun x y => x ≤ y)) : srt l = l := sorted_eq (srt_sorted l) h (srt_perm_self l)

def gsL (L : List (Int × Pd)) (first far : Int) : List Int := srt ((L.map fun p => gapZ first p.1).filter (gin far))
def Words {A : Type} (L : List (Int × A)) : Prop := ∀ p ∈ L, 0 ≤ p.1 ∧ p.1 ≤ 4294967295
theorem gap_inj {f a b : Int} (hf : 0 ≤ f ∧ f ≤ 4294967295) (ha : 0 ≤ a ∧ a ≤ 4294967295) (hb : 0 ≤ b ∧ b ≤ 4294967295) (h : gapZ f a = gapZ f b) : a = b := by
  unfold gapZ at h
  omega
theorem gap_add {f k : Int} (hf : 0 ≤ f ∧ f ≤ 4294967295) (hk : 0 ≤ k ∧ k ≤ 4294967295) : (f + gapZ f k) % 4294967296 = k := by
  unfold gapZ
  omega
theorem add_gap {f d : Int} (hf : 0 ≤ f ∧ f ≤ 4294967295) (hd : 0 ≤ d ∧ d ≤ 2147483647) : gapZ f ((f + d) % 4294967296) = d := by
  unfold gapZ
  omega
theorem gapA_eq {L : List (Int × Pd)} {first far : Int} (hn : (L.map (·.1)).Nodup) (hw : Words L) (hf : 0 ≤ first ∧ first ≤ 4294967295) (hr : far ≤ 2147483647) : gapA L first (far + 1).toNat = gsL L first far := by
  have hs : (gapA L first (far + 1).toNat).Pairwise (fun x y => x < y) := by
    unfold gapA
    rw [List.pairwise_map]
    refine List.Pairwise.imp (fun h => ?_) (List.Pairwise.sublist List.filter_sublist List.pairwise_lt_range)
    omega
  unfold gsL
  rw [← srt_of_sorted (hs.imp (fun h => by omega))]
  apply srt_perm
  rw [List.perm_ext_iff_of_nodup (hs.imp (fun h => by omega)) ?_]
  · intro d
    unfold gapA
    simp only [List.mem_map, List.mem_filter, List.mem_range, gin, Bool.and_eq_true, decide_eq_true_eq]
    constructor
    · rintro ⟨n, ⟨h1, h2⟩, rfl⟩
      obtain ⟨p, hp, he⟩ := List.any_eq_true.1 h2
      simp at he
      refine ⟨⟨p, hp, ?_⟩, by omega, by omega⟩
      rw [he]
      exact add_gap hf ⟨by omega, by omega⟩
    · rintro ⟨⟨p, hp, rfl⟩, h1, h2⟩
      refine ⟨(gapZ first p.1).toNat, ⟨by omega, ?_⟩, by omega⟩
      have e : ((gapZ first p.1).toNat : Int) = gapZ first p.1 := by omega
      rw [e, gap_add hf (hw p hp)]
      exact any_iff.2 (List.mem_map_of_mem hp)
  · refine List.Nodup.sublist List.filter_sublist ?_
    rw [List.Nodup, List.pairwise_map]
    rw [List.Nodup, List.pairwise_map] at hn
    refine List.Pairwise.imp_of_mem ?_ hn
    intro a b ha hb hne he
    exact hne (gap_inj hf (hw a ha) (hw b hb) he)
theorem gaps_any (b : Nat) (L : List (Int × Pd)) (first far : Int) (w : World) (hT : TbP w b L) (hw : Words L) (hf : 0 ≤ first ∧ first ≤ 4294967295) (hlo : -2147483648 ≤ far) (hhi : far ≤ 2147483647) (hL : L.length ≤ 4294967296) :
    Calls Try.prog 78 #[.map (some b), .int .i64 first, .int .i64 far] w fun e w' => ∃ v, e = .returned v ∧ OwnI w' w.heap.size v (gsL L first far) ∧ Below w.heap.size w w' := by
  have hn : (L.map (·.1)).Nodup := by obtain ⟨D, _, h⟩ := hT; exact h.1
  by_cases h : far < (L.length : Int)
  · refine (gaps_few b L first far w hT h hlo hL).mono ?_
    rintro e w' ⟨v, rfl, h1, h2⟩
    exact ⟨v, rfl, by rw [← gapA_eq hn hw hf hhi]; exact h1, h2⟩
  · refine (gaps_many b L first far w hT (by omega) hL).mono ?_
    rintro e w' ⟨v, ds, rfl, h1, h2, h3⟩
    refine ⟨v, rfl, ?_, h3⟩
    unfold gsL
    rw [← srt_perm h2]
    exact h1
theorem gsL_len (L : List (Int × Pd)) (first far : Int) : (gsL L first far).length ≤ L.length := by
  unfold gsL srt
  rw [List.length_mergeSort]
  exact Nat.le_trans (List.length_filter_le _ _) (by simp)
/-- the slice's form -/
theorem own_form {w : World} {base : Nat} {v : Value} {ds : List Int} (h : OwnI w base v ds) : (v = .slice none 0 0 ∧ ds = []) ∨ ∃ g cap, v = .slice (some ⟨g, 0, none⟩) ds.length cap ∧ base ≤ g ∧ g < w.heap.size ∧ ∀ j (hj : j < ds.length), w.cell? ⟨g, j, none⟩ = some (.int .i64 ds[j]) := by
  rcases h.2 with ⟨h1, h2⟩ | ⟨g, cap, cur, rfl, r1, r2, r3, r4, r5, r6⟩
  · exact .inl ⟨h1, List.length_eq_zero_iff.1 h2⟩
  · refine .inr ⟨g, cap, rfl, r1, (Array.getElem?_eq_some_iff.1 r2).1, fun j hj => ?_⟩
    rw [World.ownsRow.cellAt h j (by omega), List.getElem?_map, List.getElem?_eq_getElem hj]
    rfl
def thing (L : List (Int × Pd)) (first d : Int) : Pd := lu pd0 L ((first + d) % 4294967296)
def rgL (L : List (Int × Pd)) (first last : Int) : List Pd := (gsL L first (gapZ first last)).map (thing L first)
theorem cell_pd_new (w : World) (p : Pd) (t : TypeId) : ∀ j u, (pdL p)[j]? = some u → (w.alloc (.cells #[.int .i64 p.1, .int .i64 p.2.1, .string p.2.2] t)).cell? ((⟨w.heap.size, 0, none⟩ : Addr).add j) = some u := by
  intro j u hj
  match j, hj with
  | 0, hj => simp [pdL] at hj; subst hj; simp [Addr.add]
  | 1, hj => simp [pdL] at hj; subst hj; simp [Addr.add]
  | 2, hj => simp [pdL] at hj; subst hj; simp [Addr.add]
  | j + 3, hj => simp [pdL] at hj
theorem pd_one (p : Pd) : ∀ u ∈ pdL p, u.oneCell' = true := by
  intro u hu
  simp [pdL] at hu
  rcases hu with rfl | rfl | rfl <;> rfl
theorem flatP_snoc (ps : List Pd) (p : Pd) : flatP (ps ++ [p]) = flatP ps ++ pdL p := by simp [flatP]
end Go.Proofs.Ytondbhdlccpklaa
