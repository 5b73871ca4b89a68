/- HRNameA, HRKind -/
import Derived.Test.YtgldcchleoklcaaGreatDoorK33
import Derived.Test.YtgldcchleoklcaaGreatDoorK32
import Derived.Test.YtgldcchleoklcaaGreatDoorK31
namespace Go.Proofs.YtgldcchleoklcaaGreatDoor

open Go.RowKit
set_option linter.unusedVariables false
set_option linter.unusedSimpArgs false
/-- what Name answers of a number -/
def RName (k : Int) : Prop := (∃ r ∈ krows, r.1 = k ∧ r.2.1.toList.isEmpty = false ∧ r.2.1.size ≤ 100 ∧ ∀ w, Calls Tryz.prog 11 #[.int .i64 k] w fun e w' => e = .returned (.string r.2.1) ∧ Below w.heap.size w w') ∨
  ((∀ r ∈ krows, r.1 ≠ k) ∧ ∀ w, Calls Tryz.prog 11 #[.int .i64 k] w fun e w' => e = .returned (.string ⟨#[]⟩) ∧ Below w.heap.size w w')
set_option maxRecDepth 100000 in
theorem krows_mem (i : Nat) (h : i < 36) : krows[i]'(by rw [krows_len]; exact h) ∈ krows := List.getElem_mem _
set_option maxRecDepth 100000 in
theorem rname_any (k : Int) : RName k := by
  by_cases h : k = 16 ∨ k = 17 ∨ k = 18 ∨ k = 19 ∨ k = 20 ∨ k = 21 ∨ k = 22 ∨ k = 23 ∨ k = 24 ∨ k = 29 ∨ k = 35 ∨ k = 36 ∨ k = 37 ∨ k = 38 ∨ k = 39 ∨ k = 40 ∨ k = 41 ∨ k = 48 ∨ k = 49 ∨ k = 50 ∨ k = 51 ∨ k = 52 ∨ k = 64 ∨ k = 65 ∨ k = 66 ∨ k = 67 ∨ k = 68 ∨ k = 112 ∨ k = 115 ∨ k = 113 ∨ k = 114 ∨ k = 116 ∨ k = 120 ∨ k = 117 ∨ k = 118 ∨ k = 119
  · rcases h with rfl | rfl | rfl | rfl | rfl | rfl | rfl | rfl | rfl | rfl | rfl | rfl | rfl | rfl | rfl | rfl | rfl | rfl | rfl | rfl | rfl | rfl | rfl | rfl | rfl | rfl | rfl | rfl | rfl | rfl | rfl | rfl | rfl | rfl | rfl | rfl
    · exact .inl ⟨_, krows_mem 0 (by decide), rfl, by kernel_rfl, of_decide_eq_true (by kernel_rfl), rname_16⟩
    · exact .inl ⟨_, krows_mem 1 (by decide), rfl, by kernel_rfl, of_decide_eq_true (by kernel_rfl), rname_17⟩
    · exact .inl ⟨_, krows_mem 2 (by decide), rfl, by kernel_rfl, of_decide_eq_true (by kernel_rfl), rname_18⟩
    · exact .inl ⟨_, krows_mem 3 (by decide), rfl, by kernel_rfl, of_decide_eq_true (by kernel_rfl), rname_19⟩
    · exact .inl ⟨_, krows_mem 4 (by decide), rfl, by kernel_rfl, of_decide_eq_true (by kernel_rfl), rname_20⟩
    · exact .inl ⟨_, krows_mem 5 (by decide), rfl, by kernel_rfl, of_decide_eq_true (by kernel_rfl), rname_21⟩
    · exact .inl ⟨_, krows_mem 6 (by decide), rfl, by kernel_rfl, of_decide_eq_true (by kernel_rfl), rname_22⟩
    · exact .inl ⟨_, krows_mem 7 (by decide), rfl, by kernel_rfl, of_decide_eq_true (by kernel_rfl), rname_23⟩
    · exact .inl ⟨_, krows_mem 8 (by decide), rfl, by kernel_rfl, of_decide_eq_true (by kernel_rfl), rname_24⟩
    · exact .inl ⟨_, krows_mem 9 (by decide), rfl, by kernel_rfl, of_decide_eq_true (by kernel_rfl), rname_29⟩
    · exact .inl ⟨_, krows_mem 10 (by decide), rfl, by kernel_rfl, of_decide_eq_true (by kernel_rfl), rname_35⟩
    · exact .inl ⟨_, krows_mem 11 (by decide), rfl, by kernel_rfl, of_decide_eq_true (by kernel_rfl), rname_36⟩
    · exact .inl ⟨_, krows_mem 12 (by decide), rfl, by kernel_rfl, of_decide_eq_true (by kernel_rfl), rname_37⟩
    · exact .inl ⟨_, krows_mem 13 (by decide), rfl, by kernel_rfl, of_decide_eq_true (by kernel_rfl), rname_38⟩
    · exact .inl ⟨_, krows_mem 14 (by decide), rfl, by kernel_rfl, of_decide_eq_true (by kernel_rfl), rname_39⟩
    · exact .inl ⟨_, krows_mem 15 (by decide), rfl, by kernel_rfl, of_decide_eq_true (by kernel_rfl), rname_40⟩
    · exact .inl ⟨_, krows_mem 16 (by decide), rfl, by kernel_rfl, of_decide_eq_true (by kernel_rfl), rname_41⟩
    · exact .inl ⟨_, krows_mem 17 (by decide), rfl, by kernel_rfl, of_decide_eq_true (by kernel_rfl), rname_48⟩
    · exact .inl ⟨_, krows_mem 18 (by decide), rfl, by kernel_rfl, of_decide_eq_true (by kernel_rfl), rname_49⟩
    · exact .inl ⟨_, krows_mem 19 (by decide), rfl, by kernel_rfl, of_decide_eq_true (by kernel_rfl), rname_50⟩
    · exact .inl ⟨_, krows_mem 20 (by decide), rfl, by kernel_rfl, of_decide_eq_true (by kernel_rfl), rname_51⟩
    · exact .inl ⟨_, krows_mem 21 (by decide), rfl, by kernel_rfl, of_decide_eq_true (by kernel_rfl), rname_52⟩
    · exact .inl ⟨_, krows_mem 22 (by decide), rfl, by kernel_rfl, of_decide_eq_true (by kernel_rfl), rname_64⟩
    · exact .inl ⟨_, krows_mem 23 (by decide), rfl, by kernel_rfl, of_decide_eq_true (by kernel_rfl), rname_65⟩
    · exact .inl ⟨_, krows_mem 24 (by decide), rfl, by kernel_rfl, of_decide_eq_true (by kernel_rfl), rname_66⟩
    · exact .inl ⟨_, krows_mem 25 (by decide), rfl, by kernel_rfl, of_decide_eq_true (by kernel_rfl), rname_67⟩
    · exact .inl ⟨_, krows_mem 26 (by decide), rfl, by kernel_rfl, of_decide_eq_true (by kernel_rfl), rname_68⟩
    · exact .inl ⟨_, krows_mem 27 (by decide), rfl, by kernel_rfl, of_decide_eq_true (by kernel_rfl), rname_112⟩
    · exact .inl ⟨_, krows_mem 28 (by decide), rfl, by kernel_rfl, of_decide_eq_true (by kernel_rfl), rname_115⟩
    · exact .inl ⟨_, krows_mem 29 (by decide), rfl, by kernel_rfl, of_decide_eq_true (by kernel_rfl), rname_113⟩
    · exact .inl ⟨_, krows_mem 30 (by decide), rfl, by kernel_rfl, of_decide_eq_true (by kernel_rfl), rname_114⟩
    · exact .inl ⟨_, krows_mem 31 (by decide), rfl, by kernel_rfl, of_decide_eq_true (by kernel_rfl), rname_116⟩
    · exact .inl ⟨_, krows_mem 32 (by decide), rfl, by kernel_rfl, of_decide_eq_true (by kernel_rfl), rname_120⟩
    · exact .inl ⟨_, krows_mem 33 (by decide), rfl, by kernel_rfl, of_decide_eq_true (by kernel_rfl), rname_117⟩
    · exact .inl ⟨_, krows_mem 34 (by decide), rfl, by kernel_rfl, of_decide_eq_true (by kernel_rfl), rname_118⟩
    · exact .inl ⟨_, krows_mem 35 (by decide), rfl, by kernel_rfl, of_decide_eq_true (by kernel_rfl), rname_119⟩
  · refine .inr ⟨fun r hr hk => h ?_, fun w => ?_⟩
    · obtain ⟨i, hi, rfl⟩ := List.mem_iff_getElem.1 hr
      have hi' : i < 36 := hi
      subst hk
      match i, hi' with
      | 0, _ => exact (.inl rfl)
      | 1, _ => exact (.inr (.inl rfl))
      | 2, _ => exact (.inr (.inr (.inl rfl)))
      | 3, _ => exact (.inr (.inr (.inr (.inl rfl))))
      | 4, _ => exact (.inr (.inr (.inr (.inr (.inl rfl)))))
      | 5, _ => exact (.inr (.inr (.inr (.inr (.inr (.inl rfl))))))
      | 6, _ => exact (.inr (.inr (.inr (.inr (.inr (.inr (.inl rfl)))))))
      | 7, _ => exact (.inr (.inr (.inr (.inr (.inr (.inr (.inr (.inl rfl))))))))
      | 8, _ => exact (.inr (.inr (.inr (.inr (.inr (.inr (.inr (.inr (.inl rfl)))))))))
      | 9, _ => exact (.inr (.inr (.inr (.inr (.inr (.inr (.inr (.inr (.inr (.inl rfl))))))))))
      | 10, _ => exact (.inr (.inr (.inr (.inr (.inr (.inr (.inr (.inr (.inr (.inr (.inl rfl)))))))))))
      | 11, _ => exact (.inr (.inr (.inr (.inr (.inr (.inr (.inr (.inr (.inr (.inr (.inr (.inl rfl))))))))))))
      | 12, _ => exact (.inr (.inr (.inr (.inr (.inr (.inr (.inr (.inr (.inr (.inr (.inr (.inr (.inl rfl)))))))))))))
      | 13, _ => exact (.inr (.inr (.inr (.inr (.inr (.inr (.inr (.inr (.inr (.inr (.inr (.inr (.inr (.inl rfl))))))))))))))
      | 14, _ => exact (.inr (.inr (.inr (.inr (.inr (.inr (.inr (.inr (.inr (.inr (.inr (.inr (.inr (.inr (.inl rfl)))))))))))))))
      | 15, _ => exact (.inr (.inr (.inr (.inr (.inr (.inr (.inr (.inr (.inr (.inr (.inr (.inr (.inr (.inr (.inr (.inl rfl))))))))))))))))
      | 16, _ => exact (.inr (.inr (.inr (.inr (.inr (.inr (.inr (.inr (.inr (.inr (.inr (.inr (.inr (.inr (.inr (.inr (.inl rfl)))))))))))))))))
      | 17, _ => exact (.inr (.inr (.inr (.inr (.inr (.inr (.inr (.inr (.inr (.inr (.inr (.inr (.inr (.inr (.inr (.inr (.inr (.inl rfl))))))))))))))))))
      | 18, _ => exact (.inr (.inr (.inr (.inr (.inr (.inr (.inr (.inr (.inr (.inr (.inr (.inr (.inr (.inr (.inr (.inr (.inr (.inr (.inl rfl)))))))))))))))))))
      | 19, _ => exact (.inr (.inr (.inr (.inr (.inr (.inr (.inr (.inr (.inr (.inr (.inr (.inr (.inr (.inr (.inr (.inr (.inr (.inr (.inr (.inl rfl))))))))))))))))))))
      | 20, _ => exact (.inr (.inr (.inr (.inr (.inr (.inr (.inr (.inr (.inr (.inr (.inr (.inr (.inr (.inr (.inr (.inr (.inr (.inr (.inr (.inr (.inl rfl)))))))))))))))))))))
      | 21, _ => exact (.inr (.inr (.inr (.inr (.inr (.inr (.inr (.inr (.inr (.inr (.inr (.inr (.inr (.inr (.inr (.inr (.inr (.inr (.inr (.inr (.inr (.inl rfl))))))))))))))))))))))
      | 22, _ => exact (.inr (.inr (.inr (.inr (.inr (.inr (.inr (.inr (.inr (.inr (.inr (.inr (.inr (.inr (.inr (.inr (.inr (.inr (.inr (.inr (.inr (.inr (.inl rfl)))))))))))))))))))))))
      | 23, _ => exact (.inr (.inr (.inr (.inr (.inr (.inr (.inr (.inr (.inr (.inr (.inr (.inr (.inr (.inr (.inr (.inr (.inr (.inr (.inr (.inr (.inr (.inr (.inr (.inl rfl))))))))))))))))))))))))
      | 24, _ => exact (.inr (.inr (.inr (.inr (.inr (.inr (.inr (.inr (.inr (.inr (.inr (.inr (.inr (.inr (.inr (.inr (.inr (.inr (.inr (.inr (.inr (.inr (.inr (.inr (.inl rfl)))))))))))))))))))))))))
      | 25, _ => exact (.inr (.inr (.inr (.inr (.inr (.inr (.inr (.inr (.inr (.inr (.inr (.inr (.inr (.inr (.inr (.inr (.inr (.inr (.inr (.inr (.inr (.inr (.inr (.inr (.inr (.inl rfl))))))))))))))))))))))))))
      | 26, _ => exact (.inr (.inr (.inr (.inr (.inr (.inr (.inr (.inr (.inr (.inr (.inr (.inr (.inr (.inr (.inr (.inr (.inr (.inr (.inr (.inr (.inr (.inr (.inr (.inr (.inr (.inr (.inl rfl)))))))))))))))))))))))))))
      | 27, _ => exact (.inr (.inr (.inr (.inr (.inr (.inr (.inr (.inr (.inr (.inr (.inr (.inr (.inr (.inr (.inr (.inr (.inr (.inr (.inr (.inr (.inr (.inr (.inr (.inr (.inr (.inr (.inr (.inl rfl))))))))))))))))))))))))))))
      | 28, _ => exact (.inr (.inr (.inr (.inr (.inr (.inr (.inr (.inr (.inr (.inr (.inr (.inr (.inr (.inr (.inr (.inr (.inr (.inr (.inr (.inr (.inr (.inr (.inr (.inr (.inr (.inr (.inr (.inr (.inl rfl)))))))))))))))))))))))))))))
      | 29, _ => exact (.inr (.inr (.inr (.inr (.inr (.inr (.inr (.inr (.inr (.inr (.inr (.inr (.inr (.inr (.inr (.inr (.inr (.inr (.inr (.inr (.inr (.inr (.inr (.inr (.inr (.inr (.inr (.inr (.inr (.inl rfl))))))))))))))))))))))))))))))
      | 30, _ => exact (.inr (.inr (.inr (.inr (.inr (.inr (.inr (.inr (.inr (.inr (.inr (.inr (.inr (.inr (.inr (.inr (.inr (.inr (.inr (.inr (.inr (.inr (.inr (.inr (.inr (.inr (.inr (.inr (.inr (.inr (.inl rfl)))))))))))))))))))))))))))))))
      | 31, _ => exact (.inr (.inr (.inr (.inr (.inr (.inr (.inr (.inr (.inr (.inr (.inr (.inr (.inr (.inr (.inr (.inr (.inr (.inr (.inr (.inr (.inr (.inr (.inr (.inr (.inr (.inr (.inr (.inr (.inr (.inr (.inr (.inl rfl))))))))))))))))))))))))))))))))
      | 32, _ => exact (.inr (.inr (.inr (.inr (.inr (.inr (.inr (.inr (.inr (.inr (.inr (.inr (.inr (.inr (.inr (.inr (.inr (.inr (.inr (.inr (.inr (.inr (.inr (.inr (.inr (.inr (.inr (.inr (.inr (.inr (.inr (.inr (.inl rfl)))))))))))))))))))))))))))))))))
      | 33, _ => exact (.inr (.inr (.inr (.inr (.inr (.inr (.inr (.inr (.inr (.inr (.inr (.inr (.inr (.inr (.inr (.inr (.inr (.inr (.inr (.inr (.inr (.inr (.inr (.inr (.inr (.inr (.inr (.inr (.inr (.inr (.inr (.inr (.inr (.inl rfl))))))))))))))))))))))))))))))))))
      | 34, _ => exact (.inr (.inr (.inr (.inr (.inr (.inr (.inr (.inr (.inr (.inr (.inr (.inr (.inr (.inr (.inr (.inr (.inr (.inr (.inr (.inr (.inr (.inr (.inr (.inr (.inr (.inr (.inr (.inr (.inr (.inr (.inr (.inr (.inr (.inr (.inl rfl)))))))))))))))))))))))))))))))))))
      | 35, _ => exact (.inr (.inr (.inr (.inr (.inr (.inr (.inr (.inr (.inr (.inr (.inr (.inr (.inr (.inr (.inr (.inr (.inr (.inr (.inr (.inr (.inr (.inr (.inr (.inr (.inr (.inr (.inr (.inr (.inr (.inr (.inr (.inr (.inr (.inr (.inr rfl)))))))))))))))))))))))))))))))))))
      | n + 36, h => omega
    · refine rname_no k (fun n hn => ?_) ?_ ?_ ?_ ?_ w
      · rw [beq_eq_false_iff_ne]
        rintro rfl
        simp only [List.mem_cons, List.not_mem_nil, or_false] at hn
        omega
      · by_cases h1 : 35 ≤ k
        · exact .inr ⟨decide_eq_true h1, decide_eq_false (by omega)⟩
        · exact .inl (decide_eq_false h1)
      · by_cases h1 : 48 ≤ k
        · exact .inr ⟨decide_eq_true h1, decide_eq_false (by omega)⟩
        · exact .inl (decide_eq_false h1)
      · by_cases h1 : 64 ≤ k
        · exact .inr ⟨decide_eq_true h1, decide_eq_false (by omega)⟩
        · exact .inl (decide_eq_false h1)
      · by_cases h1 : 112 ≤ k
        · exact .inr ⟨decide_eq_true h1, decide_eq_false (by omega)⟩
        · exact .inl (decide_eq_false h1)
set_option maxRecDepth 100000 in
theorem krows_pos (j : Nat) (h : j < krows.length) : 1 ≤ krows[j].1 := by
  have h' : j < 36 := h
  match j, h' with
  | 0, _ => exact of_decide_eq_true rfl
  | 1, _ => exact of_decide_eq_true rfl
  | 2, _ => exact of_decide_eq_true rfl
  | 3, _ => exact of_decide_eq_true rfl
  | 4, _ => exact of_decide_eq_true rfl
  | 5, _ => exact of_decide_eq_true rfl
  | 6, _ => exact of_decide_eq_true rfl
  | 7, _ => exact of_decide_eq_true rfl
  | 8, _ => exact of_decide_eq_true rfl
  | 9, _ => exact of_decide_eq_true rfl
  | 10, _ => exact of_decide_eq_true rfl
  | 11, _ => exact of_decide_eq_true rfl
  | 12, _ => exact of_decide_eq_true rfl
  | 13, _ => exact of_decide_eq_true rfl
  | 14, _ => exact of_decide_eq_true rfl
  | 15, _ => exact of_decide_eq_true rfl
  | 16, _ => exact of_decide_eq_true rfl
  | 17, _ => exact of_decide_eq_true rfl
  | 18, _ => exact of_decide_eq_true rfl
  | 19, _ => exact of_decide_eq_true rfl
  | 20, _ => exact of_decide_eq_true rfl
  | 21, _ => exact of_decide_eq_true rfl
  | 22, _ => exact of_decide_eq_true rfl
  | 23, _ => exact of_decide_eq_true rfl
  | 24, _ => exact of_decide_eq_true rfl
  | 25, _ => exact of_decide_eq_true rfl
  | 26, _ => exact of_decide_eq_true rfl
  | 27, _ => exact of_decide_eq_true rfl
  | 28, _ => exact of_decide_eq_true rfl
  | 29, _ => exact of_decide_eq_true rfl
  | 30, _ => exact of_decide_eq_true rfl
  | 31, _ => exact of_decide_eq_true rfl
  | 32, _ => exact of_decide_eq_true rfl
  | 33, _ => exact of_decide_eq_true rfl
  | 34, _ => exact of_decide_eq_true rfl
  | 35, _ => exact of_decide_eq_true rfl
  | n + 36, h => omega
end Go.Proofs.YtgldcchleoklcaaGreatDoor
namespace Go.Proofs.YtgldcchleoklcaaGreatDoor

open Go.RowKit
set_option linter.unusedVariables false
set_option linter.unusedSimpArgs false
set_option maxRecDepth 100000 in
theorem keys_idx : (List.range 36).all (fun i => (List.range 36).all fun j => decide ((krows.map Prod.fst)[i]? = (krows.map Prod.fst)[j]? → i = j)) = true := by kernel_rfl
theorem key_once {r r' : Int × ByteArray × Value} (h : r ∈ krows) (h' : r' ∈ krows) (e : r.1 = r'.1) : r.2.1 = r'.2.1 := by
  obtain ⟨i, hi, rfl⟩ := List.mem_iff_getElem.1 h
  obtain ⟨j, hj, rfl⟩ := List.mem_iff_getElem.1 h'
  have hi' : i < 36 := hi
  have hj' : j < 36 := hj
  have h1 := List.all_eq_true.1 (List.all_eq_true.1 keys_idx i (List.mem_range.2 hi')) j (List.mem_range.2 hj')
  have h2 := of_decide_eq_true h1 (by rw [List.getElem?_map, List.getElem?_map, List.getElem?_eq_getElem hi, List.getElem?_eq_getElem hj, Option.map_some, Option.map_some, e])
  subst h2
  rfl
theorem krows_top (j : Nat) (h : j < krows.length) : krows[j].1 < 200 := by
  have h1 : krows.all (fun r => decide (r.1 < 200)) = true := by kernel_rfl
  exact of_decide_eq_true (List.all_eq_true.1 h1 _ (List.getElem_mem h))
set_option maxRecDepth 100000 in
set_option maxHeartbeats 4000000 in
theorem rkind_any (v : V) (n₀ : Nat) (w : World) (hn : n₀ ≤ w.heap.size) (hl : Lies n₀ w v) :
    Calls Tryz.prog 45 #[v.val] w (KindPost (kindV v.k v.l) w) := by
  obtain ⟨k, n, s, a, c, e, l, rfl⟩ := V.ex v
  rw [V.k_of, V.l_of]
  have HM := hide hl
  have hll := hl.ok.c
  have hlc := hl.ok.l
  clear hl
  rw [V.val_of]
  by_cases hk : k = 24
  · subst hk
    by_cases h2 : l.length = 2
    · obtain ⟨x, y, rfl⟩ : ∃ x y, l = [x, y] := by
        match l, h2 with
        | [x, y], _ => exact ⟨x, y, rfl⟩
      rw [kindV_two]
      obtain ⟨b, o, rfl, hlt, hr⟩ := HM.out.row (by simp)
      have hx := HM.out.sub x (by simp)
      have hr0 := hr 0 (by simp)
      obtain ⟨W0, hW0⟩ : ∃ W0, w.alloc (Obj.cells #[.int .i64 24, .int .u64 n, .string s, .slice (some ⟨b, o, none⟩) 2 c, .int .i64 e] 42) = W0 := ⟨_, rfl⟩
      have hs0 : W0.heap.size = w.heap.size + 1 := by rw [← hW0]; simp
      have hb0 : Below w.heap.size w W0 := by rw [← hW0]; exact bel1 (Below.refl _ _) (Nat.le_refl _) _
      have hv0 : W0.cell? ⟨w.heap.size, 3, none⟩ = some (.slice (some ⟨b, o, none⟩) 2 c) := by
        rw [← hW0]
        unfold World.cell?
        simp only [World.alloc_heap_new]
        rfl
      have HC : Hid (∀ W', Below W0.heap.size W0 W' → W'.cell? ⟨w.heap.size, 3, none⟩ = some (.slice (some ⟨b, o, none⟩) 2 c) ∧ W'.cell? ⟨b, o, none⟩ = some (.int .i64 x.k) ∧ W'.cell? ⟨b, o + 1, none⟩ = some (.int .u64 x.n) ∧ W'.cell? ⟨b, o + 2, none⟩ = some (.string x.s) ∧ W'.cell? ⟨b, o + 3, none⟩ = some (.slice x.a x.l.length x.c) ∧ W'.cell? ⟨b, o + 4, none⟩ = some (.int .i64 x.e)) := by
        intro W' hb'
        have hbW := belOn hb0 (by omega) hb'
        have e1 : ∀ o', W'.cell? ⟨b, o', none⟩ = w.cell? ⟨b, o', none⟩ := fun o' => hbW.cell (p := ⟨b, o', none⟩) (by show b < _; omega)
        have e3 : W'.cell? ⟨w.heap.size, 3, none⟩ = W0.cell? ⟨w.heap.size, 3, none⟩ := hb'.cell (p := ⟨w.heap.size, 3, none⟩) (by show w.heap.size < _; omega)
        obtain ⟨q0, q1, q2, q3, q4⟩ := hr0
        exact ⟨e3.trans hv0, (e1 _).trans q0, (e1 _).trans q1, (e1 _).trans q2, (e1 _).trans q3, (e1 _).trans q4⟩
      have HX := hide hx
      have HW0 := hide hW0
      clear hx HM hW0 hr hr0 hv0
      show Calls Tryz.prog 45 #[.agg #[.int .i64 24, .int .u64 n, .string s, .slice (some ⟨b, o, none⟩) 2 c, .int .i64 e]] w _
      go_enter Tryz.func45, Tryz.ntmps45
      go_wp2
      rw [HW0.out]
      clear HW0
      go_loopw [4] (fun u wr => ∃ i : Nat, u = .int .i64 i ∧ 1 ≤ i ∧ i ≤ 200 ∧ Below W0.heap.size W0 wr ∧ Hid (∀ r ∈ krows, r.1 < i → isRow x.t r = false)) (fun u _ => 201 - (intOf u).toNat)
      case atStart => exact ⟨1, rfl, by omega, by omega, Below.refl _ _, fun r hr h => by
        obtain ⟨j, hj, rfl⟩ := List.mem_iff_getElem.1 hr
        have := (krows_pos j hj)
        omega⟩
      case round =>
        obtain ⟨i, rfl, hi1, hi, hb, HO⟩ := hrel
        have hsz := hb.size
        have hbw : Below w.heap.size w wr := belOn hb0 (by omega) hb
        by_cases h200 : i < 200
        · rcases rname_any (i : Int) with ⟨r, hr, hri, hrn, hrs, hN⟩ | ⟨hno, hN⟩
          · have HN := hide (hN wr)
            have HR := hide hr
            have HRI := hide hri
            have HRS := hide hrs
            generalize hm : r.2.1 = m1 at HN hrn HRS
            have HM1 := hide hm
            clear hN hr hri hm hrs
            go_wp2_with fail
            refine HN.out.mono ?_
            rintro e1 w1 ⟨rfl, hb1⟩
            have hb01 := belOn hb hsz hb1
            obtain ⟨p0, p1, p2, p3, p4, p5⟩ := HC.out _ hb01
            have hs1 := hb01.size
            have hbw1 : Below w.heap.size w w1 := belOn hb0 (by omega) hb01
            have hwl : w.heap.size < w1.heap.size := by omega
            have hbl : b < w1.heap.size := by omega
            have he := requal_any x (leaf 5 i ⟨#[]⟩) n₀ w1 (by omega) (HX.out.keep hbw1 hn) (leaf_lies _ _ _ _ _ (by decide) ⟨by omega, by omega⟩ (by decide))
            rw [leaf_val, V.val_eq] at he
            have HE := hide he
            clear he
            go_wp2_with fail
            refine HE.out.mono ?_
            rintro e2 w2 ⟨rfl, hb2⟩
            have hb02 := belOn hb01 hs1 hb2
            obtain ⟨q0, q1, q2, q3, q4, q5⟩ := HC.out _ hb02
            have hs2 := hb02.size
            have hbw2 : Below w.heap.size w w2 := belOn hb0 (by omega) hb02
            have hwl2 : w.heap.size < w2.heap.size := by omega
            have hbl2 : b < w2.heap.size := by omega
            have he2 := requal_any x (leaf 20 0 m1) n₀ w2 (by omega) (HX.out.keep hbw2 hn) (leaf_lies _ _ _ _ _ (by decide) (by decide) (by have := HRS.out; omega))
            rw [leaf_val, V.val_eq] at he2
            have HE2 := hide he2
            have HROW : Hid (isRow x.t r = (eqT x.t (leaf 5 i ⟨#[]⟩).t || eqT x.t (leaf 20 0 m1).t)) := by
              rw [Hid]; unfold isRow; rw [HRI.out, HM1.out]
            clear he2 p0 p1 p2 p3 p4 p5 HE
            generalize eqT x.t (leaf 5 i ⟨#[]⟩).t = A at HROW
            generalize eqT x.t (leaf 20 0 m1).t = B at HROW HE2
            go_wp2_with fail
            refine HE2.out.mono ?_
            rintro e3 w3 ⟨rfl, hb3⟩
            have hb03 := belOn hb02 hs2 hb3
            have hbw3 : Below w.heap.size w w3 := belOn hb0 (by omega) hb03
            have HYES : Hid (isRow x.t r = true → KindPost (kindL x.t krows) w (.returned (.tuple #[.int .i64 i, .bool true])) w3) := by
              intro hy
              have hk : kindL x.t krows = some (i : Int) := by
                cases hkk : kindL x.t krows with
                | none =>
                  have := kindL_none hkk r HR.out
                  rw [hy] at this
                  cases this
                | some k =>
                  obtain ⟨r', h1, h2, h3⟩ := kindL_some hkk
                  rw [← h2, ← row_once HR.out h1 hy h3, HRI.out]
              rw [hk]
              exact ⟨rfl, hbw3⟩
            have HNEXT : Hid (isRow x.t r = false → ∀ r' ∈ krows, r'.1 < ((i + 1 : Nat) : Int) → isRow x.t r' = false) := by
              intro hf r' h1 h2
              by_cases e : r'.1 = r.1
              · have : isRow x.t r' = isRow x.t r := by
                  have e2 := key_once h1 HR.out e
                  unfold isRow
                  rw [e, e2]
                rw [this, hf]
              · have := HRI.out
                exact HO.out r' h1 (by omega)
            clear HO HR HRI HM1 HE2 HN
            cases A <;> cases B
            · go_wp2
              go_roundw
              case rel => exact ⟨i + 1, by go_num, by omega, by omega, hb03, HNEXT.out HROW.out⟩
              case measure => simp [intOf]; omega
            · go_wp2
              exact bodyPost_ret (v := .tuple #[.int .i64 i, .bool true]) (by simp [results, Tryz.results45, go_sem]) rfl (HYES.out HROW.out)
            · go_wp2
              exact bodyPost_ret (v := .tuple #[.int .i64 i, .bool true]) (by simp [results, Tryz.results45, go_sem]) rfl (HYES.out HROW.out)
            · go_wp2
              exact bodyPost_ret (v := .tuple #[.int .i64 i, .bool true]) (by simp [results, Tryz.results45, go_sem]) rfl (HYES.out HROW.out)
          · have HN := hide (hN wr)
            have HNO := hide hno
            clear hN hno
            have HNEXT : Hid (∀ r' ∈ krows, r'.1 < ((i + 1 : Nat) : Int) → isRow x.t r' = false) := by
              intro r' h1 h2
              have := HNO.out r' h1
              exact HO.out r' h1 (by omega)
            clear HO HNO
            go_wp2_with fail
            refine HN.out.mono ?_
            rintro e1 w1 ⟨rfl, hb1⟩
            have hb01 := belOn hb hsz hb1
            go_wp2
            go_roundw
            case rel => exact ⟨i + 1, by go_num, by omega, by omega, hb01, HNEXT.out⟩
            case measure => simp [intOf]; omega
        · have hkn : kindL x.t krows = none := by
            cases hkk : kindL x.t krows with
            | none => rfl
            | some k =>
              obtain ⟨r', h1, h2, h3⟩ := kindL_some hkk
              obtain ⟨j, hj, hje⟩ := List.mem_iff_getElem.1 h1
              have h4 := (krows_top j hj)
              rw [hje] at h4
              have := HO.out r' h1 (by omega)
              rw [h3] at this
              cases this
          have HKN := hide hkn
          clear hkn HO
          go_wp2
          exact bodyPost_ret (v := .tuple #[.int .i64 0, .bool false]) (by simp [results, Tryz.results45, go_sem]) rfl ⟨by rw [HKN.out]; rfl, hbw⟩
    · rw [kindV_l _ h2]
      go_enter Tryz.func45, Tryz.ntmps45
      have h2' : ((l.length : Int) == 2) = false := by rw [beq_eq_false_iff_ne]; omega
      have h2n : ((l.length : Int) != 2) = true := by simpa using h2'
      go_wp2
      exact bodyPost_ret (v := .tuple #[.int .i64 0, .bool false]) (by simp [results, Tryz.results45, go_sem]) rfl ⟨rfl, bel1 (Below.refl _ _) (Nat.le_refl _) _⟩
  · rw [kindV_k hk]
    go_enter Tryz.func45, Tryz.ntmps45
    have hkb : ((k : Int) == 24) = false := by simpa using hk
    have hkn : (k != 24) = true := by simpa using hk
    go_wp2
    exact bodyPost_ret (v := .tuple #[.int .i64 0, .bool false]) (by simp [results, Tryz.results45, go_sem]) rfl ⟨rfl, bel1 (Below.refl _ _) (Nat.le_refl _) _⟩
end Go.Proofs.YtgldcchleoklcaaGreatDoor
