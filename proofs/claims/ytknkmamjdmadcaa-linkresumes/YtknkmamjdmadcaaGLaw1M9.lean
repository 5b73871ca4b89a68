import Derived.Test.YtknkmamjdmadcaaGResMM9

/- Stage 14: the law's first, among, outcome. -/
namespace Go.Proofs.Ytknkmamjdmadcaa.G
open Go.RowKit Go.Maps
set_option linter.unusedVariables false
set_option linter.unusedSimpArgs false

theorem range_head {w : World} {b o : Nat} {v : Value} {cs : List Value} (h : w.rangeAt b o (v :: cs)) : w.cell? ⟨b, o, none⟩ = some v := h 0 v rfl
/-- where a tag stands first -/
def FirstAt (ps : List Un) (tag : ByteArray) (r : Int) : Prop := (r = -1 ∧ hasK ps tag = false) ∨ ∃ (j : Nat) (hj : j < ps.length), r = j ∧ ps[j].1 = tag ∧ hasK (ps.take j) tag = false
set_option maxRecDepth 100000 in
set_option maxHeartbeats 2000000 in
theorem first_any (ps : List Un) (pa : Option Addr) (pc : Nat) (tag : ByteArray) (w : World) (hP : RdP w pa ps) (hl : ps.length ≤ 100000000) :
    Calls Try.prog 16 #[.slice pa ps.length pc, .string tag] w fun e w' => (∃ r : Int, e = .returned (.int .i64 r) ∧ FirstAt ps tag r) ∧ Below w.heap.size w w' := by
  have HP := hide hP
  clear hP
  go_enter Try.func16, Try.ntmps16
  go_wp2
  go_loopw [5] (fun u wr => ∃ i : Nat, u = .int .i64 i ∧ i ≤ ps.length ∧ Below w.heap.size w wr ∧ Hid (hasK (ps.take i) tag = false)) (fun u _ => ps.length + 1 - (intOf u).toNat)
  case atStart => exact ⟨0, rfl, by omega, Below.refl _ _, rfl⟩
  case round =>
    obtain ⟨i, rfl, hi, hb, HN⟩ := hrel
    have hsz := hb.size
    by_cases hil : i < ps.length
    · obtain ⟨b, off, rfl, hbl, hrg⟩ := (HP.out.below hb) i hil
      have hcell := range_head hrg
      clear hrg
      by_cases hk : ps[i].1 = tag
      · rw [hk] at hcell
        have HC : Hid (FirstAt ps tag i) := .inr ⟨i, hil, rfl, hk, HN.out⟩
        clear hk HN
        go_wp2
        exact bodyPost_ret (v := .int .i64 i) (by simp [results, Try.results16, go_sem]) rfl ⟨⟨i, rfl, HC.out⟩, hb⟩
      · have HNX : Hid (hasK (ps.take (i + 1)) tag = false) := by
          show _ = _
          rw [hasK_take ps i hil, HN.out]
          simp
          exact fun e => hk e.symm
        generalize ps[i].1 = x at hcell hk
        have hkb : (x.toList == tag.toList) = false := by
          rw [beq_eq_false_iff_ne]
          exact fun h => hk (ba_list h)
        clear HN
        go_wp2
        go_roundw
        case rel => exact ⟨i + 1, by go_num, by omega, hb, HNX⟩
        case measure => simp [intOf]; omega
    · have hie : i = ps.length := by omega
      subst hie
      have HC : Hid (FirstAt ps tag (-1)) := .inl ⟨rfl, by have := HN.out; rwa [List.take_length] at this⟩
      clear HN
      go_wp2
      exact bodyPost_ret (v := .int .i64 (-1)) (by simp [results, Try.results16, go_sem]) rfl ⟨⟨-1, rfl, HC.out⟩, hb⟩
set_option maxRecDepth 100000 in
set_option maxHeartbeats 2000000 in
theorem among_yes (ks : List Rs) (pa : Option Addr) (pc : Nat) (tag : ByteArray) (w : World) (hP : RdR w pa ks) (hl : ks.length ≤ 200000000) (hm : tag ∈ ks.map (·.1)) :
    Calls Try.prog 18 #[.slice pa ks.length pc, .string tag] w fun e w' => e = .returned (.bool true) ∧ Below w.heap.size w w' := by
  have HP := hide hP
  have HM := hide hm
  clear hP hm
  go_enter Try.func18, Try.ntmps18
  go_wp2
  go_loopw [5] (fun u wr => ∃ i : Nat, u = .int .i64 i ∧ i ≤ ks.length ∧ Below w.heap.size w wr ∧ Hid (tag ∉ (ks.take i).map (·.1))) (fun u _ => ks.length + 1 - (intOf u).toNat)
  case atStart => exact ⟨0, rfl, by omega, Below.refl _ _, by show _ ∉ _; simp⟩
  case round =>
    obtain ⟨i, rfl, hi, hb, HN⟩ := hrel
    have hsz := hb.size
    by_cases hil : i < ks.length
    · obtain ⟨b, off, rfl, hbl, hc1, _⟩ := HP.out i hil
      have hcell : wr.cell? ⟨b, off + i * 2, none⟩ = some (.string ks[i].1) := (World.cell?_of_block (a := ⟨b, off + i * 2, none⟩) (hb.block b hbl)).trans hc1
      have hbw : b < wr.heap.size := by omega
      clear hc1
      by_cases hk : ks[i].1 = tag
      · rw [hk] at hcell
        clear hk HN
        go_wp2
        exact bodyPost_ret (v := .bool true) (by simp [results, Try.results18, go_sem]) rfl ⟨rfl, hb⟩
      · have HNX : Hid (tag ∉ (ks.take (i + 1)).map (·.1)) := by
          show _ ∉ _
          rw [List.take_succ_eq_append_getElem hil, List.map_append, List.mem_append]
          exact fun h => h.elim HN.out (fun h => hk (by have h2 := h; simp at h2; exact h2.symm))
        generalize ks[i].1 = x at hcell hk
        have hkb : (x.toList == tag.toList) = false := by
          rw [beq_eq_false_iff_ne]
          exact fun h => hk (ba_list h)
        clear HN
        go_wp2
        go_roundw
        case rel => exact ⟨i + 1, by go_num, by omega, hb, HNX⟩
        case measure => simp [intOf]; omega
    · have hie : i = ks.length := by omega
      subst hie
      exact absurd HM.out (by have := HN.out; rwa [List.take_length] at this)
theorem fin_iff (k : Int) : fin k = (decide (36 ≤ k) && decide (k ≤ 39)) := by
  have h1 : fin k = decide (k ∈ outs) := by simp [fin]
  rw [h1, Bool.eq_iff_iff]
  simp [outs]
  omega
set_option maxRecDepth 100000 in
set_option maxHeartbeats 1000000 in
theorem lawOut_any (s : Sw) (w : World) :
    Calls Try.prog 17 #[.agg s.A] w fun e w' => e = .returned (.bool (fin s.k)) ∧ Below w.heap.size w w' := by
  obtain ⟨V, hV⟩ : ∃ V, w.alloc (.cells s.A 53) = V := ⟨_, rfl⟩
  have c0 : V.cell? ⟨w.heap.size, 0, none⟩ = some (.int .i64 s.k) := cellOf (hV ▸ heap_alloc_last w _ : V.heap[w.heap.size]? = some (.cells s.A 53 (0, 0))) 0 (.int .i64 s.k) rfl
  have hs : V.heap.size = w.heap.size + 1 := by rw [← hV]; simp
  have HB : Hid (Below w.heap.size w V) := hV ▸ bel1 (Below.refl _ _) (Nat.le_refl _) _
  have HV := hide hV
  clear hV
  rw [fin_iff]
  generalize s.k = k at c0
  by_cases h1 : 36 ≤ k
  · have hd1 : decide (36 ≤ k) = true := by simpa using h1
    by_cases h2 : k ≤ 39
    · have hd2 : decide (k ≤ 39) = true := by simpa using h2
      go_enter Try.func17, Try.ntmps17
      go_wp2_with (first | rw [HV.out])
      go_ret
      exact ⟨by simp [h1, h2], HB.out⟩
    · have hd2 : decide (k ≤ 39) = false := by simpa using h2
      go_enter Try.func17, Try.ntmps17
      go_wp2_with (first | rw [HV.out])
      go_ret
      exact ⟨by simp [h1, h2], HB.out⟩
  · have hd1 : decide (36 ≤ k) = false := by simpa using h1
    go_enter Try.func17, Try.ntmps17
    go_wp2_with (first | rw [HV.out])
    go_ret
    exact ⟨by simp [h1], HB.out⟩
end Go.Proofs.Ytknkmamjdmadcaa.G
