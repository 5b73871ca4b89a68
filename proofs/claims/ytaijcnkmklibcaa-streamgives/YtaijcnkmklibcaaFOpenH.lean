
/- number, part, readHead. -/
import Derived.Test.YtaijcnkmklibcaaFSeal
import Derived.Test.YtaijcnkmklibcaaFHead
namespace Go.Proofs.Ytaijcnkmklibcaa
open Go.RowKit Go.Deep
set_option linter.unusedVariables false
set_option linter.unusedSimpArgs false

set_option maxHeartbeats 1000000 in
theorem number_yes (a : Option Addr) (n cap i k : Nat) (l : List Nat) (w : World) (h1 : 1 ≤ k) (h7 : k ≤ 7) (hik : i + k ≤ n) (hcap : n ≤ cap) (hn : n ≤ 281474976710656) (hrd : Rd w a n l) (x y : Int) (hx : x = i) (hy : y = (i + k : Nat)) :
    Calls Try.prog 73 #[.slice a n cap, .int .i64 x, .int .i64 y] w fun e w' => e = .returned (.tuple #[.int .i64 ((getN ((l.drop i).take k) : Nat) : Int), .int .i64 0]) ∧ w = w' := by
  subst hx hy
  have HG := hide (get_yes a n cap i k l w h1 (by omega) hik hcap hn hrd)
  have hlt : getN ((l.drop i).take k) < 72057594037927936 := by
    have h2 := getN_lt ((l.drop i).take k) (fun c hc => hrd.2.1 c (List.mem_of_mem_drop (List.mem_of_mem_take hc)))
    have h3 : 256 ^ ((l.drop i).take k).length ≤ 256 ^ 7 := Nat.pow_le_pow_right (by omega) (by rw [List.length_take]; omega)
    have h4 : (256 : Nat) ^ 7 = 72057594037927936 := by decide
    omega
  generalize getN ((l.drop i).take k) = y at *
  have hs : ((i + k : Nat) : Int) - (i : Int) = (k : Int) := by omega
  have hs2 : ((i : Int) + (k : Int)) - (i : Int) = (k : Int) := by omega
  have hi : i ≤ 281474976710656 := by omega
  clear hrd
  go_enter Try.func73, Try.ntmps73
  go_wp2_with (go_at_call 63; (try rw [hs2]); refine HG.out.mono ?_; rintro e w' ⟨rfl, rfl⟩)
  go_ret2
  exact ⟨rfl, rfl⟩
set_option maxHeartbeats 1000000 in
theorem number_no (a : Option Addr) (n cap i k : Nat) (w : World) (h1 : 1 ≤ k) (h7 : k ≤ 7) (hi : i ≤ n) (hik : n < i + k) (hn : n ≤ 281474976710656) (x y : Int) (hx : x = i) (hy : y = (i + k : Nat)) :
    Calls Try.prog 73 #[.slice a n cap, .int .i64 x, .int .i64 y] w fun e w' => e = .returned (.tuple #[.int .i64 0, .int .i64 10]) ∧ w = w' := by
  subst hx hy
  have HG := hide (get_short a n cap i k w (by omega) (by omega) (by omega) (by omega) hn (by omega))
  have hs2 : ((i : Int) + (k : Int)) - (i : Int) = (k : Int) := by omega
  have hi2 : i ≤ 281474976710656 := by omega
  go_enter Try.func73, Try.ntmps73
  go_wp2_with (go_at_call 63; (try rw [hs2]); refine HG.out.mono ?_; rintro e w' ⟨rfl, rfl⟩)
  go_ret2
  exact ⟨rfl, rfl⟩

set_option maxRecDepth 100000 in
set_option maxHeartbeats 2000000 in
theorem part_any (a : Option Addr) (n cap i j : Nat) (l : List Nat) (w : World) (hr : Rd w a n l) (hij : i ≤ j) (hj : j ≤ n) (hcap : n ≤ cap) (hc : n ≤ 281474976710656) (hb : j ≤ 2000000) :
    Calls Try.prog 71 #[.slice a n cap, .int .i64 (i : Int), .int .i64 (j : Int)] w fun e w' => e = .returned (.slice (some ⟨w.heap.size, 0, none⟩) (j - i) (j - i)) ∧ Bl w' w.heap.size ((l.drop i).take (j - i)) ∧ w'.heap.size = w.heap.size + 1 ∧ Below w.heap.size w w' := by
  have hcut := cut3 a n cap i j (i : Int) (j : Int) rfl rfl hij (by omega)
  obtain ⟨A, hA⟩ : ∃ A, A = (if j = i then a else a.map (fun p => p.add i)) := ⟨_, rfl⟩
  rw [← hA] at hcut
  obtain ⟨m, hm⟩ : ∃ m, m = j - i := ⟨_, rfl⟩
  rw [← hm] at hcut ⊢
  have HR : Hid (Rd w A m ((l.drop i).take m)) := hr.cut (by omega) (fun h0 b off h => by rw [hA, if_neg (by omega)]; exact map_add a i b off h)
  have hlm : ((l.drop i).take m).length = m := by simp [hr.1]; omega
  have hmk := run_make_row' (P := Try.prog) 33 5 (.int .u8 0) 1 Try.underlying33 Try.info5 rfl .i64 .i64 m (by omega) (by omega)
  have HBL : Hid (∀ c ∈ (l.drop i).take m, c < 256) := HR.out.2.1
  generalize (l.drop i).take m = t at *
  have HG0 := hide (Bl.made w m)
  have hb0 : Below w.heap.size w (w.alloc (.cells (madeCells #[.int .u8 0] m) 5)) := (Below.refl _ _).alloc (Nat.le_refl _) _
  have HB0 := hide hb0
  have HR0 := hide (HR.out.below hb0)
  clear hr hA hb0 hm
  go_enter Try.func71, Try.ntmps71
  go_wp2_with (refine wpList_copy_bl rfl (.tmp 17) (.tmp 18) rfl (some ⟨w.heap.size, 0, none⟩) A m m m m rfl rfl w.heap.size 0 (List.replicate m 0) HG0.out t (by rw [hlm]; exact (Nat.min_self m).symm) (fun _ => rfl) HR0.out (by rw [hlm, List.length_replicate]; omega) w.heap.size w HB0.out (Nat.le_refl _) ?_; intro w1 HG1 hb1 hsz1; have HB1 := hide hb1; have HS1 : Hid (w1.heap.size = w.heap.size + 1) := hsz1.trans (by simp); clear hb1 hsz1)
  go_ret
  have e : List.take 0 (List.replicate m 0) ++ (t ++ List.drop (0 + t.length) (List.replicate m 0)) = t := by simp [hlm]
  have h := HG1.out
  rw [e] at h
  exact ⟨rfl, h, HS1.out, HB1.out⟩

/-- what a head says -/
def hSize (l : List Nat) : Nat := getN (l.take 4)
def hBegin (l : List Nat) : Nat := l.getD 4 0 * 4
def hKind (l : List Nat) : Nat := l.getD 5 0
def hChan (l : List Nat) : Nat := if l.getD 5 0 = 0 then getN ((l.drop 6).take 2) else 0
/-- why a frame can't be read -/
def hE (l : List Nat) (most : Int) : Int :=
  if l.length < 4 then 10 else if hSize l < 8 ∨ most < hSize l then 51 else if l.length < 5 then 10 else if hBegin l < 8 ∨ hSize l < hBegin l then 52
  else if l.length < 6 then 10 else if 1 < hKind l then 53 else if l.length < hSize l then 10 else 0
theorem hE_ways (l : List Nat) (most : Int) (n : Nat) (hn : l.length = n) :
    (n < 4 ∧ hE l most = 10) ∨ (4 ≤ n ∧ hSize l < 8 ∧ hE l most = 51) ∨ (4 ≤ n ∧ 8 ≤ hSize l ∧ most < hSize l ∧ hE l most = 51) ∨ (4 ≤ n ∧ 8 ≤ hSize l ∧ (hSize l : Int) ≤ most ∧ n < 5 ∧ hE l most = 10) ∨
    (5 ≤ n ∧ 8 ≤ hSize l ∧ (hSize l : Int) ≤ most ∧ hBegin l < 8 ∧ hE l most = 52) ∨ (5 ≤ n ∧ 8 ≤ hSize l ∧ (hSize l : Int) ≤ most ∧ 8 ≤ hBegin l ∧ hSize l < hBegin l ∧ hE l most = 52) ∨
    (5 ≤ n ∧ n < 6 ∧ 8 ≤ hSize l ∧ (hSize l : Int) ≤ most ∧ 8 ≤ hBegin l ∧ hBegin l ≤ hSize l ∧ hE l most = 10) ∨
    (6 ≤ n ∧ 8 ≤ hSize l ∧ (hSize l : Int) ≤ most ∧ 8 ≤ hBegin l ∧ hBegin l ≤ hSize l ∧ 1 < hKind l ∧ hE l most = 53) ∨
    (6 ≤ n ∧ 8 ≤ hSize l ∧ (hSize l : Int) ≤ most ∧ 8 ≤ hBegin l ∧ hBegin l ≤ hSize l ∧ hKind l ≤ 1 ∧ n < hSize l ∧ hE l most = 10) ∨
    (6 ≤ n ∧ 8 ≤ hSize l ∧ (hSize l : Int) ≤ most ∧ 8 ≤ hBegin l ∧ hBegin l ≤ hSize l ∧ hKind l ≤ 1 ∧ hSize l ≤ n ∧ hE l most = 0) := by
  unfold hE
  rw [hn]
  by_cases h1 : n < 4
  · rw [if_pos h1]; exact .inl ⟨h1, rfl⟩
  · rw [if_neg h1]
    by_cases h2 : hSize l < 8 ∨ most < hSize l
    · rw [if_pos h2]
      by_cases hs : hSize l < 8
      · exact .inr (.inl ⟨by omega, hs, rfl⟩)
      · exact .inr (.inr (.inl ⟨by omega, by omega, by omega, rfl⟩))
    · rw [if_neg h2]
      by_cases h3 : n < 5
      · rw [if_pos h3]; exact .inr (.inr (.inr (.inl ⟨by omega, by omega, by omega, h3, rfl⟩)))
      · rw [if_neg h3]
        by_cases h4 : hBegin l < 8 ∨ hSize l < hBegin l
        · rw [if_pos h4]
          by_cases hb : hBegin l < 8
          · exact .inr (.inr (.inr (.inr (.inl ⟨by omega, by omega, by omega, hb, rfl⟩))))
          · exact .inr (.inr (.inr (.inr (.inr (.inl ⟨by omega, by omega, by omega, by omega, by omega, rfl⟩)))))
        · rw [if_neg h4]
          by_cases h5 : n < 6
          · rw [if_pos h5]; exact .inr (.inr (.inr (.inr (.inr (.inr (.inl ⟨by omega, h5, by omega, by omega, by omega, by omega, rfl⟩))))))
          · rw [if_neg h5]
            by_cases h6 : 1 < hKind l
            · rw [if_pos h6]; exact .inr (.inr (.inr (.inr (.inr (.inr (.inr (.inl ⟨by omega, by omega, by omega, by omega, by omega, h6, rfl⟩)))))))
            · rw [if_neg h6]
              by_cases h7 : n < hSize l
              · rw [if_pos h7]; exact .inr (.inr (.inr (.inr (.inr (.inr (.inr (.inr (.inl ⟨by omega, by omega, by omega, by omega, by omega, by omega, h7, rfl⟩))))))))
              · rw [if_neg h7]; exact .inr (.inr (.inr (.inr (.inr (.inr (.inr (.inr (.inr (⟨by omega, by omega, by omega, by omega, by omega, by omega, by omega, rfl⟩)))))))))
theorem getN_one (l : List Nat) (i : Nat) (h : i < l.length) : getN ((l.drop i).take 1) = l.getD i 0 := by
  rw [List.take_one, List.head?_drop, List.getElem?_eq_getElem h]
  simp [getN, List.getD_eq_getElem?_getD, List.getElem?_eq_getElem h]
theorem hE_ok {l : List Nat} {most : Int} (h : hE l most = 0) : 6 ≤ l.length ∧ 8 ≤ hSize l ∧ (hSize l : Int) ≤ most ∧ 8 ≤ hBegin l ∧ hBegin l ≤ hSize l ∧ hKind l ≤ 1 ∧ hSize l ≤ l.length := by
  rcases hE_ways l most _ rfl with ⟨_, e⟩ | ⟨_, _, e⟩ | ⟨_, _, _, e⟩ | ⟨_, _, _, _, e⟩ | ⟨_, _, _, _, e⟩ | ⟨_, _, _, _, _, e⟩ | ⟨_, _, _, _, _, _, e⟩ | ⟨_, _, _, _, _, _, e⟩ | ⟨_, _, _, _, _, _, _, e⟩ | ⟨h1, h2, h3, h4, h5, h6, h7, e⟩
  all_goals first | exact ⟨h1, h2, h3, h4, h5, h6, h7⟩ | (rw [h] at e; exact absurd e (by decide))
end Go.Proofs.Ytaijcnkmklibcaa
