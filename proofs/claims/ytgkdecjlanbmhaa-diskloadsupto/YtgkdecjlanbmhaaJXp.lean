
/- Stages 19, 20: rows of files that came in, rows of bytes; both Loads in full. -/
import Derived.Test.YtgkdecjlanbmhaaJXn
namespace Go.Proofs.Ytgkdecjlanbmhaa
open Go.RowKit Go.Maps Go.MuLone
set_option linter.unusedVariables false
set_option linter.unusedSimpArgs false
def lEnc (f : Lf) : List Value := [.string f.1, (match f.2.2.2 with | .slice a n c => .slice a n c | _ => .slice none 0 0), .int .i64 f.2.2.1]
def KX : WK Lf := ⟨lEnc, 3, 48, 44, 39⟩
theorem kxOk : KX.Ok := ⟨fun x => rfl, fun x u hu => by
  simp only [KX, lEnc, List.mem_cons, List.not_mem_nil, or_false] at hu
  rcases hu with rfl | rfl | rfl
  · rfl
  · cases x.2.2.2 <;> rfl
  · rfl, fkOk.und, fkOk.info, by decide, by decide, by decide, by decide⟩
theorem LdA_congr {L M : List Lf} (hl : M.length = L.length) (he : ∀ i (h : i < L.length) (h2 : i < M.length), M[i].1 = L[i].1 ∧ M[i].2.1 = L[i].2.1 ∧ M[i].2.2.1 = L[i].2.2.1) : LdA L → LdA M := fun h i hi => by
  have hiL : i < L.length := by omega
  obtain ⟨a, b, c, d⟩ := h i hiL
  obtain ⟨e1, e2, e3⟩ := he i hiL hi
  refine ⟨by rw [e1]; exact a, fun g hg => ?_, by rw [e3]; exact c, by rw [e3, e2]; exact d⟩
  obtain ⟨k, hk, rfl⟩ := List.getElem_of_mem hg
  rw [List.getElem_take]
  rw [List.length_take] at hk
  obtain ⟨f1, _, _⟩ := he k (by omega) (by omega)
  rw [f1, e1]
  have hkt : k < (L.take i).length := by rw [List.length_take]; omega
  have := b (L.take i)[k] (List.getElem_mem hkt)
  rwa [List.getElem_take] at this
theorem inF_congr {L M : List Lf} (hl : M.length = L.length) (he : ∀ i (h : i < L.length) (h2 : i < M.length), M[i].1 = L[i].1 ∧ M[i].2.1 = L[i].2.1 ∧ M[i].2.2.1 = L[i].2.2.1) : M.map inF = L.map inF := by
  refine List.ext_getElem (by simp [hl]) fun i h1 h2 => ?_
  rw [List.length_map] at h1 h2
  rw [List.getElem_map, List.getElem_map]
  obtain ⟨e1, e2, e3⟩ := he i h2 h1
  unfold inF
  rw [e1, e2, e3]
/-- what Load answers, both of them: nothing and why, or a disk -/
def LdK (n : Int) (L : List Lf) (k : Int) : Prop := ((n < 0 ∨ 16777216 < n) ∧ k = 1) ∨ (0 ≤ n ∧ n ≤ 16777216 ∧ ¬ LdA L ∧ k = 1) ∨ (0 ≤ n ∧ n ≤ 16777216 ∧ LdA L ∧ n < (usd (L.map inF) : Int) ∧ k = 190) ∨ (0 ≤ n ∧ n ≤ 16777216 ∧ LdA L ∧ (usd (L.map inF) : Int) ≤ n ∧ k = 0)
theorem LdK.ex (n : Int) (L : List Lf) : ∃ k, LdK n L k := by
  by_cases h0 : n < 0 ∨ 16777216 < n
  · exact ⟨1, .inl ⟨h0, rfl⟩⟩
  · by_cases h1 : LdA L
    · by_cases h2 : n < (usd (L.map inF) : Int)
      · exact ⟨190, .inr (.inr (.inl ⟨by omega, by omega, h1, h2, rfl⟩))⟩
      · exact ⟨0, .inr (.inr (.inr ⟨by omega, by omega, h1, by omega, rfl⟩))⟩
    · exact ⟨1, .inr (.inl ⟨by omega, by omega, h1, rfl⟩)⟩
theorem LdK.congr {n k : Int} {L M : List Lf} (h : LdK n L k) (hl : M.length = L.length) (he : ∀ i (h : i < L.length) (h2 : i < M.length), M[i].1 = L[i].1 ∧ M[i].2.1 = L[i].2.1 ∧ M[i].2.2.1 = L[i].2.2.1) : LdK n M k := by
  have e1 := inF_congr hl he
  have e2 : LdA L → LdA M := LdA_congr hl he
  have e3 : LdA M → LdA L := LdA_congr hl.symm (fun i h h2 => ⟨(he i h2 h).1.symm, (he i h2 h).2.1.symm, (he i h2 h).2.2.symm⟩)
  unfold LdK
  rw [e1]
  rcases h with h | ⟨a, b, c, d⟩ | ⟨a, b, c, d⟩ | ⟨a, b, c, d⟩
  · exact .inl h
  · exact .inr (.inl ⟨a, b, fun h => c (e3 h), d⟩)
  · exact .inr (.inr (.inl ⟨a, b, e2 c, d⟩))
  · exact .inr (.inr (.inr ⟨a, b, e2 c, d⟩))
/-- as many bytes as may be: small files -/
def LSm (L : List Lf) : Prop := (∀ f ∈ L, f.1.size ≤ 4611686018427387904 ∧ f.2.1.length ≤ 140737488355328) ∧ L.length ≤ 1000000000000 ∧ usd (L.map inF) ≤ 4611686018427387904
theorem usd_safe {L : List Lf} (h : LdA L) : ∀ f ∈ L.map inF, f.2.2 ≤ f.2.1.length := fun f hf => by
  obtain ⟨q, hq, rfl⟩ := List.mem_map.1 hf
  obtain ⟨i, hi, rfl⟩ := List.getElem_of_mem hq
  have h1 := (h i hi).2.2.2
  have h2 := (h i hi).2.2.1
  show L[i].2.2.1.toNat ≤ L[i].2.1.length
  omega
theorem ld_ok {n : Int} {L : List Lf} (h0 : 0 ≤ n) (h1 : n ≤ 16777216) (hA : LdA L) (hu : (usd (L.map inF) : Int) ≤ n) : DOk (dxl n (L.map inF)) (L.map inF) :=
  ⟨rfl, hu, h1, usd_safe hA, by show (-1 : Int) ≤ -1; omega, by show (-1 : Int) < _; omega, by show _ ≤ (0 : Int); omega, by show (0 : Int) < _; omega⟩
/-- the document's Load -/
theorem load_rk (w : World) (v : Value) (L : List Lf) (hL : LR w v L) (n k : Int) (hk : LdK n L k) (hs : LSm L) :
    Calls Try.prog 14 #[v, .int .i64 n] w fun e w' => Below w.heap.size w w' ∧ ((k ≠ 0 ∧ e = .returned (.tuple #[.pointer none, .int .i64 k])) ∨ (k = 0 ∧ ∃ lv W, e = .returned (.tuple #[.pointer (some ⟨w.heap.size, 0, none⟩), .int .i64 0]) ∧ XD w' w.heap.size w.heap.size lv (dxl n (L.map inF)) W ∧ (W.map (·.1)).Perm (L.map inF))) := by
  rcases hk with ⟨h, rfl⟩ | ⟨a, b, c, rfl⟩ | ⟨a, b, c, d, rfl⟩ | ⟨a, b, c, d, rfl⟩
  · have HN := hide (rnew_no w n h)
    obtain ⟨va, vc, rfl⟩ := hL.shp
    clear hL hs h
    go_enter Try.func14, Try.ntmps14
    go_wp2_with fail
    refine HN.out.mono ?_
    rintro e w1 ⟨rfl, hw1⟩
    obtain rfl := hw1.symm
    go_wp2_with fail
    go_ret2
    exact ⟨Below.refl _ _, .inl ⟨by omega, rfl⟩⟩
  · refine (load_r w v L hL n a b hs.1 hs.2.1 hs.2.2).mono ?_
    rintro e w' ⟨h, hb⟩
    rcases h with ⟨_, rfl⟩ | ⟨h, _⟩ | ⟨h, _⟩
    · exact ⟨hb, .inl ⟨by omega, rfl⟩⟩
    · exact absurd h c
    · exact absurd h c
  · refine (load_r w v L hL n a b hs.1 hs.2.1 hs.2.2).mono ?_
    rintro e w' ⟨h, hb⟩
    rcases h with ⟨h, _⟩ | ⟨_, _, rfl⟩ | ⟨_, h, _⟩
    · exact absurd c h
    · exact ⟨hb, .inl ⟨by omega, rfl⟩⟩
    · omega
  · refine (load_r w v L hL n a b hs.1 hs.2.1 hs.2.2).mono ?_
    rintro e w' ⟨h, hb⟩
    rcases h with ⟨h, _⟩ | ⟨_, h, _⟩ | ⟨_, _, lv, W, rfl, h1, h2⟩
    · exact absurd c h
    · omega
    · refine ⟨hb, .inr ⟨rfl, lv, W, rfl, ⟨h1.cong rfl rfl rfl rfl, (ld_ok a b c d).perm h2.symm, ?_⟩, h2⟩⟩
      have h3 := h2.length_eq
      rw [List.length_map, List.length_map] at h3
      have := hs.2.1
      omega
/-- the program's Load -/
theorem load_dk (w : World) (v : Value) (L : List Lf) (hL : LR w v L) (n k : Int) (hk : LdK n L k) (hs : LSm L) :
    Calls Try.prog 16 #[v, .int .i64 n] w fun e w' => Below w.heap.size w w' ∧ ((k ≠ 0 ∧ e = .returned (.tuple #[.pointer none, .int .i64 k])) ∨ (k = 0 ∧ ∃ d F, e = .returned (.tuple #[.pointer (some ⟨d, 0, none⟩), .int .i64 0]) ∧ DD (fun q => w.heap.size ≤ q) w' d (dxl n (L.map inF)) F ∧ F.Perm (L.map inF))) := by
  rcases hk with ⟨h, rfl⟩ | ⟨a, b, c, rfl⟩ | ⟨a, b, c, d, rfl⟩ | ⟨a, b, c, d, rfl⟩
  · have HN := hide (new_no w n h)
    obtain ⟨va, vc, rfl⟩ := hL.shp
    clear hL hs h
    go_enter Try.func16, Try.ntmps16
    go_wp2_with fail
    refine HN.out.mono ?_
    rintro e w1 ⟨rfl, hb1⟩
    have HB1 := hide hb1
    clear hb1
    go_wp2_with fail
    go_ret2
    exact ⟨HB1.out, .inl ⟨by omega, rfl⟩⟩
  · refine (load_d w v L hL n a b hs.1 hs.2.1 hs.2.2).mono ?_
    rintro e w' ⟨h, hb⟩
    rcases h with ⟨_, rfl⟩ | ⟨h, _⟩ | ⟨h, _⟩
    · exact ⟨hb, .inl ⟨by omega, rfl⟩⟩
    · exact absurd h c
    · exact absurd h c
  · refine (load_d w v L hL n a b hs.1 hs.2.1 hs.2.2).mono ?_
    rintro e w' ⟨h, hb⟩
    rcases h with ⟨h, _⟩ | ⟨_, _, rfl⟩ | ⟨_, h, _⟩
    · exact absurd c h
    · exact ⟨hb, .inl ⟨by omega, rfl⟩⟩
    · omega
  · refine (load_d w v L hL n a b hs.1 hs.2.1 hs.2.2).mono ?_
    rintro e w' ⟨h, hb⟩
    rcases h with ⟨h, _⟩ | ⟨_, h, _⟩ | ⟨_, _, dd, m, E, rfl, h1, h2⟩
    · exact absurd c h
    · omega
    · exact ⟨hb, .inr ⟨rfl, dd, E.map En.f, rfl, ⟨h1.dsk, rfl, (ld_ok a b c d).perm h2.symm⟩, h2⟩⟩
end Go.Proofs.Ytgkdecjlanbmhaa
