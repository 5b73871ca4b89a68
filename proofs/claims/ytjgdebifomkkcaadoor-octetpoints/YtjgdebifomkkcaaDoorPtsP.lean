/- OctetPoints: steps outside the walk. -/
import Derived.Test.YtjgdebifomkkcaaDoorPtsC
import Derived.Test.YtjgdebifomkkcaaDoorRefU
namespace Go.Proofs.YtjgdebifomkkcaaDoor
open Go.RowKit

/-- ints that came in -/
def Rz (w : World) (a : Option Addr) (n : Nat) (zs : List Int) : Prop :=
  0 < n → ∃ b off, a = some ⟨b, off, none⟩ ∧ b < w.heap.size ∧ ∀ j, j < n → w.cell? ⟨b, off + j, none⟩ = some (.int .i64 (zs.getD j 0))
theorem strOf_eq (L : List Nat) : strOfNums (L.map (fun n : Nat => (n : Int))) = sN L := by
  unfold strOfNums sN
  congr 2
  simp [List.map_map, Function.comp_def]
theorem conv_str {W : World} {g n cap : Nat} {L : List Nat} (h : Rd W (some ⟨g, 0, none⟩) n L) (h0 : 0 < n) :
    (convert 24 9 (.slice (some ⟨g, 0, none⟩) n cap)).run Tryd.prog W = .ok (.string (sN L)) W := by
  have hl := h.1
  obtain ⟨b, off, hbo, _, hc⟩ := h.2.2 h0
  cases hbo
  have := run_convert_bytes_arg (P := Tryd.prog) W 24 5 Tryd.underlying24 Tryd.underlying5 g 0 n cap (L.map (fun n : Nat => (n : Int))) (by simp [hl]) (fun i hi => by
    rw [hc i hi]
    simp [List.getD_eq_getElem?_getD, List.getElem?_eq_getElem (show i < L.length by omega)]) 9 Tryd.underlying9
  rw [strOf_eq] at this
  exact this
def bads : List (List Nat) := [[128], [191], [192, 128], [193, 191], [224, 128, 128], [224, 159, 191], [237, 160, 128], [237, 191, 191], [240, 128, 128, 128], [240, 143, 191, 191], [244, 144, 128, 128], [245, 128, 128, 128], [248, 136, 128, 128, 128], [254], [255]]
def badAt (j : Nat) : List Nat := bads.getD j []
theorem bad_len (j : Nat) (h : j < 15) : 1 ≤ (badAt j).length ∧ (badAt j).length ≤ 5 := by
  have hall : ∀ j, j < 15 → 1 ≤ (badAt j).length ∧ (badAt j).length ≤ 5 := by decide
  exact hall j h
theorem bad_byt (j : Nat) (h : j < 15) : Byt (badAt j ++ [97]) := by
  have hall : ∀ j, j < 15 → ∀ c ∈ badAt j ++ [97], c < 256 := by decide
  exact hall j h
theorem bad_dec (j : Nat) (h : j < 15) : Bad (Lib.decodeN (badAt j ++ [97]).length ((badAt j ++ [97]).getD 0 0) ((badAt j ++ [97]).getD 1 0) ((badAt j ++ [97]).getD 2 0) ((badAt j ++ [97]).getD 3 0)) := by
  have hall : ∀ j, j < 15 → (Lib.decodeN (badAt j ++ [97]).length ((badAt j ++ [97]).getD 0 0) ((badAt j ++ [97]).getD 1 0) ((badAt j ++ [97]).getD 2 0) ((badAt j ++ [97]).getD 3 0)).1 = 65533 ∧ (Lib.decodeN (badAt j ++ [97]).length ((badAt j ++ [97]).getD 0 0) ((badAt j ++ [97]).getD 1 0) ((badAt j ++ [97]).getD 2 0) ((badAt j ++ [97]).getD 3 0)).2 = 1 := by decide
  exact hall j h
theorem bad_told {L : List Nat} (hL : Byt L) (hw : Whole L) (j : Nat) (h : j < 15) : utfZ (sN L ++ sN (badAt j) ++ sN [97]) 0 = L.length := by
  rw [sN_append, sN_append, List.append_assoc]
  exact whole_bad hL (bad_byt j h) hw (by simp) (bad_dec j h)
theorem bads_cells (w : World) (t : TypeId) (j : Nat) (hj : j < 15) :
    (w.alloc (Obj.cells #[Value.string ⟨#[128]⟩, Value.string ⟨#[191]⟩, Value.string ⟨#[192, 128]⟩, Value.string ⟨#[193, 191]⟩, Value.string ⟨#[224, 128, 128]⟩, Value.string ⟨#[224, 159, 191]⟩, Value.string ⟨#[237, 160, 128]⟩, Value.string ⟨#[237, 191, 191]⟩,
      Value.string ⟨#[240, 128, 128, 128]⟩, Value.string ⟨#[240, 143, 191, 191]⟩, Value.string ⟨#[244, 144, 128, 128]⟩, Value.string ⟨#[245, 128, 128, 128]⟩, Value.string ⟨#[248, 136, 128, 128, 128]⟩, Value.string ⟨#[254]⟩, Value.string ⟨#[255]⟩] t)).cell? ⟨w.heap.size, j, none⟩ = some (.string (sN (badAt j))) := by
  rw [World.cell?_alloc_at _ _ _ _ rfl]
  have h : j = 0 ∨ j = 1 ∨ j = 2 ∨ j = 3 ∨ j = 4 ∨ j = 5 ∨ j = 6 ∨ j = 7 ∨ j = 8 ∨ j = 9 ∨ j = 10 ∨ j = 11 ∨ j = 12 ∨ j = 13 ∨ j = 14 := by omega
  rcases h with rfl | rfl | rfl | rfl | rfl | rfl | rfl | rfl | rfl | rfl | rfl | rfl | rfl | rfl | rfl <;> rfl
theorem sN_elem {s : ByteArray} {M : List Nat} (hs : s = sN M) (hM : Byt M) (j : Nat) (h : j < s.size) : (s[j]'h).toNat = M.getD j 0 := by
  subst hs
  rw [← Utf8W.get!_of_lt _ j h, sN_get M hM]
theorem asc_more {L : List Nat} {y : Nat} {z : Int} (hL : Byt L) (hz : Asc (sN L) z) (hy : 128 ≤ y) (hy2 : y < 256) : Asc (sN L ++ sN [y]) (if z = -1 then (L.length : Int) else z) := by
  have hs : (sN L ++ sN [y]).size = L.length + 1 := by rw [sN_append, sN_size]; simp
  have hs0 := sN_size L
  have hM : Byt (L ++ [y]) := hL.app (fun c hc => by simp at hc; omega)
  have e : ∀ j (h : j < (sN L ++ sN [y]).size), ((sN L ++ sN [y])[j]'h).toNat = (L ++ [y]).getD j 0 := fun j h => sN_elem (sN_append L [y]) hM j h
  have e0 : ∀ j (h : j < (sN L).size), ((sN L)[j]'h).toNat = L.getD j 0 := fun j h => sN_elem rfl hL j h
  have g : ∀ j, j < L.length → (L ++ [y]).getD j 0 = L.getD j 0 := fun j hj => by
    rw [List.getD_eq_getElem?_getD, List.getElem?_append_left hj, ← List.getD_eq_getElem?_getD]
  have g2 : (L ++ [y]).getD L.length 0 = y := by simp [List.getD_eq_getElem?_getD]
  rcases hz with ⟨rfl, h⟩ | ⟨i, hi, rfl, h1, h2⟩
  · rw [if_pos rfl]
    refine .inr ⟨L.length, by omega, rfl, ?_, fun j hj => ?_⟩
    · rw [e, g2]; exact hy
    · rw [e, g j hj, ← e0 j (by omega)]
      exact h j (by omega)
  · rw [if_neg (by omega)]
    refine .inr ⟨i, by omega, rfl, ?_, fun j hj => ?_⟩
    · rw [e, g i (by omega), ← e0 i hi]; exact h1
    · rw [e, g j (by omega), ← e0 j (by omega)]; exact h2 j hj
end Go.Proofs.YtjgdebifomkkcaaDoor
