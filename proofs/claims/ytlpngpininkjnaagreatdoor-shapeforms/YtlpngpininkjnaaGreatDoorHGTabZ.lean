import Derived.Test.YtlpngpininkjnaaGreatDoorHFieldsZ
import Derived.Test.YtlpngpininkjnaaGreatDoorHLaidZ

/- shape: the table of fields. -/
namespace Go.Proofs.YtlpngpininkjnaaGreatDoor
open Go.RowKit
set_option linter.unusedVariables false
set_option linter.unusedSimpArgs false
/-- a field, as the table has it -/
structure FS where
  name : ByteArray
  ty : Int
  ks : List Int
  must : Bool
  dk : Int
  dn : Int
  ds : ByteArray
def FS.d (s : FS) : V := leaf s.dk s.dn s.ds
/-- a row of numbers is a block -/
def Ints (w : World) (b : Nat) (l : List Int) : Prop := w.heap[b]? = some (.cells (l.map fun k => Value.int .i64 k).toArray 3 (0, 0))
/-- a field of the program lies so -/
def FdIn (B : Nat) (w : World) (f : Fd) (s : FS) : Prop := f.name = s.name ∧ f.ty = s.ty ∧ f.must = s.must ∧ f.d = s.d ∧ f.kl = s.ks.length ∧ f.kc = s.ks.length ∧ (0 < s.ks.length → ∃ b, f.ka = some ⟨b, 0, none⟩ ∧ B ≤ b ∧ b < w.heap.size ∧ Ints w b s.ks)
/-- a row of fields, if there are any -/
def FRA (w : World) (a : Option Addr) (fs : List Fd) (lo hi : Nat) : Prop := 0 < fs.length → ∃ b, a = some ⟨b, 0, none⟩ ∧ lo ≤ b ∧ b < hi ∧ FRow w b fs
def FieldsIn (l : List FS) (W : World) (a : Option Addr) (fs : List Fd) (w' : World) : Prop := fs.length = l.length ∧ FRA w' a fs W.heap.size w'.heap.size ∧ ∀ i (h : i < fs.length) (h' : i < l.length), FdIn W.heap.size w' fs[i] l[i]
def FieldsRow (l : List FS) (W : World) (e : Ending) (w' : World) : Prop := ∃ (a : Option Addr) (fs : List Fd), e = .returned (.slice a l.length l.length) ∧ Hid (FieldsIn l W a fs w') ∧ Below W.heap.size W w'
theorem nine (l : List Fd) : ∀ i (h : i < l.length) j, j < 9 → (l.flatMap fun f => f.cs.toList)[i * 9 + j]? = l[i].cs[j]? := by
  induction l with
  | nil => intro i h; exact absurd h (by simp)
  | cons f l ih =>
    intro i h j hj
    have h9 : f.cs.toList.length = 9 := rfl
    rw [List.flatMap_cons]
    cases i with
    | zero =>
      rw [List.getElem?_append_left (by rw [h9]; omega)]
      simp
    | succ i =>
      rw [List.getElem?_append_right (by rw [h9]; omega), h9, show (i + 1) * 9 + j - 9 = i * 9 + j by omega]
      exact ih i (by simpa using h) j hj
theorem FRow.flat {W : World} {b : Nat} {arr : Array Value} {t : TypeId} {p : Nat × Nat} {l : List Fd} (h : W.heap[b]? = some (.cells arr t p)) (he : arr.toList = l.flatMap fun f => f.cs.toList) : FRow W b l := by
  intro i hi j hj
  unfold World.cell?
  simp only [h]
  rw [← Array.getElem?_toList, he]
  exact nine l i hi j hj

def ks_outcomes : List Int := [36, 37, 38, 39]
set_option maxRecDepth 100000 in
set_option maxHeartbeats 2000000 in
theorem outcomes_any (w : World) : Calls Tryz.prog 67 #[] w fun e w' => e = .returned (.slice (some ⟨w.heap.size, 0, none⟩) 4 4) ∧ w' = w.alloc (.cells #[.int .i64 36, .int .i64 37, .int .i64 38, .int .i64 39] 3) := by
  go_enter Tryz.func67, Tryz.ntmps67
  go_wp2
  go_ret
  exact ⟨rfl, rfl⟩

def ks_states : List Int := [35, 36, 37, 38, 39, 51, 52]
set_option maxRecDepth 100000 in
set_option maxHeartbeats 2000000 in
theorem states_any (w : World) : Calls Tryz.prog 66 #[] w fun e w' => e = .returned (.slice (some ⟨w.heap.size, 0, none⟩) 7 7) ∧ w' = w.alloc (.cells #[.int .i64 35, .int .i64 36, .int .i64 37, .int .i64 38, .int .i64 39, .int .i64 51, .int .i64 52] 3) := by
  go_enter Tryz.func66, Tryz.ntmps66
  go_wp2
  go_ret
  exact ⟨rfl, rfl⟩

end Go.Proofs.YtlpngpininkjnaaGreatDoor
