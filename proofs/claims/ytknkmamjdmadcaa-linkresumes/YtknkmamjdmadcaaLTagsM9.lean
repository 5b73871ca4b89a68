import Derived.Test.YtknkmamjdmadcaaLPeerM9
import Derived.Laws.IdiomStrings

/- Stage 14: the law's tags. -/
namespace Go.Proofs.Ytknkmamjdmadcaa
open Go.RowKit Go.Maps
set_option linter.unusedVariables false
set_option linter.unusedSimpArgs false

/-- the n-th tag's bytes -/
def tagL (n : Nat) : List UInt8 := [116, UInt8.ofNat (n % 256), UInt8.ofNat (n / 256 % 256), UInt8.ofNat (n / 65536 % 256), UInt8.ofNat (n / 16777216)]
def tagB (n : Nat) : ByteArray := ⟨(tagL n).toArray⟩
theorem tagB_size (n : Nat) : (tagB n).size = 5 := rfl
theorem tagB_inj {n m : Nat} (hn : n < 4294967296) (hm : m < 4294967296) (h : tagB n = tagB m) : n = m := by
  simp only [tagB, tagL, ByteArray.mk.injEq, List.cons.injEq, Array.mk.injEq, true_and, and_true] at h
  obtain ⟨h1, h2, h3, h4⟩ := h
  have e : ∀ {a b : Nat}, a < 256 → b < 256 → UInt8.ofNat a = UInt8.ofNat b → a = b := fun {a b} ha hb e => by
    have := congrArg UInt8.toNat e
    simp [UInt8.toNat_ofNat'] at this
    omega
  have f1 := e (by omega) (by omega) h1
  have f2 := e (by omega) (by omega) h2
  have f3 := e (by omega) (by omega) h3
  have f4 := e (by omega) (by omega) h4
  omega
theorem u8 {a : Nat} (h : a < 256) : (UInt8.ofNat a).toNat = a := by
  rw [UInt8.toNat_ofNat']
  exact Nat.mod_eq_of_lt h
theorem conv_tag (n : Nat) (hn : n < 4294967296) (w : World) :
    (convert 112 9 (.slice (some ⟨w.heap.size, 0, none⟩) 5 5)).run Try.prog (w.alloc (.cells #[.int .u8 116, .int .u8 ((n : Int) % 256), .int .u8 ((n : Int) / 256 % 256), .int .u8 ((n : Int) / 65536 % 256), .int .u8 ((n : Int) / 16777216)] 5)) = .ok (.string (tagB n)) (w.alloc (.cells #[.int .u8 116, .int .u8 ((n : Int) % 256), .int .u8 ((n : Int) / 256 % 256), .int .u8 ((n : Int) / 65536 % 256), .int .u8 ((n : Int) / 16777216)] 5)) := by
  have hr := run_convert_bytes_back (P := Try.prog) (w.alloc (.cells #[.int .u8 116, .int .u8 ((n : Int) % 256), .int .u8 ((n : Int) / 256 % 256), .int .u8 ((n : Int) / 65536 % 256), .int .u8 ((n : Int) / 16777216)] 5)) 112 9 5 ⟨w.heap.size, 0, none⟩ 5 (tagL n) Try.underlying112 Try.underlying5 Try.underlying9 (fun j hj => by
    have hj5 : j < 5 := hj
    have hh := heap_alloc_last w (.cells #[.int .u8 116, .int .u8 ((n : Int) % 256), .int .u8 ((n : Int) / 256 % 256), .int .u8 ((n : Int) / 65536 % 256), .int .u8 ((n : Int) / 16777216)] 5)
    have : j = 0 ∨ j = 1 ∨ j = 2 ∨ j = 3 ∨ j = 4 := by omega
    rcases this with rfl | rfl | rfl | rfl | rfl
    · rw [Addr.add_mid]
      exact cellOf hh 0 (.int .u8 116) rfl
    · rw [Addr.add_mid]
      refine (cellOf hh 1 (.int .u8 ((n : Int) % 256)) rfl).trans ?_
      show some (Value.int .u8 ((n : Int) % 256)) = some (.int .u8 ((UInt8.ofNat (n % 256)).toNat : Int))
      rw [u8 (by omega)]
      congr 2
    · rw [Addr.add_mid]
      refine (cellOf hh 2 (.int .u8 ((n : Int) / 256 % 256)) rfl).trans ?_
      show some (Value.int .u8 ((n : Int) / 256 % 256)) = some (.int .u8 ((UInt8.ofNat (n / 256 % 256)).toNat : Int))
      rw [u8 (by omega)]
      congr 2
    · rw [Addr.add_mid]
      refine (cellOf hh 3 (.int .u8 ((n : Int) / 65536 % 256)) rfl).trans ?_
      show some (Value.int .u8 ((n : Int) / 65536 % 256)) = some (.int .u8 ((UInt8.ofNat (n / 65536 % 256)).toNat : Int))
      rw [u8 (by omega)]
      congr 2
    · rw [Addr.add_mid]
      refine (cellOf hh 4 (.int .u8 ((n : Int) / 16777216)) rfl).trans ?_
      show some (Value.int .u8 ((n : Int) / 16777216)) = some (.int .u8 ((UInt8.ofNat (n / 16777216)).toNat : Int))
      rw [u8 (by omega)]
      congr 2)
  exact hr
set_option maxRecDepth 100000 in
set_option maxHeartbeats 400000 in
theorem tags_any (n : Nat) (w : World) (h1 : n < 4294967296) :
    Calls Try.prog 27 #[.int .i64 (n : Int)] w fun e w' => e = .returned (.string (tagB n)) ∧ Below w.heap.size w w' := by
  have hc := conv_tag n h1
  have h0 : (0 : Int) ≤ n := by omega
  have h2 : (n : Int) < 4294967296 := by omega
  go_enter Try.func27, Try.ntmps27
  go_wp2
  go_ret
  exact ⟨rfl, bel1 (Below.refl _ _) (Nat.le_refl _) _⟩
end Go.Proofs.Ytknkmamjdmadcaa
