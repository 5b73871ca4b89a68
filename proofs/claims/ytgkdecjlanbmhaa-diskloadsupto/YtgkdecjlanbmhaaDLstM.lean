
/- DiskLasts: small mathematics. -/
import Derived.Test.YtgkdecjlanbmhaaDAwk
namespace Go.Proofs.Ytgkdecjlanbmhaa
open Go.RowKit
set_option linter.unusedVariables false
set_option linter.unusedSimpArgs false
theorem mkS_size (l : List Nat) : (mkS l).size = l.length := by
  show (l.map UInt8.ofNat).toArray.size = _
  simp
theorem mkS_take (l : List Nat) (n : Nat) (h : n ≤ l.length) : (mkS l).extract 0 n = mkS (l.take n) := by
  apply ByteArray.ext
  rw [ByteArray.data_extract]
  show ((l.map UInt8.ofNat).toArray).extract 0 n = ((l.take n).map UInt8.ofNat).toArray
  apply Array.toList_inj.1
  simp [List.map_take]
theorem mkS_app (a b : List Nat) : mkS a ++ mkS b = mkS (a ++ b) := by
  apply ByteArray.ext
  rw [ByteArray.data_append]
  show (a.map UInt8.ofNat).toArray ++ (b.map UInt8.ofNat).toArray = ((a ++ b).map UInt8.ofNat).toArray
  apply Array.toList_inj.1
  simp
theorem begins_take {l m : List Nat} {n : Nat} (hn : n ≤ m.length) (e : l = m.take n) (w : World) (hz : m.length ≤ 281474976710656) : Calls Try.prog 24 #[.string (mkS l), .string (mkS m)] w fun e w' => e = .returned (.bool true) ∧ w' = w := by
  have hl : l.length = n := by rw [e]; simp; omega
  refine begins_yes _ _ (by rw [mkS_size, mkS_size]; omega) ?_ (by rw [mkS_size]; exact hz) w
  rw [mkS_size, hl, mkS_take m n hn, e]
theorem srt_eq {W U : List Fo} (h1 : SrtF W) (h2 : SrtF U) (hp : (W.map (·.1)).Perm (U.map (·.1))) (hn : ((W.map (·.1)).map (·.1)).Nodup) : W.map (·.1) = U.map (·.1) := by
  have pw : ∀ V : List Fo, SrtF V → (V.map (·.1)).Pairwise (fun a b => 0 ≤ cmpB b.1.toList a.1.toList) := fun V hV => by
    rw [List.pairwise_map, List.pairwise_iff_getElem]
    intro i j hi hj hij
    exact hV i j hi hj hij
  refine List.Perm.eq_of_pairwise (le := fun a b => 0 ≤ cmpB b.1.toList a.1.toList) ?_ (pw W h1) (pw U h2) hp
  intro a b ha hb hab hba
  rw [neg_cmpB] at hba
  have h0 : cmpB b.1.toList a.1.toList = 0 := by omega
  have e1 : b.1 = a.1 := by
    have := str_eq b.1 a.1
    rw [(cmpB_zero _ _).1 h0] at this
    simpa using this
  have hb' : b ∈ W.map (·.1) := hp.mem_iff.2 hb
  exact Option.some.inj ((find_mem hn ha rfl).symm.trans (find_mem hn hb' e1))
end Go.Proofs.Ytgkdecjlanbmhaa
