
/- Stage 13: an entry of a table, found or laid, then written. -/
import Derived.Test.YtondbhdlccpklaaQAll
import Derived.WideKeyEntry
namespace Go.Proofs.Ytondbhdlccpklaa
open Go.RowKit Go.Maps
open Go.ChangeMaps Go.MapKept Go.WideShapes
open Go.WideElems (Fit rd rg pl rd_val elemAt)
set_option linter.unusedVariables false
set_option linter.unusedSimpArgs false

/-- what an entry's writing leaves -/
def Entered (w : World) (b : Nat) (k : Int) (l : List (Int × Int)) (st : Nat) (W1 : World) : Prop :=
  Kp (fun q => q = b) w W1 ∧ W1.heap.size = w.heap.size ∧ ∀ c : Int, ∃ W', (Instr.entryStore 88 (.map (some b)) (goInt st) (.int .i64 c)).run Try.prog W1 = .ok () W' ∧ TbI W' b ((k, c) :: l.filter fun p => p.1 != k) ∧ Kp (fun q => q = b) W1 W' ∧ W'.heap.size = W1.heap.size
theorem setBlock_two (w : World) (b : Nat) (o p : Obj) : setBlock (setBlock w b o) b p = setBlock w b p := by simp [setBlock]
theorem kp_setBlock {w : World} {b : Nat} {es es' : Array MapEntry} {c c' : Nat} (hb : w.heap[b]? = some (.map es c)) : Kp (fun q => q = b) w (setBlock w b (.map es' c')) :=
  grown_kp ⟨es, c, es', c', hb, rfl⟩
theorem size_setBlock (w : World) (b : Nat) (o : Obj) : (setBlock w b o).heap.size = w.heap.size := by simp [setBlock]
theorem heap_setBlock {w : World} {b : Nat} {x : Obj} (hb : w.heap[b]? = some x) (o : Obj) : (setBlock w b o).heap[b]? = some o := by
  have := (Array.getElem?_eq_some_iff.1 hb).1
  simp [setBlock, Array.getElem?_setIfInBounds, this]
theorem entry_I {w : World} {b : Nat} {l : List (Int × Int)} {k : Int} (hT : TbI w b l) (hk : wf64 k) (hn : l.length < maxLen) :
    ∃ (v0 : Value) (st : Nat) (W1 : World), (Instr.mapEntry 88 (.map (some b)) (.int .i64 k)).run Try.prog w = .ok (.tuple #[v0, goInt st]) W1 ∧ Entered w b k l st W1 := by
  obtain ⟨D, ⟨es, clock, hb, F, hsz, hD⟩, hR⟩ := hT
  have hkey := key64 hk
  have hown : w.ownsMap Try.prog 3 rI b l.length D := ⟨es, clock, hb, F, hsz, hD⟩
  have hput : ∀ c : Int, ∃ es' clock', (Instr.mapUpdate 88 (.map (some b)) (.int .i64 k) (.int .i64 c)).run Try.prog w = .ok () (setBlock w b (.map es' clock')) ∧ TbI (setBlock w b (.map es' clock')) b ((k, c) :: l.filter fun p => p.1 != k) := fun c => by
    obtain ⟨w', hrun, r1, es0, c0, es', clock', _, rfl⟩ := hown.store Try.keyed Try.underlying88 hn hkey (rI_mk c)
    exact ⟨es', clock', hrun, TbI.mk r1 (hR.put k c)⟩
  obtain ⟨s1, s2, _⟩ := F.stamped
  rcases Try.keyed.find w hkey es.toList F.keys with ⟨h1, h2⟩ | ⟨j, e0, h1, h2, h3⟩
  · have hu : ∀ c : Int, (Instr.mapUpdate 88 (.map (some b)) (.int .i64 k) (.int .i64 c)).run Try.prog w = .ok () (setBlock w b (.map (es.push ⟨.int .i64 k, .int .i64 c, clock⟩) (clock + 1))) := fun c => by
      simp [Instr.mapUpdate, run_underlying Try.underlying88, MapKept.run_getObj_map hb, Try.keyed.check w false hkey, h1, MapKept.run_setObj_map _ hb, Result.andThen, setBlock]
    refine ⟨intV 0, clock, setBlock w b (.map (es.push ⟨.int .i64 k, intV 0, clock⟩) (clock + 1)), ?_, kp_setBlock hb, size_setBlock .., fun c => ⟨setBlock w b (.map (es.push ⟨.int .i64 k, .int .i64 c, clock⟩) (clock + 1)), ?_, ?_, ?_, ?_⟩⟩
    · simp [Instr.mapEntry, run_underlying Try.underlying88, MapKept.run_getObj_map hb, Try.keyed.check w false hkey, h1, zeroI, MapKept.run_setObj_map _ hb, Result.andThen, setBlock]
      exact ⟨rfl, rfl⟩
    · have hw2 := heap_setBlock hb (.map (es.push ⟨.int .i64 k, intV 0, clock⟩) (clock + 1))
      have hlast : (es.push ⟨.int .i64 k, intV 0, clock⟩).toList[es.size]? = some ⟨.int .i64 k, intV 0, clock⟩ := by simp
      have hnb : ((es.push ⟨.int .i64 k, intV 0, clock⟩).toList.map (·.born)).Nodup := by
        rw [Array.toList_push, List.map_append, List.nodup_append]
        refine ⟨s2, by simp, fun x hx y hy e => ?_⟩
        obtain ⟨z, hz, rfl⟩ := List.mem_map.1 hx
        have := s1 z hz
        simp at hy
        omega
      have hidx := WideElems.findIdx_born hnb hlast
      rw [← WideElems.findIdx_arr] at hidx
      have hmod : (es.push ⟨.int .i64 k, intV 0, clock⟩).modify es.size (fun e => { e with val := .int .i64 c }) = es.push ⟨.int .i64 k, .int .i64 c, clock⟩ := by
        apply Array.ext'
        rw [Array.toList_modify, Array.toList_push, Array.toList_push, ← Array.length_toList, WideElems.modify_last]
      have hst : ∀ w2 : World, w2.heap[b]? = some (.map (es.push ⟨.int .i64 k, intV 0, clock⟩) (clock + 1)) → (Instr.entryStore 88 (.map (some b)) (goInt clock) (.int .i64 c)).run Try.prog w2 = .ok () (setBlock w2 b (.map (es.push ⟨.int .i64 k, .int .i64 c, clock⟩) (clock + 1))) := fun w2 hw2 => by
        simp [Instr.entryStore, MapKept.run_getObj_map hw2, asInt, asIntOf, goInt, hidx, hmod, MapKept.run_setObj_map _ hw2, Result.andThen, setBlock]
      rw [hst _ hw2, setBlock_two]
    · obtain ⟨es', clock', hrun, ht⟩ := hput c
      rw [hu c] at hrun
      injection hrun with _ h
      rw [h]
      exact ht
    · have := kp_setBlock (es' := es.push ⟨.int .i64 k, .int .i64 c, clock⟩) (c' := clock + 1) (heap_setBlock hb (.map (es.push ⟨.int .i64 k, intV 0, clock⟩) (clock + 1)))
      rwa [setBlock_two] at this
    · rw [size_setBlock, size_setBlock]
  · have hj : es[j]? = some e0 := by simpa using h2
    have hsame : es.modify j (fun e => { e with key := .int .i64 k }) = es := by
      apply Array.ext'
      rw [Array.toList_modify, modify_eq_set _ _ _ _ h2, show ({ e0 with key := .int .i64 k } : MapEntry) = e0 by rw [← h3]]
      exact WideElems.set_self _ _ _ h2
    have hu : ∀ c : Int, (Instr.mapUpdate 88 (.map (some b)) (.int .i64 k) (.int .i64 c)).run Try.prog w = .ok () (setBlock w b (.map (es.modify j (fun e' => { e' with key := .int .i64 k, val := .int .i64 c })) clock)) := fun c => by
      simp [Instr.mapUpdate, run_underlying Try.underlying88, MapKept.run_getObj_map hb, Try.keyed.check w false hkey, h1, hj, h3, Try.keyed.stays w hkey, MapKept.run_setObj_map _ hb, Result.andThen, setBlock]
    have hself : setBlock w b (.map es clock) = w := by
      have e : w.heap.setIfInBounds b (.map es clock) = w.heap := by
        apply Array.ext_getElem?
        intro i
        rw [Array.getElem?_setIfInBounds]
        split
        · rename_i hi
          subst hi
          split
          · exact hb.symm
          · rename_i hlt
            exact absurd (Array.getElem?_eq_some_iff.1 hb).1 hlt
        · rfl
      unfold setBlock
      rw [e]
    refine ⟨e0.val, e0.born, w, ?_, Kp.refl _ _, rfl, fun c => ⟨setBlock w b (.map (es.modify j (fun e' => { e' with key := .int .i64 k, val := .int .i64 c })) clock), ?_, ?_, kp_setBlock hb, size_setBlock ..⟩⟩
    · have hs := MapKept.run_setObj_map (P := Try.prog) (.map es clock) hb
      have hs' := hself
      simp [Instr.mapEntry, run_underlying Try.underlying88, MapKept.run_getObj_map hb, Try.keyed.check w false hkey, h1, hj, h3, Try.keyed.stays w hkey, hsame, hs, Result.andThen]
      simpa [setBlock] using hs'
    · have hidx := WideElems.findIdx_born s2 h2
      rw [← WideElems.findIdx_arr] at hidx
      have hmod : es.modify j (fun e => { e with val := .int .i64 c }) = es.modify j (fun e' => { e' with key := .int .i64 k, val := .int .i64 c }) := by
        apply Array.ext'
        rw [Array.toList_modify, Array.toList_modify, modify_eq_set _ _ _ _ h2, modify_eq_set _ _ _ _ h2, ← h3]
      simp [Instr.entryStore, MapKept.run_getObj_map hb, asInt, asIntOf, goInt, hidx, hmod, MapKept.run_setObj_map _ hb, Result.andThen, setBlock]
    · obtain ⟨es', clock', hrun, ht⟩ := hput c
      rw [hu c] at hrun
      injection hrun with _ h
      rw [h]
      exact ht
end Go.Proofs.Ytondbhdlccpklaa
