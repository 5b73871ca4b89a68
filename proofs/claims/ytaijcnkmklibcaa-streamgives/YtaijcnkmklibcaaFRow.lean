
/- Bytes and texts; rows of bytes that came out of a text. -/
import Derived.Test.YtaijcnkmklibcaaFBase
import Derived.Laws.IdiomStrings
import Derived.Lib.AppendStr
import Derived.Laws.BytesArg
namespace Go.Proofs.Ytaijcnkmklibcaa
open Go.RowKit Go.Deep
set_option linter.unusedVariables false
set_option linter.unusedSimpArgs false

def mkS (l : List Nat) : ByteArray := ⟨(l.map UInt8.ofNat).toArray⟩
theorem mkS_size (s : List Nat) : (mkS s).size = s.length := by
  show (s.map UInt8.ofNat).toArray.size = _
  simp
theorem mkS_list (l : List Nat) : (mkS l).toList = l.map UInt8.ofNat := by
  rw [mkS, ByteArray.toList_eq]
theorem mkS_inj {l m : List Nat} (hl : ∀ c ∈ l, c < 256) (hm : ∀ c ∈ m, c < 256) (h : l.map UInt8.ofNat = m.map UInt8.ofNat) : l = m := by
  have e : ∀ l : List Nat, (∀ c ∈ l, c < 256) → (l.map UInt8.ofNat).map UInt8.toNat = l := fun l hl => by
    rw [List.map_map]
    conv => rhs; rw [← List.map_id l]
    apply List.map_congr_left
    intro c hc
    have := hl c hc
    simp
    omega
  rw [← e l hl, ← e m hm, h]
theorem mkS_eq {l m : List Nat} (hl : ∀ c ∈ l, c < 256) (hm : ∀ c ∈ m, c < 256) : mkS l = mkS m ↔ l = m := by
  constructor
  · intro h
    refine mkS_inj hl hm ?_
    have := congrArg (fun s : ByteArray => s.data.toList) h
    simpa [mkS] using this
  · intro h; rw [h]
theorem mkS_beq (l m : List Nat) (hl : ∀ c ∈ l, c < 256) (hm : ∀ c ∈ m, c < 256) : ((mkS l).toList == (mkS m).toList) = decide (l = m) := by
  rw [mkS_list, mkS_list, Bool.eq_iff_iff]
  simp only [beq_iff_eq, decide_eq_true_eq]
  exact ⟨mkS_inj hl hm, fun h => by rw [h]⟩
theorem mkS_append (l m : List Nat) : mkS (l ++ m) = mkS l ++ mkS m := by
  apply ByteArray.ext
  simp [mkS]
theorem strCells_mk (l : List Nat) (h : ∀ c ∈ l, c < 256) : Lib.strCells (mkS l) = l.map byteV := by
  simp only [Lib.strCells, mkS, List.map_map]
  apply List.map_congr_left
  intro c hc
  have := h c hc
  simp [byteV]
  omega
/-- bytes as a text -/
theorem conv_any {w : World} {a : Option Addr} {n : Nat} {l : List Nat} (h : Rd w a n l) (cap : Nat) : (convert 33 9 (.slice a n cap)).run Try.prog w = .ok (.string (mkS l)) w := by
  by_cases hn : 0 < n
  · obtain ⟨b, off, rfl, hlt, hc⟩ := h.2.2 hn
    have hr := run_convert_bytes_back (P := Try.prog) w 33 9 5 ⟨b, off, none⟩ cap (l.map UInt8.ofNat) Try.underlying33 Try.underlying5 Try.underlying9 (fun j hj => by
      rw [List.length_map] at hj
      have e1 : (⟨b, off, none⟩ : Addr).add j = ⟨b, off + j, none⟩ := by by_cases h : j = 0 <;> simp [Addr.add, h]
      rw [e1, hc j (by rw [← h.1]; exact hj)]
      have : l[j] < 256 := h.2.1 _ (List.getElem_mem hj)
      simp [List.getD_eq_getElem?_getD, List.getElem?_eq_getElem hj]
      omega)
    rw [List.length_map, h.1] at hr
    exact hr
  · have h0 : n = 0 := by omega
    subst h0
    have hl : l = [] := List.length_eq_zero_iff.1 h.1
    subst hl
    cases a with
    | none => exact run_convert_bytes_nil (P := Try.prog) w 33 5 Try.underlying33 Try.underlying5 0 cap 9 Try.underlying9
    | some x => exact run_convert_bytes_back (P := Try.prog) w 33 9 5 x cap [] Try.underlying33 Try.underlying5 Try.underlying9 (fun j hj => absurd hj (by simp))

/-- the bytes l are the block g; what is frozen of it lies behind it -/
def BlF (w : World) (g : Nat) (l : List Nat) : Prop := ∃ fz : Nat × Nat, w.heap[g]? = some (.cells (l.map byteV).toArray 5 fz) ∧ (fz.2 = 0 ∨ l.length ≤ fz.1)
theorem BlF.of {w g l} (h : Bl w g l) : BlF w g l := ⟨(0, 0), h, .inl rfl⟩
theorem BlF.lt {w g l} (h : BlF w g l) : g < w.heap.size := by
  obtain ⟨fz, h, _⟩ := h
  exact (Array.getElem?_eq_some_iff.1 h).1
theorem BlF.block {w w' : World} {g l} (h : BlF w g l) (he : w'.heap[g]? = w.heap[g]?) : BlF w' g l := by
  obtain ⟨fz, h, h2⟩ := h
  exact ⟨fz, he.trans h, h2⟩
theorem BlF.below {w w' : World} {g l B} (h : BlF w g l) (hb : Below B w w') (hg : g < B) : BlF w' g l := h.block (hb.block g hg)
theorem BlF.alloc {w : World} {g l} (h : BlF w g l) (o : Obj) : BlF (w.alloc o) g l := h.block (heap_alloc_old w o h.lt)
theorem BlF.cell {w g l} (h : BlF w g l) {j : Nat} (hj : j < l.length) : w.cell? ⟨g, j, none⟩ = some (.int .u8 ((l.getD j 0 : Nat) : Int)) := by
  obtain ⟨fz, h, _⟩ := h
  simp [World.cell?, h, hj, byteV]
theorem BlF.frozen {w g l} (h : BlF w g l) {j : Nat} (hj : j < l.length) : w.frozen? ⟨g, j, none⟩ = false := by
  obtain ⟨⟨f1, f2⟩, h, h2⟩ := h
  simp only [World.frozen?, h, Bool.and_eq_false_iff, decide_eq_false_iff_not]
  simp only at h2
  omega
theorem BlF.set {w g l} (h : BlF w g l) (j c : Nat) : BlF (w.setCell ⟨g, j, none⟩ (byteV c)) g (l.set j c) := by
  obtain ⟨fz, h, h2⟩ := h
  refine ⟨fz, ?_, by simpa using h2⟩
  simp [World.setCell, Array.getElem?_modify, h, List.map_set]
theorem BlF.rd {w g l} (h : BlF w g l) (hb : ∀ c ∈ l, c < 256) (o n : Nat) (hn : o + n ≤ l.length) : Rd w (some ⟨g, o, none⟩) n ((l.drop o).take n) := by
  refine ⟨by simp; omega, fun c hc => hb c (List.mem_of_mem_drop (List.mem_of_mem_take hc)), fun _ => ⟨g, o, rfl, h.lt, fun j hj => ?_⟩⟩
  rw [h.cell (show o + j < l.length by omega)]
  simp [List.getD_eq_getElem?_getD, hj]
theorem BlF.rdl {w g} {l m : List Nat} (h : BlF w g (l ++ m)) (hb : ∀ c ∈ l, c < 256) : Rd w (some ⟨g, 0, none⟩) l.length l := by
  refine ⟨rfl, hb, fun _ => ⟨g, 0, rfl, h.lt, fun j hj => ?_⟩⟩
  rw [Nat.zero_add, h.cell (show j < (l ++ m).length by simp; omega)]
  simp [List.getD_eq_getElem?_getD, List.getElem?_append_left hj]
/-- a text as bytes -/
theorem bytes_of (w : World) (l : List Nat) (h : ∀ c ∈ l, c < 256) : ∃ k w', (convert 9 33 (.string (mkS l))).run Try.prog w = .ok (.slice (some ⟨w.heap.size, 0, none⟩) l.length (l.length + k)) w' ∧ BlF w' w.heap.size (l ++ List.replicate k 0) ∧ Below w.heap.size w w' ∧ w'.heap.size = w.heap.size + 1 := by
  have hr := run_bytes_of_string (P := Try.prog) w 9 33 5 (mkS l) Try.underlying9 Try.underlying33 Try.underlying5
  have hge := grownCap_ge w (mkS l).size 0 5
  rw [mkS_size] at hr hge
  obtain ⟨k, hk⟩ : ∃ k, grownCap w l.length 0 5 = l.length + k := ⟨grownCap w l.length 0 5 - l.length, by omega⟩
  rw [hk] at hr
  have e : bytesRow (mkS l) (l.length + k) = ((l ++ List.replicate k 0).map byteV).toArray := by
    unfold bytesRow
    rw [mkS_size, Nat.add_sub_cancel_left]
    apply Array.toList_inj.1
    have := strCells_mk l h
    simp only [Lib.strCells] at this
    simp only [Array.toList_append, Array.toList_map, this, List.map_append, Array.toList_replicate, List.map_replicate]
    rfl
  rw [e] at hr
  exact ⟨k, _, hr, ⟨_, heap_alloc_new w.drew _, .inr (by simp)⟩, (below_drewN (Below.refl _ w) 1).alloc (by simp) _, by simp⟩
/-- cells are stored into a row whose frozen part lies behind it -/
theorem run_storeCells_G (P : Program) (g o : Nat) (t : TypeId) (fz : Nat × Nat) : ∀ (vs : List Value) (i : Nat) (cur : Array Value) (w : World), w.heap[g]? = some (.cells cur t fz) → (fz.2 = 0 ∨ cur.size ≤ fz.1) → o + i + vs.length ≤ cur.size → (∀ v ∈ vs, v.oneCell' = true) →
    (storeCells ⟨g, o, none⟩ vs i).run P w = .ok () (w.setRow g (cur.toList.take (o + i) ++ vs ++ cur.toList.drop (o + i + vs.length)).toArray)
  | [], i, cur, w, hg, _, _, _ => by
    simp only [storeCells, List.append_nil, List.length_nil, Nat.add_zero, List.take_append_drop, Array.toArray_toList]
    rw [setRow_self w g cur t fz hg]
    rfl
  | v :: rest, i, cur, w, hg, hfz, hl, h1 => by
    have hi : o + i < cur.size := by simp at hl; omega
    have hadd : (⟨g, o, none⟩ : Addr).add i = ⟨g, o + i, none⟩ := add_none g o i
    have hcell : w.cell? ⟨g, o + i, none⟩ = some cur[o + i] := by simp [World.cell?, hg, hi]
    have hfro : w.frozen? ⟨g, o + i, none⟩ = false := by
      obtain ⟨lo, hi'⟩ := fz
      simp only [World.frozen?, hg, Bool.and_eq_false_iff, decide_eq_false_iff_not]
      simp only at hfz
      omega
    have hst : (store ((⟨g, o, none⟩ : Addr).add i) v).run P w = .ok () (w.setRow g (cur.setIfInBounds (o + i) v)) := by
      rw [hadd, run_store P w _ v _ (h1 v (by simp)), hcell]
      simp [hfro, setCell_eq_setRow w g (o + i) cur t fz v hg]
    have ih := run_storeCells_G P g o t fz rest (i + 1) (cur.setIfInBounds (o + i) v) (w.setRow g (cur.setIfInBounds (o + i) v)) (setRow_heap w g cur _ t _ hg) (by simpa using hfz) (by simp at hl ⊢; omega) (fun x hx => h1 x (by simp [hx]))
    simp only [storeCells, Sem.run_bind, hst, Result.andThen_ok, ih, setRow_setRow]
    congr 3
    have e := list_seg_step cur.toList (o + i) v rest (by simp at hl ⊢; omega)
    simpa [Array.toList_setIfInBounds, Nat.add_assoc] using e
/-- a text is appended to bytes that came out of a text -/
theorem append_text (w : World) (ty : TypeId) (g n : Nat) (l r s : List Nat) (hb : BlF w g (l ++ r)) (hl : l.length = n) (hs : ∀ c ∈ s, c < 256) (hz : n + s.length ≤ 140737488355328) :
    ∃ g' r' w', (Builtin.append_ #[33, 9] ty #[.slice (some ⟨g, 0, none⟩) n (n + r.length), .string (mkS s)]).run Try.prog w = .ok (.slice (some ⟨g', 0, none⟩) (n + s.length) (n + s.length + r'.length)) w' ∧
      BlF w' g' (l ++ s ++ r') ∧ ((∀ c ∈ r, c < 256) → ∀ c ∈ r', c < 256) ∧ (g' = g ∨ w.heap.size ≤ g') ∧ w.grownBy w' (some g) := by
  obtain ⟨i0, hi, hz0, hz1, hz2⟩ := info_parts Try.info5
  obtain ⟨fz, hg, hfz⟩ := hb
  have hss := mkS_size s
  have hsc := strCells_mk s hs
  by_cases hroom : n + s.length ≤ n + r.length
  · have hst := run_storeCells_G Try.prog g n 5 fz (s.map byteV) 0 _ w hg (by simpa using hfz) (by simp; omega) (oneCell_bytes s)
    have hf := Lib.run_firstCells_string (P := Try.prog) w 1 (mkS s)
    rw [hss, hsc] at hf
    simp only [Nat.add_zero, List.length_map] at hst
    have el : (List.take n (List.map byteV (l ++ r)) ++ List.map byteV s ++ List.drop (n + s.length) (List.map byteV (l ++ r))) = (l ++ s ++ r.drop s.length).map byteV := by
      subst hl
      rw [← List.map_drop, List.drop_append, List.drop_of_length_le (show l.length ≤ l.length + s.length by omega), Nat.add_sub_cancel_left]
      simp [List.map_append]
    have e2 : n + r.length = n + s.length + (r.drop s.length).length := by simp; omega
    have hroom2 : s.length ≤ r.length := by omega
    rw [el] at hst
    refine ⟨g, r.drop s.length, w.setRow g ((l ++ s ++ r.drop s.length).map byteV).toArray, ?_, ⟨fz, setRow_heap w g _ _ _ _ hg, ?_⟩, fun hr c hc => hr c (List.mem_of_mem_drop hc), .inl rfl, ⟨rfl, rfl, rfl, by simp, fun k _ hk => setRow_other w g k _ (fun e => hk (by rw [e]))⟩⟩
    · rw [← e2]
      simp only [Builtin.append_, Sem.run_bind, run_underlying Try.underlying33, run_underlying Try.underlying9]
      simp [sizeOf, typeInfo, hi, hz1, Builtin.lenOf, hss, hroom2, hf, Addr.add_lit, hst, -List.map_append]
    · simp at hfz ⊢
      omega
  · have hnr : n + r.length < n + s.length := by omega
    have hrun := Lib.run_append_grow_string (P := Try.prog) w 33 9 ty 5 i0 (.int .u8 0) Try.underlying33 Try.underlying9 hi hz0 ⟨g, 0, none⟩ n (n + r.length) (l.map byteV) (by rw [hz1, List.length_map]; omega) (fun j v hj => by
        have hjl : j < l.length := by have := (List.getElem?_eq_some_iff.1 hj).1; simpa using this
        rw [add_none, Nat.zero_add]
        simp [hjl] at hj
        simp only [World.cell?, hg, ← hj]
        rw [List.getElem?_toArray, List.getElem?_map, List.getElem?_append_left hjl]
        simp [hjl]) (mkS s) (by rw [hss]; exact hnr) (by rw [hss]; omega) (by rw [hss, hz2]; exact growslice_fits (by omega) (by omega))
    rw [hss, hsc] at hrun
    have hge := grownCap_ge w (n + s.length) (n + r.length) 5
    obtain ⟨k, hk⟩ : ∃ k, grownCap w (n + s.length) (n + r.length) 5 = n + s.length + k := ⟨grownCap w (n + s.length) (n + r.length) 5 - (n + s.length), by omega⟩
    rw [hk, Nat.add_sub_cancel_left] at hrun
    have ec : (l.map byteV).toArray ++ (s.map byteV).toArray ++ Builtin.zeroCells (Value.int .u8 0).cells k = ((l ++ s ++ List.replicate k 0).map byteV).toArray := by
      apply Array.toList_inj.1
      have ez : (Builtin.zeroCells (Value.int .u8 0).cells k).toList = List.replicate k (byteV 0) := by
        have e0 : Builtin.zeroCells (Value.int .u8 0).cells k = madeCells #[.int .u8 0] k := by
          unfold Builtin.zeroCells madeCells
          rw [show (Value.int .u8 0).cells = #[.int .u8 0] from rfl]
          simp
        rw [e0, toList_madeCells_one]
        rfl
      simp [ez]
    rw [ec] at hrun
    refine ⟨w.heap.size, List.replicate k 0, _, by rw [List.length_replicate]; exact hrun, ⟨(0, 0), heap_alloc_new w.drew _, .inl rfl⟩, fun _ c hc => by have := (List.mem_replicate.1 hc).2; omega, .inr (Nat.le_refl _), ⟨rfl, rfl, rfl, by simp, fun k hk _ => heap_alloc_old w.drew _ hk⟩⟩
theorem wpList_append_text (w : World) {ops : Array Oper} {rest : List Oper} {o : Oper} {a : Act} {Q : Exit → Act → World → Prop} (hgd : o.guard = none) (sl x : Operand)
    (ho : o.op = .call { callee := .builtin .append, args := #[sl, x], argTypes := #[33, 9] })
    (g n c : Nat) (l r s : List Nat) (hv : a.eval sl = .slice (some ⟨g, 0, none⟩) n c) (hc : c = n + r.length) (hx : a.eval x = .string (mkS s)) (hb : BlF w g (l ++ r)) (hl : l.length = n) (hs : ∀ c ∈ s, c < 256) (hz : n + s.length ≤ 140737488355328)
    (h : ∀ g' r' w', BlF w' g' (l ++ s ++ r') → ((∀ c ∈ r, c < 256) → ∀ c ∈ r', c < 256) → (g' = g ∨ w.heap.size ≤ g') → w.grownBy w' (some g) → wpList Try.prog ops Q rest (a.put o.dst (.slice (some ⟨g', 0, none⟩) (n + s.length) (n + s.length + r'.length))) w') : wpList Try.prog ops Q (o :: rest) a w := by
  subst hc
  refine wpList_plain hgd fun K hK => ?_
  obtain ⟨g', r', w', hr, h2, h3, h4, h5⟩ := append_text w o.type g n l r s hb hl hs hz
  unfold Oper.wp execOp
  simp only [ho, resolve, invoke, builtin, Sem.run_bind, Sem.run_pure, Result.andThen_ok, List.map_toArray, List.map_cons, List.map_nil, hv, hx, hr]
  exact hK _ _ (h g' r' w' h2 h3 h4 h5)
/-- a copy into a row whose frozen part lies behind it -/
theorem wpList_copy_G {w : World} {ops : Array Oper} {rest : List Oper} {o : Oper} {a : Act} {Q : Exit → Act → World → Prop} (hgd : o.guard = none) (d s : Operand)
    (ho : o.op = .call { callee := .builtin .copy, args := #[d, s], argTypes := #[33, 33] })
    (dp sp : Option Addr) (dLen dCap sLen sCap : Nat) (hd : a.eval d = .slice dp dLen dCap) (hs : a.eval s = .slice sp sLen sCap)
    (g off : Nat) (cur : List Nat) (hg : BlF w g cur) (cs : List Nat) (hn : cs.length = Nat.min sLen dLen)
    (hpos : 0 < cs.length → dp = some ⟨g, off, none⟩ ∧ ∃ ad, sp = some ad ∧ ∀ j v, (cs.map byteV)[j]? = some v → w.cell? (ad.add j) = some v)
    (hfit : off + cs.length ≤ cur.length) (B : Nat) (w0 : World) (hb : Below B w0 w) (hBg : B ≤ g)
    (h : ∀ w', Hid (BlF w' g (cur.take off ++ (cs ++ cur.drop (off + cs.length)))) → Below B w0 w' → (∀ k, k ≠ g → w'.heap[k]? = w.heap[k]?) → wpList Try.prog ops Q rest (a.put o.dst (goInt cs.length)) w') :
    wpList Try.prog ops Q (o :: rest) a w := by
  by_cases h0 : cs.length = 0
  · obtain rfl : cs = [] := List.eq_nil_of_length_eq_zero h0
    refine wpList_copy_nothing hgd d s _ _ ho 5 Try.underlying33 Try.size5 dp sp dLen dCap sLen sCap hd hs (by simpa using hn.symm) ?_
    exact h w (by simpa [Hid] using hg) hb (fun _ _ => rfl)
  · obtain ⟨rfl, ad, rfl, hsrc⟩ := hpos (by omega)
    obtain ⟨fz, hgg, hfz⟩ := hg
    refine wpList_plain hgd fun K hK => ?_
    have hl := run_loadCells_list (P := Try.prog) w ad (cs.map byteV) hsrc
    have hst := run_storeCells_G Try.prog g off 5 fz (cs.map byteV) 0 _ w hgg (by simpa using hfz) (by simpa using hfit) (oneCell_bytes cs)
    obtain ⟨i0, hi, hz0, hz1, hz2⟩ := info_parts Try.info5
    rw [List.length_map] at hl
    have hrun : (Builtin.copy_ #[33, 33] o.type #[.slice (some ⟨g, off, none⟩) dLen dCap, .slice (some ad) sLen sCap]).run Try.prog w = .ok (goInt cs.length) (w.setRow g ((cur.take off ++ (cs ++ cur.drop (off + cs.length))).map byteV).toArray) := by
      have el : (List.take (off + 0) (List.map byteV cur) ++ List.map byteV cs ++ List.drop (off + 0 + (List.map byteV cs).length) (List.map byteV cur)) = (cur.take off ++ (cs ++ cur.drop (off + cs.length))).map byteV := by
        simp [List.map_take, List.map_drop]
      rw [el] at hst
      simp [Builtin.copy_, run_underlying Try.underlying33, Builtin.lenOf, Builtin.firstCells, sizeOf, typeInfo, hi, hz1, ← hn, hl, hst, -List.map_append]
    unfold Oper.wp
    simp only [execOp, ho, resolve, invoke, builtin, Sem.run_bind, Sem.run_pure, Result.andThen_ok, List.map_toArray, List.map_cons, List.map_nil, hd, hs, hrun]
    refine hK _ _ (h _ ⟨fz, setRow_heap w g _ _ _ _ hgg, ?_⟩ (below_setRow hb hBg _) (fun k hk => setRow_other w g k _ hk))
    simp
    omega
end Go.Proofs.Ytaijcnkmklibcaa
