import Derived.Test.YtgpimajdcfoigabDoorD27

/- codec.writeData: the other layouts. codec.writeData: the other layouts. -/
namespace Go.Proofs.YtgpimajdcfoigabDoor
open Go.RowKit
set_option linter.unusedVariables false
set_option linter.unusedSimpArgs false
section
variable (B : Nat → ByteArray → Int) (W : List T → Bool)
set_option maxRecDepth 100000 in
set_option maxHeartbeats 2000000 in
theorem data_none (k : Int) (n : Int) (s : ByteArray) (a : Option Addr) (c : Nat) (e : Int) (l : List V) (cd body g cap n₀ : Nat) (xs : List Nat) (w : World) (hcd : cd < 256) (hlay : cd / 16 = 4) (hb : Buf w g cap xs) :
    Calls Tryd.prog 23 #[.slice (some ⟨g, 0, none⟩) xs.length cap, .agg #[.int .i64 k, .int .u64 n, .string s, .slice a l.length c, .int .i64 e], .int .u8 (cd : Int), .int .i64 (body : Int)] w (Wrote w g cap xs []) := by
  have hgl := hb.lt
  have HB := hide hb
  have HLAY : Hid (∀ W1, Calls Tryd.prog 33 #[.int .u8 (cd : Int)] W1 fun e w' => e = .returned (.int .u8 4) ∧ W1 = w') := fun W1 => by
    have := layout_any cd hcd W1
    rw [hlay] at this
    exact this
  clear hlay hb hcd
  obtain ⟨W0, hW0⟩ : ∃ W0, w.alloc (Obj.cells #[.int .i64 k, .int .u64 n, .string s, .slice a l.length c, .int .i64 e] 25) = W0 := ⟨_, rfl⟩
  have HC : Hid (∀ W1, Gro g W0 W1 → W1.cell? ⟨w.heap.size, 0, none⟩ = some (.int .i64 k) ∧ W1.cell? ⟨w.heap.size, 1, none⟩ = some (.int .u64 n) ∧ W1.cell? ⟨w.heap.size, 2, none⟩ = some (.string s) ∧ W1.cell? ⟨w.heap.size, 3, none⟩ = some (.slice a l.length c) ∧ W1.cell? ⟨w.heap.size, 4, none⟩ = some (.int .i64 e)) := fun W1 hW => by
    have hh : W1.heap[w.heap.size]? = some (.cells #[.int .i64 k, .int .u64 n, .string s, .slice a l.length c, .int .i64 e] 25) := (hW.block _ (by rw [← hW0]; simp) (by simp; omega)).trans (by rw [← hW0]; exact World.alloc_heap_new _ _)
    simp [World.cell?, hh]
  have HG0 : Hid (Gro g w W0) := by show Gro g w W0; rw [← hW0]; exact (Gro.refl g w).alloc _
  have HB0 : Hid (Buf W0 g cap xs) := by show Buf W0 g cap xs; rw [← hW0]; exact HB.out.alloc _
  have hsw0 : w.heap.size < W0.heap.size := by rw [← hW0]; simp
  have HW0 := hide hW0
  clear hW0
  go_enter Tryd.func23, Tryd.ntmps23
  go_wp2_with fail
  rw [HW0.out]
  refine Calls.mono (HLAY.out _) ?_
  rintro e1 w1 ⟨rfl, rfl⟩
  go_wp2
  go_ret
  exact ⟨by simp, by simpa using HB0.out, HG0.out⟩
set_option maxRecDepth 100000 in
set_option maxHeartbeats 2000000 in
theorem data_six (k : Int) (n : Int) (s : ByteArray) (a : Option Addr) (c : Nat) (e : Int) (l : List V) (cd body g cap n₀ : Nat) (xs : List Nat) (w : World) (hcd : cd < 256) (hlay : cd / 16 = 9) (hss : s.size = 16) (hroom : xs.length + 16 ≤ cap) (hb : Buf w g cap xs) :
    Calls Tryd.prog 23 #[.slice (some ⟨g, 0, none⟩) xs.length cap, .agg #[.int .i64 k, .int .u64 n, .string s, .slice a l.length c, .int .i64 e], .int .u8 (cd : Int), .int .i64 (body : Int)] w (Wrote w g cap xs (txt s)) := by
  obtain ⟨i0, hi0, hz1⟩ := info8
  have hgl := hb.lt
  have HB := hide hb
  have hrm : xs.length + s.size ≤ cap := by omega
  have hcp : 0 < cap := by omega
  have HSS := hide hss
  have HLAY : Hid (∀ W1, Calls Tryd.prog 33 #[.int .u8 (cd : Int)] W1 fun e w' => e = .returned (.int .u8 9) ∧ W1 = w') := fun W1 => by
    have := layout_any cd hcd W1
    rw [hlay] at this
    exact this
  clear hlay hb hcd hss
  obtain ⟨W0, hW0⟩ : ∃ W0, w.alloc (Obj.cells #[.int .i64 k, .int .u64 n, .string s, .slice a l.length c, .int .i64 e] 25) = W0 := ⟨_, rfl⟩
  have HC : Hid (∀ W1, Gro g W0 W1 → W1.cell? ⟨w.heap.size, 0, none⟩ = some (.int .i64 k) ∧ W1.cell? ⟨w.heap.size, 1, none⟩ = some (.int .u64 n) ∧ W1.cell? ⟨w.heap.size, 2, none⟩ = some (.string s) ∧ W1.cell? ⟨w.heap.size, 3, none⟩ = some (.slice a l.length c) ∧ W1.cell? ⟨w.heap.size, 4, none⟩ = some (.int .i64 e)) := fun W1 hW => by
    have hh : W1.heap[w.heap.size]? = some (.cells #[.int .i64 k, .int .u64 n, .string s, .slice a l.length c, .int .i64 e] 25) := (hW.block _ (by rw [← hW0]; simp) (by simp; omega)).trans (by rw [← hW0]; exact World.alloc_heap_new _ _)
    simp [World.cell?, hh]
  have HG0 : Hid (Gro g w W0) := by show Gro g w W0; rw [← hW0]; exact (Gro.refl g w).alloc _
  have HB0 : Hid (Buf W0 g cap xs) := by show Buf W0 g cap xs; rw [← hW0]; exact HB.out.alloc _
  have hsw0 : w.heap.size < W0.heap.size := by rw [← hW0]; simp
  have HW0 := hide hW0
  clear hW0
  go_enter Tryd.func23, Tryd.ntmps23
  go_wp2_with fail
  rw [HW0.out]
  refine Calls.mono (HLAY.out _) ?_
  rintro e1 w1 ⟨rfl, rfl⟩
  obtain ⟨q0, q1, q2, q3, q4⟩ := HC.out W0 (Gro.refl _ _)
  go_wp2_with (at_builtin; go_loud (refine Lib.wpList_append_fits_string _ rfl (.tmp 38) (.tmp 40) 28 9 rfl g 5 i0 Tryd.underlying28 Tryd.underlying9 hi0 hz1 (some ⟨g, 0, none⟩) xs.length cap (xs.map bV) rfl HB0.out s rfl hcp hrm ?_; intro w2 hown2 hgr2; rw [str_cells] at hown2; have HG2 : Hid (Gro g W0 w2) := hgr2; have HB2 : Hid (Buf w2 g cap (xs ++ txt s)) := buf_app hown2 (txt_length s); clear hown2 hgr2))
  go_ret
  exact ⟨by rw [List.length_append, txt_length]; rfl, HB2.out, HG0.out.trans HG2.out⟩
set_option maxRecDepth 100000 in
set_option maxHeartbeats 2000000 in
theorem data_text10 (k : Int) (n : Int) (s : ByteArray) (a : Option Addr) (c : Nat) (e : Int) (l : List V) (cd body g cap n₀ : Nat) (xs : List Nat) (w : World) (hcd : cd < 256) (hlay : cd / 16 = 10) (hbody : body = s.size) (hbb : body ≤ 1000000000) (hroom : xs.length + (1 + s.size) ≤ cap) (hb : Buf w g cap xs) :
    Calls Tryd.prog 23 #[.slice (some ⟨g, 0, none⟩) xs.length cap, .agg #[.int .i64 k, .int .u64 n, .string s, .slice a l.length c, .int .i64 e], .int .u8 (cd : Int), .int .i64 (body : Int)] w (Wrote w g cap xs (digs body 1 ++ txt s)) := by
  obtain ⟨i0, hi0, hz1⟩ := info8
  have hgl := hb.lt
  have HB := hide hb
  have hrm : xs.length + 1 + s.size ≤ cap := by omega
  have hrm1 : xs.length + 1 ≤ cap := by omega
  have hcp : 0 < cap := by omega
  have HLAY : Hid (∀ W1, Calls Tryd.prog 33 #[.int .u8 (cd : Int)] W1 fun e w' => e = .returned (.int .u8 10) ∧ W1 = w') := fun W1 => by
    have := layout_any cd hcd W1
    rw [hlay] at this
    exact this
  have HPU : Hid (∀ W1, Calls Tryd.prog 34 #[.int .u64 (body : Int), .int .i64 1] W1 fun e w' => e = .returned (.slice (some ⟨W1.heap.size, 0, none⟩) 1 1) ∧ w'.rowIs W1.heap.size 5 1 (fun i => .int .u8 ((dig body (1 - 1 - i) : Nat) : Int)) ∧ w'.heap.size = W1.heap.size + 1 ∧ Below W1.heap.size W1 w') := fun W1 => put_yes body 1 W1 (by omega) (by omega) (by omega)
  clear hlay hb hcd hbody
  obtain ⟨W0, hW0⟩ : ∃ W0, w.alloc (Obj.cells #[.int .i64 k, .int .u64 n, .string s, .slice a l.length c, .int .i64 e] 25) = W0 := ⟨_, rfl⟩
  have HC : Hid (∀ W1, Gro g W0 W1 → W1.cell? ⟨w.heap.size, 0, none⟩ = some (.int .i64 k) ∧ W1.cell? ⟨w.heap.size, 1, none⟩ = some (.int .u64 n) ∧ W1.cell? ⟨w.heap.size, 2, none⟩ = some (.string s) ∧ W1.cell? ⟨w.heap.size, 3, none⟩ = some (.slice a l.length c) ∧ W1.cell? ⟨w.heap.size, 4, none⟩ = some (.int .i64 e)) := fun W1 hW => by
    have hh : W1.heap[w.heap.size]? = some (.cells #[.int .i64 k, .int .u64 n, .string s, .slice a l.length c, .int .i64 e] 25) := (hW.block _ (by rw [← hW0]; simp) (by simp; omega)).trans (by rw [← hW0]; exact World.alloc_heap_new _ _)
    simp [World.cell?, hh]
  have HG0 : Hid (Gro g w W0) := by show Gro g w W0; rw [← hW0]; exact (Gro.refl g w).alloc _
  have HB0 : Hid (Buf W0 g cap xs) := by show Buf W0 g cap xs; rw [← hW0]; exact HB.out.alloc _
  have hsw0 : w.heap.size < W0.heap.size := by rw [← hW0]; simp
  have HW0 := hide hW0
  clear hW0
  go_enter Tryd.func23, Tryd.ntmps23
  go_wp2_with fail
  rw [HW0.out]
  refine Calls.mono (HLAY.out _) ?_
  rintro e1 w1 ⟨rfl, rfl⟩
  go_wp2_with fail
  refine Calls.mono (HPU.out _) ?_
  rintro e3 w3 ⟨rfl, HR3, hz, hb3⟩
  have HN3 := hide (digs_news HR3)
  have HG3 : Hid (Gro g W0 w3) := Gro.of_below hb3
  have HB3 : Hid (Buf w3 g cap xs) := HB0.out.below hb3
  clear HR3 hz hb3
  go_wp2_with (at_builtin; go_loud (first | (refine wpList_append_fits _ rfl (.tmp 32) (.tmp 36) 28 rfl g 5 i0 1 Tryd.underlying28 hi0 hz1 g xs.length cap (xs.map bV) rfl HB3.out ⟨W0.heap.size, 0, none⟩ 1 1 ((digs body 1).map bV) rfl (by simp [digs_length]) HN3.out (map_news _) hrm1 ?_; intro w4 hown4 hgr4; have HG4 : Hid (Gro g W0 w4) := HG3.out.trans hgr4; have HB4 : Hid (Buf w4 g cap (xs ++ digs body 1)) := buf_app hown4 (digs_length _ _); have HB4' : Hid (w4.ownsRow g 5 1 (.slice (some ⟨g, 0, none⟩) (xs.length + 1) cap) (xs.length + 1) ((xs ++ digs body 1).map bV)) := (by have q := HB4.out; unfold Buf at q; rw [List.length_append, digs_length] at q; exact q); obtain ⟨q0, q1, q2, q3, q4⟩ := HC.out w4 HG4.out; clear hown4 hgr4) | (refine Lib.wpList_append_fits_string _ rfl (.tmp 38) (.tmp 40) 28 9 rfl g 5 i0 Tryd.underlying28 Tryd.underlying9 hi0 hz1 (some ⟨g, 0, none⟩) (xs.length + 1) cap ((xs ++ digs body 1).map bV) rfl HB4'.out s rfl hcp hrm ?_; intro w5 hown5 hgr5; rw [str_cells] at hown5; have HG5 : Hid (Gro g W0 w5) := HG4.out.trans hgr5; have HB5 : Hid (Buf w5 g cap ((xs ++ digs body 1) ++ txt s)) := buf_app (by rw [List.length_append, digs_length]; exact hown5) (txt_length s); clear hown5 hgr5)))
  go_ret
  refine ⟨?_, ?_, HG0.out.trans HG5.out⟩
  · simp [digs_length, txt_length]; omega
  · rw [← List.append_assoc]; exact HB5.out
set_option maxRecDepth 100000 in
set_option maxHeartbeats 2000000 in
theorem data_text11 (k : Int) (n : Int) (s : ByteArray) (a : Option Addr) (c : Nat) (e : Int) (l : List V) (cd body g cap n₀ : Nat) (xs : List Nat) (w : World) (hcd : cd < 256) (hlay : cd / 16 = 11) (hbody : body = s.size) (hbb : body ≤ 1000000000) (hroom : xs.length + (4 + s.size) ≤ cap) (hb : Buf w g cap xs) :
    Calls Tryd.prog 23 #[.slice (some ⟨g, 0, none⟩) xs.length cap, .agg #[.int .i64 k, .int .u64 n, .string s, .slice a l.length c, .int .i64 e], .int .u8 (cd : Int), .int .i64 (body : Int)] w (Wrote w g cap xs (digs body 4 ++ txt s)) := by
  obtain ⟨i0, hi0, hz1⟩ := info8
  have hgl := hb.lt
  have HB := hide hb
  have hrm : xs.length + 4 + s.size ≤ cap := by omega
  have hrm1 : xs.length + 4 ≤ cap := by omega
  have hcp : 0 < cap := by omega
  have HLAY : Hid (∀ W1, Calls Tryd.prog 33 #[.int .u8 (cd : Int)] W1 fun e w' => e = .returned (.int .u8 11) ∧ W1 = w') := fun W1 => by
    have := layout_any cd hcd W1
    rw [hlay] at this
    exact this
  have HPU : Hid (∀ W1, Calls Tryd.prog 34 #[.int .u64 (body : Int), .int .i64 4] W1 fun e w' => e = .returned (.slice (some ⟨W1.heap.size, 0, none⟩) 4 4) ∧ w'.rowIs W1.heap.size 5 4 (fun i => .int .u8 ((dig body (4 - 1 - i) : Nat) : Int)) ∧ w'.heap.size = W1.heap.size + 1 ∧ Below W1.heap.size W1 w') := fun W1 => put_yes body 4 W1 (by omega) (by omega) (by omega)
  clear hlay hb hcd hbody
  obtain ⟨W0, hW0⟩ : ∃ W0, w.alloc (Obj.cells #[.int .i64 k, .int .u64 n, .string s, .slice a l.length c, .int .i64 e] 25) = W0 := ⟨_, rfl⟩
  have HC : Hid (∀ W1, Gro g W0 W1 → W1.cell? ⟨w.heap.size, 0, none⟩ = some (.int .i64 k) ∧ W1.cell? ⟨w.heap.size, 1, none⟩ = some (.int .u64 n) ∧ W1.cell? ⟨w.heap.size, 2, none⟩ = some (.string s) ∧ W1.cell? ⟨w.heap.size, 3, none⟩ = some (.slice a l.length c) ∧ W1.cell? ⟨w.heap.size, 4, none⟩ = some (.int .i64 e)) := fun W1 hW => by
    have hh : W1.heap[w.heap.size]? = some (.cells #[.int .i64 k, .int .u64 n, .string s, .slice a l.length c, .int .i64 e] 25) := (hW.block _ (by rw [← hW0]; simp) (by simp; omega)).trans (by rw [← hW0]; exact World.alloc_heap_new _ _)
    simp [World.cell?, hh]
  have HG0 : Hid (Gro g w W0) := by show Gro g w W0; rw [← hW0]; exact (Gro.refl g w).alloc _
  have HB0 : Hid (Buf W0 g cap xs) := by show Buf W0 g cap xs; rw [← hW0]; exact HB.out.alloc _
  have hsw0 : w.heap.size < W0.heap.size := by rw [← hW0]; simp
  have HW0 := hide hW0
  clear hW0
  go_enter Tryd.func23, Tryd.ntmps23
  go_wp2_with fail
  rw [HW0.out]
  refine Calls.mono (HLAY.out _) ?_
  rintro e1 w1 ⟨rfl, rfl⟩
  go_wp2_with fail
  refine Calls.mono (HPU.out _) ?_
  rintro e3 w3 ⟨rfl, HR3, hz, hb3⟩
  have HN3 := hide (digs_news HR3)
  have HG3 : Hid (Gro g W0 w3) := Gro.of_below hb3
  have HB3 : Hid (Buf w3 g cap xs) := HB0.out.below hb3
  clear HR3 hz hb3
  go_wp2_with (at_builtin; go_loud (first | (refine wpList_append_fits _ rfl (.tmp 32) (.tmp 36) 28 rfl g 5 i0 1 Tryd.underlying28 hi0 hz1 g xs.length cap (xs.map bV) rfl HB3.out ⟨W0.heap.size, 0, none⟩ 4 4 ((digs body 4).map bV) rfl (by simp [digs_length]) HN3.out (map_news _) hrm1 ?_; intro w4 hown4 hgr4; have HG4 : Hid (Gro g W0 w4) := HG3.out.trans hgr4; have HB4 : Hid (Buf w4 g cap (xs ++ digs body 4)) := buf_app hown4 (digs_length _ _); have HB4' : Hid (w4.ownsRow g 5 1 (.slice (some ⟨g, 0, none⟩) (xs.length + 4) cap) (xs.length + 4) ((xs ++ digs body 4).map bV)) := (by have q := HB4.out; unfold Buf at q; rw [List.length_append, digs_length] at q; exact q); obtain ⟨q0, q1, q2, q3, q4⟩ := HC.out w4 HG4.out; clear hown4 hgr4) | (refine Lib.wpList_append_fits_string _ rfl (.tmp 38) (.tmp 40) 28 9 rfl g 5 i0 Tryd.underlying28 Tryd.underlying9 hi0 hz1 (some ⟨g, 0, none⟩) (xs.length + 4) cap ((xs ++ digs body 4).map bV) rfl HB4'.out s rfl hcp hrm ?_; intro w5 hown5 hgr5; rw [str_cells] at hown5; have HG5 : Hid (Gro g W0 w5) := HG4.out.trans hgr5; have HB5 : Hid (Buf w5 g cap ((xs ++ digs body 4) ++ txt s)) := buf_app (by rw [List.length_append, digs_length]; exact hown5) (txt_length s); clear hown5 hgr5)))
  go_ret
  refine ⟨?_, ?_, HG0.out.trans HG5.out⟩
  · simp [digs_length, txt_length]; omega
  · rw [← List.append_assoc]; exact HB5.out
end
end Go.Proofs.YtgpimajdcfoigabDoor
namespace Go.Proofs.YtgpimajdcfoigabDoor
open Go.RowKit
set_option linter.unusedVariables false
set_option linter.unusedSimpArgs false
section
variable (B : Nat → ByteArray → Int) (W : List T → Bool)
set_option maxRecDepth 100000 in
set_option maxHeartbeats 2000000 in
theorem data_arr14 (n : Int) (s : ByteArray) (a : Option Addr) (c : Nat) (e : Int) (l : List V) (cd body g cap n₀ : Nat) (xs : List Nat) (w : World) (hcd : cd < 256) (hlay : cd / 16 = 14) (hbb : body ≤ 1000000000) (hcap : cap ≤ 2000000) (hll : l.length ≤ 2199023255552) (hroom : xs.length + 2 ≤ cap) (els : List Nat) (hel : ∀ ys W1, Gro g w W1 → Buf W1 g cap ys → ys.length = xs.length + 2 → Calls Tryd.prog 35 #[.slice (some ⟨g, 0, none⟩) ys.length cap, .agg #[.int .i64 23, .int .u64 n, .string s, .slice a l.length c, .int .i64 e]] W1 (Wrote W1 g cap ys els)) (hb : Buf w g cap xs) :
    Calls Tryd.prog 23 #[.slice (some ⟨g, 0, none⟩) xs.length cap, .agg #[.int .i64 23, .int .u64 n, .string s, .slice a l.length c, .int .i64 e], .int .u8 (cd : Int), .int .i64 (body : Int)] w (Wrote w g cap xs (digs (1 + body) 1 ++ (digs l.length 1 ++ els))) := by
  have hgl := hb.lt
  have HB := hide hb
  have HEL := hide hel
  have HLAY : Hid (∀ W1, Calls Tryd.prog 33 #[.int .u8 (cd : Int)] W1 fun e w' => e = .returned (.int .u8 14) ∧ W1 = w') := fun W1 => by
    have := layout_any cd hcd W1
    rw [hlay] at this
    exact this
  have HSP : Hid (∀ W1, Buf W1 g cap xs → Calls Tryd.prog 36 #[.slice (some ⟨g, 0, none⟩) xs.length cap, .agg #[.int .i64 23, .int .u64 n, .string s, .slice a l.length c, .int .i64 e], .int .i64 1, .int .i64 (body : Int)] W1 (Wrote W1 g cap xs (digs (1 + body) 1 ++ digs l.length 1))) := fun W1 hW => by
    have := writeSpan_any (V.of 23 n s a c e l) 1 body g cap xs W1 (by omega) (by omega) (by rw [V.l_of]; omega) hW (by omega) (by omega)
    rw [V.val_of, V.l_of] at this
    exact this
  clear hlay hb hcd hel hroom
  obtain ⟨sp, hsp⟩ : ∃ sp, digs (1 + body) 1 ++ digs l.length 1 = sp := ⟨_, rfl⟩
  have hspl : sp.length = 2 := by rw [← hsp]; simp [digs_length]
  rw [← List.append_assoc (digs _ _), hsp]
  rw [hsp] at HSP
  have HEL2 : Hid (∀ W1, Gro g w W1 → Buf W1 g cap (xs ++ sp) → Calls Tryd.prog 35 #[.slice (some ⟨g, 0, none⟩) (xs.length + sp.length) cap, .agg #[.int .i64 23, .int .u64 n, .string s, .slice a l.length c, .int .i64 e]] W1 (Wrote W1 g cap (xs ++ sp) els)) := fun W1 h1 h2 => by
    have := HEL.out (xs ++ sp) W1 h1 h2 (by rw [List.length_append, hspl])
    rw [List.length_append] at this
    exact this
  clear hsp hspl HEL
  obtain ⟨W0, hW0⟩ : ∃ W0, w.alloc (Obj.cells #[.int .i64 23, .int .u64 n, .string s, .slice a l.length c, .int .i64 e] 25) = W0 := ⟨_, rfl⟩
  have HC : Hid (∀ W1, Gro g W0 W1 → W1.cell? ⟨w.heap.size, 0, none⟩ = some (.int .i64 23) ∧ W1.cell? ⟨w.heap.size, 1, none⟩ = some (.int .u64 n) ∧ W1.cell? ⟨w.heap.size, 2, none⟩ = some (.string s) ∧ W1.cell? ⟨w.heap.size, 3, none⟩ = some (.slice a l.length c) ∧ W1.cell? ⟨w.heap.size, 4, none⟩ = some (.int .i64 e)) := fun W1 hW => by
    have hh : W1.heap[w.heap.size]? = some (.cells #[.int .i64 23, .int .u64 n, .string s, .slice a l.length c, .int .i64 e] 25) := (hW.block _ (by rw [← hW0]; simp) (by simp; omega)).trans (by rw [← hW0]; exact World.alloc_heap_new _ _)
    simp [World.cell?, hh]
  have HG0 : Hid (Gro g w W0) := by show Gro g w W0; rw [← hW0]; exact (Gro.refl g w).alloc _
  have HB0 : Hid (Buf W0 g cap xs) := by show Buf W0 g cap xs; rw [← hW0]; exact HB.out.alloc _
  have hsw0 : w.heap.size < W0.heap.size := by rw [← hW0]; simp
  have HW0 := hide hW0
  clear hW0
  go_enter Tryd.func23, Tryd.ntmps23
  go_wp2_with fail
  rw [HW0.out]
  refine Calls.mono (HLAY.out _) ?_
  rintro e1 w1 ⟨rfl, rfl⟩
  obtain ⟨q0, q1, q2, q3, q4⟩ := HC.out W0 (Gro.refl _ _)
  have HBD : Hid (Buf W0.drew g cap xs) := HB0.out.kept rfl
  have HGD : Hid (Gro g W0 W0.drew) := (Gro.refl g W0).drew
  go_wp2_with fail
  go_region_held (fun W1 => W1.cell? ⟨w.heap.size, 0, none⟩ = some (.int .i64 23) ∧ W1.cell? ⟨w.heap.size, 1, none⟩ = some (.int .u64 n) ∧ W1.cell? ⟨w.heap.size, 2, none⟩ = some (.string s) ∧ W1.cell? ⟨w.heap.size, 3, none⟩ = some (.slice a l.length c) ∧ W1.cell? ⟨w.heap.size, 4, none⟩ = some (.int .i64 e)) (first | exact HC.out _ HG3.out | exact HC.out _ HG2.out | exact HC.out _ HGD.out) ((first | (go_at_call 36; refine Calls.mono (HSP.out _ HBD.out) ?_; rintro e2 w2 ⟨rfl, HH2⟩; have HG2 : Hid (Gro g W0 w2) := HGD.out.trans HH2.out.2) | (go_at_call 35; refine Calls.mono (HEL2.out _ (HG0.out.trans HG2.out) HH2.out.1) ?_; rintro e3 w3 ⟨rfl, HH3⟩; have HG3 : Hid (Gro g W0 w3) := HG2.out.trans HH3.out.2)))
  go_wp2
  go_ret
  refine ⟨?_, ?_, HG0.out.trans HG3.out⟩
  · simp
  · rw [← List.append_assoc]; exact HH3.out.1
set_option maxRecDepth 100000 in
set_option maxHeartbeats 2000000 in
theorem data_arr15 (n : Int) (s : ByteArray) (a : Option Addr) (c : Nat) (e : Int) (l : List V) (cd body g cap n₀ : Nat) (xs : List Nat) (w : World) (hcd : cd < 256) (hlay : cd / 16 = 15) (hbb : body ≤ 1000000000) (hcap : cap ≤ 2000000) (hll : l.length ≤ 2199023255552) (hroom : xs.length + 8 ≤ cap) (els : List Nat) (hel : ∀ ys W1, Gro g w W1 → Buf W1 g cap ys → ys.length = xs.length + 8 → Calls Tryd.prog 35 #[.slice (some ⟨g, 0, none⟩) ys.length cap, .agg #[.int .i64 23, .int .u64 n, .string s, .slice a l.length c, .int .i64 e]] W1 (Wrote W1 g cap ys els)) (hb : Buf w g cap xs) :
    Calls Tryd.prog 23 #[.slice (some ⟨g, 0, none⟩) xs.length cap, .agg #[.int .i64 23, .int .u64 n, .string s, .slice a l.length c, .int .i64 e], .int .u8 (cd : Int), .int .i64 (body : Int)] w (Wrote w g cap xs (digs (4 + body) 4 ++ (digs l.length 4 ++ els))) := by
  have hgl := hb.lt
  have HB := hide hb
  have HEL := hide hel
  have HLAY : Hid (∀ W1, Calls Tryd.prog 33 #[.int .u8 (cd : Int)] W1 fun e w' => e = .returned (.int .u8 15) ∧ W1 = w') := fun W1 => by
    have := layout_any cd hcd W1
    rw [hlay] at this
    exact this
  have HSP : Hid (∀ W1, Buf W1 g cap xs → Calls Tryd.prog 36 #[.slice (some ⟨g, 0, none⟩) xs.length cap, .agg #[.int .i64 23, .int .u64 n, .string s, .slice a l.length c, .int .i64 e], .int .i64 4, .int .i64 (body : Int)] W1 (Wrote W1 g cap xs (digs (4 + body) 4 ++ digs l.length 4))) := fun W1 hW => by
    have := writeSpan_any (V.of 23 n s a c e l) 4 body g cap xs W1 (by omega) (by omega) (by rw [V.l_of]; omega) hW (by omega) (by omega)
    rw [V.val_of, V.l_of] at this
    exact this
  clear hlay hb hcd hel hroom
  obtain ⟨sp, hsp⟩ : ∃ sp, digs (4 + body) 4 ++ digs l.length 4 = sp := ⟨_, rfl⟩
  have hspl : sp.length = 8 := by rw [← hsp]; simp [digs_length]
  rw [← List.append_assoc (digs _ _), hsp]
  rw [hsp] at HSP
  have HEL2 : Hid (∀ W1, Gro g w W1 → Buf W1 g cap (xs ++ sp) → Calls Tryd.prog 35 #[.slice (some ⟨g, 0, none⟩) (xs.length + sp.length) cap, .agg #[.int .i64 23, .int .u64 n, .string s, .slice a l.length c, .int .i64 e]] W1 (Wrote W1 g cap (xs ++ sp) els)) := fun W1 h1 h2 => by
    have := HEL.out (xs ++ sp) W1 h1 h2 (by rw [List.length_append, hspl])
    rw [List.length_append] at this
    exact this
  clear hsp hspl HEL
  obtain ⟨W0, hW0⟩ : ∃ W0, w.alloc (Obj.cells #[.int .i64 23, .int .u64 n, .string s, .slice a l.length c, .int .i64 e] 25) = W0 := ⟨_, rfl⟩
  have HC : Hid (∀ W1, Gro g W0 W1 → W1.cell? ⟨w.heap.size, 0, none⟩ = some (.int .i64 23) ∧ W1.cell? ⟨w.heap.size, 1, none⟩ = some (.int .u64 n) ∧ W1.cell? ⟨w.heap.size, 2, none⟩ = some (.string s) ∧ W1.cell? ⟨w.heap.size, 3, none⟩ = some (.slice a l.length c) ∧ W1.cell? ⟨w.heap.size, 4, none⟩ = some (.int .i64 e)) := fun W1 hW => by
    have hh : W1.heap[w.heap.size]? = some (.cells #[.int .i64 23, .int .u64 n, .string s, .slice a l.length c, .int .i64 e] 25) := (hW.block _ (by rw [← hW0]; simp) (by simp; omega)).trans (by rw [← hW0]; exact World.alloc_heap_new _ _)
    simp [World.cell?, hh]
  have HG0 : Hid (Gro g w W0) := by show Gro g w W0; rw [← hW0]; exact (Gro.refl g w).alloc _
  have HB0 : Hid (Buf W0 g cap xs) := by show Buf W0 g cap xs; rw [← hW0]; exact HB.out.alloc _
  have hsw0 : w.heap.size < W0.heap.size := by rw [← hW0]; simp
  have HW0 := hide hW0
  clear hW0
  go_enter Tryd.func23, Tryd.ntmps23
  go_wp2_with fail
  rw [HW0.out]
  refine Calls.mono (HLAY.out _) ?_
  rintro e1 w1 ⟨rfl, rfl⟩
  obtain ⟨q0, q1, q2, q3, q4⟩ := HC.out W0 (Gro.refl _ _)
  have HBD : Hid (Buf W0.drew g cap xs) := HB0.out.kept rfl
  have HGD : Hid (Gro g W0 W0.drew) := (Gro.refl g W0).drew
  go_wp2_with fail
  go_region_held (fun W1 => W1.cell? ⟨w.heap.size, 0, none⟩ = some (.int .i64 23) ∧ W1.cell? ⟨w.heap.size, 1, none⟩ = some (.int .u64 n) ∧ W1.cell? ⟨w.heap.size, 2, none⟩ = some (.string s) ∧ W1.cell? ⟨w.heap.size, 3, none⟩ = some (.slice a l.length c) ∧ W1.cell? ⟨w.heap.size, 4, none⟩ = some (.int .i64 e)) (first | exact HC.out _ HG3.out | exact HC.out _ HG2.out | exact HC.out _ HGD.out) ((first | (go_at_call 36; refine Calls.mono (HSP.out _ HBD.out) ?_; rintro e2 w2 ⟨rfl, HH2⟩; have HG2 : Hid (Gro g W0 w2) := HGD.out.trans HH2.out.2) | (go_at_call 35; refine Calls.mono (HEL2.out _ (HG0.out.trans HG2.out) HH2.out.1) ?_; rintro e3 w3 ⟨rfl, HH3⟩; have HG3 : Hid (Gro g W0 w3) := HG2.out.trans HH3.out.2)))
  go_wp2
  go_ret
  refine ⟨?_, ?_, HG0.out.trans HG3.out⟩
  · simp
  · rw [← List.append_assoc]; exact HH3.out.1
set_option maxRecDepth 100000 in
set_option maxHeartbeats 2000000 in
theorem data_num (k : Int) (n : Int) (s : ByteArray) (a : Option Addr) (c : Nat) (e : Int) (l : List V) (cd body g cap n₀ : Nat) (xs : List Nat) (w : World) (hcd : cd < 256) (hlay : cd / 16 = 5 ∨ cd / 16 = 6 ∨ cd / 16 = 7 ∨ cd / 16 = 8) (hn0 : 0 ≤ n) (hn1 : n < 18446744073709551616) (hroom : xs.length + nwid cd ≤ cap) (hb : Buf w g cap xs) :
    Calls Tryd.prog 23 #[.slice (some ⟨g, 0, none⟩) xs.length cap, .agg #[.int .i64 k, .int .u64 n, .string s, .slice a l.length c, .int .i64 e], .int .u8 (cd : Int), .int .i64 (body : Int)] w (Wrote w g cap xs (digs n.toNat (nwid cd))) := by
  obtain ⟨i0, hi0, hz1⟩ := info8
  have hgl := hb.lt
  have HB := hide hb
  have hnw : 1 ≤ nwid cd ∧ nwid cd ≤ 8 := by unfold nwid; split <;> (try split) <;> (try split) <;> omega
  have HNW : Hid (∀ W1, Calls Tryd.prog 37 #[.int .u8 (cd : Int)] W1 fun e w' => e = .returned (.int .i64 ((nwid cd : Nat) : Int)) ∧ W1 = w') := fun W1 => numberWidth_any cd (by omega) (by omega) W1
  have HPU : Hid (∀ W1, Calls Tryd.prog 34 #[.int .u64 n, .int .i64 ((nwid cd : Nat) : Int)] W1 fun e w' => e = .returned (.slice (some ⟨W1.heap.size, 0, none⟩) (nwid cd) (nwid cd)) ∧ w'.rowIs W1.heap.size 5 (nwid cd) (fun i => .int .u8 ((dig n.toNat (nwid cd - 1 - i) : Nat) : Int)) ∧ w'.heap.size = W1.heap.size + 1 ∧ Below W1.heap.size W1 w') := fun W1 => by
    have := put_yes n.toNat (nwid cd) W1 (by omega) hnw.1 hnw.2
    rw [Int.toNat_of_nonneg hn0] at this
    exact this
  generalize nwid cd = nw at HNW HPU hnw hroom ⊢
  generalize n.toNat = nn at HPU ⊢
  have hcs : ∃ q : Nat, cd / 16 = q ∧ (q = 5 ∨ q = 6 ∨ q = 7 ∨ q = 8) := ⟨_, rfl, hlay⟩
  obtain ⟨q, hq, hq4⟩ := hcs
  have HLAY0 : Hid (∀ W1, Calls Tryd.prog 33 #[.int .u8 (cd : Int)] W1 fun e w' => e = .returned (.int .u8 (q : Int)) ∧ W1 = w') := fun W1 => by
    have := layout_any cd hcd W1
    rw [hq] at this
    exact this
  clear hlay hb hcd hq hn0 hn1
  obtain ⟨W0, hW0⟩ : ∃ W0, w.alloc (Obj.cells #[.int .i64 k, .int .u64 n, .string s, .slice a l.length c, .int .i64 e] 25) = W0 := ⟨_, rfl⟩
  have HC : Hid (∀ W1, Gro g W0 W1 → W1.cell? ⟨w.heap.size, 0, none⟩ = some (.int .i64 k) ∧ W1.cell? ⟨w.heap.size, 1, none⟩ = some (.int .u64 n) ∧ W1.cell? ⟨w.heap.size, 2, none⟩ = some (.string s) ∧ W1.cell? ⟨w.heap.size, 3, none⟩ = some (.slice a l.length c) ∧ W1.cell? ⟨w.heap.size, 4, none⟩ = some (.int .i64 e)) := fun W1 hW => by
    have hh : W1.heap[w.heap.size]? = some (.cells #[.int .i64 k, .int .u64 n, .string s, .slice a l.length c, .int .i64 e] 25) := (hW.block _ (by rw [← hW0]; simp) (by simp; omega)).trans (by rw [← hW0]; exact World.alloc_heap_new _ _)
    simp [World.cell?, hh]
  have HG0 : Hid (Gro g w W0) := by show Gro g w W0; rw [← hW0]; exact (Gro.refl g w).alloc _
  have HB0 : Hid (Buf W0 g cap xs) := by show Buf W0 g cap xs; rw [← hW0]; exact HB.out.alloc _
  have hsw0 : w.heap.size < W0.heap.size := by rw [← hW0]; simp
  have HW0 := hide hW0
  clear hW0
  obtain ⟨q0, q1, q2, q3, q4⟩ := HC.out W0 (Gro.refl _ _)
  have HBD : Hid (Buf W0.drew g cap xs) := HB0.out.kept rfl
  have HGD : Hid (Gro g W0 W0.drew) := (Gro.refl g W0).drew
  rcases hq4 with rfl | rfl | rfl | rfl
  all_goals
    go_enter Tryd.func23, Tryd.ntmps23
    go_wp2_with fail
    rw [HW0.out]
    refine Calls.mono (HLAY0.out _) ?_
    rintro e1 w1 ⟨rfl, rfl⟩
    go_wp2_with fail
    go_region_held_law (fun W1 => W1.cell? ⟨w.heap.size, 0, none⟩ = some (.int .i64 k) ∧ W1.cell? ⟨w.heap.size, 1, none⟩ = some (.int .u64 n) ∧ W1.cell? ⟨w.heap.size, 2, none⟩ = some (.string s) ∧ W1.cell? ⟨w.heap.size, 3, none⟩ = some (.slice a l.length c) ∧ W1.cell? ⟨w.heap.size, 4, none⟩ = some (.int .i64 e)) (first | exact HC.out _ HG4.out | exact HC.out _ HG3.out | exact HC.out _ HGD.out) ((first | (go_at_call 37; refine Calls.mono (HNW.out _) ?_; rintro e2 w2 ⟨rfl, rfl⟩) | (go_at_call 34; refine Calls.mono (HPU.out _) ?_; rintro e3 w3 ⟨rfl, HR3, hz, hb3⟩; have HN3 := hide (digs_news HR3); have HG3 : Hid (Gro g W0 w3) := HGD.out.trans (Gro.of_below hb3); have HB3 : Hid (Buf w3 g cap xs) := HBD.out.below hb3; clear HR3 hz hb3) | (refine step_append_in rfl (.tmp 65) (.tmp 70) 28 rfl g 5 i0 1 Tryd.underlying28 hi0 hz1 g xs.length cap (xs.map bV) (by first | rfl | simp [Act.eval, Act.put]) HB3.out ⟨W0.heap.size, 0, none⟩ nw nw ((digs nn nw).map bV) (by first | rfl | simp [Act.eval, Act.put]) (by simp [digs_length]) HN3.out (map_news _) hroom ?_; intro w4 hown4 hgr4; have HG4 : Hid (Gro g W0 w4) := HG3.out.trans hgr4; have HB4 : Hid (Buf w4 g cap (xs ++ digs nn nw)) := buf_app hown4 (digs_length _ _); clear hown4 hgr4)))
    go_wp2
    go_ret
    refine ⟨?_, HB4.out, HG0.out.trans HG4.out⟩
    simp [digs_length]
end
end Go.Proofs.YtgpimajdcfoigabDoor
