import Derived.Test.YtgpimajdcfoigabDoorD40
import Derived.Test.YtgpimajdcfoigabDoorD42

/- codec's reader: array. -/
namespace Go.Proofs.YtgpimajdcfoigabDoor
open Go.RowKit
set_option linter.unusedVariables false
set_option linter.unusedSimpArgs false
theorem arr_len (l : List Nat) (hl : ∀ b ∈ l, b < 256) (f wd p fin : Nat) (sz : Int) (hwd : wd = 1 ∨ wd = 4) {x : Nat × List T} {q' : Nat} (h : rspan l wd (wd + 1) p fin sz (rarrI l (rdat badB twiceW l f) f) = .ok (x, q')) : x.2.length < 4294967296 ∧ p ≤ q' ∧ q' ≤ fin := by
  obtain ⟨size, count, b1, b2, b3, b4, b5, b6, b7⟩ := rspan_far l (fun count q fin sz x q' hq hi => by have := rarrI_far l (rdat_far badB twiceW l f) hi; omega) h
  have h1 := rnum_lt l hl b4
  have h2 := rarrI_far l (rdat_far badB twiceW l f) b6
  have h3 : (256 : Nat) ^ wd ≤ 4294967296 := by rcases hwd with rfl | rfl <;> decide
  exact ⟨by omega, by omega, by omega⟩
/-- what array gives -/
def OutA (r : Res ((Nat × List T) × Nat)) (R : Nat) (a : Option Addr) (n cap fin : Nat) (sz : Int) (w : World) (e : Ending) (w' : World) : Prop :=
  match r with
  | .error x => e = Flt x ∧ Gro R w w'
  | .ok xq => (∃ ys la lc, e = .returned (.tuple #[.int .i64 (xq.1.1 : Int), .slice la (ys : List V).length lc]) ∧ Hid (GotL w ys la lc w' ∧ V.ts ys = xq.1.2 ∧ RB w' R a n cap xq.2 fin sz ∧ xq.2 ≤ fin)) ∧ Gro R w w'
set_option maxRecDepth 100000 in
set_option maxHeartbeats 4000000 in
theorem arr_any (R d f wd : Nat) (a : Option Addr) (n cap p fin : Nat) (sz : Int) (l : List Nat) (w : World) (hs : Src w R a n cap l) (hr : RB w R a n cap p fin sz) (hp : p ≤ fin) (hfin : fin ≤ n) (hwd : wd = 1 ∨ wd = 4) (hdf : d + (f + 1) = 33) (HV : Hid (f ≠ 0 → ∀ c k, c < 256 → kindC c = some k → DatAt f d R a n cap l k c)) :
    Calls Tryd.prog 43 #[.pointer (some ⟨R, 0, none⟩), .int .i64 (wd : Int), .int .i64 (d : Int)] w (OutA (rarr l (rdat badB twiceW l f) f wd p fin sz) R a n cap fin sz w) := by
  have hRl := hr.cells.2.2.2.2.2.2.2
  have hby := hs.rd.2.1
  obtain ⟨N, hN⟩ : ∃ N, w.heap.size = N := ⟨_, rfl⟩
  obtain ⟨W4, hW4⟩ : ∃ W4, ((((w.alloc (.cells #[.pointer (some ⟨R, 0, none⟩)] 55)).alloc (.cells #[.int .i64 (d : Int)] 3)).alloc (.cells #[.int .i64 0] 3)).alloc (.cells #[.slice none 0 0] 23)) = W4 := ⟨_, rfl⟩
  have hg4 : Gro R w W4 := by rw [← hW4]; exact ((((Gro.refl R w).alloc _).alloc _).alloc _).alloc _
  have hsz4 : W4.heap.size = N + 4 := by rw [← hW4]; simp; omega
  have hAF : AF w N R d W4 := by
    subst hN
    refine ⟨⟨hg4, ⟨?_, ?_, by omega⟩⟩, ?_, ?_⟩
    · rw [← hW4]; exact heap_past (heap_past (heap_past (World.alloc_heap_new _ _) _) _) _
    · rw [← hW4]; exact heap_past (heap_past (heap_at1 _ _ _) _) _
    · rw [← hW4]; exact heap_past (heap_at2 _ _ _ _) _
    · rw [← hW4]
      have := World.alloc_heap_new (((w.alloc (.cells #[.pointer (some ⟨R, 0, none⟩)] 55)).alloc (.cells #[.int .i64 (d : Int)] 3)).alloc (.cells #[.int .i64 0] 3)) (.cells #[.slice none 0 0] 23)
      simp only [World.size_alloc] at this
      exact this
  have hr4 : RB W4 R a n cap p fin sz := by rw [← hW4]; exact (((hr.alloc _).alloc _).alloc _).alloc _
  have hRN : R < N := by omega
  have HSP := hide (span4 (rarrI l (rdat badB twiceW l f) f) R a n cap p fin wd (wd + 1) sz l (AF w N R d) (AG w N R d) (AJ N) N (N + 2) (N + 1) (N + 3) W4 hAF hr4 hp hfin hwd (by omega) (fun W W' h hg => h.on hg hRN) (fun W h => hs.gro h.g.gro) (fun W h => h.g) (fun W W' h hg => h.on hg hRN)
    (fun x W W' hj hG hg => by
      obtain ⟨ys, lv, h1, h2, h3⟩ := hj
      exact ⟨ys, lv, h1.gro hg (by omega) (by omega), h2, (hg.block (N + 2) (Array.getElem?_eq_some_iff.1 h3).1 (by simp; omega)).trans h3⟩)
    (fun count q fin' sz' W1 h1 h2 h3 h4 h5 h6 => arr1_any w N R d f a n cap l hN hs hRN hdf HV count q fin' sz' W1 h1 h2 h3 h4 h5 h6))
  rw [rarr_b]
  have HW4 := hide hW4
  have hmf : ∀ (fn : Fn) (first cap : Array Value) (w : World), (Instr.makeFunc fn first cap).run Tryd.prog w = .ok (.func fn first cap) w := fun _ _ _ _ => rfl
  subst hN
  clear hW4 hAF hr4 hr HV
  have hwc : ((wd + 1 : Nat) : Int) = (wd : Int) + 1 := by omega
  rw [hwc] at HSP
  cases hsp : rspan l wd (wd + 1) p fin sz (rarrI l (rdat badB twiceW l f) f) with
  | error x =>
    rw [hsp] at HSP
    clear hsp
    go_enter Tryd.func43, Tryd.ntmps43
    go_wp2_with fail
    rw [HW4.out]
    refine Calls.mono HSP.out ?_
    rintro e1 w1 ⟨rfl, hG⟩
    exact ⟨rfl, rfl, hG.gro⟩
  | ok xq =>
    obtain ⟨⟨e, xs⟩, q⟩ := xq
    rw [hsp] at HSP
    obtain ⟨l1, l2, l3⟩ := arr_len l hby f wd p fin sz hwd hsp
    have HL := hide (And.intro l1 (And.intro l2 l3))
    have HSP2 : Hid (Calls Tryd.prog 56 #[.pointer (some ⟨R, 0, none⟩), .int .i64 (wd : Int), .int .i64 ((wd : Int) + 1), .func (.func 59) #[] #[.pointer (some ⟨w.heap.size, 0, none⟩), .pointer (some ⟨w.heap.size + 2, 0, none⟩), .pointer (some ⟨w.heap.size + 1, 0, none⟩), .pointer (some ⟨w.heap.size + 3, 0, none⟩)]] W4 (fun e' w' => e' = .returned (.tuple #[]) ∧ RB w' R a n cap q fin sz ∧ q ≤ fin ∧ AJ w.heap.size (e, xs) w' ∧ AG w w.heap.size R d w')) := HSP.out
    clear HSP hsp l1 l2 l3 hby hs
    go_enter Tryd.func43, Tryd.ntmps43
    go_wp2_with fail
    rw [HW4.out]
    refine Calls.mono HSP2.out ?_
    rintro e1 w1 ⟨rfl, hr1, hq1, ⟨ys, lv, hgat, hts, hkb⟩, hG⟩
    simp only at hkb hts
    obtain ⟨la, lc, rfl, _, hllc⟩ := hgat.slice
    have HLEN : Hid (ys.length = xs.length) := by show ys.length = xs.length; rw [← hts, V.ts_length]
    have hbx := hG.bx
    have c2 : w1.cell? ⟨w.heap.size + 2, 0, none⟩ = some (.int .i64 (e : Int)) := by simp [World.cell?, hkb]
    have c3 : w1.cell? ⟨w.heap.size + 3, 0, none⟩ = some (.slice la ys.length lc) := by simp [World.cell?, hgat.box]
    have hsz1 := hbx.sz
    have HGT := hide hgat
    have HTS := hide hts
    have HR1 := hide hr1
    have HG1 := hide hG
    clear hgat hr1 hG hbx hkb hts
    go_wp2
    go_region_held (fun W1 => W1.cell? ⟨w.heap.size + 2, 0, none⟩ = some (.int .i64 (e : Int)) ∧ W1.cell? ⟨w.heap.size + 3, 0, none⟩ = some (.slice la ys.length lc)) (go_keep) (fail)
    go_wp2
    go_ret2
    exact ⟨⟨ys, la, lc, rfl, ⟨(HGT.out.gro ((Gro.refl R w1).drew) (by omega) (by omega)).got (by omega) (by have := HL.out.1; have := HLEN.out; omega), HTS.out, HR1.out, hq1⟩⟩, HG1.out.gro.drew⟩
end Go.Proofs.YtgpimajdcfoigabDoor
