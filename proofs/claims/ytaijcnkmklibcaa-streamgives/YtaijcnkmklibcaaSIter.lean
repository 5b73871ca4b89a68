
/- Stage 6: the iterator that items makes. -/
import Derived.Test.YtaijcnkmklibcaaSLaw
import Derived.Test.YtaijcnkmklibcaaSRun
import Derived.Test.YtaijcnkmklibcaaSItems
import Derived.LoopIn
import Derived.LoopNIn
import Derived.OwnWalkIn
import Derived.RangeFuncCalls
import Derived.RangeFuncRecord
import Derived.TacticsInMore
import Derived.Shelf.RegionOpen
import Derived.RangeFuncBound
namespace Go.Proofs.Ytaijcnkmklibcaa
open Go.RowKit Go.Deep Go.Shelf
set_option linter.unusedVariables false
set_option linter.unusedSimpArgs false
attribute [local go_sem] Oper.semAt_some

theorem it_form (s : Sg) (c : Nat) (A1 A2 : Option Addr) : ∃ (p ty ch : Int) (ax : Option Addr) (nx : Nat) (ay : Option Addr) (ny : Nat), s.It c A1 A2 = itV (s.K c) p ty ch (.slice ax nx nx) (.slice ay ny ny) := by
  obtain ⟨⟨lim, tk, at_⟩, l, ⟨sz, kd⟩, ⟨hd, er⟩, mo⟩ := s
  by_cases hK : Sg.K ((lim, tk, at_), l, (sz, kd), (hd, er), mo) c = 0
  · exact ⟨0, 0, 0, none, 0, none, 0, by simp [Sg.It, hK, it0]⟩
  · simp only [Sg.It, hK, if_false]
    by_cases hE : Sg.E ((lim, tk, at_), l, (sz, kd), (hd, er), mo) c = 0
    · simp only [Sg.K, hE, if_true] at hK ⊢
      simp only [mK, mIt] at hK ⊢
      by_cases h0 : mo = 0
      · simp only [h0, if_true] at hK ⊢
        by_cases h1 : (rdH (l ++ [c]) 0).2.2 = 10
        · simp [h1] at hK
        · simp only [h1, if_false]
          exact ⟨_, _, _, none, 0, none, 0, rfl⟩
      · simp only [h0, if_false] at hK ⊢
        by_cases h4 : mo = 4
        · simp only [h4, if_true] at hK ⊢
          by_cases h1 : (l ++ [c]).length < sz
          · simp [h1] at hK
            simp at h1
            omega
          · simp only [h1, if_false]
            exact ⟨_, _, _, _, _, _, _, rfl⟩
        · simp [h4] at hK
    · simp [Sg.K, hE] at hK

/-- what the iterator must find: its two variables, the bytes, the stream -/
def GI (S B : Nat) (M : Int) (bC bS : Nat) (a : Option Addr) (c : Nat) (l : List Nat) (t : Nat × Sg) (W : World) : Prop :=
  (t.1 ≤ l.length ∧ 0 ≤ t.2.1.2.1 ∧ t.2.1.2.1 + ((l.length - t.1 : Nat) : Int) ≤ 281474976710656) ∧ (W.heap[bC]? = some (.cells #[.slice a l.length c] 33 (0, 0)) ∧ W.heap[bS]? = some (.cells #[.pointer (some ⟨S, 0, none⟩)] 25 (0, 0))) ∧ Rd W a l.length l ∧
  ∃ v, SR W S B M t.2 v
/-- a step of it -/
def StI (S B : Nat) (M : Int) (l : List Nat) (t t' : Nat × Sg) (A A' : World) : Prop :=
  t.1 < l.length ∧ t.2.2.2.2.1.2 = 0 ∧ t' = (t.1 + 1, t.2.nx (l.getD t.1 0)) ∧ ∃ v v', SR A S B M t.2 v ∧ SR A' S B M t'.2 v' ∧ ((v'.ownBlock = none ∨ v'.ownBlock = v.ownBlock ∨ ∃ g, v'.ownBlock = some g ∧ A.heap.size ≤ g) ∧ (¬ t.2.K (l.getD t.1 0) = 0 → v'.ownBlock = none)) ∧ KS S v A A'
def SilI (S B : Nat) (M : Int) (l : List Nat) (t t' : Nat × Sg) (A A' : World) : Prop := StI S B M l t t' A A' ∧ t.2.K (l.getD t.1 0) = 0
/-- what an item is, and the lists that came out with it -/
def ItI (l : List Nat) (t : Nat × Sg) (A A' : World) (x : Value) : Prop :=
  ¬ t.2.K (l.getD t.1 0) = 0 ∧ ∃ o1 o2 : Option Nat, x = t.2.It (l.getD t.1 0) (o1.map (fun g => (⟨g, 0, none⟩ : Addr))) (o2.map (fun g => (⟨g, 0, none⟩ : Addr))) ∧ (t.2.2.2.2.2 = 4 → mOut A A' (t.2.2.1 ++ [l.getD t.1 0]) o1 o2)
def TolI (S B : Nat) (M : Int) (l : List Nat) (t : Nat × Sg) (x : Value × Nat) (t' : Nat × Sg) (A A' : World) : Prop := StI S B M l t t' A A' ∧ x.2 = t.1 + 1 ∧ ItI l t A A' x.1
def BodI (t t' : Nat × Sg) : Prop := t'.1 = t.1
def FinI (l : List Nat) (t : Nat × Sg) : Prop := t.1 = l.length ∨ ¬ t.2.2.2.2.1.2 = 0
def encI (x : Value × Nat) : Array Value := #[x.1, .int .i64 (x.2 : Int)]
theorem SR.alloc {w : World} {S B : Nat} {M : Int} {s : Sg} {v : Value} (h : SR w S B M s v) (o : Obj) : SR (w.alloc o) S B M s v := by
  obtain ⟨h1, h2, h3, h4, h5, h6⟩ := h
  exact ⟨StB.alloc h1 o, h2.alloc o, by simp; omega, h4, h5, h6⟩

set_option maxRecDepth 100000 in
set_option maxHeartbeats 2000000 in
theorem items_seq (S B : Nat) (M : Int) (bC bS : Nat) (a : Option Addr) (c : Nat) (l : List Nat) :
    SeqJ Try.prog 47 #[.pointer (some ⟨bC, 0, none⟩), .pointer (some ⟨bS, 0, none⟩)] encI (GI S B M bC bS a c l) (SilI S B M l) (TolI S B M l) BodI (fun t => t.1 = 0) (FinI l) := by
  intro yl n t0 J Jx W hyl hJ hJx hG hS hY hini h0
  have hdd : ∀ k : Nat, (Fence.wide.depth.isSome = true → 1 ≤ k) := fun k h => by cases h
  obtain ⟨_, ⟨hbc, _⟩, hrd, _⟩ := hG _ _ h0
  have hC : W.cell? ⟨bC, 0, none⟩ = some (.slice a l.length c) := by simp [World.cell?, hbc]
  have hN : l.length ≤ 281474976710656 := by
    have := (hG _ _ h0).1
    rw [hini] at this
    omega
  have HJ0 := hide h0
  have HG := hide hG
  have HS := hide hS
  have HY := hide hY
  clear h0 hG hS hY hJ hJx hbc hrd
  refine callsIn_of_wp Try.func47 rfl trivial ?_ rfl
  simp only [Try.ntmps47, List.size_toArray, List.length_cons, List.length_nil, Nat.reduceAdd, Nat.reduceSub, Array.replicate_succ, Array.replicate_zero, List.push_toArray, List.append_toArray, List.nil_append, List.cons_append]
  gi_wp2
  gi_loopw [9] (fun i wr => ∃ t : Nat × Sg, i = .int .i64 (t.1 : Int) ∧ t.1 ≤ l.length ∧ Hid (J t wr)) (fun i _ => l.length - (intOf i).toNat)
  case atStart => exact ⟨t0, by rw [hini]; rfl, by omega, HJ0⟩
  case round =>
    obtain ⟨t, rfl, hle, HJ⟩ := hrel
    clear HJ0
    rename World => wr
    by_cases hi : t.1 < l.length
    · obtain ⟨⟨_, ht0, ht1⟩, ⟨_, hbs⟩, hrd, v, hR⟩ := HG.out t wr HJ.out
      obtain ⟨b, off, rfl, hblt, hcell⟩ := hrd.2.2 (by omega)
      have hci := hcell t.1 hi
      have hcl := hrd.lt t.1 hi
      have hP : wr.cell? ⟨bS, 0, none⟩ = some (.pointer (some ⟨S, 0, none⟩)) := by simp [World.cell?, hbs]
      obtain ⟨_, _, _, _, _, _, _, hE, _⟩ := hR.1.cells
      have HR := hide hR
      clear hR hrd hcell hbs
      by_cases he : t.2.2.2.2.1.2 = 0
      · have HC := hide (step_run wr S B M t.2 v (l.getD t.1 0) HR.out he hcl ht0 (by omega))
        rw [he] at hE
        generalize hgc : l.getD t.1 0 = cc at hci HC
        gi_wp2_with fail
        refine ⟨trivial, hdd _, ?_⟩
        refine (callsIn_wide.2 HC.out).mono ?_
        rintro e w1 ⟨o1, o2, v', rfl, q1, q2, q3, q4⟩
        obtain ⟨p, ty, ch, ax, nx, ay, ny, hf⟩ := it_form t.2 cc (o1.map (fun g => (⟨g, 0, none⟩ : Addr))) (o2.map (fun g => (⟨g, 0, none⟩ : Addr)))
        have HSt : Hid (StI S B M l t (t.1 + 1, t.2.nx cc) wr (w1.alloc (.cells #[.int .i64 (t.2.K cc), .int .i64 p, .int .i64 ty, .int .i64 ch, .slice ax nx nx, .slice ay ny ny] 51))) := ⟨hi, he, by rw [hgc], v, v', HR.out, q1.alloc _, by rw [hgc]; exact q3, Kp.below q4 (below_box w1 _)⟩
        have HIt : Hid (¬ t.2.K cc = 0 → ItI l t wr (w1.alloc (.cells #[.int .i64 (t.2.K cc), .int .i64 p, .int .i64 ty, .int .i64 ch, .slice ax nx nx, .slice ay ny ny] 51)) (itV (t.2.K cc) p ty ch (.slice ax nx nx) (.slice ay ny ny))) := fun hk => ⟨by rw [hgc]; exact hk, o1, o2, by rw [hgc, hf], fun h4 => by rw [hgc]; exact (q2 hk h4).alloc _⟩
        have HZ := hide q4.2.2.2.1
        rw [hf]
        simp only [itV]
        have HKe := hide (show t.2.K cc = t.2.K cc from rfl)
        generalize hkk : t.2.K cc = kk at HSt HIt
        have HKK := hide hkk
        clear hkk HKe
        clear q1 q2 q3 q4 hf HR hci hcl HC hP hE
        by_cases hk : kk = 0
        · subst hk
          gi_wp2
          refine ⟨(fun f h => by cases h), ?_⟩
          go_at_K
          gi_wp2
          go_roundw
          case rel => exact ⟨(t.1 + 1, t.2.nx cc), by go_num, hi, HS.out t _ wr _ HJ.out ⟨HSt.out, by rw [hgc]; exact HKK.out⟩⟩
          case measure => simp [intOf]; omega
        · have hkb : ((kk : Int) == 0) = false := by simpa using hk
          have hkb2 : ((kk : Int) != 0) = true := by simpa using hk
          obtain ⟨fn, tmps, assign, body, hy, hR⟩ := HY.out (n - 1) t (itV kk p ty ch (.slice ax nx nx) (.slice ay ny ny), t.1 + 1) (t.1 + 1, t.2.nx cc) wr _ HJ.out ⟨HSt.out, rfl, HIt.out hk⟩
          have hcast : ((t.1 + 1 : Nat) : Int) = (t.1 : Int) + 1 := by omega
          simp only [encI, itV, hcast] at hy
          gi_wp2_with ((try refine ⟨hdd _, ?_⟩); refine hR.mono ?_; clear hR; rintro e' W1 ⟨hkp, (⟨rfl, t'', hb, hj⟩ | ⟨rfl, hx⟩)⟩)
          · go_roundw
            case rel => exact ⟨t'', by rw [show t''.1 = t.1 + 1 from hb]; go_num, by rw [show t''.1 = t.1 + 1 from hb]; exact hi, hj⟩
            case measure => simp [intOf]; omega
          · exact bodyPost_ret (results_none rfl _ _ _) rfl ⟨⟨_, rfl⟩, .inr hx⟩
      · have heb : ((t.2.2.2.2.1.2 : Int) != 0) = true := by simpa using he
        gi_wp2_with fail
        exact bodyPost_ret (results_none rfl _ _ _) rfl ⟨⟨_, rfl⟩, .inl ⟨t, .inr he, HJ.out⟩⟩
    · have hil : t.1 = l.length := by omega
      gi_wp2_with fail
      go_end0
      exact ⟨⟨_, rfl⟩, .inl ⟨t, .inl hil, HJ.out⟩⟩
end Go.Proofs.Ytaijcnkmklibcaa
