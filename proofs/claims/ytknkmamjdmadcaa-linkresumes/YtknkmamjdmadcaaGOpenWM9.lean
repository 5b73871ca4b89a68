import Derived.Test.YtknkmamjdmadcaaGSend2M9
import Derived.Test.YtknkmamjdmadcaaGPeerM9
import Derived.Test.YtknkmamjdmadcaaGResMM9
import Derived.Test.YtknkmamjdmadcaaLHearM9
import Derived.Test.YtknkmamjdmadcaaGLaw1M9
import Derived.Test.YtknkmamjdmadcaaLFldM9
import Derived.Test.YtknkmamjdmadcaaLAgIM9
import Derived.Maps.RangeWalk
import Derived.StringKeys
import Derived.OwnWalk

/- Stage 14: a link that is opened, step by step. -/
namespace Go.Proofs.Ytknkmamjdmadcaa.G
open Go.RowKit Go.Maps
set_option linter.unusedVariables false
set_option linter.unusedSimpArgs false
theorem filt_len {A : Type} (T : List (ByteArray × A)) (k : ByteArray) (h : hasK T k = true) : (T.filter fun p => !decide (p.1 = k)).length + 1 ≤ T.length := by
  induction T with
  | nil => cases h
  | cons p l ih =>
    rw [hasK_cons] at h
    by_cases e : p.1 = k
    · rw [List.filter_cons_of_neg (by simp [e])]
      have := List.length_filter_le (fun p : ByteArray × A => !decide (p.1 = k)) l
      simp only [List.length_cons]
      omega
    · rw [List.filter_cons_of_pos (by simp [e])]
      have := ih (by simpa [e] using h)
      simp only [List.length_cons]
      omega
/-- a link that is being opened: n steps are behind it -/
structure OpI (d g : Nat) (rc : Bool) (w0 w : World) (n : Nat) (l : Lk) (T : List (ByteArray × Dv)) : Prop where
  lk : Lnk w g l T
  st : Sts d g l w T
  hr : l.rc = rc
  sm : l.sm = 2
  av : 0 ≤ l.av ∧ l.av ≤ 4294967295
  cr : 0 ≤ l.cr ∧ l.cr ≤ 4294967295
  len : T.length ≤ n
  cs : rc = false → 2147483647 - (n : Int) ≤ l.cr
  ct : rc = true → 0 ≤ l.ct ∧ l.ct ≤ n ∧ l.bd = 2147483647
  ks : ∀ p ∈ T, 0 < p.1.size ∧ p.1.size ≤ 32
  g0 : w0.heap.size ≤ g
  m0 : w0.heap.size ≤ l.dm
  be : Below w0.heap.size w0 w
def OpS (d g : Nat) (rc : Bool) (w0 w : World) (n : Nat) (P : List (ByteArray × Dv) → Prop) : Prop := ∃ l T, OpI d g rc w0 w n l T ∧ P T
section
variable {d g n : Nat} {rc : Bool} {w0 w w' : World} {l : Lk} {T : List (ByteArray × Dv)}
theorem OpI.below (h : OpI d g rc w0 w n l T) (hb : Below w.heap.size w w') : OpI d g rc w0 w' n l T :=
  ⟨h.lk.below hb, h.st.kp (Kp.ofBelow hb), h.hr, h.sm, h.av, h.cr, h.len, h.cs, h.ct, h.ks, h.g0, h.m0, h.be.trans (hb.mono h.be.size)⟩
theorem OpI.up (h : OpI d g rc w0 w n l T) {m : Nat} (hm : n ≤ m) : OpI d g rc w0 w m l T :=
  ⟨h.lk, h.st, h.hr, h.sm, h.av, h.cr, by have := h.len; omega, fun e => by have := h.cs e; omega, fun e => by have := h.ct e; omega, h.ks, h.g0, h.m0, h.be⟩
theorem OpI.one (h : OpI d g rc w0 w n l T) (hn : n ≤ 1000000) {tag : ByteArray} (h1 : 0 < tag.size) (h2 : tag.size ≤ 32) (hL : Lnk w' g l.one ((tag, dv0) :: T)) (hk : Kp (inL g l) w w') : OpI d g rc w0 w' (n + 1) l.one ((tag, dv0) :: T) := by
  have hb : Below w0.heap.size w w' := hk.toBelow h.be.size (fun k hk hi => by have := h.g0; have := h.m0; rcases hi with rfl | rfl <;> omega)
  have hav := h.av
  have hcr := h.cr
  refine ⟨hL, ?_, h.hr, h.sm, ?_, ?_, ?_, ?_, ?_, ?_, h.g0, h.m0, h.be.trans hb⟩
  · intro p hp
    rcases List.mem_cons.1 hp with rfl | hp
    · exact ⟨sw0_in _ _ _, sw0_in _ _ _⟩
    · exact ((h.st.kp hk).lk (l' := l.one) rfl) p hp
  · show 0 ≤ greater 0 (l.av - 1) ∧ greater 0 (l.av - 1) ≤ 4294967295
    unfold greater
    split <;> omega
  · show 0 ≤ greater 0 (l.cr - 1) ∧ greater 0 (l.cr - 1) ≤ 4294967295
    unfold greater
    split <;> omega
  · have := h.len
    simp only [List.length_cons]
    omega
  · intro e
    have := h.cs e
    show 2147483647 - ((n + 1 : Nat) : Int) ≤ greater 0 (l.cr - 1)
    unfold greater
    split <;> omega
  · intro e
    obtain ⟨a, b, c⟩ := h.ct e
    refine ⟨?_, ?_, c⟩
    · show 0 ≤ (l.ct + 1) % 4294967296
      omega
    · show (l.ct + 1) % 4294967296 ≤ ((n + 1 : Nat) : Int)
      omega
  · intro p hp
    rcases List.mem_cons.1 hp with rfl | hp
    · exact ⟨h1, h2⟩
    · exact h.ks p hp
theorem OpI.put (h : OpI d g rc w0 w n l T) {tag : ByteArray} (hh : hasK T tag = true) {p : Dv} (hL : Lnk w' g l ((tag, p) :: T.filter fun p => !decide (p.1 = tag))) (hS : Sts d g l w' ((tag, p) :: T.filter fun p => !decide (p.1 = tag))) (hk : Kp (fun j => j = l.dm) w w') : OpI d g rc w0 w' n l ((tag, p) :: T.filter fun p => !decide (p.1 = tag)) := by
  have hb : Below w0.heap.size w w' := hk.toBelow h.be.size (fun k hk hi => by have := h.m0; omega)
  refine ⟨hL, hS, h.hr, h.sm, h.av, h.cr, ?_, h.cs, h.ct, ?_, h.g0, h.m0, h.be.trans hb⟩
  · have := filt_len T tag hh
    have := h.len
    simp only [List.length_cons]
    omega
  · intro q hq
    rcases List.mem_cons.1 hq with rfl | hq
    · obtain ⟨r, hr, e⟩ := List.mem_map.1 (any_iff.1 hh)
      have := h.ks r hr
      rw [e] at this
      exact this
    · exact h.ks q (List.mem_filter.1 hq).1
end
/-- what Send or Got of a tag tells, and how the link stands behind it -/
def PutP (d g : Nat) (rc : Bool) (w0 w' : World) (n : Nat) (tag : ByteArray) (E : Int) : Prop := (E = 0 ∧ OpS d g rc w0 w' (n + 1) (fun T => hasK T tag = true)) ∨ ((E == 0) = false ∧ OpS d g rc w0 w' (n + 1) (fun _ => True))
theorem has_one (tag : ByteArray) (T : List (ByteArray × Dv)) : hasK ((tag, dv0) :: T) tag = true := by rw [hasK_cons]; simp
theorem send_put (d g n : Nat) (l : Lk) (T : List (ByteArray × Dv)) (tag : ByteArray) (w0 w : World) (h : OpI d g false w0 w n l T) (hn : n ≤ 1000000) :
    Calls Try.prog 19 #[.pointer (some ⟨g, 0, none⟩), .string tag, .bool false] w fun e w' => ∃ E : Int, e = .returned (.int .i64 E) ∧ PutP d g false w0 w' n tag E := by
  have hp : 0 < l.cr := by have := h.cs rfl; omega
  have hl : T.length < maxLen := by have := h.len; unfold maxLen; omega
  by_cases h0 : tag.size = 0 ∨ 32 < tag.size
  · exact (send_tag g l T tag w h.lk h.hr hp h0).mono fun e w' ⟨a, b⟩ => ⟨_, a, .inr ⟨rfl, l, T, (h.below b).up (by omega), trivial⟩⟩
  · have h1 : 0 < tag.size := by omega
    have h2 : tag.size ≤ 32 := by omega
    cases hk : hasK T tag with
    | true => exact (send_twice g l T tag w h.lk h.hr hp h1 h2 hk).mono fun e w' ⟨a, b⟩ => ⟨_, a, .inr ⟨rfl, l, T, (h.below b).up (by omega), trivial⟩⟩
    | false => exact (send_open g l T tag w h.lk h.hr hp h1 h2 hk (by rw [h.sm]; decide) h.cr h.av.1 h.av.2 hl).mono fun e w' ⟨a, b, c⟩ => ⟨_, a, .inl ⟨rfl, l.one, _, h.one hn h1 h2 b c, has_one tag T⟩⟩
theorem got_put (d g n : Nat) (l : Lk) (T : List (ByteArray × Dv)) (tag : ByteArray) (w0 w : World) (h : OpI d g true w0 w n l T) (hn : n ≤ 1000000) :
    Calls Try.prog 23 #[.pointer (some ⟨g, 0, none⟩), .string tag, .bool false] w fun e w' => ∃ E : Int, e = .returned (.int .i64 E) ∧ PutP d g true w0 w' n tag E := by
  have hp : l.ct ≠ l.bd := by have := h.ct rfl; omega
  have hl : T.length < maxLen := by have := h.len; unfold maxLen; omega
  by_cases h0 : tag.size = 0 ∨ 32 < tag.size
  · exact (got_tag g l T tag w h.lk h.hr hp h0).mono fun e w' ⟨a, b⟩ => ⟨_, a, .inr ⟨rfl, l, T, (h.below b).up (by omega), trivial⟩⟩
  · have h1 : 0 < tag.size := by omega
    have h2 : tag.size ≤ 32 := by omega
    cases hk : hasK T tag with
    | true => exact (got_twice g l T tag w h.lk h.hr hp h1 h2 hk).mono fun e w' ⟨a, b⟩ => ⟨_, a, .inr ⟨rfl, l, T, (h.below b).up (by omega), trivial⟩⟩
    | false => exact (got_open g l T tag w h.lk h.hr hp h1 h2 hk (by rw [h.sm]; decide) h.cr h.av.1 h.av.2 hl).mono fun e w' ⟨a, b, c⟩ => ⟨_, a, .inl ⟨rfl, l.one, _, h.one hn h1 h2 b c, has_one tag T⟩⟩
theorem own_put (d g n : Nat) (rc : Bool) (l : Lk) (T : List (ByteArray × Dv)) (x : Un) (w0 w : World) (h : OpI d g rc w0 w n l T) (hn : n ≤ 1000001) (hh : hasK T x.1 = true) (hz : x.1.size ≤ maxLen) (hk : StIn (fun b => b < w0.heap.size) w0 d x.2) :
    Calls Try.prog 24 #[.pointer (some ⟨g, 0, none⟩), .string x.1, .agg x.2.A, .bool false] w fun e w' => e = .returned (.int .i64 0) ∧ Hid (OpS d g rc w0 w' n (fun _ => True)) := by
  have hl : T.length < maxLen := by have := h.len; unfold maxLen; omega
  have hk' : StIn (fun b => b < w.heap.size) w d x.2 := StIn.keep (fun b hb => h.be.block b hb) (fun b hb => Nat.lt_of_lt_of_le hb h.be.size) hk
  refine (own_any d g l T x.1 x.2 w h.lk h.st hz hh hk' hl).mono fun e w' hp => ?_
  obtain ⟨he, s', _, a, b, c⟩ := hp
  exact ⟨he, l, _, h.put hh a b c, trivial⟩
theorem peer_put (d g n : Nat) (rc : Bool) (l : Lk) (T : List (ByteArray × Dv)) (x : Un) (w0 w : World) (h : OpI d g rc w0 w n l T) (hn : n ≤ 1000001) (hz : x.1.size ≤ maxLen) (hk : StIn (fun b => b < w0.heap.size) w0 d x.2) :
    Calls Try.prog 25 #[.pointer (some ⟨g, 0, none⟩), .string x.1, .agg x.2.A, .bool false] w fun e w' => ∃ v, e = .returned v ∧ Hid (OpS d g rc w0 w' n (fun _ => True)) := by
  have hl : T.length < maxLen := by have := h.len; unfold maxLen; omega
  have hk' : StIn (fun b => b < w.heap.size) w d x.2 := StIn.keep (fun b hb => h.be.block b hb) (fun b hb => Nat.lt_of_lt_of_le hb h.be.size) hk
  cases hh : hasK T x.1 with
  | true =>
    refine (peer_any d g l T x.1 x.2 w h.lk h.st hz hh hk' hl).mono fun e w' hp => ?_
    obtain ⟨⟨q, he⟩, s', _, a, b, c⟩ := hp
    exact ⟨_, he, l, _, h.put hh a b c, trivial⟩
  | false =>
    refine (peer_none g l T x.1 x.2 w h.lk hz hh).mono fun e w' hp => ?_
    obtain ⟨he, b⟩ := hp
    exact ⟨_, he, l, T, h.below b, trivial⟩
/-- a link that is new and has much credit -/
theorem op_new_r {d n : Nat} {w0 w w' : World} (hn : w0.heap.size ≤ n) (hL : Go.Proofs.Ytknkmamjdmadcaa.Lnk w (n + 1) (newLk ⟨#[]⟩ true 2 0 0 n) []) (hb : Below w0.heap.size w0 w) (h1 : LB w' (n + 1) ((newLk ⟨#[]⟩ true 2 0 0 n).grant 2147483647 false)) (h2 : Kp (fun k => k = n + 1) w w') :
    OpI d (n + 1) true w0 w' 0 ((newLk ⟨#[]⟩ true 2 0 0 n).grant 2147483647 false) [] :=
  ⟨(lnk_nil hL).turn h1 rfl h2, (fun p hp => by cases hp), rfl, rfl, ⟨show (0 : Int) ≤ 0 from by decide, show (0 : Int) ≤ 4294967295 from by decide⟩, ⟨show (0 : Int) ≤ 2147483647 from by decide, show (2147483647 : Int) ≤ 4294967295 from by decide⟩, Nat.le_refl _, (fun e => by cases e), fun _ => ⟨show (0 : Int) ≤ 0 from by decide, show (0 : Int) ≤ 0 from by decide, show (if 0 < gapZ 0 ((0 + 2147483647) % 4294967296) then (0 + 2147483647) % 4294967296 else (0 : Int)) = 2147483647 from by decide⟩, (fun p hp => by cases hp), by omega, hn, hb.trans (h2.toBelow hb.size (fun k hk e => by omega))⟩
theorem op_new_s {d n : Nat} {w0 w w' : World} (hn : w0.heap.size ≤ n) (hL : Go.Proofs.Ytknkmamjdmadcaa.Lnk w (n + 1) (newLk ⟨#[]⟩ false 2 0 0 n) []) (hb : Below w0.heap.size w0 w) (h1 : LB w' (n + 1) ((newLk ⟨#[]⟩ false 2 0 0 n).hearR 0 2147483647 false)) (h2 : Kp (fun k => k = n + 1) w w') :
    OpI d (n + 1) false w0 w' 0 ((newLk ⟨#[]⟩ false 2 0 0 n).hearR 0 2147483647 false) [] :=
  ⟨(lnk_nil hL).turn h1 rfl h2, (fun p hp => by cases hp), rfl, rfl, ⟨show (0 : Int) ≤ 0 from by decide, show (0 : Int) ≤ 4294967295 from by decide⟩, ⟨show (0 : Int) ≤ (greater 0 (gapZ 0 ((0 + 2147483647) % 4294967296))) from by decide, show ((greater 0 (gapZ 0 ((0 + 2147483647) % 4294967296))) : Int) ≤ 4294967295 from by decide⟩, Nat.le_refl _, fun _ => show 2147483647 - (0 : Int) ≤ (greater 0 (gapZ 0 ((0 + 2147483647) % 4294967296))) from by decide, (fun e => by cases e), (fun p hp => by cases hp), by omega, hn, hb.trans (h2.toBelow hb.size (fun k hk e => by omega))⟩
end Go.Proofs.Ytknkmamjdmadcaa.G


/- Stage 14: the law opens a link. -/
namespace Go.Proofs.Ytknkmamjdmadcaa.G
open Go.RowKit Go.Maps
set_option linter.unusedVariables false
set_option linter.unusedSimpArgs false

def OpnP (d : Nat) (rc : Bool) (w w' : World) (n : Nat) (v : Value) : Prop := ∃ g, v = .pointer (some ⟨g, 0, none⟩) ∧ OpS d g rc w w' n (fun _ => True)
theorem Try.infoStL : (Try.prog.info? 53).map (·.size) = some 19 := by kernel_rfl
set_option maxRecDepth 100000 in
set_option maxHeartbeats 4000000 in
theorem open_r (d : Nat) (hs ts : List Un) (pa qa : Option Addr) (pc qc : Nat) (w : World) (hP : RdP w pa hs) (hQ : RdP w qa ts) (hS : ∀ x ∈ hs, StIn (fun b => b < w.heap.size) w d x.2) (hT : ∀ x ∈ ts, StIn (fun b => b < w.heap.size) w d x.2) (hz : ∀ x ∈ hs, x.1.size ≤ maxLen) (hz2 : ∀ x ∈ ts, x.1.size ≤ maxLen) (hl : hs.length ≤ 100000) (hl2 : ts.length ≤ 100000) :
    Calls Try.prog 13 #[.bool true, .slice pa hs.length pc, .slice qa ts.length qc] w fun e w' => ∃ v, e = .returned v ∧ OpnP d true w w' hs.length v := by
  have HN := hide (new_yes ⟨#[]⟩ true 2 0 0 0 w (by decide) rfl rfl rfl (by omega))
  unfold cfA at HN
  have HP := hide hP
  have HQ := hide hQ
  have HSs := hide hS
  have HTs := hide hT
  have HZ := hide hz
  have HZ2 := hide hz2
  clear hP hQ hS hT hz hz2
  go_enter Try.func13, Try.ntmps13
  go_wp2_with (go_at_call 6; refine HN.out.mono ?_; rintro e1 w1 ⟨n, rfl, hn, hL, hb⟩; refine Shut.out ?_)
  unfold Shut
  have HG := hide (grant_any (n + 1) (newLk ⟨#[]⟩ true 2 0 0 n) 2147483647 false w1 hL.lb rfl rfl)
  have HO : Hid (∀ w', LB w' (n + 1) ((newLk ⟨#[]⟩ true 2 0 0 n).grant 2147483647 false) → Kp (fun k => k = n + 1) w1 w' → OpS d (n + 1) true w w' 0 fun _ => True) := fun w' h1 h2 => ⟨_, _, op_new_r hn hL hb h1 h2, trivial⟩
  clear hn hL hb HN
  go_wp2_with (go_at_call 20; refine HG.out.mono ?_; rintro e2 w2 ⟨rfl, h1, h2⟩; refine Shut.out ?_)
  unfold Shut
  have HI := hide (HO.out w2 h1 h2)
  clear h1 h2 HO HG
  obtain ⟨g, hg⟩ : ∃ g, g = n + 1 := ⟨_, rfl⟩
  rw [← hg] at HI
  rw [← hg]
  clear hg
  go_wp2
  go_loopw [8, 9] (fun u v wr => ∃ (E : Int) (j : Nat), u = .int .i64 E ∧ v = .int .i64 j ∧ j ≤ hs.length ∧ Hid (OpS d g true w wr j fun _ => True)) (fun _ v _ => hs.length + 1 - (intOf v).toNat)
  case atStart => exact ⟨0, 0, rfl, rfl, by omega, HI⟩
  case round =>
    clear HI
    obtain ⟨E, j, rfl, rfl, hj, HS⟩ := hrel
    by_cases hjl : j < hs.length
    · obtain ⟨l, T, hI, _⟩ := HS.out
      obtain ⟨b, off, rfl, hbl, hrg⟩ := HP.out j hjl
      obtain ⟨x, hx⟩ : ∃ x, hs[j] = x := ⟨_, rfl⟩
      rw [hx] at hrg
      have hm : x ∈ hs := hx ▸ List.getElem_mem hjl
      have HRg : Hid (∀ W, Below w.heap.size w W → (W.cell? ⟨b, off + j * 20, none⟩ = some (.string x.1) ∧ W.rangeAt b (off + j * 20 + 1) x.2.L) ∧ b < W.heap.size) := fun W hb => by
        have h1 := range_keep hrg (hb.block b hbl)
        refine ⟨⟨range_head h1, fun i v hv => ?_⟩, Nat.lt_of_lt_of_le hbl hb.size⟩
        have := h1 (i + 1) v (by simpa [Un.enc] using hv)
        rwa [show off + j * 20 + (i + 1) = off + j * 20 + 1 + i by omega] at this
      have hc0 := (HRg.out wr hI.be).1.1
      have hbr := (HRg.out wr hI.be).2
      have HC := hide (got_put d g j l T x.1 w wr hI (by omega))
      have HZx := hide (HZ.out x hm)
      have HSx := hide (HSs.out x hm)
      clear hrg hx hm hI HS
      go_wp2_with (go_at_call 23; refine HC.out.mono ?_; rintro e3 w3 ⟨E3, rfl, hp⟩; refine Shut.out ?_)
      unfold Shut
      clear HC hc0
      rcases hp with ⟨rfl, hS3⟩ | ⟨hne, hS3⟩
      · obtain ⟨l3, T3, hI3, hh3⟩ := hS3
        have hI3d := hI3.below (bel_drew w3)
        have HC := hide (own_put d g (j + 1) true l3 T3 x w w3.drew hI3d (by omega) hh3 HZx.out HSx.out)
        have HH0 := hide (HRg.out w3.drew hI3d.be)
        clear hI3 hI3d hh3
        go_wp2
        refine wp_region_held_drew (S := fun W => W.cell? ⟨b, off + j * 20, none⟩ = some (.string x.1) ∧ W.rangeAt b (off + j * 20 + 1) x.2.L) (by kernel_rfl) HH0.out.1 (fun hHeld => ?_)
        refine take_do (i := 0) (d := 47) (v := ?_) rfl rfl (by kernel_rfl) (by kernel_rfl) (by kernel_rfl) (fun _ _ _ h => h) rfl ?_ (by assumption) ?_
        rotate_left
        · intro W hSw
          try dsimp only at hSw
          go_simp
          try with_reducible rfl
        try simp only [List.setIfInBounds_toArray, List.set_cons_zero, List.set_cons_succ]
        refine take_do (i := 1) (d := 48) (v := ?_) rfl rfl (by kernel_rfl) (by kernel_rfl) (by kernel_rfl) (fun _ _ _ h => h) rfl ?_ (by assumption) ?_
        rotate_left
        · intro W hSw
          try dsimp only at hSw
          go_simp
          try with_reducible rfl
        try simp only [List.setIfInBounds_toArray, List.set_cons_zero, List.set_cons_succ]
        refine take_do (i := 2) (d := 49) (v := ?_) rfl rfl (by kernel_rfl) (by kernel_rfl) (by kernel_rfl) (fun _ _ _ h => h) rfl ?_ (by assumption) ?_
        rotate_left
        · intro W hSw
          try dsimp only at hSw
          go_simp
          try with_reducible rfl
        try simp only [List.setIfInBounds_toArray, List.set_cons_zero, List.set_cons_succ]
        refine take_do (i := 3) (d := 50) (v := ?_) rfl rfl (by kernel_rfl) (by kernel_rfl) (by kernel_rfl) (fun _ _ _ h => h) rfl ?_ (by assumption) ?_
        rotate_left
        · intro W hSw
          try dsimp only at hSw
          go_simp
          try with_reducible rfl
        try simp only [List.setIfInBounds_toArray, List.set_cons_zero, List.set_cons_succ]
        refine take_do (i := 4) (d := 51) (v := ?_) rfl rfl (by kernel_rfl) (by kernel_rfl) (by kernel_rfl) (fun _ _ _ h => h) rfl ?_ (by assumption) ?_
        rotate_left
        · intro W hSw
          try dsimp only at hSw
          go_simp
          try with_reducible rfl
        try simp only [List.setIfInBounds_toArray, List.set_cons_zero, List.set_cons_succ]
        refine take_do (i := 5) (d := 52) (v := ?_) rfl rfl (by kernel_rfl) (by kernel_rfl) (by kernel_rfl) (fun _ _ _ h => h) rfl ?_ (by assumption) ?_
        rotate_left
        · intro W hSw
          try dsimp only at hSw
          go_simp
          try with_reducible rfl
        try simp only [List.setIfInBounds_toArray, List.set_cons_zero, List.set_cons_succ]
        refine take_do (i := 6) (d := 53) (v := ?_) rfl rfl (by kernel_rfl) (by kernel_rfl) (by kernel_rfl) (fun _ _ _ h => h) rfl ?_ (by assumption) ?_
        rotate_left
        · intro W hSw
          try dsimp only at hSw
          go_simp
          try with_reducible rfl
        try simp only [List.setIfInBounds_toArray, List.set_cons_zero, List.set_cons_succ]
        refine take_do (i := 7) (d := 54) (v := ?_) rfl rfl (by kernel_rfl) (by kernel_rfl) (by kernel_rfl) (fun _ _ _ h => h) rfl ?_ (by assumption) ?_
        rotate_left
        · intro W hSw
          try dsimp only at hSw
          go_simp
          try with_reducible rfl
        try simp only [List.setIfInBounds_toArray, List.set_cons_zero, List.set_cons_succ]
        refine take_do (i := 8) (d := 55) (v := ?_) rfl rfl (by kernel_rfl) (by kernel_rfl) (by kernel_rfl) (fun _ _ _ h => h) rfl ?_ (by assumption) ?_
        rotate_left
        · intro W hSw
          try dsimp only at hSw
          go_simp
          try with_reducible rfl
        try simp only [List.setIfInBounds_toArray, List.set_cons_zero, List.set_cons_succ]
        refine take_do (i := 9) (d := 56) (v := ?_) rfl rfl (by kernel_rfl) (by kernel_rfl) (by kernel_rfl) (fun _ _ _ h => h) rfl ?_ (by assumption) ?_
        rotate_left
        · intro W hSw
          try dsimp only at hSw
          go_simp
          try with_reducible rfl
        try simp only [List.setIfInBounds_toArray, List.set_cons_zero, List.set_cons_succ]
        refine take_do (i := 10) (d := 57) (v := .agg x.2.A) rfl rfl (by kernel_rfl) (by kernel_rfl) (by kernel_rfl) (fun _ _ _ h => h) rfl ?_ (by assumption) ?_
        · intro W hSw
          exact mid_run W _ 53 (.tmp 56) rfl b (off + j * 20 + 1) x.2.L rfl hSw.2 _ Try.underlying53 rfl Try.infoStL
        try simp only [List.setIfInBounds_toArray, List.set_cons_zero, List.set_cons_succ]
        refine wpAnyH_ready (rs := [11]) (by kernel_rfl) (by simp) ?_
        refine AllReadyH.cons rfl (fun K hK => ?_) AllReadyH.nil
        go_simp
        go_wp2_with (go_at_call 24; refine (HC.out).mono ?_; rintro e4 w4 ⟨rfl, hS4⟩)
        refine hK.out _ _ (by obtain ⟨l4, T4, hI4, _⟩ := hS4.out; exact (HRg.out w4 hI4.be).1) (fun hHeld => ?_)
        clear hK K
        try simp only [Act.put, List.setIfInBounds_toArray, List.set_cons_zero, List.set_cons_succ]
        refine take_do (i := 12) (d := 8) (v := ?_) rfl rfl (by kernel_rfl) (by kernel_rfl) (by kernel_rfl) (fun _ _ _ h => h) rfl ?_ (by assumption) ?_
        rotate_left
        · intro W hSw
          try dsimp only at hSw
          go_simp
          try with_reducible rfl
        try simp only [List.setIfInBounds_toArray, List.set_cons_zero, List.set_cons_succ]
        refine wpAnyH_done (by kernel_rfl) ?_ _
        clear HC HH0 HRg
        go_wp2
        go_roundw
        case rel => exact ⟨0, j + 1, rfl, by go_num, by omega, hS4⟩
        case measure => simp [intOf]; omega
      · go_wp2
        go_roundw
        case rel => exact ⟨E3, j + 1, rfl, by go_num, by omega, hS3⟩
        case measure => simp [intOf]; omega
    · have hje : j = hs.length := by omega
      subst hje
      obtain ⟨wo, hwo⟩ : ∃ wo, wo = wr := ⟨_, rfl⟩
      subst hwo
      clear hj hjl
      go_wp2
      go_loopw [10] (fun v wr2 => ∃ (i : Nat), v = .int .i64 i ∧ i ≤ ts.length ∧ Hid (OpS d g true w wr2 hs.length fun _ => True)) (fun v _ => ts.length + 1 - (intOf v).toNat)
      case atStart => exact ⟨0, rfl, by omega, HS⟩
      case round =>
        clear HS
        obtain ⟨i, rfl, hi, HS⟩ := hrel
        by_cases hil : i < ts.length
        · obtain ⟨l, T, hI, _⟩ := HS.out
          obtain ⟨b, off, rfl, hbl, hrg⟩ := HQ.out i hil
          obtain ⟨x, hx⟩ : ∃ x, ts[i] = x := ⟨_, rfl⟩
          rw [hx] at hrg
          have hm : x ∈ ts := hx ▸ List.getElem_mem hil
          have HRg : Hid (∀ W, Below w.heap.size w W → (W.cell? ⟨b, off + i * 20, none⟩ = some (.string x.1) ∧ W.rangeAt b (off + i * 20 + 1) x.2.L) ∧ b < W.heap.size) := fun W hb => by
            have h1 := range_keep hrg (hb.block b hbl)
            refine ⟨⟨range_head h1, fun q v hv => ?_⟩, Nat.lt_of_lt_of_le hbl hb.size⟩
            have := h1 (q + 1) v (by simpa [Un.enc] using hv)
            rwa [show off + i * 20 + (q + 1) = off + i * 20 + 1 + q by omega] at this
          have hbr := (HRg.out wr hI.be).2
          have hId := hI.below (bel_drew wr)
          have HC := hide (peer_put d g hs.length true l T x w wr.drew hId (by omega) (HZ2.out x hm) (HTs.out x hm))
          have HH0 := hide (HRg.out wr.drew hId.be)
          clear hrg hx hm hI hId HS
          go_wp2
          refine wp_region_held_drew (S := fun W => W.cell? ⟨b, off + i * 20, none⟩ = some (.string x.1) ∧ W.rangeAt b (off + i * 20 + 1) x.2.L) (by kernel_rfl) HH0.out.1 (fun hHeld => ?_)
          refine take_do (i := 0) (d := 67) (v := ?_) rfl rfl (by kernel_rfl) (by kernel_rfl) (by kernel_rfl) (fun _ _ _ h => h) rfl ?_ (by assumption) ?_
          rotate_left
          · intro W hSw
            try dsimp only at hSw
            go_simp
            try with_reducible rfl
          try simp only [List.setIfInBounds_toArray, List.set_cons_zero, List.set_cons_succ]
          refine take_do (i := 1) (d := 68) (v := ?_) rfl rfl (by kernel_rfl) (by kernel_rfl) (by kernel_rfl) (fun _ _ _ h => h) rfl ?_ (by assumption) ?_
          rotate_left
          · intro W hSw
            try dsimp only at hSw
            go_simp
            try with_reducible rfl
          try simp only [List.setIfInBounds_toArray, List.set_cons_zero, List.set_cons_succ]
          refine take_do (i := 2) (d := 69) (v := ?_) rfl rfl (by kernel_rfl) (by kernel_rfl) (by kernel_rfl) (fun _ _ _ h => h) rfl ?_ (by assumption) ?_
          rotate_left
          · intro W hSw
            try dsimp only at hSw
            go_simp
            try with_reducible rfl
          try simp only [List.setIfInBounds_toArray, List.set_cons_zero, List.set_cons_succ]
          refine take_do (i := 3) (d := 70) (v := ?_) rfl rfl (by kernel_rfl) (by kernel_rfl) (by kernel_rfl) (fun _ _ _ h => h) rfl ?_ (by assumption) ?_
          rotate_left
          · intro W hSw
            try dsimp only at hSw
            go_simp
            try with_reducible rfl
          try simp only [List.setIfInBounds_toArray, List.set_cons_zero, List.set_cons_succ]
          refine take_do (i := 4) (d := 71) (v := ?_) rfl rfl (by kernel_rfl) (by kernel_rfl) (by kernel_rfl) (fun _ _ _ h => h) rfl ?_ (by assumption) ?_
          rotate_left
          · intro W hSw
            try dsimp only at hSw
            go_simp
            try with_reducible rfl
          try simp only [List.setIfInBounds_toArray, List.set_cons_zero, List.set_cons_succ]
          refine take_do (i := 5) (d := 72) (v := ?_) rfl rfl (by kernel_rfl) (by kernel_rfl) (by kernel_rfl) (fun _ _ _ h => h) rfl ?_ (by assumption) ?_
          rotate_left
          · intro W hSw
            try dsimp only at hSw
            go_simp
            try with_reducible rfl
          try simp only [List.setIfInBounds_toArray, List.set_cons_zero, List.set_cons_succ]
          refine take_do (i := 6) (d := 73) (v := ?_) rfl rfl (by kernel_rfl) (by kernel_rfl) (by kernel_rfl) (fun _ _ _ h => h) rfl ?_ (by assumption) ?_
          rotate_left
          · intro W hSw
            try dsimp only at hSw
            go_simp
            try with_reducible rfl
          try simp only [List.setIfInBounds_toArray, List.set_cons_zero, List.set_cons_succ]
          refine take_do (i := 7) (d := 74) (v := ?_) rfl rfl (by kernel_rfl) (by kernel_rfl) (by kernel_rfl) (fun _ _ _ h => h) rfl ?_ (by assumption) ?_
          rotate_left
          · intro W hSw
            try dsimp only at hSw
            go_simp
            try with_reducible rfl
          try simp only [List.setIfInBounds_toArray, List.set_cons_zero, List.set_cons_succ]
          refine take_do (i := 8) (d := 75) (v := ?_) rfl rfl (by kernel_rfl) (by kernel_rfl) (by kernel_rfl) (fun _ _ _ h => h) rfl ?_ (by assumption) ?_
          rotate_left
          · intro W hSw
            try dsimp only at hSw
            go_simp
            try with_reducible rfl
          try simp only [List.setIfInBounds_toArray, List.set_cons_zero, List.set_cons_succ]
          refine take_do (i := 9) (d := 76) (v := ?_) rfl rfl (by kernel_rfl) (by kernel_rfl) (by kernel_rfl) (fun _ _ _ h => h) rfl ?_ (by assumption) ?_
          rotate_left
          · intro W hSw
            try dsimp only at hSw
            go_simp
            try with_reducible rfl
          try simp only [List.setIfInBounds_toArray, List.set_cons_zero, List.set_cons_succ]
          refine take_do (i := 10) (d := 77) (v := .agg x.2.A) rfl rfl (by kernel_rfl) (by kernel_rfl) (by kernel_rfl) (fun _ _ _ h => h) rfl ?_ (by assumption) ?_
          · intro W hSw
            exact mid_run W _ 53 (.tmp 76) rfl b (off + i * 20 + 1) x.2.L rfl hSw.2 _ Try.underlying53 rfl Try.infoStL
          try simp only [List.setIfInBounds_toArray, List.set_cons_zero, List.set_cons_succ]
          refine wpAnyH_ready (rs := [11]) (by kernel_rfl) (by simp) ?_
          refine AllReadyH.cons rfl (fun K hK => ?_) AllReadyH.nil
          go_simp
          go_wp2_with (go_at_call 25; refine (HC.out).mono ?_; rintro e4 w4 ⟨v4, rfl, hS4⟩)
          refine hK.out _ _ (by obtain ⟨l4, T4, hI4, _⟩ := hS4.out; exact (HRg.out w4 hI4.be).1) (fun hHeld => ?_)
          clear hK K
          try simp only [Act.put, List.setIfInBounds_toArray, List.set_cons_zero, List.set_cons_succ]
          refine wpAnyH_done (by kernel_rfl) ?_ _
          clear HC HH0 HRg
          go_wp2
          go_roundw
          case rel => exact ⟨i + 1, by go_num, by omega, hS4⟩
          case measure => simp [intOf]; omega
        · go_wp2
          go_ret
          exact ⟨_, rfl, g, rfl, HS.out⟩
set_option maxRecDepth 100000 in
set_option maxHeartbeats 4000000 in
theorem open_s (d : Nat) (hs ts : List Un) (pa qa : Option Addr) (pc qc : Nat) (w : World) (hP : RdP w pa hs) (hQ : RdP w qa ts) (hS : ∀ x ∈ hs, StIn (fun b => b < w.heap.size) w d x.2) (hT : ∀ x ∈ ts, StIn (fun b => b < w.heap.size) w d x.2) (hz : ∀ x ∈ hs, x.1.size ≤ maxLen) (hz2 : ∀ x ∈ ts, x.1.size ≤ maxLen) (hl : hs.length ≤ 100000) (hl2 : ts.length ≤ 100000) :
    Calls Try.prog 13 #[.bool false, .slice pa hs.length pc, .slice qa ts.length qc] w fun e w' => ∃ v, e = .returned v ∧ OpnP d false w w' hs.length v := by
  have HN := hide (new_yes ⟨#[]⟩ false 2 0 0 0 w (by decide) rfl rfl rfl (by omega))
  unfold cfA at HN
  have HP := hide hP
  have HQ := hide hQ
  have HSs := hide hS
  have HTs := hide hT
  have HZ := hide hz
  have HZ2 := hide hz2
  clear hP hQ hS hT hz hz2
  go_enter Try.func13, Try.ntmps13
  go_wp2_with (go_at_call 6; refine HN.out.mono ?_; rintro e1 w1 ⟨n, rfl, hn, hL, hb⟩; refine Shut.out ?_)
  unfold Shut
  have HG := hide (flow_send (n + 1) (newLk ⟨#[]⟩ false 2 0 0 n) (pfA 19 0 0 0 0 0 0 0 0 2147483647 0 false) 0 2147483647 0 false w1 hL.lb ⟨by kernel_rfl, by kernel_rfl, by kernel_rfl, by kernel_rfl, by kernel_rfl, by kernel_rfl⟩ (by kernel_rfl) rfl (by decide) (by decide))
  have HO : Hid (∀ w', LB w' (n + 1) ((newLk ⟨#[]⟩ false 2 0 0 n).hearR 0 2147483647 false) → Kp (fun k => k = n + 1) w1 w' → OpS d (n + 1) false w w' 0 fun _ => True) := fun w' h1 h2 => ⟨_, _, op_new_s hn hL hb h1 h2, trivial⟩
  clear hn hL hb HN
  go_wp2_with (first | (refine wpList_buildTo rfl 57 _ rfl (some 20) rfl (pfA 19 0 0 0 0 0 0 0 0 2147483647 0 false) (by kernel_rfl) ?_) | (go_at_call 21; refine HG.out.mono ?_; rintro e2 w2 ⟨rfl, h1, h2⟩; refine Shut.out ?_))
  unfold Shut
  have HI := hide (HO.out w2 h1 h2)
  clear h1 h2 HO HG
  obtain ⟨g, hg⟩ : ∃ g, g = n + 1 := ⟨_, rfl⟩
  rw [← hg] at HI
  rw [← hg]
  clear hg
  go_wp2
  go_loopw [8, 9] (fun u v wr => ∃ (E : Int) (j : Nat), u = .int .i64 E ∧ v = .int .i64 j ∧ j ≤ hs.length ∧ Hid (OpS d g false w wr j fun _ => True)) (fun _ v _ => hs.length + 1 - (intOf v).toNat)
  case atStart => exact ⟨0, 0, rfl, rfl, by omega, HI⟩
  case round =>
    clear HI
    obtain ⟨E, j, rfl, rfl, hj, HS⟩ := hrel
    by_cases hjl : j < hs.length
    · obtain ⟨l, T, hI, _⟩ := HS.out
      obtain ⟨b, off, rfl, hbl, hrg⟩ := HP.out j hjl
      obtain ⟨x, hx⟩ : ∃ x, hs[j] = x := ⟨_, rfl⟩
      rw [hx] at hrg
      have hm : x ∈ hs := hx ▸ List.getElem_mem hjl
      have HRg : Hid (∀ W, Below w.heap.size w W → (W.cell? ⟨b, off + j * 20, none⟩ = some (.string x.1) ∧ W.rangeAt b (off + j * 20 + 1) x.2.L) ∧ b < W.heap.size) := fun W hb => by
        have h1 := range_keep hrg (hb.block b hbl)
        refine ⟨⟨range_head h1, fun i v hv => ?_⟩, Nat.lt_of_lt_of_le hbl hb.size⟩
        have := h1 (i + 1) v (by simpa [Un.enc] using hv)
        rwa [show off + j * 20 + (i + 1) = off + j * 20 + 1 + i by omega] at this
      have hc0 := (HRg.out wr hI.be).1.1
      have hbr := (HRg.out wr hI.be).2
      have HC := hide (send_put d g j l T x.1 w wr hI (by omega))
      have HZx := hide (HZ.out x hm)
      have HSx := hide (HSs.out x hm)
      clear hrg hx hm hI HS
      go_wp2_with (go_at_call 19; refine HC.out.mono ?_; rintro e3 w3 ⟨E3, rfl, hp⟩; refine Shut.out ?_)
      unfold Shut
      clear HC hc0
      rcases hp with ⟨rfl, hS3⟩ | ⟨hne, hS3⟩
      · obtain ⟨l3, T3, hI3, hh3⟩ := hS3
        have hI3d := hI3.below (bel_drew w3)
        have HC := hide (own_put d g (j + 1) false l3 T3 x w w3.drew hI3d (by omega) hh3 HZx.out HSx.out)
        have HH0 := hide (HRg.out w3.drew hI3d.be)
        clear hI3 hI3d hh3
        go_wp2
        refine wp_region_held_drew (S := fun W => W.cell? ⟨b, off + j * 20, none⟩ = some (.string x.1) ∧ W.rangeAt b (off + j * 20 + 1) x.2.L) (by kernel_rfl) HH0.out.1 (fun hHeld => ?_)
        refine take_do (i := 0) (d := 47) (v := ?_) rfl rfl (by kernel_rfl) (by kernel_rfl) (by kernel_rfl) (fun _ _ _ h => h) rfl ?_ (by assumption) ?_
        rotate_left
        · intro W hSw
          try dsimp only at hSw
          go_simp
          try with_reducible rfl
        try simp only [List.setIfInBounds_toArray, List.set_cons_zero, List.set_cons_succ]
        refine take_do (i := 1) (d := 48) (v := ?_) rfl rfl (by kernel_rfl) (by kernel_rfl) (by kernel_rfl) (fun _ _ _ h => h) rfl ?_ (by assumption) ?_
        rotate_left
        · intro W hSw
          try dsimp only at hSw
          go_simp
          try with_reducible rfl
        try simp only [List.setIfInBounds_toArray, List.set_cons_zero, List.set_cons_succ]
        refine take_do (i := 2) (d := 49) (v := ?_) rfl rfl (by kernel_rfl) (by kernel_rfl) (by kernel_rfl) (fun _ _ _ h => h) rfl ?_ (by assumption) ?_
        rotate_left
        · intro W hSw
          try dsimp only at hSw
          go_simp
          try with_reducible rfl
        try simp only [List.setIfInBounds_toArray, List.set_cons_zero, List.set_cons_succ]
        refine take_do (i := 3) (d := 50) (v := ?_) rfl rfl (by kernel_rfl) (by kernel_rfl) (by kernel_rfl) (fun _ _ _ h => h) rfl ?_ (by assumption) ?_
        rotate_left
        · intro W hSw
          try dsimp only at hSw
          go_simp
          try with_reducible rfl
        try simp only [List.setIfInBounds_toArray, List.set_cons_zero, List.set_cons_succ]
        refine take_do (i := 4) (d := 51) (v := ?_) rfl rfl (by kernel_rfl) (by kernel_rfl) (by kernel_rfl) (fun _ _ _ h => h) rfl ?_ (by assumption) ?_
        rotate_left
        · intro W hSw
          try dsimp only at hSw
          go_simp
          try with_reducible rfl
        try simp only [List.setIfInBounds_toArray, List.set_cons_zero, List.set_cons_succ]
        refine take_do (i := 5) (d := 52) (v := ?_) rfl rfl (by kernel_rfl) (by kernel_rfl) (by kernel_rfl) (fun _ _ _ h => h) rfl ?_ (by assumption) ?_
        rotate_left
        · intro W hSw
          try dsimp only at hSw
          go_simp
          try with_reducible rfl
        try simp only [List.setIfInBounds_toArray, List.set_cons_zero, List.set_cons_succ]
        refine take_do (i := 6) (d := 53) (v := ?_) rfl rfl (by kernel_rfl) (by kernel_rfl) (by kernel_rfl) (fun _ _ _ h => h) rfl ?_ (by assumption) ?_
        rotate_left
        · intro W hSw
          try dsimp only at hSw
          go_simp
          try with_reducible rfl
        try simp only [List.setIfInBounds_toArray, List.set_cons_zero, List.set_cons_succ]
        refine take_do (i := 7) (d := 54) (v := ?_) rfl rfl (by kernel_rfl) (by kernel_rfl) (by kernel_rfl) (fun _ _ _ h => h) rfl ?_ (by assumption) ?_
        rotate_left
        · intro W hSw
          try dsimp only at hSw
          go_simp
          try with_reducible rfl
        try simp only [List.setIfInBounds_toArray, List.set_cons_zero, List.set_cons_succ]
        refine take_do (i := 8) (d := 55) (v := ?_) rfl rfl (by kernel_rfl) (by kernel_rfl) (by kernel_rfl) (fun _ _ _ h => h) rfl ?_ (by assumption) ?_
        rotate_left
        · intro W hSw
          try dsimp only at hSw
          go_simp
          try with_reducible rfl
        try simp only [List.setIfInBounds_toArray, List.set_cons_zero, List.set_cons_succ]
        refine take_do (i := 9) (d := 56) (v := ?_) rfl rfl (by kernel_rfl) (by kernel_rfl) (by kernel_rfl) (fun _ _ _ h => h) rfl ?_ (by assumption) ?_
        rotate_left
        · intro W hSw
          try dsimp only at hSw
          go_simp
          try with_reducible rfl
        try simp only [List.setIfInBounds_toArray, List.set_cons_zero, List.set_cons_succ]
        refine take_do (i := 10) (d := 57) (v := .agg x.2.A) rfl rfl (by kernel_rfl) (by kernel_rfl) (by kernel_rfl) (fun _ _ _ h => h) rfl ?_ (by assumption) ?_
        · intro W hSw
          exact mid_run W _ 53 (.tmp 56) rfl b (off + j * 20 + 1) x.2.L rfl hSw.2 _ Try.underlying53 rfl Try.infoStL
        try simp only [List.setIfInBounds_toArray, List.set_cons_zero, List.set_cons_succ]
        refine wpAnyH_ready (rs := [11]) (by kernel_rfl) (by simp) ?_
        refine AllReadyH.cons rfl (fun K hK => ?_) AllReadyH.nil
        go_simp
        go_wp2_with (go_at_call 24; refine (HC.out).mono ?_; rintro e4 w4 ⟨rfl, hS4⟩)
        refine hK.out _ _ (by obtain ⟨l4, T4, hI4, _⟩ := hS4.out; exact (HRg.out w4 hI4.be).1) (fun hHeld => ?_)
        clear hK K
        try simp only [Act.put, List.setIfInBounds_toArray, List.set_cons_zero, List.set_cons_succ]
        refine take_do (i := 12) (d := 8) (v := ?_) rfl rfl (by kernel_rfl) (by kernel_rfl) (by kernel_rfl) (fun _ _ _ h => h) rfl ?_ (by assumption) ?_
        rotate_left
        · intro W hSw
          try dsimp only at hSw
          go_simp
          try with_reducible rfl
        try simp only [List.setIfInBounds_toArray, List.set_cons_zero, List.set_cons_succ]
        refine wpAnyH_done (by kernel_rfl) ?_ _
        clear HC HH0 HRg
        go_wp2
        go_roundw
        case rel => exact ⟨0, j + 1, rfl, by go_num, by omega, hS4⟩
        case measure => simp [intOf]; omega
      · go_wp2
        go_roundw
        case rel => exact ⟨E3, j + 1, rfl, by go_num, by omega, hS3⟩
        case measure => simp [intOf]; omega
    · have hje : j = hs.length := by omega
      subst hje
      obtain ⟨wo, hwo⟩ : ∃ wo, wo = wr := ⟨_, rfl⟩
      subst hwo
      clear hj hjl
      go_wp2
      go_loopw [10] (fun v wr2 => ∃ (i : Nat), v = .int .i64 i ∧ i ≤ ts.length ∧ Hid (OpS d g false w wr2 hs.length fun _ => True)) (fun v _ => ts.length + 1 - (intOf v).toNat)
      case atStart => exact ⟨0, rfl, by omega, HS⟩
      case round =>
        clear HS
        obtain ⟨i, rfl, hi, HS⟩ := hrel
        by_cases hil : i < ts.length
        · obtain ⟨l, T, hI, _⟩ := HS.out
          obtain ⟨b, off, rfl, hbl, hrg⟩ := HQ.out i hil
          obtain ⟨x, hx⟩ : ∃ x, ts[i] = x := ⟨_, rfl⟩
          rw [hx] at hrg
          have hm : x ∈ ts := hx ▸ List.getElem_mem hil
          have HRg : Hid (∀ W, Below w.heap.size w W → (W.cell? ⟨b, off + i * 20, none⟩ = some (.string x.1) ∧ W.rangeAt b (off + i * 20 + 1) x.2.L) ∧ b < W.heap.size) := fun W hb => by
            have h1 := range_keep hrg (hb.block b hbl)
            refine ⟨⟨range_head h1, fun q v hv => ?_⟩, Nat.lt_of_lt_of_le hbl hb.size⟩
            have := h1 (q + 1) v (by simpa [Un.enc] using hv)
            rwa [show off + i * 20 + (q + 1) = off + i * 20 + 1 + q by omega] at this
          have hbr := (HRg.out wr hI.be).2
          have hId := hI.below (bel_drew wr)
          have HC := hide (peer_put d g hs.length false l T x w wr.drew hId (by omega) (HZ2.out x hm) (HTs.out x hm))
          have HH0 := hide (HRg.out wr.drew hId.be)
          clear hrg hx hm hI hId HS
          go_wp2
          refine wp_region_held_drew (S := fun W => W.cell? ⟨b, off + i * 20, none⟩ = some (.string x.1) ∧ W.rangeAt b (off + i * 20 + 1) x.2.L) (by kernel_rfl) HH0.out.1 (fun hHeld => ?_)
          refine take_do (i := 0) (d := 67) (v := ?_) rfl rfl (by kernel_rfl) (by kernel_rfl) (by kernel_rfl) (fun _ _ _ h => h) rfl ?_ (by assumption) ?_
          rotate_left
          · intro W hSw
            try dsimp only at hSw
            go_simp
            try with_reducible rfl
          try simp only [List.setIfInBounds_toArray, List.set_cons_zero, List.set_cons_succ]
          refine take_do (i := 1) (d := 68) (v := ?_) rfl rfl (by kernel_rfl) (by kernel_rfl) (by kernel_rfl) (fun _ _ _ h => h) rfl ?_ (by assumption) ?_
          rotate_left
          · intro W hSw
            try dsimp only at hSw
            go_simp
            try with_reducible rfl
          try simp only [List.setIfInBounds_toArray, List.set_cons_zero, List.set_cons_succ]
          refine take_do (i := 2) (d := 69) (v := ?_) rfl rfl (by kernel_rfl) (by kernel_rfl) (by kernel_rfl) (fun _ _ _ h => h) rfl ?_ (by assumption) ?_
          rotate_left
          · intro W hSw
            try dsimp only at hSw
            go_simp
            try with_reducible rfl
          try simp only [List.setIfInBounds_toArray, List.set_cons_zero, List.set_cons_succ]
          refine take_do (i := 3) (d := 70) (v := ?_) rfl rfl (by kernel_rfl) (by kernel_rfl) (by kernel_rfl) (fun _ _ _ h => h) rfl ?_ (by assumption) ?_
          rotate_left
          · intro W hSw
            try dsimp only at hSw
            go_simp
            try with_reducible rfl
          try simp only [List.setIfInBounds_toArray, List.set_cons_zero, List.set_cons_succ]
          refine take_do (i := 4) (d := 71) (v := ?_) rfl rfl (by kernel_rfl) (by kernel_rfl) (by kernel_rfl) (fun _ _ _ h => h) rfl ?_ (by assumption) ?_
          rotate_left
          · intro W hSw
            try dsimp only at hSw
            go_simp
            try with_reducible rfl
          try simp only [List.setIfInBounds_toArray, List.set_cons_zero, List.set_cons_succ]
          refine take_do (i := 5) (d := 72) (v := ?_) rfl rfl (by kernel_rfl) (by kernel_rfl) (by kernel_rfl) (fun _ _ _ h => h) rfl ?_ (by assumption) ?_
          rotate_left
          · intro W hSw
            try dsimp only at hSw
            go_simp
            try with_reducible rfl
          try simp only [List.setIfInBounds_toArray, List.set_cons_zero, List.set_cons_succ]
          refine take_do (i := 6) (d := 73) (v := ?_) rfl rfl (by kernel_rfl) (by kernel_rfl) (by kernel_rfl) (fun _ _ _ h => h) rfl ?_ (by assumption) ?_
          rotate_left
          · intro W hSw
            try dsimp only at hSw
            go_simp
            try with_reducible rfl
          try simp only [List.setIfInBounds_toArray, List.set_cons_zero, List.set_cons_succ]
          refine take_do (i := 7) (d := 74) (v := ?_) rfl rfl (by kernel_rfl) (by kernel_rfl) (by kernel_rfl) (fun _ _ _ h => h) rfl ?_ (by assumption) ?_
          rotate_left
          · intro W hSw
            try dsimp only at hSw
            go_simp
            try with_reducible rfl
          try simp only [List.setIfInBounds_toArray, List.set_cons_zero, List.set_cons_succ]
          refine take_do (i := 8) (d := 75) (v := ?_) rfl rfl (by kernel_rfl) (by kernel_rfl) (by kernel_rfl) (fun _ _ _ h => h) rfl ?_ (by assumption) ?_
          rotate_left
          · intro W hSw
            try dsimp only at hSw
            go_simp
            try with_reducible rfl
          try simp only [List.setIfInBounds_toArray, List.set_cons_zero, List.set_cons_succ]
          refine take_do (i := 9) (d := 76) (v := ?_) rfl rfl (by kernel_rfl) (by kernel_rfl) (by kernel_rfl) (fun _ _ _ h => h) rfl ?_ (by assumption) ?_
          rotate_left
          · intro W hSw
            try dsimp only at hSw
            go_simp
            try with_reducible rfl
          try simp only [List.setIfInBounds_toArray, List.set_cons_zero, List.set_cons_succ]
          refine take_do (i := 10) (d := 77) (v := .agg x.2.A) rfl rfl (by kernel_rfl) (by kernel_rfl) (by kernel_rfl) (fun _ _ _ h => h) rfl ?_ (by assumption) ?_
          · intro W hSw
            exact mid_run W _ 53 (.tmp 76) rfl b (off + i * 20 + 1) x.2.L rfl hSw.2 _ Try.underlying53 rfl Try.infoStL
          try simp only [List.setIfInBounds_toArray, List.set_cons_zero, List.set_cons_succ]
          refine wpAnyH_ready (rs := [11]) (by kernel_rfl) (by simp) ?_
          refine AllReadyH.cons rfl (fun K hK => ?_) AllReadyH.nil
          go_simp
          go_wp2_with (go_at_call 25; refine (HC.out).mono ?_; rintro e4 w4 ⟨v4, rfl, hS4⟩)
          refine hK.out _ _ (by obtain ⟨l4, T4, hI4, _⟩ := hS4.out; exact (HRg.out w4 hI4.be).1) (fun hHeld => ?_)
          clear hK K
          try simp only [Act.put, List.setIfInBounds_toArray, List.set_cons_zero, List.set_cons_succ]
          refine wpAnyH_done (by kernel_rfl) ?_ _
          clear HC HH0 HRg
          go_wp2
          go_roundw
          case rel => exact ⟨i + 1, by go_num, by omega, hS4⟩
          case measure => simp [intOf]; omega
        · go_wp2
          go_ret
          exact ⟨_, rfl, g, rfl, HS.out⟩
theorem open_any (d : Nat) (rc : Bool) (hs ts : List Un) (pa qa : Option Addr) (pc qc : Nat) (w : World) (hP : RdP w pa hs) (hQ : RdP w qa ts) (hS : ∀ x ∈ hs, StIn (fun b => b < w.heap.size) w d x.2) (hT : ∀ x ∈ ts, StIn (fun b => b < w.heap.size) w d x.2) (hz : ∀ x ∈ hs, x.1.size ≤ maxLen) (hz2 : ∀ x ∈ ts, x.1.size ≤ maxLen) (hl : hs.length ≤ 100000) (hl2 : ts.length ≤ 100000) :
    Calls Try.prog 13 #[.bool rc, .slice pa hs.length pc, .slice qa ts.length qc] w fun e w' => ∃ v, e = .returned v ∧ OpnP d rc w w' hs.length v := by
  cases rc with
  | true => exact open_r d hs ts pa qa pc qc w hP hQ hS hT hz hz2 hl hl2
  | false => exact open_s d hs ts pa qa pc qc w hP hQ hS hT hz hz2 hl hl2
end Go.Proofs.Ytknkmamjdmadcaa.G
