import Derived.Test.YtondbhdlccpklaaQAlkM9
import Derived.Test.YtondbhdlccpklaaQRefZM9

/- Stage 13: one call at both: windows. -/
namespace Go.Proofs.Ytondbhdlccpklaa
open Go.RowKit Go.Maps
set_option linter.unusedVariables false
set_option linter.unusedSimpArgs false

/-- handles are few -/
def Few (H : List (Int × Int)) : Prop := H.length ≤ 64 ∧ ∀ p ∈ H, 0 ≤ p.1 ∧ p.1 ≤ 63
/-- two sessions that stand alike, their blocks among B -/
def Std (w : World) (g g' : Nat) (B : Nat → Prop) : Prop := ∃ s H R S C vh vr vs va hs rs Sr Cr, Two w g g' s H R S C vh vr vs va hs rs Sr Cr ∧ Few H ∧ (∀ k, SeB g s k ∨ RSb g' vh vr vs va k → B k) ∧ ∀ k, B k → k < w.heap.size
/-- behind a call at both -/
def StdOn (w : World) (g g' : Nat) (B : Nat → Prop) (w2 : World) : Prop := ∃ B', Std w2 g g' B' ∧ Kp B w w2 ∧ ∀ k, B' k → B k ∨ w.heap.size ≤ k
def KI (v : Value) : Prop := ∃ i : Int, v = .int .i64 i
def KT (v : Value) : Prop := ∃ i j : Int, v = .tuple #[.int .i64 i, .int .i64 j]
def KB (v : Value) : Prop := ∃ (i : Int) (b : Bool), v = .tuple #[.int .i64 i, .bool b]
/-- both answer the same, one behind the other -/
def Both (w : World) (g g' : Nat) (B : Nat → Prop) (K : Value → Prop) (P Q : FuncId) (xs ys : Array Value) : Prop := ∃ v : Value, K v ∧ ∃ M : World → Prop, Calls Try.prog P xs w (fun e w1 => e = .returned v ∧ M w1 ∧ Kp B w w1) ∧ ∀ w1, M w1 → Calls Try.prog Q ys w1 (fun e w2 => e = .returned v ∧ StdOn w g g' B w2)
section
variable {w w1 w2 : World} {g g' : Nat} {B : Nat → Prop}
/-- behind both, from what the calls say -/
theorem Two.std {s s' : Sn} {H R H' R' : List (Int × Int)} {S C S' C' : List (Int × Pd)} {vh vr vs va n1 n2 n3 n4 : Value} {hs hs' : List Int} {rs rs' : List (Int × Int)} {Sr Cr Sr' Cr' : List Pd}
    (t : Two w g g' s H R S C vh vr vs va hs rs Sr Cr) (hB : ∀ k, SeB g s k ∨ RSb g' vh vr vs va k → B k) (hL : ∀ k, B k → k < w.heap.size) (hk : Kp (SeB g s) w w1) (h1 : Ses w1 g s' H' R' S' C') (hq : ∀ k, SeB g s' k ↔ SeB g s k) (h2 : RS w2 g' s' n1 n2 n3 n4 hs' rs' Sr' Cr') (hk2 : Kp (RSb g' vh vr vs va) w1 w2) (hn : ∀ k, RSb g' n1 n2 n3 n4 k → RSb g' vh vr vs va k ∨ w1.heap.size ≤ k) (hok : s'.ok) (hal : Alike H' R' S' C' hs' rs' Sr' Cr') (h64 : Few H') : StdOn w g g' B w2 := by
  have h := t.on hk h1 hq h2 hk2 hn hok hal
  refine ⟨fun k => SeB g s' k ∨ RSb g' n1 n2 n3 n4 k, ⟨s', H', R', S', C', n1, n2, n3, n4, hs', rs', Sr', Cr', h.1, h64, fun k e => e, fun k e => ?_⟩, h.2.1.mono fun k e => hB k e, fun k e => ?_⟩
  · rcases e with e | e
    · exact h.1.a.ltB e
    · exact h.1.b.lt e
  · rcases h.2.2 k e with e | e
    · exact .inl (hB k e)
    · exact .inr e
/-- neither is turned -/
theorem Two.still {s : Sn} {H R : List (Int × Int)} {S C : List (Int × Pd)} {vh vr vs va : Value} {hs : List Int} {rs : List (Int × Int)} {Sr Cr : List Pd}
    (t : Two w g g' s H R S C vh vr vs va hs rs Sr Cr) (h64 : Few H) (hB : ∀ k, SeB g s k ∨ RSb g' vh vr vs va k → B k) (hL : ∀ k, B k → k < w.heap.size) (h1 : Below w.heap.size w w1) (h2 : Below w1.heap.size w1 w2) : StdOn w g g' B w2 :=
  t.std hB hL (Kp.ofBelow h1) (t.a.below h1) (fun _ => Iff.rfl) ((t.b.below h1).below h2) (Kp.ofBelow h2) (fun k e => .inl e) t.ok t.al h64
/-- the numbers alone are turned -/
theorem Two.turn {s s' : Sn} {H R : List (Int × Int)} {S C : List (Int × Pd)} {vh vr vs va : Value} {hs : List Int} {rs : List (Int × Int)} {Sr Cr : List Pd}
    (t : Two w g g' s H R S C vh vr vs va hs rs Sr Cr) (h64 : Few H) (hB : ∀ k, SeB g s k ∨ RSb g' vh vr vs va k → B k) (hL : ∀ k, B k → k < w.heap.size) (h1 : SB w1 g s') (k1 : Kp (fun k => k = g) w w1) (hm : s'.bh = s.bh ∧ s'.br = s.br ∧ s'.bs = s.bs ∧ s'.bc = s.bc) (h2 : RB w2 g' s' vh vr vs va) (k2 : Kp (fun k => k = g') w1 w2) (hok : s'.ok) : StdOn w g g' B w2 := by
  have kk : Kp (SeB g s) w w1 := k1.mono fun k e => .inl e
  have hb := t.mid kk
  have hgn := hb.gone
  refine t.std hB hL kk (t.a.turn h1 hm k1) (fun k => by unfold SeB; rw [hm.1, hm.2.1, hm.2.2.1, hm.2.2.2]) ⟨h2, own_at hb.oh fun k e => k2.block (hb.oh.lt k e).2 (hgn.1 k e), own_at hb.og fun k e => k2.block (hb.og.lt k e).2 (hgn.2.1 k e), own_at hb.os fun k e => k2.block (hb.os.lt k e).2 (hgn.2.2.1 k e), own_at hb.oc fun k e => k2.block (hb.oc.lt k e).2 (hgn.2.2.2 k e), hb.hr, hb.h2, hb.hc, hb.r2, hb.rc, hb.sc⟩ (k2.mono fun k e => .inl e) (fun k e => .inl e) hok t.al h64
theorem room_both (h : Std w g g' B) : Both w g g' B KI 17 72 #[.pointer (some ⟨g, 0, none⟩)] #[.pointer (some ⟨g', 0, none⟩)] := by
  obtain ⟨s, H, R, S, C, vh, vr, vs, va, hs, rs, Sr, Cr, t, h64, hB, hL⟩ := h
  refine ⟨.int .i64 s.room, ⟨_, rfl⟩, fun w1 => Below w.heap.size w w1, (room_any g s w t.a.sb).mono fun e w1 ⟨e1, b⟩ => ⟨e1, b, Kp.ofBelow b⟩, fun w1 b => ?_⟩
  exact (rroom_any g' s vh vr vs va w1 (t.b.below b).rb).mono fun e w2 ⟨e1, b2⟩ => ⟨e1, t.still h64 hB hL b b2⟩
theorem sent_ok {s : Sn} (h : s.ok) (hr : s.room ≠ 0) : s.sent.ok := by
  have hri : 0 < s.ri := by
    unfold Sn.room lesser at hr
    have := h.ri
    have := h.ow
    cases hp : s.peer
    · simp [hp] at hr
    · rw [hp, if_pos rfl] at hr
      split at hr <;> omega
  have := h.ri
  exact ⟨by show 0 ≤ (s.no + 1) % 4294967296 ∧ (s.no + 1) % 4294967296 ≤ 4294967295; omega, h.ow, h.ni, h.iw, by show 0 ≤ s.ri - 1 ∧ s.ri - 1 ≤ 2147483647; omega, h.ro, h.nd, h.hm, h.rh, h.fi⟩
theorem sent_both (h : Std w g g' B) : Both w g g' B KI 49 73 #[.pointer (some ⟨g, 0, none⟩)] #[.pointer (some ⟨g', 0, none⟩)] := by
  obtain ⟨s, H, R, S, C, vh, vr, vs, va, hs, rs, Sr, Cr, t, h64, hB, hL⟩ := h
  by_cases hr : s.room = 0
  · refine ⟨.int .i64 130, ⟨_, rfl⟩, fun w1 => Below w.heap.size w w1, (sent_no g s w t.a.sb hr).mono fun e w1 ⟨e1, b⟩ => ⟨e1, b, Kp.ofBelow b⟩, fun w1 b => ?_⟩
    exact (rsent_no g' s vh vr vs va w1 (t.b.below b).rb hr).mono fun e w2 ⟨e1, b2⟩ => ⟨e1, t.still h64 hB hL b b2⟩
  · refine ⟨.int .i64 0, ⟨_, rfl⟩, fun w1 => SB w1 g s.sent ∧ Kp (fun k => k = g) w w1, (sent_yes g s w t.a.sb t.ok hr).mono fun e w1 ⟨e1, b, k1⟩ => ⟨e1, ⟨b, k1⟩, k1.mono fun k e => hB k (.inl (.inl e))⟩, fun w1 ⟨b, k1⟩ => ?_⟩
    exact (rsent_yes g' s vh vr vs va w1 (t.mid (k1.mono fun k e => .inl e)).rb t.ok hr).mono fun e w2 ⟨e1, b2, k2⟩ => ⟨e1, t.turn h64 hB hL b k1 ⟨rfl, rfl, rfl, rfl⟩ b2 k2 (sent_ok t.ok hr)⟩
theorem got_ok {s : Sn} (h : s.ok) (hr : s.gotE = 0) : s.got.ok := by
  have h1 := h.iw
  have h2 := h.ro
  have hi : s.iw ≠ 0 := by
    intro e
    unfold Sn.gotE at hr
    cases hp : s.peer
    · simp [hp] at hr
    · simp [hp, e] at hr
  refine ⟨h.no, h.ow, by show 0 ≤ (s.ni + 1) % 4294967296 ∧ (s.ni + 1) % 4294967296 ≤ 4294967295; omega, by show 0 ≤ s.iw - 1 ∧ s.iw - 1 ≤ 4294967295; omega, h.ri, ?_, h.nd, h.hm, h.rh, h.fi⟩
  show 0 ≤ greater 0 (s.ro - 1) ∧ greater 0 (s.ro - 1) ≤ 4294967295
  unfold greater
  split <;> omega
theorem got_both (h : Std w g g' B) : Both w g g' B KI 51 74 #[.pointer (some ⟨g, 0, none⟩)] #[.pointer (some ⟨g', 0, none⟩)] := by
  obtain ⟨s, H, R, S, C, vh, vr, vs, va, hs, rs, Sr, Cr, t, h64, hB, hL⟩ := h
  by_cases hr : s.gotE = 0
  · refine ⟨.int .i64 0, ⟨_, rfl⟩, fun w1 => SB w1 g s.got ∧ Kp (fun k => k = g) w w1, (got_yes g s w t.a.sb t.ok hr).mono fun e w1 ⟨e1, b, k1⟩ => ⟨e1, ⟨b, k1⟩, k1.mono fun k e => hB k (.inl (.inl e))⟩, fun w1 ⟨b, k1⟩ => ?_⟩
    exact (rgot_yes g' s vh vr vs va w1 (t.mid (k1.mono fun k e => .inl e)).rb t.ok hr).mono fun e w2 ⟨e1, b2, k2⟩ => ⟨e1, t.turn h64 hB hL b k1 ⟨rfl, rfl, rfl, rfl⟩ b2 k2 (got_ok t.ok hr)⟩
  · refine ⟨.int .i64 s.gotE, ⟨_, rfl⟩, fun w1 => w1 = w, (got_no g s w t.a.sb hr).mono fun e w1 ⟨e1, b⟩ => ⟨e1, b, b ▸ Kp.refl _ _⟩, fun w1 b => ?_⟩
    subst b
    exact (rgot_no g' s vh vr vs va w1 t.b.rb hr).mono fun e w2 ⟨e1, b2⟩ => ⟨e1, b2 ▸ t.still h64 hB hL (Below.refl _ _) (Below.refl _ _)⟩
theorem widen_both (n : Int) (h : Std w g g' B) : Both w g g' B KI 50 77 #[.pointer (some ⟨g, 0, none⟩), .int .i64 n] #[.pointer (some ⟨g', 0, none⟩), .int .i64 n] := by
  obtain ⟨s, H, R, S, C, vh, vr, vs, va, hs, rs, Sr, Cr, t, h64, hB, hL⟩ := h
  cases hr : isW n
  · refine ⟨.int .i64 1, ⟨_, rfl⟩, fun w1 => Below w.heap.size w w1, (widen_no g n w hr).mono fun e w1 ⟨e1, b⟩ => ⟨e1, b, Kp.ofBelow b⟩, fun w1 b => ?_⟩
    exact (rwiden_no g' w1 n hr).mono fun e w2 ⟨e1, b2⟩ => ⟨e1, b2 ▸ t.still h64 hB hL b (Below.refl _ _)⟩
  · have ho := t.ok
    have hn := isW_iff.1 hr
    have hok : Sn.ok { s with iw := greater s.iw n } := ⟨ho.no, ho.ow, ho.ni, by show 0 ≤ greater s.iw n ∧ greater s.iw n ≤ 4294967295; have := ho.iw; unfold greater; split <;> omega, ho.ri, ho.ro, ho.nd, ho.hm, ho.rh, ho.fi⟩
    refine ⟨.int .i64 0, ⟨_, rfl⟩, fun w1 => SB w1 g { s with iw := greater s.iw n } ∧ Kp (fun k => k = g) w w1, (widen_yes g s n w t.a.sb hr).mono fun e w1 ⟨e1, b, k1⟩ => ⟨e1, ⟨b, k1⟩, k1.mono fun k e => hB k (.inl (.inl e))⟩, fun w1 ⟨b, k1⟩ => ?_⟩
    exact (rwiden_yes g' s vh vr vs va w1 n (t.mid (k1.mono fun k e => .inl e)).rb hr).mono fun e w2 ⟨e1, b2, k2⟩ => ⟨e1, t.turn h64 hB hL b k1 ⟨rfl, rfl, rfl, rfl⟩ b2 k2 hok⟩
end
end Go.Proofs.Ytondbhdlccpklaa


/- Stage 13: one call at both: Peer, Flow, Arrive, Forget, Free, Remote, Local. -/
namespace Go.Proofs.Ytondbhdlccpklaa
open Go.RowKit Go.Maps
set_option linter.unusedVariables false
set_option linter.unusedSimpArgs false

section
variable {w w1 w2 : World} {g g' : Nat} {B : Nat → Prop}
theorem peered_ok {s : Sn} {ki iw no ow hm : Int} (h : s.ok) (hf : four ki iw no ow hm = true) : (s.peered iw no ow hm).ok := by
  simp [four, isW] at hf
  refine ⟨h.no, h.ow, by show 0 ≤ no ∧ no ≤ 4294967295; omega, h.iw, ?_, by show 0 ≤ ow ∧ ow ≤ 4294967295; omega, h.nd, h.hm, by show 0 ≤ hm ∧ hm ≤ 4294967295; omega, h.fi⟩
  show 0 ≤ lesser iw 2147483647 ∧ lesser iw 2147483647 ≤ 2147483647
  unfold lesser
  split <;> omega
theorem peer_both {A : Array Value} {ki ni iw no ow hm : Int} (hA : PfB A ki ni iw no ow hm) (h : Std w g g' B) : Both w g g' B KI 21 71 #[.pointer (some ⟨g, 0, none⟩), .agg A] #[.pointer (some ⟨g', 0, none⟩), .agg A] := by
  obtain ⟨s, H, R, S, C, vh, vr, vs, va, hs, rs, Sr, Cr, t, h64, hB, hL⟩ := h
  cases hp : s.peer
  · cases hf : four ki iw no ow hm
    · refine ⟨.int .i64 1, ⟨_, rfl⟩, fun w1 => Below w.heap.size w w1, (peer_no g s A ki ni iw no ow hm w t.a.sb hp hA hf).mono fun e w1 ⟨e1, b⟩ => ⟨e1, b, Kp.ofBelow b⟩, fun w1 b => ?_⟩
      exact (rpeer_no g' s vh vr vs va A ki ni iw no ow hm w1 (t.b.below b).rb hp hA hf).mono fun e w2 ⟨e1, b2⟩ => ⟨e1, t.still h64 hB hL b b2⟩
    · refine ⟨.int .i64 0, ⟨_, rfl⟩, fun w1 => SB w1 g (s.peered iw no ow hm) ∧ Kp (fun k => k = g) w w1, (peer_yes g s A ki ni iw no ow hm w t.a.sb hp hA hf).mono fun e w1 ⟨e1, b, k1⟩ => ⟨e1, ⟨b, k1⟩, k1.mono fun k e => hB k (.inl (.inl e))⟩, fun w1 ⟨b, k1⟩ => ?_⟩
      exact (rpeer_yes g' s vh vr vs va A ki ni iw no ow hm w1 (t.mid (k1.mono fun k e => .inl e)).rb hp hA hf).mono fun e w2 ⟨e1, b2, k2⟩ => ⟨e1, t.turn h64 hB hL b k1 ⟨rfl, rfl, rfl, rfl⟩ b2 k2 (peered_ok t.ok hf)⟩
  · refine ⟨.int .i64 4, ⟨_, rfl⟩, fun w1 => Below w.heap.size w w1, (peer_twice g s A w t.a.sb hp).mono fun e w1 ⟨e1, b⟩ => ⟨e1, b, Kp.ofBelow b⟩, fun w1 b => ?_⟩
    exact (rpeer_twice g' s vh vr vs va A w1 (t.b.below b).rb hp).mono fun e w2 ⟨e1, b2⟩ => ⟨e1, t.still h64 hB hL b b2⟩
theorem flowed_ok {s : Sn} {ki ni iw no ow : Int} (h : s.ok) (hf : mayF ki ni iw no ow = true) (hE : ¬ (s.ahead ni < 0 ∨ s.ahead ni > iw)) : (s.flowed ni iw no ow).ok := by
  obtain ⟨_, y1, y2, y3, _⟩ := mayF_yes hf
  have y1 := isW_iff.1 y1
  have y2 := isW_iff.1 y2
  have y3 := isW_iff.1 y3
  have hni := h.ni
  refine ⟨h.no, h.ow, ?_, h.iw, ?_, by show 0 ≤ ow ∧ ow ≤ 4294967295; omega, h.nd, h.hm, h.rh, h.fi⟩
  · show 0 ≤ (if 0 ≤ gapZ s.ni no then no else s.ni) ∧ (if 0 ≤ gapZ s.ni no then no else s.ni) ≤ 4294967295
    split <;> omega
  · show 0 ≤ lesser (iw - s.ahead ni) 2147483647 ∧ lesser (iw - s.ahead ni) 2147483647 ≤ 2147483647
    unfold lesser
    split <;> omega
theorem flow_both {A : Array Value} {ki ni iw no ow hm : Int} (hA : PfB A ki ni iw no ow hm) (h : Std w g g' B) : Both w g g' B KI 24 76 #[.pointer (some ⟨g, 0, none⟩), .agg A] #[.pointer (some ⟨g', 0, none⟩), .agg A] := by
  obtain ⟨s, H, R, S, C, vh, vr, vs, va, hs, rs, Sr, Cr, t, h64, hB, hL⟩ := h
  cases hp : s.peer
  · refine ⟨.int .i64 4, ⟨_, rfl⟩, fun w1 => Below w.heap.size w w1, (flow_down g s A w t.a.sb hp).mono fun e w1 ⟨e1, b⟩ => ⟨e1, b, Kp.ofBelow b⟩, fun w1 b => ?_⟩
    exact (rflow_down g' s vh vr vs va A w1 (t.b.below b).rb hp).mono fun e w2 ⟨e1, b2⟩ => ⟨e1, t.still h64 hB hL b b2⟩
  · cases hf : mayF ki ni iw no ow
    · refine ⟨.int .i64 1, ⟨_, rfl⟩, fun w1 => Below w.heap.size w w1, (flow_no g s A ki ni iw no ow hm w t.a.sb hp hA hf).mono fun e w1 ⟨e1, b⟩ => ⟨e1, b, Kp.ofBelow b⟩, fun w1 b => ?_⟩
      exact (rflow_no g' s vh vr vs va A ki ni iw no ow hm w1 (t.b.below b).rb hp hA hf).mono fun e w2 ⟨e1, b2⟩ => ⟨e1, t.still h64 hB hL b b2⟩
    · by_cases hE : s.ahead ni < 0 ∨ s.ahead ni > iw
      · refine ⟨.int .i64 131, ⟨_, rfl⟩, fun w1 => Below w.heap.size w w1, (flow_series g s A ki ni iw no ow hm w t.a.sb hp hA hf hE).mono fun e w1 ⟨e1, b⟩ => ⟨e1, b, Kp.ofBelow b⟩, fun w1 b => ?_⟩
        exact (rflow_series g' s vh vr vs va A ki ni iw no ow hm w1 (t.b.below b).rb hp hA hf hE).mono fun e w2 ⟨e1, b2⟩ => ⟨e1, t.still h64 hB hL b b2⟩
      · refine ⟨.int .i64 0, ⟨_, rfl⟩, fun w1 => SB w1 g (s.flowed ni iw no ow) ∧ Kp (fun k => k = g) w w1, (flow_yes g s A ki ni iw no ow hm w t.a.sb hp hA hf hE).mono fun e w1 ⟨e1, b, k1⟩ => ⟨e1, ⟨b, k1⟩, k1.mono fun k e => hB k (.inl (.inl e))⟩, fun w1 ⟨b, k1⟩ => ?_⟩
        exact (rflow_yes g' s vh vr vs va A ki ni iw no ow hm w1 (t.mid (k1.mono fun k e => .inl e)).rb hp hA hf hE).mono fun e w2 ⟨e1, b2, k2⟩ => ⟨e1, t.turn h64 hB hL b k1 ⟨rfl, rfl, rfl, rfl⟩ b2 k2 (flowed_ok t.ok hf hE)⟩
/-- a table of words has at most so many -/
theorem words_len {A : Type} {L : List (Int × A)} (hn : (L.map (·.1)).Nodup) (hw : Words L) : L.length ≤ 4294967296 := by
  have := sub_len (A := L.map (·.1)) (B := (List.range 4294967296).map Int.ofNat) hn (fun x hx => by
    obtain ⟨p, hp, rfl⟩ := List.mem_map.1 hx
    have := hw p hp
    exact List.mem_map.2 ⟨p.1.toNat, List.mem_range.2 (by omega), by show ((p.1.toNat : Nat) : Int) = p.1; omega⟩)
  rw [List.length_map, List.length_map, List.length_range] at this
  exact this
theorem words_room {A : Type} {L : List (Int × A)} (hn : (L.map (·.1)).Nodup) (hw : Words L) {id : Int} (hi : 0 ≤ id ∧ id ≤ 4294967295) {x : A} (hh : hasK L id = false) : L.length < 4294967296 := by
  have := words_len (L := (id, x) :: L) (by rw [List.map_cons, List.nodup_cons]; exact ⟨any_not.1 hh, hn⟩) (fun p hp => by
    rcases List.mem_cons.1 hp with rfl | e
    · exact hi
    · exact hw p e)
  rw [List.length_cons] at this
  omega
theorem noteE_zero {H : List (Int × Int)} {C : List (Int × Pd)} {id h : Int} (hE : noteE H C id h = 0) : hasK H h = true ∧ hasK C id = false := by
  have h1 : hasK H h = true := by
    cases hx : hasK H h
    · simp [noteE, hx] at hE
    · rfl
  refine ⟨h1, ?_⟩
  cases hx : hasK C id
  · rfl
  · simp [noteE, hx, h1] at hE
theorem hs_len {H : List (Int × Int)} {hs : List Int} (hp : hs.Perm (H.map (·.1))) : hs.length = H.length := by rw [hp.length_eq, List.length_map]
theorem pd_len {C : List (Int × Pd)} {l : List Pd} (hp : l.Perm (C.map (·.2))) : l.length = C.length := by rw [hp.length_eq, List.length_map]
theorem arrive_both (id x : Int) (tag : ByteArray) (settled : Bool) (hx : wf64 x) (h : Std w g g' B) : Both w g g' B KI 28 40 #[.pointer (some ⟨g, 0, none⟩), .int .i64 id, .int .i64 x, .string tag, .bool settled] #[.pointer (some ⟨g', 0, none⟩), .int .i64 id, .int .i64 x, .string tag, .bool settled] := by
  obtain ⟨s, H, R, S, C, vh, vr, vs, va, hs, rs, Sr, Cr, t, h64, hB, hL⟩ := h
  have hle := hs_len t.al.ph
  have h6 := h64.1
  have hcl := pd_len t.al.pc
  have hcw := words_len t.al.nc t.al.wc
  have hsame := note_same t.al.ph t.al.pc t.al.gc id x
  cases hi : isW id
  · refine ⟨.int .i64 1, ⟨_, rfl⟩, fun w1 => Below w.heap.size w w1, (arrive_arg g id x tag settled w hi).mono fun e w1 ⟨e1, b⟩ => ⟨e1, b, Kp.ofBelow b⟩, fun w1 b => ?_⟩
    exact (rarrive_arg g' w1 id x tag settled hi).mono fun e w2 ⟨e1, b2⟩ => ⟨e1, b2 ▸ t.still h64 hB hL b (Below.refl _ _)⟩
  · by_cases hE : noteE H C id x = 0 ∧ settled = false
    · obtain ⟨hE, rfl⟩ := hE
      have hz := noteE_zero hE
      have hiw := isW_iff.1 hi
      have hroom := words_room (x := ((id, x, tag) : Pd)) t.al.nc t.al.wc hiw hz.2
      refine ⟨.int .i64 0, ⟨_, rfl⟩, fun w1 => TbP w1 s.bc ((id, (id, x, tag)) :: C) ∧ Kp (fun k => k = s.bc) w w1, (arrive_yes g s H C id x tag w hi t.a.sb t.a.th t.a.tc hx hE (by unfold maxLen; omega)).mono fun e w1 ⟨e1, b, k1⟩ => ⟨e1, ⟨b, k1⟩, k1.mono fun k e => hB k (.inl (.inr (.inr (.inr (.inr e)))))⟩, fun w1 ⟨b, k1⟩ => ?_⟩
      have kk : Kp (SeB g s) w w1 := k1.mono fun k e => .inr (.inr (.inr (.inr e)))
      refine (rarrive_yes g' s vh vr vs va hs rs Sr Cr w1 id x tag hi (t.mid kk) (by omega) (by omega) (hsame.trans hE)).mono ?_
      rintro e w2 ⟨v', e1, r2, k2, n2⟩
      exact ⟨e1, t.std hB hL kk (t.a.arrived b k1) (fun _ => Iff.rfl) r2 k2 n2 t.ok (t.al.arrive hiw hz.2) h64⟩
    · have hE' : noteE H C id x ≠ 0 ∨ settled = true := by
        by_cases h0 : noteE H C id x = 0
        · right
          cases settled
          · exact absurd ⟨h0, rfl⟩ hE
          · rfl
        · exact .inl h0
      refine ⟨.int .i64 (noteE H C id x), ⟨_, rfl⟩, fun w1 => Below w.heap.size w w1, (arrive_no g s H C id x tag settled w hi t.a.sb t.a.th t.a.tc hx hE').mono fun e w1 ⟨e1, b⟩ => ⟨e1, b, Kp.ofBelow b⟩, fun w1 b => ?_⟩
      refine (rarrive_no g' s vh vr vs va hs rs Sr Cr w1 id x tag settled hi (t.b.below b) (by omega) (by omega) (by rw [hsame]; exact hE')).mono fun e w2 ⟨e1, b2⟩ => ⟨by rw [e1, hsame], b2 ▸ t.still h64 hB hL b (Below.refl _ _)⟩
end
end Go.Proofs.Ytondbhdlccpklaa


/- Stage 13: one call at both: Deliver, Forget, Free, Remote, Local, Handle. -/
namespace Go.Proofs.Ytondbhdlccpklaa
open Go.RowKit Go.Maps
set_option linter.unusedVariables false
set_option linter.unusedSimpArgs false

section
variable {w w1 w2 : World} {g g' : Nat} {B : Nat → Prop}
theorem nd_ok {s : Sn} (h : s.ok) : Sn.ok { s with nd := (s.nd + 1) % 4294967296 } := ⟨h.no, h.ow, h.ni, h.iw, h.ri, h.ro, by show 0 ≤ (s.nd + 1) % 4294967296 ∧ (s.nd + 1) % 4294967296 ≤ 4294967295; omega, h.hm, h.rh, h.fi⟩
theorem Ses.delivered {s s' : Sn} {H R : List (Int × Int)} {S S' C : List (Int × Pd)} (h : Ses w g s H R S C) (hs : SB w1 g s') (hm : s'.bh = s.bh ∧ s'.br = s.br ∧ s'.bs = s.bs ∧ s'.bc = s.bc) (ht : TbP w1 s.bs S') (hk : Kp (fun k => k = g ∨ k = s.bs) w w1) : Ses w1 g s' H R S' C := by
  obtain ⟨m1, m2, m3, m4⟩ := hm
  refine ⟨hs, ?_, ?_, ?_, ?_, by rw [m1, m2]; exact h.hr, by rw [m1, m3]; exact h.hs, by rw [m1, m4]; exact h.hc, by rw [m2, m3]; exact h.rs, by rw [m2, m4]; exact h.rc, by rw [m3, m4]; exact h.sc⟩
  · rw [m1]
    exact h.th.at (hk.block h.th.lt (fun e => e.elim (fun e => h.th.ne h.sb e) h.hs))
  · rw [m2]
    exact h.tr.at (hk.block h.tr.lt (fun e => e.elim (fun e => h.tr.ne h.sb e) h.rs))
  · rw [m3]
    exact ht
  · rw [m4]
    exact h.tc.at (hk.block h.tc.lt (fun e => e.elim (fun e => h.tc.ne h.sb e) (fun e => h.sc e.symm)))
theorem deliver_both (x : Int) (tag : ByteArray) (settled : Bool) (hx : wf64 x) (h : Std w g g' B) : Both w g g' B KT 35 39 #[.pointer (some ⟨g, 0, none⟩), .int .i64 x, .string tag, .bool settled] #[.pointer (some ⟨g', 0, none⟩), .int .i64 x, .string tag, .bool settled] := by
  obtain ⟨s, H, R, S, C, vh, vr, vs, va, hs, rs, Sr, Cr, t, h64, hB, hL⟩ := h
  have hle := hs_len t.al.ph
  have h6 := h64.1
  have hcl := pd_len t.al.ps
  have hcw := words_len t.al.ns t.al.ws
  have hsame := note_same t.al.ph t.al.ps t.al.gs s.nd x
  by_cases hE : noteE H S s.nd x = 0
  · have hz := noteE_zero hE
    cases settled
    · have hroom := words_room (x := ((s.nd, x, tag) : Pd)) t.al.ns t.al.ws t.ok.nd hz.2
      refine ⟨.tuple #[.int .i64 s.nd, .int .i64 0], ⟨_, _, rfl⟩, fun w1 => SB w1 g { s with nd := (s.nd + 1) % 4294967296 } ∧ TbP w1 s.bs ((s.nd, (s.nd, x, tag)) :: S) ∧ Kp (fun k => k = g ∨ k = s.bs) w w1, (deliver_yes g s H S x tag w t.a.sb t.a.th t.a.ts t.ok.nd hx hE (by unfold maxLen; omega)).mono fun e w1 ⟨e1, b, c, k1⟩ => ⟨e1, ⟨b, c, k1⟩, k1.mono fun k e => hB k (.inl (e.elim .inl (fun e => .inr (.inr (.inr (.inl e))))))⟩, fun w1 ⟨b, c, k1⟩ => ?_⟩
      have kk : Kp (SeB g s) w w1 := k1.mono fun k e => e.elim .inl (fun e => .inr (.inr (.inr (.inl e))))
      refine (rdeliver_yes g' s vh vr vs va hs rs Sr Cr w1 x tag (t.mid kk) (by omega) (by omega) (hsame.trans hE)).mono ?_
      rintro e w2 ⟨v', e1, r2, k2, n2⟩
      exact ⟨e1, t.std hB hL kk (t.a.delivered b ⟨rfl, rfl, rfl, rfl⟩ c k1) (fun _ => Iff.rfl) r2 k2 n2 (nd_ok t.ok) (t.al.deliver t.ok.nd hz.2) h64⟩
    · refine ⟨.tuple #[.int .i64 s.nd, .int .i64 0], ⟨_, _, rfl⟩, fun w1 => SB w1 g { s with nd := (s.nd + 1) % 4294967296 } ∧ Kp (fun k => k = g) w w1, (deliver_settled g s H S x tag w t.a.sb t.a.th t.a.ts t.ok.nd hx hE).mono fun e w1 ⟨e1, b, k1⟩ => ⟨e1, ⟨b, k1⟩, k1.mono fun k e => hB k (.inl (.inl e))⟩, fun w1 ⟨b, k1⟩ => ?_⟩
      have kk : Kp (SeB g s) w w1 := k1.mono fun k e => .inl e
      refine (rdeliver_settled g' s vh vr vs va hs rs Sr Cr w1 x tag (t.mid kk) (by omega) (by omega) (hsame.trans hE)).mono ?_
      rintro e w2 ⟨e1, r2, k2⟩
      exact ⟨e1, t.std hB hL kk (t.a.turn b ⟨rfl, rfl, rfl, rfl⟩ k1) (fun _ => Iff.rfl) r2 k2 (fun k e => .inl e) (nd_ok t.ok) t.al h64⟩
  · refine ⟨.tuple #[.int .i64 0, .int .i64 (noteE H S s.nd x)], ⟨_, _, rfl⟩, fun w1 => Below w.heap.size w w1, (deliver_no g s H S x tag settled w t.a.sb t.a.th t.a.ts t.ok.nd hx hE).mono fun e w1 ⟨e1, b⟩ => ⟨e1, b, Kp.ofBelow b⟩, fun w1 b => ?_⟩
    refine (rdeliver_no g' s vh vr vs va hs rs Sr Cr w1 x tag settled (t.b.below b) (by omega) (by omega) (by rw [hsame]; exact hE)).mono fun e w2 ⟨e1, b2⟩ => ⟨by rw [e1, hsame], b2 ▸ t.still h64 hB hL b (Below.refl _ _)⟩
theorem Ses.sending {s : Sn} {H R : List (Int × Int)} {S S' C : List (Int × Pd)} (h : Ses w g s H R S C) (ht : TbP w1 s.bs S') (hk : Kp (fun k => k = s.bs) w w1) : Ses w1 g s H R S' C :=
  h.delivered (h.sb.at (hk.block h.sb.lt (fun e => h.ts.ne h.sb e.symm))) ⟨rfl, rfl, rfl, rfl⟩ ht (hk.mono fun k e => .inr e)
theorem forget_both (sd : Bool) (id : Int) (hi : wf64 id) (h : Std w g g' B) : Both w g g' B KI 31 43 #[.pointer (some ⟨g, 0, none⟩), .bool sd, .int .i64 id] #[.pointer (some ⟨g', 0, none⟩), .bool sd, .int .i64 id] := by
  obtain ⟨s, H, R, S, C, vh, vr, vs, va, hs, rs, Sr, Cr, t, h64, hB, hL⟩ := h
  cases sd
  · have hcl := pd_len t.al.pc
    have hcw := words_len t.al.nc t.al.wc
    have hsame := hasN_perm t.al.pc t.al.gc id
    cases hh : hasK C id
    · refine ⟨.int .i64 131, ⟨_, rfl⟩, fun w1 => Below w.heap.size w w1, (forget_no g s false C id w t.a.sb t.a.tc hi hh).mono fun e w1 ⟨e1, b⟩ => ⟨e1, b, Kp.ofBelow b⟩, fun w1 b => ?_⟩
      exact (rforget_no_c g' s vh vr vs va hs rs Sr Cr w1 id (t.b.below b) (by omega) (hsame.trans hh)).mono fun e w2 ⟨e1, b2⟩ => ⟨e1, b2 ▸ t.still h64 hB hL b (Below.refl _ _)⟩
    · refine ⟨.int .i64 0, ⟨_, rfl⟩, fun w1 => TbP w1 s.bc (C.filter fun p => p.1 != id) ∧ Kp (fun k => k = s.bc) w w1, (forget_yes g s false C id w t.a.sb t.a.tc hi hh).mono fun e w1 ⟨e1, b, k1⟩ => ⟨e1, ⟨b, k1⟩, Kp.mono (S := fun k => k = s.bc) k1 fun k e => hB k (.inl (.inr (.inr (.inr (.inr e)))))⟩, fun w1 ⟨b, k1⟩ => ?_⟩
      have kk : Kp (SeB g s) w w1 := k1.mono fun k e => .inr (.inr (.inr (.inr e)))
      refine (rforget_c g' s vh vr vs va hs rs Sr Cr w1 id (t.mid kk) (by omega) (hsame.trans hh)).mono ?_
      rintro e w2 ⟨v', e1, r2, k2, n2⟩
      exact ⟨e1, t.std hB hL kk (t.a.arrived b k1) (fun _ => Iff.rfl) r2 k2 n2 t.ok (t.al.forget_c id) h64⟩
  · have hcl := pd_len t.al.ps
    have hcw := words_len t.al.ns t.al.ws
    have hsame := hasN_perm t.al.ps t.al.gs id
    cases hh : hasK S id
    · refine ⟨.int .i64 131, ⟨_, rfl⟩, fun w1 => Below w.heap.size w w1, (forget_no g s true S id w t.a.sb t.a.ts hi hh).mono fun e w1 ⟨e1, b⟩ => ⟨e1, b, Kp.ofBelow b⟩, fun w1 b => ?_⟩
      exact (rforget_no_s g' s vh vr vs va hs rs Sr Cr w1 id (t.b.below b) (by omega) (hsame.trans hh)).mono fun e w2 ⟨e1, b2⟩ => ⟨e1, b2 ▸ t.still h64 hB hL b (Below.refl _ _)⟩
    · refine ⟨.int .i64 0, ⟨_, rfl⟩, fun w1 => TbP w1 s.bs (S.filter fun p => p.1 != id) ∧ Kp (fun k => k = s.bs) w w1, (forget_yes g s true S id w t.a.sb t.a.ts hi hh).mono fun e w1 ⟨e1, b, k1⟩ => ⟨e1, ⟨b, k1⟩, Kp.mono (S := fun k => k = s.bs) k1 fun k e => hB k (.inl (.inr (.inr (.inr (.inl e)))))⟩, fun w1 ⟨b, k1⟩ => ?_⟩
      have kk : Kp (SeB g s) w w1 := k1.mono fun k e => .inr (.inr (.inr (.inl e)))
      refine (rforget_s g' s vh vr vs va hs rs Sr Cr w1 id (t.mid kk) (by omega) (hsame.trans hh)).mono ?_
      rintro e w2 ⟨v', e1, r2, k2, n2⟩
      exact ⟨e1, t.std hB hL kk (t.a.sending b k1) (fun _ => Iff.rfl) r2 k2 n2 t.ok (t.al.forget_s id) h64⟩
end
end Go.Proofs.Ytondbhdlccpklaa


/- Stage 13: one call at both: Local, Free, Remote, Handle. -/
namespace Go.Proofs.Ytondbhdlccpklaa
open Go.RowKit Go.Maps
set_option linter.unusedVariables false
set_option linter.unusedSimpArgs false

section
variable {w w1 w2 : World} {g g' : Nat} {B : Nat → Prop}
theorem local_both (r : Int) (hi : wf64 r) (h : Std w g g' B) : Both w g g' B KB 33 47 #[.pointer (some ⟨g, 0, none⟩), .int .i64 r] #[.pointer (some ⟨g', 0, none⟩), .int .i64 r] := by
  obtain ⟨s, H, R, S, C, vh, vr, vs, va, hs, rs, Sr, Cr, t, h64, hB, hL⟩ := h
  have hloc := t.al.local r
  have hrl := t.al.rlen
  have h6 := h64.1
  refine ⟨.tuple #[.int .i64 (lu 0 R r), .bool (hasK R r)], ⟨_, _, rfl⟩, fun w1 => w1 = w, (local_any g s R r w t.a.sb t.a.tr hi).mono fun e w1 ⟨e1, b⟩ => ⟨e1, b, b ▸ Kp.refl _ _⟩, fun w1 b => ?_⟩
  subst b
  obtain ⟨a, c, ev, hr⟩ := t.b.og.rd
  have hb := t.b.rb
  rw [ev] at hb
  refine (rlocal_any g' s a c vh vs va rs r w1 hb hr (by omega)).mono fun e w2 ⟨e1, b2⟩ => ⟨by rw [e1, hloc.1, hloc.2], b2 ▸ t.still h64 hB hL (Below.refl _ _) (Below.refl _ _)⟩
theorem few_filter {H : List (Int × Int)} (h : Few H) (q : Int × Int → Bool) : Few (H.filter q) := ⟨Nat.le_trans (List.length_filter_le _ _) h.1, fun p hp => h.2 p (List.mem_filter.1 hp).1⟩
theorem free_both (x : Int) (hx : wf64 x) (h : Std w g g' B) : Both w g g' B KI 32 45 #[.pointer (some ⟨g, 0, none⟩), .int .i64 x] #[.pointer (some ⟨g', 0, none⟩), .int .i64 x] := by
  obtain ⟨s, H, R, S, C, vh, vr, vs, va, hs, rs, Sr, Cr, t, h64, hB, hL⟩ := h
  have hle := hs_len t.al.ph
  have hrl := t.al.rlen
  have h6 := h64.1
  have hsl := pd_len t.al.ps
  have hcl := pd_len t.al.pc
  have hsw := words_len t.al.ns t.al.ws
  have hcw := words_len t.al.nc t.al.wc
  have hsame := hasH_perm t.al.ph x
  cases hh : hasK H x
  · refine ⟨.int .i64 132, ⟨_, rfl⟩, fun w1 => Below w.heap.size w w1, (free_no g s H x w t.a.sb t.a.th hx hh).mono fun e w1 ⟨e1, b⟩ => ⟨e1, b, Kp.ofBelow b⟩, fun w1 b => ?_⟩
    exact (rfree_no g' s vh vr vs va hs rs Sr Cr w1 x (t.b.below b) (by omega) (hsame.trans hh)).mono fun e w2 ⟨e1, b2⟩ => ⟨e1, b2 ▸ t.still h64 hB hL b (Below.refl _ _)⟩
  · refine ⟨.int .i64 0, ⟨_, rfl⟩, fun w1 => Ses w1 g s (H.filter fun p => p.1 != x) (R.filter fun p => p.1 != lu 0 H x) (S.filter fun p => p.2.2.1 != x) (C.filter fun p => p.2.2.1 != x) ∧ Kp (fun q => q = s.bh ∨ q = s.br ∨ q = s.bs ∨ q = s.bc) w w1, (free_yes g s H R S C x w t.a hx hh (t.al.val hh)).mono fun e w1 ⟨e1, b, k1⟩ => ⟨e1, ⟨b, k1⟩, k1.mono fun k e => hB k (.inl (.inr e))⟩, fun w1 ⟨b, k1⟩ => ?_⟩
    have kk : Kp (SeB g s) w w1 := k1.mono fun k e => .inr e
    refine (rfree_yes g' s vh vr vs va hs rs Sr Cr w1 x (t.mid kk) (by omega) (by omega) (by omega) (by omega) (hsame.trans hh)).mono ?_
    rintro e w2 ⟨e1, v1, v2, v3, v4, r2⟩
    exact ⟨e1, t.std hB hL kk b (fun _ => Iff.rfl) r2.rs r2.kp r2.nw t.ok (t.al.free hh) (few_filter h64 _)⟩
theorem remote_both (r x : Int) (hr : wf64 r) (hx : wf64 x) (h : Std w g g' B) : Both w g g' B KI 34 46 #[.pointer (some ⟨g, 0, none⟩), .int .i64 r, .int .i64 x] #[.pointer (some ⟨g', 0, none⟩), .int .i64 r, .int .i64 x] := by
  obtain ⟨s, H, R, S, C, vh, vr, vs, va, hs, rs, Sr, Cr, t, h64, hB, hL⟩ := h
  have hle := hs_len t.al.ph
  have hrl := t.al.rlen
  have hRl : rs.length = R.length := t.al.pr.length_eq
  have h6 := h64.1
  have hsame := hasH_perm t.al.ph x
  have hmb := t.ok.hm
  by_cases hbad : r < 0 ∨ r > s.hm ∨ hasK H x = false
  · have hE : remE s.hm H R r x := by
      rcases hbad with e | e | e
      · exact .inl e
      · exact .inr (.inl e)
      · exact .inr (.inr (.inr (.inl e)))
    refine ⟨.int .i64 132, ⟨_, rfl⟩, fun w1 => w1 = w, (remote_no g s H R r x w t.a.sb t.a.th t.a.tr hr hx hE).mono fun e w1 ⟨e1, b⟩ => ⟨e1, b, b ▸ Kp.refl _ _⟩, fun w1 b => ?_⟩
    subst b
    exact (rremote_bad g' s vh vr vs va hs rs Sr Cr w1 r x t.b (by omega) (by rw [hsame]; exact hbad)).mono fun e w2 ⟨e1, b2⟩ => ⟨e1, b2 ▸ t.still h64 hB hL (Below.refl _ _) (Below.refl _ _)⟩
  · have h0 : 0 ≤ r := by
      by_cases e : r < 0
      · exact absurd (.inl e) hbad
      · omega
    have h1 : r ≤ s.hm := by
      by_cases e : r > s.hm
      · exact absurd (.inr (.inl e)) hbad
      · omega
    have h3 : hasK H x = true := by
      cases e : hasK H x
      · exact absurd (.inr (.inr e)) hbad
      · rfl
    have href := t.al.refused r x h3
    by_cases hE : hasK R r = true ∨ lu 0 H x ≠ -1
    · have hE' : remE s.hm H R r x := by
        rcases hE with e | e
        · exact .inr (.inr (.inl e))
        · exact .inr (.inr (.inr (.inr e)))
      refine ⟨.int .i64 132, ⟨_, rfl⟩, fun w1 => w1 = w, (remote_no g s H R r x w t.a.sb t.a.th t.a.tr hr hx hE').mono fun e w1 ⟨e1, b⟩ => ⟨e1, b, b ▸ Kp.refl _ _⟩, fun w1 b => ?_⟩
      subst b
      refine (rremote_any g' s vh vr vs va hs rs Sr Cr w1 r x t.b (by omega) (by omega) h0 h1 (hsame.trans h3)).mono fun e w2 hpost => ?_
      rcases hpost with ⟨_, e1, b2⟩ | ⟨hf, _⟩
      · exact ⟨e1, b2 ▸ t.still h64 hB hL (Below.refl _ _) (Below.refl _ _)⟩
      · rw [href.2 hE] at hf
        cases hf
    · have h2 : hasK R r = false := by
        cases e : hasK R r
        · rfl
        · exact absurd (.inl e) hE
      have h4 : lu 0 H x = -1 := by
        by_cases e : lu 0 H x = -1
        · exact e
        · exact absurd (.inr e) hE
      refine ⟨.int .i64 0, ⟨_, rfl⟩, fun w1 => TbI w1 s.bh ((x, r) :: H.filter fun p => p.1 != x) ∧ TbI w1 s.br ((r, x) :: R) ∧ Kp (fun q => q = s.bh ∨ q = s.br) w w1, (remote_yes g s H R r x w t.a.sb t.a.th t.a.tr t.a.hr h0 h1 hmb.2 h2 h3 h4 hx (by unfold maxLen; omega) (by unfold maxLen; omega)).mono fun e w1 ⟨e1, b, c, k1⟩ => ⟨e1, ⟨b, c, k1⟩, k1.mono fun k e => hB k (.inl (e.elim (fun e => .inr (.inl e)) (fun e => .inr (.inr (.inl e)))))⟩, fun w1 ⟨b, c, k1⟩ => ?_⟩
      have kk : Kp (SeB g s) w w1 := k1.mono fun k e => e.elim (fun e => .inr (.inl e)) (fun e => .inr (.inr (.inl e)))
      refine (rremote_any g' s vh vr vs va hs rs Sr Cr w1 r x (t.mid kk) (by omega) (by omega) h0 h1 (hsame.trans h3)).mono fun e w2 hpost => ?_
      rcases hpost with ⟨hf, _⟩ | ⟨_, v', e1, r2, k2, n2⟩
      · exact absurd (href.1 hf) hE
      · refine ⟨e1, t.std hB hL kk (t.a.remoted b c k1) (fun _ => Iff.rfl) r2 k2 n2 t.ok (t.al.remote h0 (by omega) h2 h3 h4) ⟨?_, fun p hp => ?_⟩⟩
        · have := filter_lenI t.al.nh h3
          rw [List.length_cons]
          omega
        · rcases List.mem_cons.1 hp with rfl | e
          · obtain ⟨y, hy⟩ := hasK_mem.1 h3
            have hxy := h64.2 (x, y) hy
            exact hxy
          · exact h64.2 p (List.mem_filter.1 e).1
theorem few_full {H : List (Int × Int)} (hn : (H.map (·.1)).Nodup) (h : Few H) (hl : 64 ≤ H.length) {j : Nat} (hj : j < 64) : hasK H j = true := by
  have := sub_all (A := H.map (·.1)) (B := (List.range 64).map Int.ofNat) hn (fun x hx => by
    obtain ⟨p, hp, rfl⟩ := List.mem_map.1 hx
    have := h.2 p hp
    exact List.mem_map.2 ⟨p.1.toNat, List.mem_range.2 (by omega), by show ((p.1.toNat : Nat) : Int) = p.1; omega⟩) (by simpa using hl) (y := (j : Int)) (List.mem_map.2 ⟨j, List.mem_range.2 hj, rfl⟩)
  exact any_iff.2 this
theorem handle_both (h : Std w g g' B) : Both w g g' B KT 27 44 #[.pointer (some ⟨g, 0, none⟩)] #[.pointer (some ⟨g', 0, none⟩)] := by
  obtain ⟨s, H, R, S, C, vh, vr, vs, va, hs, rs, Sr, Cr, t, h64, hB, hL⟩ := h
  have hle := hs_len t.al.ph
  have h6 := h64.1
  have hsame := hasH_perm t.al.ph
  cases hp : s.peer
  · refine ⟨.tuple #[.int .i64 0, .int .i64 4], ⟨_, _, rfl⟩, fun w1 => w1 = w, (handle_down g s w t.a.sb hp).mono fun e w1 ⟨e1, b⟩ => ⟨e1, b, b ▸ Kp.refl _ _⟩, fun w1 b => ?_⟩
    subst b
    exact (rhandle_down g' s vh vr vs va hs rs Sr Cr w1 t.b hp).mono fun e w2 ⟨e1, b2⟩ => ⟨e1, b2 ▸ t.still h64 hB hL (Below.refl _ _) (Below.refl _ _)⟩
  · rcases least H s.rh with hall | ⟨x, hx64, hrh, hbelow, hfree⟩
    · refine ⟨.tuple #[.int .i64 0, .int .i64 132], ⟨_, _, rfl⟩, fun w1 => w1 = w, (handle_full g s H w t.a.sb t.a.th hp t.ok.rh.1 hall).mono fun e w1 ⟨e1, b⟩ => ⟨e1, b, b ▸ Kp.refl _ _⟩, fun w1 b => ?_⟩
      subst b
      by_cases hf : 64 ≤ hs.length
      · exact (rhandle_full g' s vh vr vs va hs rs Sr Cr w1 t.b hp hf (by omega)).mono fun e w2 ⟨e1, b2⟩ => ⟨e1, b2 ▸ t.still h64 hB hL (Below.refl _ _) (Below.refl _ _)⟩
      · exact (rhandle_none g' s vh vr vs va hs rs Sr Cr w1 t.b hp (by omega) (fun j hj hjr => by rw [hsame]; exact hall j (by omega) hjr)).mono fun e w2 ⟨e1, b2⟩ => ⟨e1, b2 ▸ t.still h64 hB hL (Below.refl _ _) (Below.refl _ _)⟩
    · have hlt : H.length < 64 := by
        by_cases e : H.length < 64
        · exact e
        · have := few_full t.al.nh h64 (by omega) hx64
          rw [hfree] at this
          cases this
      have hmany := many x t.al.nh hbelow
      refine ⟨.tuple #[.int .i64 x, .int .i64 0], ⟨_, _, rfl⟩, fun w1 => TbI w1 s.bh ((x, -1) :: H) ∧ Kp (fun q => q = s.bh) w w1, (handle_yes g s H x w t.a.sb t.a.th hp (by unfold maxLen; omega) hx64 hrh hbelow hfree).mono fun e w1 ⟨e1, b, k1⟩ => ⟨e1, ⟨b, k1⟩, k1.mono fun k e => hB k (.inl (.inr (.inl e)))⟩, fun w1 ⟨b, k1⟩ => ?_⟩
      have kk : Kp (SeB g s) w w1 := k1.mono fun k e => .inr (.inl e)
      refine (rhandle_yes g' s vh vr vs va hs rs Sr Cr w1 x (t.mid kk) hp (by omega) (by omega) hrh (fun j hj => by rw [hsame]; exact hbelow j hj) (by rw [hsame]; exact hfree)).mono ?_
      rintro e w2 ⟨v', e1, r2, k2, n2⟩
      refine ⟨e1, t.std hB hL kk (t.a.handled b k1) (fun _ => Iff.rfl) r2 k2 n2 t.ok (t.al.handle hfree) ⟨?_, fun p hp' => ?_⟩⟩
      · rw [List.length_cons]
        omega
      · rcases List.mem_cons.1 hp' with rfl | e
        · exact ⟨by simp, by simp; omega⟩
        · exact h64.2 p e
end
end Go.Proofs.Ytondbhdlccpklaa


/- Stage 13: Range at both. -/
namespace Go.Proofs.Ytondbhdlccpklaa
open Go.RowKit Go.Maps
set_option linter.unusedVariables false
set_option linter.unusedSimpArgs false

theorem rg_none {C : List (Int × Pd)} {first last : Int} (h : gapZ first last < 0) : rgL C first last = [] := by
  unfold rgL
  rw [List.map_eq_nil_iff, List.eq_nil_iff_forall_not_mem]
  intro e he
  have := (mem_gsL.1 he).2
  omega
section
variable {w : World} {g g' : Nat} {B : Nat → Prop}
theorem own_nil (w : World) (base : Nat) : OwnP w base (.slice none 0 0) [] := ⟨rfl, .inl ⟨rfl, rfl⟩⟩
theorem range_both (sd : Bool) (first last : Int) (h : Std w g g' B) : ∃ l : List Pd, l.length ≤ 4294967296 ∧ (Calls Try.prog 29 #[.pointer (some ⟨g, 0, none⟩), .bool sd, .int .i64 first, .int .i64 last] w fun e w1 => ∃ v, e = .returned v ∧ OwnP w1 w.heap.size v l ∧ Below w.heap.size w w1) ∧ ∀ w1, Below w.heap.size w w1 → Calls Try.prog 41 #[.pointer (some ⟨g', 0, none⟩), .bool sd, .int .i64 first, .int .i64 last] w1 fun e w2 => ∃ v, e = .returned v ∧ OwnP w2 w1.heap.size v l ∧ Below w1.heap.size w1 w2 := by
  obtain ⟨s, H, R, S, C, vh, vr, vs, va, hs, rs, Sr, Cr, t, h64, hB, hL⟩ := h
  obtain ⟨L, hT, hn, hw, hr, hp⟩ : ∃ L, TbP w (s.way sd) L ∧ (L.map (·.1)).Nodup ∧ Words L ∧ Reg L ∧ (if sd then Sr else Cr).Perm (L.map (·.2)) := by
    cases sd
    · exact ⟨C, t.a.tc, t.al.nc, t.al.wc, t.al.gc, t.al.pc⟩
    · exact ⟨S, t.a.ts, t.al.ns, t.al.ws, t.al.gs, t.al.ps⟩
  have hlen := words_len hn hw
  have hpl : (if sd then Sr else Cr).length = L.length := pd_len hp
  refine ⟨rangeL L first last, Nat.le_trans (rangeL_len L first last) hlen, range_any g s sd L first last w t.a.sb hT hw hlen, fun w1 b => ?_⟩
  have hb := t.b.below b
  by_cases hok : isW first = true ∧ isW last = true ∧ 0 ≤ gapZ first last
  · refine (rrange_yes g' s vh vr vs va hs rs Sr Cr w1 sd first last hb (by omega) hok.1 hok.2.1 hok.2.2).mono ?_
    rintro e w2 ⟨v, out, e1, o, sel, b2⟩
    have he : out = rangeL L first last := by
      unfold rangeL
      rw [hok.1, hok.2.1]
      exact sel_range hp hr hn hw (isW_iff.1 hok.1) sel
    exact ⟨v, e1, he ▸ o, b2⟩
  · have hno : isW first = false ∨ isW last = false ∨ gapZ first last < 0 := by
      cases h1 : isW first
      · exact .inl rfl
      · cases h2 : isW last
        · exact .inr (.inl rfl)
        · refine .inr (.inr ?_)
          by_cases h3 : 0 ≤ gapZ first last
          · exact absurd ⟨h1, h2, h3⟩ hok
          · omega
    have he : rangeL L first last = [] := by
      unfold rangeL
      rcases hno with h | h | h
      · rw [h]; rfl
      · rw [h, Bool.and_false]; rfl
      · split
        · exact rg_none h
        · rfl
    rw [he]
    refine (rrange_no g' w1 sd first last hno).mono ?_
    rintro e w2 ⟨e1, rfl⟩
    exact ⟨_, e1, own_nil _ _, Below.refl _ _⟩
end
end Go.Proofs.Ytondbhdlccpklaa
