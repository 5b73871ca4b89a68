
/- Stage 6: a stream's state, a byte after the other. -/
import Derived.Test.YtaijcnkmklibcaaSInv
import Derived.Test.YtaijcnkmklibcaaSStep
namespace Go.Proofs.Ytaijcnkmklibcaa
open Go.RowKit Go.Deep
set_option linter.unusedVariables false
set_option linter.unusedSimpArgs false

/-- limit, taken, at; held; size, type; header, error; mode -/
abbrev Sg : Type := (Int × Int × Int) × List Nat × (Nat × Int) × (Bool × Int) × Nat
def Sg.E (s : Sg) (c : Nat) : Int := mE s.2.2.2.2 s.1.1 s.2.2.1.1 s.2.2.1.2 (s.2.1 ++ [c])
/-- the kind of the item that is whole with a byte -/
def Sg.K (s : Sg) (c : Nat) : Int := if s.E c = 0 then mK s.2.2.2.2 s.2.2.1.1 (s.2.1 ++ [c]) else 0
/-- the state behind a byte -/
def Sg.nx (s : Sg) (c : Nat) : Sg :=
  ((s.1.1, s.1.2.1 + 1, if s.K c = 0 then s.1.2.2 else s.1.2.1 + 1), (if s.E c = 0 ∧ s.K c = 0 then s.2.1 ++ [c] else []), (mSz s.2.2.2.2 s.1.1 s.2.2.1.1 (s.2.1 ++ [c]), mKd s.2.2.2.2 s.2.2.1.2 (s.2.1 ++ [c])), ((if s.K c = 0 then s.2.2.2.1.1 else false), s.E c), (if s.K c = 0 then mMo s.2.2.2.2 s.1.1 s.2.2.1.2 (s.2.1 ++ [c]) else 1))
def Sg.It (s : Sg) (c : Nat) (A1 A2 : Option Addr) : Value := if s.K c = 0 then it0 else mIt s.2.2.2.2 s.2.2.1.1 (s.2.1 ++ [c]) A1 A2
/-- a stream that stands so; M: no frame's size is above it -/
def SR (w : World) (S B : Nat) (M : Int) (s : Sg) (v : Value) : Prop :=
  StB w S s.1.1 s.1.2.1 s.1.2.2 v (s.2.2.1.1 : Int) s.2.2.1.2 s.2.2.2.1.1 s.2.2.2.1.2 (mfn S s.2.2.2.2) ∧ w.ownsRow B 5 1 v s.2.1.length (s.2.1.map byteV) ∧ B ≤ w.heap.size ∧ (∀ c ∈ s.2.1, c < 256) ∧ (512 ≤ s.1.1 ∧ s.1.1 ≤ M ∧ M ≤ 1048576) ∧ (s.2.2.2.1.2 = 0 → Inv M s.2.2.2.1.1 s.2.1 s.2.2.1.1 s.2.2.2.2)
theorem step_run (w : World) (S B : Nat) (M : Int) (s : Sg) (v : Value) (c : Nat) (h : SR w S B M s v) (he : s.2.2.2.1.2 = 0) (hc : c < 256) (ht0 : 0 ≤ s.1.2.1) (ht1 : s.1.2.1 ≤ 281474976710656) :
    Calls Try.prog 48 #[.pointer (some ⟨S, 0, none⟩), .int .u8 (c : Int)] w fun e w' => ∃ (o1 o2 : Option Nat) (v' : Value), e = .returned (s.It c (o1.map (fun g => (⟨g, 0, none⟩ : Addr))) (o2.map (fun g => (⟨g, 0, none⟩ : Addr)))) ∧ SR w' S B M (s.nx c) v' ∧ (¬ s.K c = 0 → s.2.2.2.2 = 4 → mOut w w' (s.2.1 ++ [c]) o1 o2) ∧ ((v'.ownBlock = none ∨ v'.ownBlock = v.ownBlock ∨ ∃ g, v'.ownBlock = some g ∧ w.heap.size ≤ g) ∧ (¬ s.K c = 0 → v'.ownBlock = none)) ∧ KS S v w w' := by
  obtain ⟨⟨lim, tk, at_⟩, l, ⟨sz, kd⟩, ⟨hd, er⟩, mo⟩ := s
  obtain ⟨h1, h2, h3, h4, h5, h6⟩ := h
  simp only at h1 h2 h4 h5 h6 he ht0 ht1
  subst he
  have hI := h6 rfl
  obtain ⟨m1, m2, m3⟩ := hI.mode
  have hn : l.length ≤ 2000000 := by have := (hI.held (by omega)).1; omega
  refine (step_any S mo B lim tk at_ sz kd hd v l c w h1 h2 h3 h4 hc m1 m2 m3 hn ht0 ht1).mono ?_
  rintro e w' ⟨o1, o2, v', p1, p2, p3, p4, p5⟩
  have hsz : w.heap.size ≤ w'.heap.size := p5.2.2.2.1
  have hlt : ∀ x ∈ l ++ [c], x < 256 := fun x hx => by
    rcases List.mem_append.1 hx with hh | hh
    · exact h4 x hh
    · simp at hh; omega
  by_cases hE : mE mo lim sz kd (l ++ [c]) = 0
  · by_cases hK : mK mo sz (l ++ [c]) = 0
    · obtain ⟨q1, q2, q3⟩ := p2 hE hK
      refine ⟨o1, o2, v', ?_, ⟨?_, ?_, by omega, ?_, h5, fun _ => ?_⟩, fun hh => ?_, ⟨.inr p4, fun hh => by simp [Sg.K, Sg.E, hE, hK] at hh⟩, p5⟩
      · rw [q1]; simp [Sg.It, Sg.K, Sg.E, hE, hK]
      · simpa [Sg.nx, Sg.K, Sg.E, hE, hK] using q2
      · simpa [Sg.nx, Sg.K, Sg.E, hE, hK] using q3
      · simpa [Sg.nx, Sg.K, Sg.E, hE, hK] using hlt
      · have := hI.stay c (kd := kd) h5.1 (by omega) h5.2.1 hE hK
        simpa [Sg.nx, Sg.K, Sg.E, hE, hK] using this
      · simp [Sg.K, Sg.E, hE, hK] at hh
    · obtain ⟨q1, q2, q3⟩ := p3 hE hK
      refine ⟨o1, o2, .slice none 0 0, ?_, ⟨?_, ?_, by omega, ?_, h5, fun _ => ?_⟩, fun _ h4' => q3 h4', ⟨.inl rfl, fun _ => rfl⟩, p5⟩
      · rw [q1]; simp [Sg.It, Sg.K, Sg.E, hE, hK]
      · simpa [Sg.nx, Sg.K, Sg.E, hE, hK] using q2
      · simpa [Sg.nx, Sg.K, Sg.E, hE, hK] using World.ownsRow_nil w' B 5 1
      · simp [Sg.nx, Sg.K, Sg.E, hE, hK]
      · simpa [Sg.nx, Sg.K, Sg.E, hE, hK] using Inv.next M _
  · obtain ⟨q1, q2⟩ := p1 hE
    refine ⟨o1, o2, .slice none 0 0, ?_, ⟨?_, ?_, by omega, ?_, h5, fun hh => ?_⟩, fun hh => ?_, ⟨.inl rfl, fun _ => rfl⟩, p5⟩
    · rw [q1]; simp [Sg.It, Sg.K, Sg.E, hE]
    · simpa [Sg.nx, Sg.K, Sg.E, hE] using q2
    · simpa [Sg.nx, Sg.K, Sg.E, hE] using World.ownsRow_nil w' B 5 1
    · simp [Sg.nx, Sg.K, Sg.E, hE]
    · exact absurd hh hE
    · simp [Sg.K, Sg.E, hE] at hh
end Go.Proofs.Ytaijcnkmklibcaa
