import Derived.Test.YtknkmamjdmadcaaLNum2M9

/- LinkAgree: the mathematics of credit and count. -/
namespace Go.Proofs.Ytknkmamjdmadcaa
open Go.RowKit
set_option linter.unusedVariables false
set_option linter.unusedSimpArgs false

/-- what is under way: a delivery (or what is said of one), or a Flow of a link as it stood -/
abbrev Li : Type := Option Lk
/-- p are counted, W is under way: e are counted at its end -/
def Ox (n0 : Int) : Int → List Li → Int → Prop
  | p, [], e => p = e
  | p, none :: W, e => Ox n0 (p + 1) W e
  | p, some f :: W, e => ∃ q, p < q ∧ f.ct = (n0 + q) % 4294967296 ∧ Ox n0 q W e
/-- grants under way, in their order: m: how far anything may have gone; a: the limit that is known; r: how much is counted by now; L: the last limit, b: the bound -/
def Bx (n0 r : Int) : Int → Int → List Li → Int → Int → Prop
  | m, a, [], L, b => a = L ∧ m ≤ b
  | m, a, none :: W, L, b => Bx n0 r m a W L b
  | m, a, some f :: W, L, b => ∃ p q, 0 ≤ p ∧ p ≤ r ∧ f.ct = (n0 + p) % 4294967296 ∧ 0 ≤ f.cr ∧ m ≤ q ∧ p + f.cr ≤ q ∧ q ≤ p + 2147483647 ∧ Bx n0 r q (p + f.cr) W L b
theorem Ox.le {n0 : Int} : ∀ {W : List Li} {p e : Int}, Ox n0 p W e → p ≤ e
  | [], p, e, h => by have h : p = e := h; omega
  | none :: W, p, e, h => by have := Ox.le (W := W) (p := p + 1) (e := e) h; omega
  | some f :: W, p, e, ⟨q, h1, _, h3⟩ => by have := Ox.le (W := W) h3; omega
theorem Ox.sent {n0 : Int} : ∀ {W : List Li} {p e : Int}, Ox n0 p W e → Ox n0 p (W ++ [none]) (e + 1)
  | [], p, e, h => by have h : p = e := h; show p + 1 = e + 1; omega
  | none :: W, p, e, h => Ox.sent (W := W) (p := p + 1) (e := e) h
  | some f :: W, p, e, ⟨q, h1, h2, h3⟩ => ⟨q, h1, h2, Ox.sent (W := W) h3⟩
theorem Ox.flow {n0 : Int} {f : Lk} {e' : Int} : ∀ {W : List Li} {p e : Int}, Ox n0 p W e → e < e' → f.ct = (n0 + e') % 4294967296 → Ox n0 p (W ++ [some f]) e'
  | [], p, e, h, h1, h2 => by have h : p = e := h; exact ⟨e', by omega, h2, rfl⟩
  | none :: W, p, e, h, h1, h2 => Ox.flow (W := W) (p := p + 1) (e := e) h h1 h2
  | some g :: W, p, e, ⟨q, a1, a2, a3⟩, h1, h2 => ⟨q, a1, a2, Ox.flow (W := W) a3 h1 h2⟩
theorem Bx.mono {n0 : Int} : ∀ {W : List Li} {r r' m m' a L b b' : Int}, Bx n0 r m a W L b → r ≤ r' → m' ≤ m → b ≤ b' → Bx n0 r' m' a W L b'
  | [], r, r', m, m', a, L, b, b', h, h1, h2, h3 => ⟨h.1, by have := h.2; omega⟩
  | none :: W, r, r', m, m', a, L, b, b', h, h1, h2, h3 => Bx.mono (W := W) h h1 h2 h3
  | some f :: W, r, r', m, m', a, L, b, b', ⟨p, q, a1, a2, a3, a4, a5, a6, a7, a8⟩, h1, h2, h3 => ⟨p, q, a1, by omega, a3, a4, by omega, a6, a7, Bx.mono (W := W) a8 h1 (Int.le_refl _) h3⟩
theorem Bx.le {n0 r : Int} : ∀ {W : List Li} {m a L b : Int}, Bx n0 r m a W L b → m ≤ b
  | [], m, a, L, b, h => h.2
  | none :: W, m, a, L, b, h => Bx.le (W := W) h
  | some f :: W, m, a, L, b, ⟨p, q, _, _, _, _, a5, _, _, a8⟩ => by have := Bx.le (W := W) a8; omega
theorem Bx.said {n0 r : Int} : ∀ {W : List Li} {m a L b : Int}, Bx n0 r m a W L b → Bx n0 r m a (W ++ [none]) L b
  | [], m, a, L, b, h => h
  | none :: W, m, a, L, b, h => Bx.said (W := W) h
  | some f :: W, m, a, L, b, ⟨p, q, a1, a2, a3, a4, a5, a6, a7, a8⟩ => ⟨p, q, a1, a2, a3, a4, a5, a6, a7, Bx.said (W := W) a8⟩
theorem Bx.grant {n0 r : Int} {f : Lk} {b' : Int} : ∀ {W : List Li} {m a L b : Int}, Bx n0 r m a W L b → 0 ≤ r → f.ct = (n0 + r) % 4294967296 → 0 ≤ f.cr → b ≤ b' → r + f.cr ≤ b' → b' ≤ r + 2147483647 → Bx n0 r m a (W ++ [some f]) (r + f.cr) b'
  | [], m, a, L, b, h, h0, h1, h2, h3, h4, h5 => ⟨r, b', h0, Int.le_refl _, h1, h2, by have := h.2; omega, h4, h5, rfl, Int.le_refl _⟩
  | none :: W, m, a, L, b, h, h0, h1, h2, h3, h4, h5 => Bx.grant (W := W) h h0 h1 h2 h3 h4 h5
  | some g :: W, m, a, L, b, ⟨p, q, a1, a2, a3, a4, a5, a6, a7, a8⟩, h0, h1, h2, h3, h4, h5 => ⟨p, q, a1, a2, a3, a4, a5, a6, a7, Bx.grant (W := W) a8 h0 h1 h2 h3 h4 h5⟩
/-- a sender s, a receiver r; O under way to r, B to s; e, p counted, L the last limit, a the one that s knows, b the bound -/
structure Ag (n0 e p L a b : Int) (s r : Lk) (O B : List Li) : Prop where
  sc : s.ct = (n0 + e) % 4294967296
  rc : r.ct = (n0 + p) % 4294967296
  rb : r.bd = (n0 + b) % 4294967296
  scr : s.cr = greater 0 (a - e)
  rcr : r.cr = greater 0 (L - p)
  p0 : 0 ≤ p
  eb : e ≤ b
  bp : b ≤ p + 2147483647
  Lb : L ≤ b
  ox : Ox n0 p O e
  bx : ∃ m, e ≤ m ∧ a ≤ m ∧ Bx n0 p m a B L b
section
variable {n0 e p L a b : Int} {s r f : Lk} {O B : List Li}
theorem gap_of {n0 x y : Int} (h1 : -2147483648 ≤ y - x) (h2 : y - x ≤ 2147483647) : gapZ ((n0 + x) % 4294967296) ((n0 + y) % 4294967296) = y - x := by unfold gapZ; omega
theorem Ag.le (h : Ag n0 e p L a b s r O B) : p ≤ e ∧ a ≤ b := by
  obtain ⟨m, h1, h2, h3⟩ := h.bx
  have := h3.le
  exact ⟨h.ox.le, by omega⟩
theorem Ag.start {l1 l2 : Lk} {c : Int} (hc : 0 ≤ c ∧ c ≤ 4294967295) (h1 : l1.ct = c) (h2 : l2.ct = c) (h3 : l2.bd = c) (h4 : l1.cr = 0) (h5 : l2.cr = 0) : Ag c 0 0 0 0 0 l1 l2 [] [] :=
  ⟨by rw [h1]; omega, by rw [h2]; omega, by rw [h3]; omega, by rw [h4]; rfl, by rw [h5]; rfl, Int.le_refl _, Int.le_refl _, by omega, Int.le_refl _, rfl, 0, Int.le_refl _, Int.le_refl _, rfl, Int.le_refl _⟩
/-- the receiver grants -/
theorem Ag.grant (h : Ag n0 e p L a b s r O B) {c : Int} (hc : 0 ≤ c ∧ c ≤ 2147483647) (d : Bool) : ∃ b', Ag n0 e p (p + c) a b' s (r.grant c d) O (B ++ [some (r.grant c d)]) := by
  obtain ⟨m, m1, m2, m3⟩ := h.bx
  have hle := h.le
  have hg : gapZ r.bd ((r.ct + c) % 4294967296) = p + c - b := by
    rw [h.rb, h.rc]
    have : ((n0 + p) % 4294967296 + c) % 4294967296 = (n0 + (p + c)) % 4294967296 := by omega
    rw [this]
    exact gap_of (by have := h.bp; omega) (by have := h.eb; omega)
  have hbp := h.bp
  have heb := h.eb
  by_cases hb : 0 < p + c - b
  · refine ⟨p + c, h.sc, h.rc, ?_, h.scr, ?_, h.p0, by omega, by omega, Int.le_refl _, h.ox, m, m1, m2, ?_⟩
    · show (if 0 < gapZ r.bd ((r.ct + c) % 4294967296) then (r.ct + c) % 4294967296 else r.bd) = _
      rw [hg, if_pos hb, h.rc]
      omega
    · show c = _
      unfold greater
      split <;> omega
    · exact m3.grant (f := r.grant c d) h.p0 h.rc hc.1 (by omega) (Int.le_refl _) (by omega)
  · refine ⟨b, h.sc, h.rc, ?_, h.scr, ?_, h.p0, heb, hbp, by omega, h.ox, m, m1, m2, ?_⟩
    · show (if 0 < gapZ r.bd ((r.ct + c) % 4294967296) then (r.ct + c) % 4294967296 else r.bd) = _
      rw [hg, if_neg hb, h.rb]
    · show c = _
      unfold greater
      split <;> omega
    · exact m3.grant (f := r.grant c d) h.p0 h.rc hc.1 (Int.le_refl _) (by show p + c ≤ b; omega) hbp
/-- the sender sends -/
theorem Ag.send (h : Ag n0 e p L a b s r O B) (hc : 0 < s.cr) : Ag n0 (e + 1) p L a b (s.on 1) r (O ++ [none]) B := by
  obtain ⟨m, m1, m2, m3⟩ := h.bx
  have hle := h.le
  have hs := h.scr
  rw [hs] at hc
  have ha : e < a := by unfold greater at hc; split at hc <;> omega
  refine ⟨?_, h.rc, h.rb, ?_, h.rcr, h.p0, by omega, h.bp, h.Lb, h.ox.sent, m, by omega, m2, m3⟩
  · show (s.ct + 1) % 4294967296 = _
    rw [h.sc]
    omega
  · show greater 0 (s.cr - 1) = _
    rw [hs]
    unfold greater
    (repeat' split) <;> omega
/-- the sender gives its credit up -/
theorem Ag.drain (h : Ag n0 e p L a b s r O B) (hc : 0 < s.cr) : Ag n0 a p L a b (s.on s.cr) r (O ++ [some (s.on s.cr)]) B := by
  obtain ⟨m, m1, m2, m3⟩ := h.bx
  have hle := h.le
  have hs := h.scr
  have ha : e < a ∧ s.cr = a - e := by rw [hs] at hc ⊢; unfold greater at *; split at hc <;> (try split) <;> omega
  have hct : (s.on s.cr).ct = (n0 + a) % 4294967296 := by
    show (s.ct + s.cr) % 4294967296 = _
    rw [h.sc, ha.2]
    omega
  refine ⟨hct, h.rc, h.rb, ?_, h.rcr, h.p0, by omega, h.bp, h.Lb, h.ox.flow ha.1 hct, m, m2, m2, m3⟩
  show greater 0 (s.cr - s.cr) = _
  unfold greater
  (repeat' split) <;> omega
/-- a delivery comes -/
theorem Ag.got (h : Ag n0 e p L a b s r (none :: O) B) : r.ct ≠ r.bd ∧ Ag n0 e (p + 1) L a b s (r.on 1) O B := by
  obtain ⟨m, m1, m2, m3⟩ := h.bx
  have hp : p + 1 ≤ e := Ox.le (W := O) h.ox
  have heb := h.eb
  have hbp := h.bp
  have hr := h.rcr
  refine ⟨?_, h.sc, ?_, h.rb, h.scr, ?_, by have := h.p0; omega, heb, by omega, h.Lb, h.ox, m, m1, m2, m3.mono (by omega) (Int.le_refl _) (Int.le_refl _)⟩
  · rw [h.rc, h.rb]
    omega
  · show (r.ct + 1) % 4294967296 = _
    rw [h.rc]
    omega
  · show greater 0 (r.cr - 1) = _
    rw [hr]
    unfold greater
    (repeat' split) <;> omega
/-- what was given up comes -/
theorem Ag.drained (h : Ag n0 e p L a b s r (some f :: O) B) (v : Int) : 0 < gapZ r.ct f.ct ∧ gapZ r.ct f.ct ≤ gapZ r.ct r.bd ∧ ∃ q, Ag n0 e q L a b s (({ r with av := v } : Lk).on (gapZ r.ct f.ct)) O B := by
  obtain ⟨m, m1, m2, m3⟩ := h.bx
  obtain ⟨q, q1, q2, q3⟩ := h.ox
  have hq := q3.le
  have heb := h.eb
  have hbp := h.bp
  have hr := h.rcr
  have g1 : gapZ r.ct f.ct = q - p := by rw [h.rc, q2]; exact gap_of (by omega) (by omega)
  have g2 : gapZ r.ct r.bd = b - p := by rw [h.rc, h.rb]; exact gap_of (by omega) (by omega)
  refine ⟨by omega, by omega, q, h.sc, ?_, h.rb, h.scr, ?_, by have := h.p0; omega, heb, by omega, h.Lb, q3, m, m1, m2, m3.mono (by omega) (Int.le_refl _) (Int.le_refl _)⟩
  · show (r.ct + gapZ r.ct f.ct) % 4294967296 = _
    rw [g1, h.rc]
    omega
  · show greater 0 (r.cr - gapZ r.ct f.ct) = _
    rw [g1, hr]
    unfold greater
    (repeat' split) <;> omega
/-- what the receiver says of a delivery comes -/
theorem Ag.said (h : Ag n0 e p L a b s r O (none :: B)) : Ag n0 e p L a b s r O B := ⟨h.sc, h.rc, h.rb, h.scr, h.rcr, h.p0, h.eb, h.bp, h.Lb, h.ox, h.bx⟩
theorem Ag.says (h : Ag n0 e p L a b s r O B) : Ag n0 e p L a b s r O (B ++ [none]) := by
  obtain ⟨m, m1, m2, m3⟩ := h.bx
  exact ⟨h.sc, h.rc, h.rb, h.scr, h.rcr, h.p0, h.eb, h.bp, h.Lb, h.ox, m, m1, m2, m3.said⟩
/-- a grant comes -/
theorem Ag.heard (h : Ag n0 e p L a b s r O (some f :: B)) (d : Bool) (hf : f.cr ≤ 2147483647) : ∃ a', Ag n0 e p L a' b (s.hearR f.ct f.cr d) r O B := by
  obtain ⟨m, m1, m2, x, q, a1, a2, a3, a4, a5, a6, a7, a8⟩ := h.bx
  have hle := h.ox.le
  have hq := a8.le
  have g1 : gapZ s.ct ((f.ct + f.cr) % 4294967296) = x + f.cr - e := by
    rw [h.sc, a3]
    have : ((n0 + x) % 4294967296 + f.cr) % 4294967296 = (n0 + (x + f.cr)) % 4294967296 := by omega
    rw [this]
    exact gap_of (by omega) (by omega)
  refine ⟨x + f.cr, h.sc, h.rc, h.rb, ?_, h.rcr, h.p0, h.eb, h.bp, h.Lb, h.ox, q, by omega, a6, a8⟩
  show greater 0 (gapZ s.ct ((f.ct + f.cr) % 4294967296)) = _
  rw [g1]
/-- at last -/
theorem Ag.last (h : Ag n0 e p L a b s r [] []) : s.ct = r.ct ∧ s.cr = r.cr := by
  obtain ⟨m, m1, m2, h1, h2⟩ := h.bx
  have h3 : p = e := h.ox
  exact ⟨by rw [h.sc, h.rc, h3], by rw [h.scr, h.rcr, h1, h3]⟩
end
end Go.Proofs.Ytknkmamjdmadcaa
