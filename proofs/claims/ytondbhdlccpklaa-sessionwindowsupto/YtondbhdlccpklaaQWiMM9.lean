import Derived.Test.YtondbhdlccpklaaQBoth5M9
import Derived.Test.YtondbhdlccpklaaQFldM9

/- SessionWindows: the mathematics: transfers and Flows under way between two sessions. -/
namespace Go.Proofs.Ytondbhdlccpklaa
open Go.RowKit Go.Maps
set_option linter.unusedVariables false
set_option linter.unusedSimpArgs false

/-- what is under way: a transfer, or a Flow of a session as it stood -/
abbrev It : Type := Option Sn
/-- r transfers have come, the row W is under way: e were sent; each Flow says how many were sent ahead of it -/
def Nx (n0 : Int) : Int → List It → Int → Prop
  | r, [], e => r = e
  | r, none :: W, e => Nx n0 (r + 1) W e
  | r, some f :: W, e => f.no = (n0 + r) % 4294967296 ∧ Nx n0 r W e
/-- what each Flow under way allows: rising, m at least, L at most; r: what has come by now -/
def Lx (n0 r : Int) : Int → List It → Int → Prop
  | m, [], L => m ≤ L
  | m, none :: W, L => Lx n0 r m W L
  | m, some f :: W, L => ∃ p : Int, 0 ≤ p ∧ p ≤ r ∧ f.ni = (n0 + p) % 4294967296 ∧ m ≤ p + f.iw ∧ Lx n0 r (p + f.iw) W L
theorem Nx.le {n0 : Int} : ∀ {W : List It} {r e : Int}, Nx n0 r W e → r ≤ e
  | [], r, e, h => by have h : r = e := h; omega
  | none :: W, r, e, h => by have := Nx.le (W := W) (r := r + 1) (e := e) h; omega
  | some f :: W, r, e, h => Nx.le (W := W) h.2
theorem Nx.sent {n0 : Int} : ∀ {W : List It} {r e : Int}, Nx n0 r W e → Nx n0 r (W ++ [none]) (e + 1)
  | [], r, e, h => by have h : r = e := h; show r + 1 = e + 1; omega
  | none :: W, r, e, h => Nx.sent (W := W) (r := r + 1) (e := e) h
  | some f :: W, r, e, h => ⟨h.1, Nx.sent (W := W) h.2⟩
theorem Nx.flow {n0 : Int} {f : Sn} : ∀ {W : List It} {r e : Int}, Nx n0 r W e → f.no = (n0 + e) % 4294967296 → Nx n0 r (W ++ [some f]) e
  | [], r, e, h, hf => by have h : r = e := h; exact ⟨by rw [h]; exact hf, h⟩
  | none :: W, r, e, h, hf => Nx.flow (W := W) (r := r + 1) (e := e) h hf
  | some g :: W, r, e, h, hf => ⟨h.1, Nx.flow (W := W) h.2 hf⟩
theorem Lx.le {n0 r : Int} : ∀ {W : List It} {m L : Int}, Lx n0 r m W L → m ≤ L
  | [], m, L, h => h
  | none :: W, m, L, h => Lx.le (W := W) h
  | some f :: W, m, L, ⟨p, _, _, _, h4, h5⟩ => by have := Lx.le (W := W) h5; omega
theorem Lx.mono {n0 : Int} : ∀ {W : List It} {r r' m m' L L' : Int}, Lx n0 r m W L → r ≤ r' → m' ≤ m → L ≤ L' → Lx n0 r' m' W L'
  | [], r, r', m, m', L, L', h, hr, hm, hl => by have h : m ≤ L := h; show m' ≤ L'; omega
  | none :: W, r, r', m, m', L, L', h, hr, hm, hl => Lx.mono (W := W) h hr hm hl
  | some f :: W, r, r', m, m', L, L', ⟨p, h1, h2, h3, h4, h5⟩, hr, hm, hl => ⟨p, h1, by omega, h3, by omega, Lx.mono (W := W) h5 hr (Int.le_refl _) hl⟩
theorem Lx.sent {n0 r : Int} : ∀ {W : List It} {m L : Int}, Lx n0 r m W L → Lx n0 r m (W ++ [none]) L
  | [], m, L, h => h
  | none :: W, m, L, h => Lx.sent (W := W) h
  | some f :: W, m, L, ⟨p, h1, h2, h3, h4, h5⟩ => ⟨p, h1, h2, h3, h4, Lx.sent (W := W) h5⟩
theorem Lx.flow {n0 r : Int} {f : Sn} : ∀ {W : List It} {m L : Int}, Lx n0 r m W L → 0 ≤ r → f.ni = (n0 + r) % 4294967296 → L = r + f.iw → Lx n0 r m (W ++ [some f]) L
  | [], m, L, h, h0, hf, hL => by have h : m ≤ L := h; exact ⟨r, h0, Int.le_refl _, hf, by omega, by show r + f.iw ≤ L; omega⟩
  | none :: W, m, L, h, h0, hf, hL => Lx.flow (W := W) h h0 hf hL
  | some g :: W, m, L, ⟨p, h1, h2, h3, h4, h5⟩, h0, hf, hL => ⟨p, h1, h2, h3, h4, Lx.flow (W := W) h5 h0 hf hL⟩
/-- one direction: S sends to R; W under way to R, V to S -/
structure Dir (n0 e r N : Int) (S R : Sn) (W V : List It) : Prop where
  no : S.no = (n0 + e) % 4294967296
  ni : R.ni = (n0 + r) % 4294967296
  nx : Nx n0 r W e
  lx : Lx n0 r (e + S.ri) V (r + R.iw)
  r0 : 0 ≤ r
  eN : e ≤ N
/-- sessions as they stand -/
def Sok (s : Sn) : Prop := s.ok ∧ s.peer = true
def Iok (W : List It) : Prop := ∀ f, some f ∈ W → Sok f
section
variable {n0 e r N : Int} {S R f : Sn} {W V : List It}
theorem Dir.sentS (h : Dir n0 e r N S R W V) : Dir n0 (e + 1) r (N + 1) S.sent R (W ++ [none]) V := by
  refine ⟨?_, h.ni, h.nx.sent, ?_, h.r0, by have := h.eN; omega⟩
  · show (S.no + 1) % 4294967296 = _
    rw [h.no]
    omega
  · have : e + 1 + S.sent.ri = e + S.ri := by show e + 1 + (S.ri - 1) = _; omega
    rw [this]
    exact h.lx
theorem Dir.sentR (h : Dir n0 e r N S R W V) : Dir n0 e r (N + 1) S R.sent W (V ++ [none]) := ⟨h.no, h.ni, h.nx, h.lx.sent, h.r0, by have := h.eN; omega⟩
theorem Dir.more (h : Dir n0 e r N S R W V) : Dir n0 e r (N + 1) S R W V := ⟨h.no, h.ni, h.nx, h.lx, h.r0, by have := h.eN; omega⟩
theorem Dir.fieldsS (h : Dir n0 e r N S R W V) : Dir n0 e r (N + 1) S R (W ++ [some S]) V := ⟨h.no, h.ni, h.nx.flow h.no, h.lx, h.r0, by have := h.eN; omega⟩
theorem Dir.fieldsR (h : Dir n0 e r N S R W V) : Dir n0 e r (N + 1) S R W (V ++ [some R]) := ⟨h.no, h.ni, h.nx, h.lx.flow h.r0 h.ni rfl, h.r0, by have := h.eN; omega⟩
theorem Dir.got (h : Dir n0 e r N S R (none :: W) V) (ho : S.ok) : R.iw ≠ 0 ∧ Dir n0 e (r + 1) N S R.got W V := by
  have h1 := Nx.le (W := W) (r := r + 1) (e := e) h.nx
  have h2 := h.lx.le
  have h3 := ho.ri.1
  refine ⟨by omega, h.no, ?_, h.nx, ?_, by have := h.r0; omega, h.eN⟩
  · show (R.ni + 1) % 4294967296 = _
    rw [h.ni]
    omega
  · have : r + 1 + R.got.iw = r + R.iw := by show r + 1 + (R.iw - 1) = _; omega
    rw [this]
    exact h.lx.mono (by omega) (Int.le_refl _) (Int.le_refl _)
theorem Dir.gotS (h : Dir n0 e r N S R W (none :: V)) : Dir n0 e r N S.got R W V := ⟨h.no, h.ni, h.nx, h.lx, h.r0, h.eN⟩
theorem Dir.widenR (h : Dir n0 e r N S R W V) (n : Int) : Dir n0 e r (N + 1) S { R with iw := greater R.iw n } W V := ⟨h.no, h.ni, h.nx, h.lx.mono (Int.le_refl _) (Int.le_refl _) (by show _ ≤ r + greater R.iw n; unfold greater; split <;> omega), h.r0, by have := h.eN; omega⟩
theorem Dir.widenS (h : Dir n0 e r N S R W V) (n : Int) : Dir n0 e r (N + 1) { S with iw := greater S.iw n } R W V := ⟨h.no, h.ni, h.nx, h.lx, h.r0, by have := h.eN; omega⟩
theorem gap_self (a : Int) : gapZ a a = 0 := by unfold gapZ; omega
theorem gap_count {n0 p e : Int} (h1 : p ≤ e) (h2 : e - p ≤ 2000000000) : gapZ ((n0 + p) % 4294967296) ((n0 + e) % 4294967296) = e - p := by unfold gapZ; omega
theorem heard_word {s : Sn} {ni : Int} (h : ni ≠ -1) : s.heard ni = ni := by unfold Sn.heard; rw [if_neg h]
/-- the receiver takes the sender's Flow -/
theorem Dir.flowR (h : Dir n0 e r N S R (some f :: W) V) : Dir n0 e r N S (R.flowed f.ni f.iw f.no f.ow) W V := by
  refine ⟨h.no, ?_, h.nx.2, h.lx, h.r0, h.eN⟩
  show (if 0 ≤ gapZ R.ni f.no then f.no else R.ni) = _
  rw [h.ni, h.nx.1, gap_self, if_pos (Int.le_refl _)]
/-- the sender takes the receiver's -/
theorem Dir.flowS (h : Dir n0 e r N S R W (some f :: V)) (hN : N ≤ 2000000000) (hS : S.ok) (hf : f.ok) : ¬ (S.ahead f.ni < 0 ∨ S.ahead f.ni > f.iw) ∧ Dir n0 e r N (S.flowed f.ni f.iw f.no f.ow) R W V := by
  obtain ⟨p, h1, h2, h3, h4, h5⟩ := h.lx
  have hr := h.nx.le
  have hri := hS.ri.1
  have heN := h.eN
  have ha : S.ahead f.ni = e - p := by
    unfold Sn.ahead
    rw [heard_word (by have := hf.ni.1; omega), h3, h.no]
    exact gap_count (by omega) (by omega)
  refine ⟨by rw [ha]; omega, h.no, h.ni, h.nx, ?_, h.r0, h.eN⟩
  refine h5.mono (Int.le_refl _) ?_ (Int.le_refl _)
  show e + lesser (f.iw - S.ahead f.ni) 2147483647 ≤ p + f.iw
  rw [ha]
  unfold lesser
  split <;> omega
end
theorem flow_may {f : Sn} (h : Sok f) : mayF 19 f.ni f.iw f.no f.ow = true := by
  have h1 := h.1
  have a := h1.ni
  have b := h1.iw
  have c := h1.no
  have d := h1.ow
  simp [mayF, isW]
  omega
theorem flow_of {f : Sn} (h : Sok f) : f.flow = pfA 19 0 f.ni f.iw f.no f.ow 0 (-1) (-1) (-1) (-1) false := by
  unfold Sn.flow
  rw [h.2]
  rfl
/-- two sessions, what is under way to either, behind N steps -/
structure Win (N : Int) (a b : Sn) (A B : List It) : Prop where
  oa : Sok a
  ob : Sok b
  ia : Iok A
  ib : Iok B
  ab : ∃ n0 e r, Dir n0 e r N a b B A
  ba : ∃ n0 e r, Dir n0 e r N b a A B
section
variable {N : Int} {a b f : Sn} {A B : List It}
theorem Win.swap (h : Win N a b A B) : Win N b a B A := ⟨h.ob, h.oa, h.ib, h.ia, h.ba, h.ab⟩
theorem Win.more (h : Win N a b A B) : Win (N + 1) a b A B := by
  obtain ⟨oa, ob, ia, ib, ⟨n0, e, r, d⟩, ⟨m0, e', r', d'⟩⟩ := h
  exact ⟨oa, ob, ia, ib, ⟨n0, e, r, d.more⟩, ⟨m0, e', r', d'.more⟩⟩
theorem iok_push {A : List It} (h : Iok A) {x : It} (hx : ∀ f, x = some f → Sok f) : Iok (A ++ [x]) := fun f hf => by
  rcases List.mem_append.1 hf with h1 | h1
  · exact h f h1
  · exact hx f (List.mem_singleton.1 h1).symm
theorem Win.sent (h : Win N a b A B) (hr : a.room ≠ 0) : Win (N + 1) a.sent b A (B ++ [none]) := by
  obtain ⟨oa, ob, ia, ib, ⟨n0, e, r, d⟩, ⟨m0, e', r', d'⟩⟩ := h
  exact ⟨⟨sent_ok oa.1 hr, oa.2⟩, ob, ia, iok_push ib (fun f e => by cases e), ⟨n0, e + 1, r, d.sentS⟩, ⟨m0, e', r', d'.sentR⟩⟩
theorem Win.fields (h : Win N a b A B) : Win (N + 1) a b A (B ++ [some a]) := by
  obtain ⟨oa, ob, ia, ib, ⟨n0, e, r, d⟩, ⟨m0, e', r', d'⟩⟩ := h
  exact ⟨oa, ob, ia, iok_push ib (fun f e => by cases e; exact oa), ⟨n0, e, r, d.fieldsS⟩, ⟨m0, e', r', d'.fieldsR⟩⟩
theorem Win.widen (h : Win N a b A B) {n : Int} (hn : isW n = true) : Win (N + 1) { a with iw := greater a.iw n } b A B := by
  obtain ⟨oa, ob, ia, ib, ⟨n0, e, r, d⟩, ⟨m0, e', r', d'⟩⟩ := h
  have hw := isW_iff.1 hn
  have ho := oa.1
  exact ⟨⟨⟨ho.no, ho.ow, ho.ni, by show 0 ≤ greater a.iw n ∧ greater a.iw n ≤ 4294967295; have := ho.iw; unfold greater; split <;> omega, ho.ri, ho.ro, ho.nd, ho.hm, ho.rh, ho.fi⟩, oa.2⟩, ob, ia, ib, ⟨n0, e, r, d.widenS n⟩, ⟨m0, e', r', d'.widenR n⟩⟩
theorem Win.got (h : Win N a b (none :: A) B) : a.gotE = 0 ∧ Win N a.got b A B := by
  obtain ⟨oa, ob, ia, ib, ⟨n0, e, r, d⟩, ⟨m0, e', r', d'⟩⟩ := h
  obtain ⟨h1, h2⟩ := d'.got ob.1
  have hg : a.gotE = 0 := by unfold Sn.gotE; rw [if_pos oa.2, if_neg h1]
  exact ⟨hg, ⟨got_ok oa.1 hg, oa.2⟩, ob, fun f hf => ia f (List.mem_cons_of_mem _ hf), ib, ⟨n0, e, r, d.gotS⟩, ⟨m0, e', r' + 1, h2⟩⟩
theorem Win.flow (h : Win N a b (some f :: A) B) (hN : N ≤ 2000000000) : Sok f ∧ ¬ (a.ahead f.ni < 0 ∨ a.ahead f.ni > f.iw) ∧ Win N (a.flowed f.ni f.iw f.no f.ow) b A B := by
  obtain ⟨oa, ob, ia, ib, ⟨n0, e, r, d⟩, ⟨m0, e', r', d'⟩⟩ := h
  have hf := ia f (List.mem_cons_self ..)
  obtain ⟨h1, h2⟩ := d.flowS hN oa.1 hf.1
  exact ⟨hf, h1, ⟨flowed_ok oa.1 (flow_may hf) h1, oa.2⟩, ob, fun g hg => ia g (List.mem_cons_of_mem _ hg), ib, ⟨n0, e, r, h2⟩, ⟨m0, e', r', d'.flowR⟩⟩
/-- at last -/
theorem Win.last (h : Win N a b [] []) : a.ni = b.no ∧ b.ni = a.no := by
  obtain ⟨oa, ob, ia, ib, ⟨n0, e, r, d⟩, ⟨m0, e', r', d'⟩⟩ := h
  have h1 : r = e := d.nx
  have h2 : r' = e' := d'.nx
  exact ⟨by rw [d'.ni, d'.no, h2], by rw [d.ni, d.no, h1]⟩
end
end Go.Proofs.Ytondbhdlccpklaa
