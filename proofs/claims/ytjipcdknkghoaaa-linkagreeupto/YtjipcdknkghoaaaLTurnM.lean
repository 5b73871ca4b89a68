
/- LinkAgree: a turn: the mathematics. -/
import Derived.Test.YtjipcdknkghoaaaLTurn0
import Derived.Deep.RegionHeld
import Derived.BigQuiet
import Derived.Deep.QuietTactic
namespace Go.Proofs.Ytjipcdknkghoaaa
open Go.RowKit Go.Maps
set_option linter.unusedVariables false
set_option linter.unusedSimpArgs false

section
variable {z : Nat} {w0 : World} {k gs gr N M : Nat} {sec : Bool} {md n0 e p L a b : Int} {s r : Lk} {Ts Tr : List (ByteArray × Dv)} {vO vB vG : Value} {O B : List Itm} {G : List ByteArray}
theorem fls_app (W : List Itm) (x : Itm) : fls (W ++ [x]) = fls W ++ [x.fl] := by simp [fls]
theorem Al.grant (h : Al sec md N M n0 e p L a b s r Ts Tr O B G) {c : Int} (hc : 0 ≤ c ∧ c ≤ 2147483647) (d : Bool) : ∃ L' b', Al sec md N (M + 1) n0 e p L' a b' s (r.grant c d) Ts Tr O (B ++ [⟨0, some (r.grant c d), 3, ⟨#[]⟩, false⟩]) G := by
  obtain ⟨b', g⟩ := h.ag.grant hc d
  have h1 := h.lo
  have h2 := h.lb
  have h3 := h.ln
  exact ⟨p + c, b', by rw [fls_app]; exact g, h.tg.grant _ _ _, h.lf.grant _ _, by omega, by simp; omega, by omega⟩
theorem Al.sendO (h : Al sec md N M n0 e p L a b s r Ts Tr O B G) (hc : 0 < s.cr) (hN : N < 4294967296) (hm : md ≠ 1) : Al sec md (N + 1) (M + 1) n0 (e + 1) p L a b s.one r ((tagB N, dv0) :: Ts) Tr (O ++ [⟨1, none, 0, tagB N, false⟩]) B G := by
  have h1 := h.lo
  have h2 := h.lb
  have h3 := h.ln
  exact ⟨by rw [fls_app]; exact (h.ag.send hc).congr rfl rfl rfl rfl rfl, h.tg.sendO hN hm, h.lf.oneS, by simp; omega, by omega, by omega⟩
theorem Al.sendS (h : Al sec md N M n0 e p L a b s r Ts Tr O B G) (hc : 0 < s.cr) (hN : N < 4294967296) (hm : md ≠ 0) : Al sec md (N + 1) (M + 1) n0 (e + 1) p L a b s.one r Ts Tr (O ++ [⟨1, none, 0, tagB N, true⟩]) B G := by
  have h1 := h.lo
  have h2 := h.lb
  have h3 := h.ln
  exact ⟨by rw [fls_app]; exact (h.ag.send hc).congr rfl rfl rfl rfl rfl, h.tg.sendS hN hm, h.lf.oneS, by simp; omega, by omega, by omega⟩
theorem Al.drain (h : Al sec md N M n0 e p L a b s r Ts Tr O B G) (hc : 0 < s.cr) : Al sec md N (M + 1) n0 a p L a b (s.on s.cr) r Ts Tr (O ++ [⟨2, some (s.on s.cr), 5, ⟨#[]⟩, false⟩]) B G := by
  have h1 := h.lo
  have h2 := h.lb
  have h3 := h.ln
  exact ⟨by rw [fls_app]; exact h.ag.drain hc, h.tg.drain h.lf.sr h.lf.sa, h.lf.onS _, by simp; omega, by omega, by omega⟩
theorem Al.setS {t : ByteArray} (h : Al false md N M n0 e p L a b s r Ts Tr O B (t :: G)) (hR : (keys Tr).Nodup) : Al false md N (M + 1) n0 e p L a b s r Ts (del Tr t) O (B ++ [⟨5, none, 0, t, true⟩]) G := by
  have h1 := h.lo
  have h2 := h.lb
  have h3 := h.ln
  exact ⟨by rw [fls_app]; exact h.ag.says, h.tg.setS hR, h.lf, by simp at *; omega, by simp; omega, by omega⟩
theorem Al.setO {t : ByteArray} {q : Dv} (h : Al true md N M n0 e p L a b s r Ts Tr O B (t :: G)) (hR : (keys Tr).Nodup) : Al true md N (M + 1) n0 e p L a b s r Ts ((t, q) :: del Tr t) O (B ++ [⟨5, none, 0, t, false⟩]) G := by
  have h1 := h.lo
  have h2 := h.lb
  have h3 := h.ln
  exact ⟨by rw [fls_app]; exact h.ag.says, h.tg.setO hR, h.lf, by simp at *; omega, by simp; omega, by omega⟩
theorem run_seeCr (nm : ByteArray) (rc : Bool) (ct cr av : Int) (dr : Bool) (n : Int) (w : World) : (Instr.field 38 (.agg #[.string nm, .bool rc, .int .i64 ct, .int .i64 cr, .int .i64 av, .bool dr, .int .i64 n]) 3).run Try.prog w = .ok (.int .i64 cr) w := by first | kernel_rfl | rfl
theorem kept_of {S : World → Prop} {C : World → Prop} {q : Nat} (L : Array Bool) (W : World) (h1 : S W) (h2 : C W) : Kept S (fun z W => z = q → C W) L W := ⟨h1, fun _ _ _ => h2⟩
set_option maxRecDepth 100000 in
set_option maxHeartbeats 8000000 in
theorem turn_4 (kd n : Int) (f : Bool) (w : World) (h : TurnI z w0 k gs gr N M sec md n0 w) (hM : M ≤ 999999999) (hk : qk kd = 4) :
    Calls Try.prog 7 #[.pointer (some ⟨k, 0, none⟩), .agg (tnA kd n f), .bool sec, .int .i64 md] w fun e w' => e = .returned (.bool true) ∧ ∃ N', TurnI z w0 k gs gr N' (M + 1) sec md n0 w' := by
  obtain ⟨s, r, Ts, Tr, vO, vB, vG, O, B, G, e, p, L, a, b, hp, ha⟩ := h
  unfold tnA
  have hlow := qk_low kd
  have hb1 := bel1 (Below.refl w.heap.size w) (Nat.le_refl _) (.cells #[.int .i64 kd, .int .i64 n, .bool f] 35)
  have HC := hide (comesS (k := k) n _ B.length ⟨s, Ts, vB, B, a, rfl, hp.go hb1, ha⟩ (by omega) (by have := ha.lb; omega))
  unfold qk at hk
  clear hp ha hb1
  go_enter Try.func7, Try.ntmps7
  go_wp2_with (first | (go_at_call 8; refine HC.out.mono ?_; rintro e1 w1 ⟨rfl, m, hinv, _⟩))
  go_ret
  obtain ⟨s', Ts', vB', B', a', _, h1, h2⟩ := hinv
  exact ⟨rfl, N, s', r, Ts', Tr, vO, vB', vG, O, B', G, e, p, L, a', b, h1, h2.more (by omega)⟩
end
end Go.Proofs.Ytjipcdknkghoaaa
