/- lent, turned, kept. -/
import Derived.Test.YtboacpneoblklaaFRow
namespace Go.Proofs.Ytboacpneoblklaa
open Go.RowKit Go.Deep
set_option linter.unusedVariables false
set_option linter.unusedSimpArgs false

def spareL : List Nat := [98, 101, 104, 105, 110, 100, 32, 105, 116]
theorem spare_eq : (Value.string { data := #[98, 101, 104, 105, 110, 100, 32, 105, 116] }) = .string (mkS spareL) := rfl
/-- what is lent: n bytes l in a block of its own, with marks behind them -/
def Lentb (w : World) (B g n cap : Nat) (l : List Nat) : Prop := B ≤ g ∧ ∃ r, l.length = n ∧ cap = n + 9 + r.length ∧ BlF w g (l ++ spareL ++ r) ∧ (∀ c ∈ l, c < 256) ∧ ∀ c ∈ r, c < 256

set_option maxHeartbeats 1000000 in
theorem lent_any (a : Option Addr) (n cap : Nat) (l : List Nat) (w : World) (hr : Rd w a n l) (hn : n ≤ 140737488351232) :
    Calls Try.prog 8 #[.slice a n cap] w fun e w' => ∃ g c, e = .returned (.slice (some ⟨g, 0, none⟩) n c) ∧ Lentb w' w.heap.size g n c l ∧ Below w.heap.size w w' := by
  have hc1 := conv_any hr cap
  obtain ⟨k, w2, hc2, hb2, hbe, hsz⟩ := bytes_of w l hr.2.1
  rw [hr.1] at hc2
  have HB := hide hb2
  have HR := hide hr
  clear hr hb2
  go_enter Try.func8, Try.ntmps8
  go_wp2_with (at_builtin; refine wpList_append_text _ rfl (.tmp 9) (.const (.string (mkS spareL))) rfl w.heap.size n (n + k) l (List.replicate k 0) spareL rfl (by simp) rfl HB.out HR.out.1 (by decide) (by simp [spareL]; omega) ?_; intro g' r' w3 h1 h2 h3 h4; have H1 := hide h1; have H2 := hide (h2 (fun c hc => by have := (List.mem_replicate.1 hc).2; omega)); have H3 := hide h3; have H4 := hide h4; clear h1 h2 h3 h4)
  go_ret
  have hg : w.heap.size ≤ g' := by rcases H3.out with h | h <;> omega
  exact ⟨g', _, rfl, ⟨hg, r', HR.out.1, rfl, H1.out, HR.out.2.1, H2.out⟩, hbe.grown H4.out (by omega) (fun k hk => by simp only [Option.some.injEq] at hk; omega)⟩

def turnB (l : List Nat) : List Nat := l.map (· ^^^ 85)
theorem turnB_length (l : List Nat) : (turnB l).length = l.length := by simp [turnB]
theorem turnB_lt {l : List Nat} (h : ∀ c ∈ l, c < 256) : ∀ c ∈ turnB l, c < 256 := by
  intro c hc
  obtain ⟨d, hd, rfl⟩ := List.mem_map.1 hc
  exact Nat.xor_lt_two_pow (n := 8) (h d hd) (by omega)
theorem map_takeB (l : List Nat) (k : Nat) (h : k < l.length) : (l.take (k + 1)).map byteV = (l.take k).map byteV ++ [byteV (l.getD k 0)] := by
  rw [take_snocN l k h, List.map_append]
  rfl
set_option maxRecDepth 100000 in
set_option maxHeartbeats 2000000 in
theorem turned_any (a : Option Addr) (n cap : Nat) (l : List Nat) (w : World) (hr : Rd w a n l) (hn : n ≤ 140737488351232) :
    Calls Try.prog 9 #[.slice a n cap] w fun e w' => ∃ a' c, e = .returned (.slice a' n c) ∧ Rd w' a' n (turnB l) ∧ n ≤ c ∧ (∀ b o, a' = some ⟨b, o, none⟩ → w.heap.size ≤ b ∧ b < w'.heap.size) ∧ Below w.heap.size w w' := by
  obtain ⟨i0, hi, hz0, hz1, hz2⟩ := info_parts Try.info5
  have HI := hide hi
  have HZ0 := hide hz0
  have HZ1 := hide hz1
  have HZ2 := hide hz2
  clear hi hz0 hz1 hz2
  have HR := hide hr
  have hln := hr.1
  clear hr
  go_enter Try.func9, Try.ntmps9
  go_wp2
  go_loopw [3, 4] (fun vc i wr => ∃ k : Nat, k ≤ n ∧ i = .int .i64 k ∧ wr.ownsRow w.heap.size 5 1 vc k (((turnB l).take k).map byteV) ∧ Below w.heap.size w wr) (fun _ i _ => n - (intOf i).toNat)
  case atStart => exact ⟨0, Nat.zero_le _, rfl, World.ownsRow_nil _ _ _ _, Below.refl _ _⟩
  case round =>
    obtain ⟨k, hk, rfl, hown, hbw⟩ := hrel
    have HO := hide hown
    clear hown
    by_cases hkn : k < n
    · obtain ⟨b, off, rfl, hblt, hc0⟩ := HR.out.2.2 (by omega)
      have hc := (hbw.cell (p := ⟨b, off + k, none⟩) hblt).trans (hc0 k hkn)
      have HTK := hide (map_takeB (turnB l) k (by rw [turnB_length]; omega))
      have HY : Hid ((turnB l).getD k 0 = l.getD k 0 ^^^ 85) := by
        show _ = _
        simp [turnB, List.getD_eq_getElem?_getD, List.getElem?_eq_getElem (show k < l.length by omega)]
      have hy : l.getD k 0 < 256 := HR.out.lt _ hkn
      have ex : bits .xor .u8 ((l.getD k 0 : Nat) : Int) 85 = ((l.getD k 0 ^^^ 85 : Nat) : Int) := Go.u8_xor_nat (l.getD k 0) 85 hy (by omega)
      generalize hz : l.getD k 0 ^^^ 85 = z at *
      clear hz
      generalize l.getD k 0 = y at *
      clear hc0
      go_wp2_with (at_builtin; refine wpList_append_new _ rfl (.tmp 11) (.tmp 17) 22 rfl w.heap.size 5 i0 (.int .u8 0) 1 Try.underlying22 HI.out HZ0.out HZ1.out HZ2.out rfl _ k _ rfl (HO.out.alloc _) ⟨wr.heap.size, 0, none⟩ 1 (byteV z) rfl (cell_new1 _ _ _) rfl (by unfold maxLen; omega) (by omega) (by have := hbw.size; simp; omega) ?_; intro vc' w3 r1 r2 r3; have HR1 := hide r1; have HBW3 := hide ((hbw.alloc hbw.size _).grown r2 (by have := hbw.size; simp; omega) (fun g hg => (HO.out.lt g hg).1)); clear r1 r2 r3)
      go_roundw
      case rel => exact ⟨k + 1, by omega, by go_num, by rw [HTK.out, HY.out]; exact HR1.out, HBW3.out⟩
      case measure => simp [intOf]; omega
    · have hkn' : k = n := by omega
      subst hkn'
      have HO2 : Hid (wr.ownsRow w.heap.size 5 1 u3 k ((turnB l).map byteV)) := by
        have := HO.out
        rw [List.take_of_length_le (by rw [turnB_length]; omega)] at this
        exact this
      obtain ⟨a', c', rfl, hab, hkc, hrd⟩ := Rd.of_own0 HO2.out (turnB_lt HR.out.2.1)
      have HRD := hide hrd
      clear hrd HO HO2
      go_wp2
      go_ret
      exact ⟨a', _, rfl, HRD.out, hkc, hab, hbw⟩

theorem Lentb.rd {w : World} {B g n cap : Nat} {l : List Nat} (h : Lentb w B g n cap l) : Rd w (some ⟨g, 0, none⟩) n l := by
  obtain ⟨_, r, h1, h2, h3, h4, h5⟩ := h
  subst h1
  rw [List.append_assoc] at h3
  exact h3.rdl h4
set_option maxRecDepth 100000 in
set_option maxHeartbeats 2000000 in
theorem kept_eq (g n cap c' : Nat) (a' : Option Addr) (l : List Nat) (B : Nat) (w : World) (hl : Lentb w B g n cap l) (hr : Rd w a' n l) (hn : n ≤ 140737488351232) :
    Calls Try.prog 11 #[.slice (some ⟨g, 0, none⟩) n cap, .slice a' n c'] w fun e w' => e = .returned (.bool true) ∧ Kp (fun k => k = g) w w' := by
  obtain ⟨hB, r, h1, h2, h3, h4, h5⟩ := hl
  have hlt : ∀ c ∈ l ++ spareL, c < 256 := fun c hc => by
    rcases List.mem_append.1 hc with h | h
    · exact h4 c h
    · exact (show ∀ d ∈ spareL, d < 256 by decide) c h
  have hrd := h3.rdl hlt
  rw [show (l ++ spareL).length = n + 9 by simp [spareL, h1]] at hrd
  have hc1 : ∀ c, (convert 22 9 (.slice (some ⟨g, 0, none⟩) (n + 9) c)).run Try.prog w = .ok (.string (mkS l ++ { data := #[98, 101, 104, 105, 110, 100, 32, 105, 116] })) w := fun c => by
    have := conv_any hrd c
    rw [mkS_append] at this
    exact this
  have hc2 := conv_any hr c'
  have HB := hide h3
  have HL : Hid ((l ++ spareL ++ r).length = cap) := by show _ = _; simp [spareL, h1]; omega
  have hss : (mkS l).size = n := by rw [mkS_size, h1]
  clear hr h3 hrd hlt h4 h5
  go_enter Try.func11, Try.ntmps11
  go_wp2
  go_loopw [7] (fun i wr => ∃ k : Nat, k ≤ n + 9 ∧ i = .int .i64 k ∧ Hid (∃ m, BlF wr g m ∧ m.length = cap) ∧ Hid (Kp (fun k => k = g) w wr)) (fun i _ => n + 9 - (intOf i).toNat)
  case atStart => exact ⟨0, Nat.zero_le _, rfl, hide ⟨_, HB.out, HL.out⟩, hide (Kp.refl _ _)⟩
  case round =>
    obtain ⟨k, hk, rfl, HM, HK⟩ := hrel
    by_cases hkn : k < n + 9
    · obtain ⟨m, hm, hml⟩ := HM.out
      have hc := hm.cell (show k < m.length by omega)
      have hf := hm.frozen (show k < m.length by omega)
      have HM1 := hide (hm.set k 238)
      have HK1 := hide (HK.out.setCell (b := g) (o := k) rfl (byteV 238))
      have hml2 : (m.set k 238).length = cap := by simp [hml]
      clear hm
      generalize m.getD k 0 = y at *
      have hkn' : (k : Int) < (n : Int) + 9 := by omega
      go_wp2
      go_roundw
      case rel => exact ⟨k + 1, by omega, by go_num, hide ⟨_, HM1.out, hml2⟩, HK1⟩
      case measure => simp [intOf]; omega
    · go_wp2
      go_ret
      exact ⟨rfl, HK.out⟩
end Go.Proofs.Ytboacpneoblklaa
