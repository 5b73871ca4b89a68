
/- Stage 13: from; way; Range. -/
import Derived.Test.YtondbhdlccpklaaQRange
namespace Go.Proofs.Ytondbhdlccpklaa
open Go.RowKit Go.Maps
set_option linter.unusedVariables false
set_option linter.unusedSimpArgs false

theorem flatP_len (ps : List Pd) : (flatP ps).length = ps.length * 3 := by
  induction ps with
  | nil => rfl
  | cons p t ih => simp [flatP, pdL] at *; omega
theorem own_lower {w : World} {base base' : Nat} {v : Value} {ps : List Pd} (h : OwnP w base v ps) (hb : base' ≤ base) : OwnP w base' v ps := by
  obtain ⟨q1, q2⟩ := h
  refine ⟨q1, ?_⟩
  rcases q2 with q2 | ⟨g, cap, cur, e, q3, q4⟩
  · exact .inl q2
  · exact .inr ⟨g, cap, cur, e, by omega, q4⟩
set_option maxRecDepth 100000 in
set_option maxHeartbeats 1000000 in
theorem from_any (b : Nat) (L : List (Int × Pd)) (first last : Int) (w : World) (hT : TbP w b L) (hw : Words L) (hf : 0 ≤ first ∧ first ≤ 4294967295) (hL : L.length ≤ 4294967296) :
    Calls Try.prog 58 #[.map (some b), .int .i64 first, .int .i64 last] w fun e w' => ∃ v, e = .returned v ∧ OwnP w' w.heap.size v (rgL L first last) ∧ Below w.heap.size w w' := by
  obtain ⟨i0, hi, hz0, hz1, hz2⟩ := info_parts Try.infoPd
  obtain ⟨far, hfar⟩ : ∃ far, far = gapZ first last := ⟨_, rfl⟩
  have HF := hide hfar
  have hfb : -2147483648 ≤ far ∧ far ≤ 2147483647 := by rw [hfar]; unfold gapZ; omega
  have HG := hide (gaps_any b L first far w hT hw hf hfb.1 hfb.2 hL)
  have hbl := hT.lt
  have HT := hide hT
  have hgl := hide (Nat.le_trans (gsL_len L first far) hL)
  have HR : Hid (rgL L first last = (gsL L first far).map (thing L first)) := by show _ = _; unfold rgL; rw [hfar]
  obtain ⟨ds, hds⟩ : ∃ ds, ds = gsL L first far := ⟨_, rfl⟩
  rw [← hds] at HG hgl HR
  rw [HR.out]
  clear hT hw hf hL hfar hfb hds
  go_enter Try.func58, Try.ntmps58
  go_wp2_with (go_at_call 53; refine (gap_any _ _ _).mono ?_; rintro e1 w1 ⟨rfl, rfl⟩; rw [← HF.out])
  refine HG.out.mono ?_
  rintro e2 w2 ⟨v, rfl, ho, hb2⟩
  have HB2 := hide hb2
  have hs2 := hb2.size
  clear hb2 HG
  rcases own_form ho with ⟨rfl, rfl⟩ | ⟨g, cap, rfl, hg1, hg2, hcell⟩
  · go_wp2
    go_loopw [7, 17] (fun v i wr => v = .slice none 0 0 ∧ i = .int .i64 0 ∧ wr = w2) (fun _ _ _ => 0)
    case atStart => exact ⟨rfl, rfl, rfl⟩
    case round =>
      obtain ⟨rfl, rfl, rfl⟩ := hrel
      go_wp2
      go_ret
      exact ⟨_, rfl, ⟨rfl, .inl ⟨rfl, rfl⟩⟩, HB2.out⟩
  · have HC := hide hcell
    obtain ⟨n, hn⟩ : ∃ n, n = ds.length := ⟨_, rfl⟩
    rw [← hn] at hgl ⊢
    have HN := hide hn
    clear hcell ho hn
    go_wp2
    go_loopw [7, 17] (fun v i wr => ∃ j : Nat, i = .int .i64 j ∧ j ≤ n ∧ OwnP wr w2.heap.size v ((ds.take j).map (thing L first)) ∧ Below w2.heap.size w2 wr) (fun _ i _ => n - (intOf i).toNat)
    case atStart => exact ⟨0, rfl, Nat.zero_le _, ⟨rfl, .inl ⟨rfl, rfl⟩⟩, Below.refl _ _⟩
    case round =>
      obtain ⟨j, rfl, hj, ho, hb⟩ := hrel
      have HO := hide ho
      have HB := hide hb
      have hsz := hb.size
      by_cases hjn : j < n
      · have hjd : j < ds.length := by have := HN.out; omega
        obtain ⟨d, hd⟩ : ∃ d, d = ds[j] := ⟨_, rfl⟩
        have hc : wr.cell? ⟨g, j, none⟩ = some (.int .i64 d) := by
          rw [hd, hb.cell (p := ⟨g, j, none⟩) hg2]
          exact HC.out j hjd
        obtain ⟨key, hkey⟩ : ∃ key, key = (first + d) % 4294967296 := ⟨_, rfl⟩
        have HK := hide hkey
        have hkw := hide (wf_word (n := key) (by omega))
        obtain ⟨p, hp⟩ : ∃ p, p = lu pd0 L key := ⟨_, rfl⟩
        have HP := hide hp
        have HTk : Hid (thing L first d = p) := by show _ = _; unfold thing; rw [hp, hkey]
        have HTr : Hid (TbP wr b L) := (HT.out.at (HB2.out.block b hbl)).at (hb.block b (by omega))
        have HS : Hid ((ds.take (j + 1)).map (thing L first) = (ds.take j).map (thing L first) ++ [p]) := by
          show _ = _
          rw [← HTk.out, hd, List.take_succ_eq_append_getElem hjd, List.map_append]
          rfl
        have hlen : Hid (((ds.take j).map (thing L first)).length ≤ 4294967296) := by
          show _ ≤ _
          rw [List.length_map, List.length_take]
          have := hgl.out
          have := HN.out
          omega
        have hgw : g < wr.heap.size := by omega
        have hjb : (j : Int) ≤ 4294967296 := by have := hgl.out; omega
        clear ho hb hd hkey hp HTk
        go_wp2_with (first | (go_at_call 62; refine (add_any _ _ _).mono ?_; rintro e3 w3 ⟨rfl, rfl⟩; rw [← HK.out]) | (at_lookup; refine look1_P rfl _ _ rfl b rfl key rfl L HTr.out hkw.out ?_; rw [← HP.out]; unfold pdV) | (at_builtin; refine wpList_append_own_at _ rfl _ _ 72 rfl w2.heap.size 75 i0 (pdV pd0) 3 32 Try.underlying72 hi hz0 hz1 hz2 rfl (by decide) _ _ _ rfl (HO.out.alloc _) ⟨wr.heap.size, 0, none⟩ 1 1 (pdL p) rfl rfl (cell_pd_new _ _ _) (pd_one p) (by have := hlen.out; unfold maxLen; omega) (by have := hlen.out; omega) (by simp; omega) ?_; intro v' w3 hown' hgrow hnil hloc))
        go_roundw
        case rel =>
          refine ⟨j + 1, by go_num, by omega, ?_, ?_⟩
          · rw [HS.out]
            unfold OwnP
            rw [flatP_snoc]
            simpa using hown'
          · exact (bel1 HB.out (by omega) _).grown hgrow (by simp; omega) (fun k hk => (HO.out.lt k hk).1)
        case measure => simp [intOf]; omega
      · obtain rfl : j = n := by omega
        rw [List.take_of_length_le (by have := HN.out; omega)] at HO
        clear ho hb
        go_wp2
        go_ret
        exact ⟨_, rfl, own_lower HO.out hs2, belOn HB2.out hs2 HB.out⟩
end Go.Proofs.Ytondbhdlccpklaa
