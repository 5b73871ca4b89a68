
/- What Seal answers. -/
import Derived.Test.YtaijcnkmklibcaaFRow
namespace Go.Proofs.Ytaijcnkmklibcaa
open Go.RowKit Go.Deep
set_option linter.unusedVariables false
set_option linter.unusedSimpArgs false

/-- why a frame can't be written -/
def sealE (ty ch : Int) (n m : Nat) : Int :=
  if ty ≠ 0 ∧ ty ≠ 1 then 53 else if ch < 0 ∨ 65535 < ch ∨ (ty = 1 ∧ ch ≠ 0) then 54 else if n % 4 ≠ 0 ∨ 1012 < n then 52 else if 1048576 < 8 + n + m then 2 else 0
/-- the frame's bytes -/
def sealB (ty ch : Nat) (ext body : List Nat) : List Nat :=
  digs (8 + ext.length + body.length) 4 ++ [(8 + ext.length) / 4, ty] ++ digs ch 2 ++ ext ++ body
theorem sealB_length (ty ch : Nat) (ext body : List Nat) : (sealB ty ch ext body).length = 8 + ext.length + body.length := by
  simp [sealB, digs_length]; omega
theorem sealB_lt {ty ch : Nat} {ext body : List Nat} (hty : ty < 256) (hn : ext.length ≤ 1012) (he : ∀ c ∈ ext, c < 256) (hb : ∀ c ∈ body, c < 256) : ∀ c ∈ sealB ty ch ext body, c < 256 := by
  intro c hc
  simp only [sealB, List.mem_append, List.mem_cons, List.not_mem_nil, or_false] at hc
  rcases hc with (((h | h | h) | h) | h) | h
  · exact digs_lt _ _ c h
  · omega
  · omega
  · exact digs_lt _ _ c h
  · exact he c h
  · exact hb c h
/-- the ways through the check -/
theorem sealE_ways (ty ch : Int) (n m : Nat) :
    (ty ≠ 0 ∧ ty ≠ 1 ∧ sealE ty ch n m = 53) ∨
    ((ty = 0 ∨ ty = 1) ∧ ch < 0 ∧ sealE ty ch n m = 54) ∨
    ((ty = 0 ∨ ty = 1) ∧ 65535 < ch ∧ sealE ty ch n m = 54) ∨
    (ty = 1 ∧ 0 < ch ∧ ch ≤ 65535 ∧ sealE ty ch n m = 54) ∨
    ((ty = 0 ∧ 0 ≤ ch ∧ ch ≤ 65535 ∨ ty = 1 ∧ ch = 0) ∧ ((n % 4 ≠ 0 ∧ sealE ty ch n m = 52) ∨ (n % 4 = 0 ∧ 1012 < n ∧ sealE ty ch n m = 52) ∨
      (n % 4 = 0 ∧ n ≤ 1012 ∧ 1048576 < 8 + n + m ∧ sealE ty ch n m = 2) ∨ (n % 4 = 0 ∧ n ≤ 1012 ∧ 8 + n + m ≤ 1048576 ∧ sealE ty ch n m = 0))) := by
  unfold sealE
  by_cases h1 : ty ≠ 0 ∧ ty ≠ 1
  · simp [h1]
  · rw [if_neg h1]
    have h1' : ty = 0 ∨ ty = 1 := by omega
    by_cases h2 : ch < 0 ∨ 65535 < ch ∨ (ty = 1 ∧ ch ≠ 0)
    · rw [if_pos h2]
      omega
    · rw [if_neg h2]
      by_cases h3 : n % 4 ≠ 0 ∨ 1012 < n
      · rw [if_pos h3]; omega
      · rw [if_neg h3]
        by_cases h4 : 1048576 < 8 + n + m
        · rw [if_pos h4]; omega
        · rw [if_neg h4]; omega
theorem sealE_ok {ty ch : Int} {n m : Nat} (h : sealE ty ch n m = 0) : (ty = 0 ∧ 0 ≤ ch ∧ ch ≤ 65535 ∨ ty = 1 ∧ ch = 0) ∧ n % 4 = 0 ∧ n ≤ 1012 ∧ 8 + n + m ≤ 1048576 := by
  have := sealE_ways ty ch n m
  omega
/-- how the bytes come together -/
theorem seal_list (a4 : List Nat) (x y : Nat) (c2 ext body : List Nat) (h4 : a4.length = 4) (h2 : c2.length = 2) (N : Nat) (hN : N = 8 + ext.length + body.length) (C1 C2 C3 C4 C5 C6 : List Nat)
    (e1 : C1 = (List.replicate N 0).take 0 ++ (a4 ++ (List.replicate N 0).drop (0 + a4.length))) (e2 : C2 = C1.set 4 x) (e3 : C3 = C2.set 5 y) (e4 : C4 = C3.take 6 ++ (c2 ++ C3.drop (6 + c2.length)))
    (e5 : C5 = C4.take 8 ++ (ext ++ C4.drop (8 + ext.length))) (e6 : C6 = C5.take (8 + ext.length) ++ (body ++ C5.drop (8 + ext.length + body.length))) : C6 = a4 ++ [x, y] ++ c2 ++ ext ++ body := by
  obtain ⟨a, b, c, d, rfl⟩ : ∃ a b c d, a4 = [a, b, c, d] := by
    match a4, h4 with
    | [a, b, c, d], _ => exact ⟨a, b, c, d, rfl⟩
  obtain ⟨e, f, rfl⟩ : ∃ e f, c2 = [e, f] := by
    match c2, h2 with
    | [e, f], _ => exact ⟨e, f, rfl⟩
  have hr : (List.replicate N 0).drop 4 = 0 :: 0 :: 0 :: 0 :: List.replicate (ext.length + body.length) 0 := by
    rw [List.drop_replicate, hN, show 8 + ext.length + body.length - 4 = (ext.length + body.length) + 1 + 1 + 1 + 1 by omega]
    rfl
  have f1 : C1 = a :: b :: c :: d :: 0 :: 0 :: 0 :: 0 :: List.replicate (ext.length + body.length) 0 := by
    rw [e1]; simp only [List.take_zero, List.nil_append, List.length_cons, List.length_nil, Nat.zero_add]
    rw [hr]; rfl
  have f4 : C4 = [a, b, c, d, x, y, e, f] ++ List.replicate (ext.length + body.length) 0 := by
    rw [e4, e3, e2, f1]; rfl
  have f5 : C5 = [a, b, c, d, x, y, e, f] ++ ext ++ List.replicate body.length 0 := by
    rw [e5, f4]
    rw [show (8 : Nat) = [a, b, c, d, x, y, e, f].length from rfl, List.take_left, List.drop_append, List.drop_of_length_le (by omega), Nat.add_sub_cancel_left, List.drop_replicate, Nat.add_sub_cancel_left]
    simp
  rw [e6, f5]
  rw [show 8 + ext.length = ([a, b, c, d, x, y, e, f] ++ ext).length by simp; omega, List.take_left, List.drop_append, List.drop_of_length_le (by omega), Nat.add_sub_cancel_left, List.drop_replicate, Nat.sub_self]
  simp

/-- a frame as it is handed over -/
def frV (ty ch : Int) (a : Option Addr) (n c : Nat) (b : Option Addr) (m d : Nat) : Value := .agg #[.int .i64 ty, .int .i64 ch, .slice a n c, .slice b m d]

/-- x[i:j:j] -/
theorem cut3 (a : Option Addr) (n cap i j : Nat) (x y : Int) (hx : x = i) (hy : y = j) (hij : i ≤ j) (hj : j ≤ cap) (w : World) :
    (Instr.slice 33 (.slice a n cap) (some (.int .i64 x)) (some (.int .i64 y)) (some (.int .i64 y))).run Try.prog w = .ok (.slice (if j = i then a else a.map (fun p => p.add i)) (j - i) (j - i)) w := by
  subst hx hy
  obtain ⟨i0, hi, hz0, hz1, hz2⟩ := info_parts Try.info5
  have h1 : ((i : Int) ≤ (j : Int)) := by omega
  have h2 : ((j : Int) ≤ (cap : Int)) := by omega
  simp [Instr.slice, run_underlying Try.underlying33, Instr.sliceBounds, Instr.sliceBound, asIntOf, sizeOf, typeInfo, hi, hz1, hij, hj, go_sem]
/-- x[i:] -/
theorem cut1 (a : Option Addr) (n cap i : Nat) (x : Int) (hx : x = i) (hi : i ≤ n) (w : World) :
    (Instr.slice 33 (.slice a n cap) (some (.int .i64 x)) none none).run Try.prog w = .ok (.slice (if cap = i then a else a.map (fun p => p.add i)) (n - i) (cap - i)) w := by
  subst hx
  obtain ⟨i0, hi0, hz0, hz1, hz2⟩ := info_parts Try.info5
  simp [Instr.slice, run_underlying Try.underlying33, Instr.sliceBounds, Instr.sliceBound, asIntOf, sizeOf, typeInfo, hi0, hz1, hi, go_sem]
theorem cut3_own (G N i j : Nat) (x y : Int) (hx : x = i) (hy : y = j) (hij : i ≤ j) (hj : j ≤ N) : ∃ dp, (0 < j - i → dp = some ⟨G, i, none⟩) ∧ ∀ w, (Instr.slice 33 (.slice (some ⟨G, 0, none⟩) N N) (some (.int .i64 x)) (some (.int .i64 y)) (some (.int .i64 y))).run Try.prog w = .ok (.slice dp (j - i) (j - i)) w :=
  ⟨_, fun h => by rw [if_neg (by omega), Option.map_some, add_none, Nat.zero_add], fun w => cut3 _ N N i j x y hx hy hij hj w⟩
theorem cut1_own (G N i : Nat) (x : Int) (hx : x = i) (hi : i ≤ N) : ∃ dp, (0 < N - i → dp = some ⟨G, i, none⟩) ∧ ∀ w, (Instr.slice 33 (.slice (some ⟨G, 0, none⟩) N N) (some (.int .i64 x)) none none).run Try.prog w = .ok (.slice dp (N - i) (N - i)) w :=
  ⟨_, fun h => by rw [if_neg (by omega), Option.map_some, add_none, Nat.zero_add], fun w => cut1 _ N N i x hx hi w⟩

/-- a copy into a block of bytes, in a walk -/
theorem wpList_copy_bl {w : World} {ops : Array Oper} {rest : List Oper} {o : Oper} {a : Act} {Q : Exit → Act → World → Prop} (hgd : o.guard = none) (d s : Operand)
    (ho : o.op = .call { callee := .builtin .copy, args := #[d, s], argTypes := #[33, 33] })
    (dp sp : Option Addr) (dLen dCap sLen sCap : Nat) (hd : a.eval d = .slice dp dLen dCap) (hs : a.eval s = .slice sp sLen sCap)
    (g off : Nat) (cur : List Nat) (hg : Bl w g cur) (cs : List Nat) (hn : cs.length = Nat.min sLen dLen)
    (hpos : 0 < cs.length → dp = some ⟨g, off, none⟩) (hr : Rd w sp sLen cs) (hfit : off + cs.length ≤ cur.length) (B : Nat) (w0 : World) (hb : Below B w0 w) (hBg : B ≤ g)
    (h : ∀ w', Hid (Bl w' g (cur.take off ++ (cs ++ cur.drop (off + cs.length)))) → Below B w0 w' → w'.heap.size = w.heap.size → wpList Try.prog ops Q rest (a.put o.dst (goInt cs.length)) w') :
    wpList Try.prog ops Q (o :: rest) a w := by
  by_cases h0 : cs.length = 0
  · obtain rfl : cs = [] := List.eq_nil_of_length_eq_zero h0
    refine wpList_copy_nothing hgd d s _ _ ho 5 Try.underlying33 Try.size5 dp sp dLen dCap sLen sCap hd hs (by simpa using hn.symm) ?_
    exact h w (by simpa [Hid] using hg) hb rfl
  · have hdp := hpos (by omega)
    subst hdp
    obtain ⟨ad, rfl, hsrc⟩ := copy_of hr (by simpa using Nat.pos_of_ne_zero h0)
    refine wpList_copy_own hgd d s _ _ ho 5 Try.underlying33 Try.size5 g off dLen dCap ad sLen sCap hd hs (cur.map byteV).toArray 5 hg (cs.map byteV) (by simpa using hn) hsrc (by simpa using hfit) (oneCell_bytes cs) ?_
    have h3 := h (w.setRow g ((cur.take off ++ (cs ++ cur.drop (off + cs.length))).map byteV).toArray) (setRow_heap w g _ _ _ _ hg) (below_setRow hb hBg _) (by simp)
    simpa [List.map_take, List.map_drop] using h3
/-- the same, as a step of a region that draws its order -/
theorem step_copy_bl {ops : Array Oper} {o : Oper} {a : Act} {w : World} {K : Act → World → Prop} {Q : Exit → Act → World → Prop} {E : Prop} (hgd : o.guard = none) (d s : Operand)
    (ho : o.op = .call { callee := .builtin .copy, args := #[d, s], argTypes := #[33, 33] })
    (dp sp : Option Addr) (dLen dCap sLen sCap : Nat) (hd : a.eval d = .slice dp dLen dCap) (hs : a.eval s = .slice sp sLen sCap)
    (g off : Nat) (cur : List Nat) (hg : Bl w g cur) (cs : List Nat) (hn : cs.length = Nat.min sLen dLen)
    (hpos : 0 < cs.length → dp = some ⟨g, off, none⟩) (hr : Rd w sp sLen cs) (hfit : off + cs.length ≤ cur.length) (B : Nat) (w0 : World) (hb : Below B w0 w) (hBg : B ≤ g)
    (h : ∀ w', Hid (Bl w' g (cur.take off ++ (cs ++ cur.drop (off + cs.length)))) → Below B w0 w' → K (a.put o.dst (goInt cs.length)) w') :
    if Region.wanted o (yielded ops a.tmps) = true then Oper.wp Try.prog o a w K Q else E := by
  refine step_copy_splice hgd d s _ _ ho 5 Try.underlying33 Try.size5 dp sp dLen dCap sLen sCap hd hs g off (cur.map byteV) 5 hg (cs.map byteV) (by simpa using hn) (fun hp => ⟨hpos (by simpa using hp), copy_of hr hp⟩) (by simpa using hfit) (oneCell_bytes cs) B w0 hb hBg ?_
  intro w' h1 h2
  have := h w' (Bl.splice h1.out) h2
  simpa using this
end Go.Proofs.Ytaijcnkmklibcaa
