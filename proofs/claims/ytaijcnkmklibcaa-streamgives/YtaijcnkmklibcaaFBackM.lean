
/- What is sealed is read back; what is cut is short; a header is read where it stands. -/
import Derived.Test.YtaijcnkmklibcaaFOpen
namespace Go.Proofs.Ytaijcnkmklibcaa
open Go.RowKit Go.Deep
set_option linter.unusedVariables false
set_option linter.unusedSimpArgs false

theorem len4 {l : List Nat} (h : l.length = 4) : ∃ a b c d, l = [a, b, c, d] := by
  match l, h with
  | [a, b, c, d], _ => exact ⟨a, b, c, d, rfl⟩
theorem len2 {l : List Nat} (h : l.length = 2) : ∃ a b, l = [a, b] := by
  match l, h with
  | [a, b], _ => exact ⟨a, b, rfl⟩
/-- a frame's bytes, laid out -/
theorem sealB_parts (ty ch : Nat) (ext body : List Nat) : ∃ a b c d e f, digs (8 + ext.length + body.length) 4 = [a, b, c, d] ∧ digs ch 2 = [e, f] ∧ sealB ty ch ext body = [a, b, c, d, (8 + ext.length) / 4, ty, e, f] ++ (ext ++ body) := by
  obtain ⟨a, b, c, d, h4⟩ := len4 (digs_length (8 + ext.length + body.length) 4)
  obtain ⟨e, f, h2⟩ := len2 (digs_length ch 2)
  refine ⟨a, b, c, d, e, f, h4, h2, ?_⟩
  unfold sealB
  rw [h4, h2]
  simp
section
variable {ty ch : Nat} {ext body : List Nat}
theorem seal_size (h : 8 + ext.length + body.length ≤ 1048576) (r : List Nat) : hSize (sealB ty ch ext body ++ r) = 8 + ext.length + body.length := by
  obtain ⟨a, b, c, d, e, f, h4, h2, hB⟩ := sealB_parts ty ch ext body
  unfold hSize
  rw [hB]
  have : ([a, b, c, d, (8 + ext.length) / 4, ty, e, f] ++ (ext ++ body) ++ r).take 4 = [a, b, c, d] := rfl
  rw [this, ← h4, getN_digs]
  have : (256 : Nat) ^ 4 = 4294967296 := by decide
  omega
theorem seal_begin (h4' : ext.length % 4 = 0) (r : List Nat) : hBegin (sealB ty ch ext body ++ r) = 8 + ext.length := by
  obtain ⟨a, b, c, d, e, f, h4, h2, hB⟩ := sealB_parts ty ch ext body
  unfold hBegin
  rw [hB]
  show (8 + ext.length) / 4 * 4 = 8 + ext.length
  omega
theorem seal_kind (r : List Nat) : hKind (sealB ty ch ext body ++ r) = ty := by
  obtain ⟨a, b, c, d, e, f, h4, h2, hB⟩ := sealB_parts ty ch ext body
  unfold hKind
  rw [hB]
  rfl
theorem seal_chan (hc : ch ≤ 65535) (h1 : ty = 1 → ch = 0) (ht : ty = 0 ∨ ty = 1) (r : List Nat) : hChan (sealB ty ch ext body ++ r) = ch := by
  have hk : (sealB ty ch ext body ++ r).getD 5 0 = ty := seal_kind r
  unfold hChan
  rw [hk]
  rcases ht with rfl | rfl
  · rw [if_pos rfl]
    obtain ⟨a, b, c, d, e, f, h4, h2, hB⟩ := sealB_parts 0 ch ext body
    rw [hB]
    have : (([a, b, c, d, (8 + ext.length) / 4, 0, e, f] ++ (ext ++ body) ++ r).drop 6).take 2 = [e, f] := rfl
    rw [this, ← h2, getN_digs]
    have : (256 : Nat) ^ 2 = 65536 := by decide
    omega
  · rw [if_neg (by decide), h1 rfl]
theorem seal_parts8 (r : List Nat) : ∃ p8 : List Nat, p8.length = 8 ∧ sealB ty ch ext body ++ r = p8 ++ (ext ++ (body ++ r)) := by
  obtain ⟨a, b, c, d, e, f, h4, h2, hB⟩ := sealB_parts ty ch ext body
  exact ⟨[a, b, c, d, (8 + ext.length) / 4, ty, e, f], rfl, by rw [hB]; simp⟩
theorem seal_ext (h4' : ext.length % 4 = 0) (r : List Nat) : exL (sealB ty ch ext body ++ r) = ext := by
  unfold exL
  rw [seal_begin h4']
  obtain ⟨p8, hp, hB⟩ := seal_parts8 (ty := ty) (ch := ch) (ext := ext) (body := body) r
  rw [hB, Nat.add_sub_cancel_left, ← hp, List.drop_left, List.take_left]
theorem seal_body (h4' : ext.length % 4 = 0) (h : 8 + ext.length + body.length ≤ 1048576) (r : List Nat) : boL (sealB ty ch ext body ++ r) = body := by
  unfold boL
  rw [seal_begin h4', seal_size h]
  obtain ⟨p8, hp, hB⟩ := seal_parts8 (ty := ty) (ch := ch) (ext := ext) (body := body) r
  rw [hB, Nat.add_sub_cancel_left, ← List.append_assoc, show 8 + ext.length = (p8 ++ ext).length by simp [hp], List.drop_left, List.take_left]
theorem seal_ok (ht : ty ≤ 1) (h4' : ext.length % 4 = 0) (h : 8 + ext.length + body.length ≤ 1048576) (r : List Nat) : hE (sealB ty ch ext body ++ r) 1048576 = 0 := by
  have hl : (sealB ty ch ext body ++ r).length = 8 + ext.length + body.length + r.length := by rw [List.length_append, sealB_length]
  unfold hE
  rw [hl, seal_size h, seal_begin h4', seal_kind]
  rw [if_neg (by omega), if_neg (by omega), if_neg (by omega), if_neg (by omega), if_neg (by omega), if_neg (by omega), if_neg (by omega)]
end
/-- what is read of the bytes that are there -/
theorem take_size {B : List Nat} {k : Nat} (h : 4 ≤ k) : hSize (B.take k) = hSize B := by
  unfold hSize
  rw [List.take_take, Nat.min_eq_left h]
theorem take_getD {B : List Nat} {k j : Nat} (h : j < k) : (B.take k).getD j 0 = B.getD j 0 := by
  simp [List.getD_eq_getElem?_getD, List.getElem?_take, h]
/-- of a strict beginning of a frame the frame is short -/
theorem seal_short {ty ch : Nat} {ext body : List Nat} (ht : ty ≤ 1) (h4' : ext.length % 4 = 0) (h : 8 + ext.length + body.length ≤ 1048576) {k : Nat} (hk : k < 8 + ext.length + body.length) : hE ((sealB ty ch ext body).take k) 1048576 = 10 := by
  have hl : ((sealB ty ch ext body).take k).length = k := by rw [List.length_take, sealB_length]; omega
  have e1 := seal_size (ty := ty) (ch := ch) h []
  have e2 := seal_begin (ty := ty) (ch := ch) (body := body) h4' []
  have e3 := seal_kind (ty := ty) (ch := ch) (ext := ext) (body := body) []
  rw [List.append_nil] at e1 e2 e3
  unfold hE
  rw [hl]
  by_cases h0 : k < 4
  · rw [if_pos h0]
  · rw [if_neg h0, take_size (by omega), e1, if_neg (by omega)]
    by_cases h1 : k < 5
    · rw [if_pos h1]
    · have e2' : hBegin ((sealB ty ch ext body).take k) = 8 + ext.length := by unfold hBegin at *; rw [take_getD (by omega)]; exact e2
      rw [if_neg h1, e2', if_neg (by omega)]
      by_cases h2 : k < 6
      · rw [if_pos h2]
      · have e3' : hKind ((sealB ty ch ext body).take k) = ty := by unfold hKind at *; rw [take_getD (by omega)]; exact e3
        rw [if_neg h2, e3', if_neg (by omega), if_pos (by omega)]
/-- a header is read where it stands -/
theorem hdr_back (p : Nat) (hp : p = 0 ∨ p = 3) (ahead behind : List Nat) : rdH (ahead ++ (hdr p ++ behind)) (ahead.length : Int) = ((p : Int), (ahead.length : Int) + 8, 0) := by
  have hth : there (ahead ++ (hdr p ++ behind)) ahead.length = hdr p := by
    unfold there
    rw [List.drop_left, show 8 = (hdr p).length from rfl, List.take_left]
  rw [rdH_in _ _ (by simp), hth]
  have hb : isB p (hdr p) = true := by unfold isB; rw [decide_eq_true_eq]; exact List.take_of_length_le (Nat.le_refl _)
  have hl : ¬ (hdr p).length < 8 := by simp [hdr]
  rcases hp with rfl | rfl
  · rw [if_pos hb, if_neg hl]; rfl
  · rw [if_neg (by decide), if_pos hb, if_neg hl]; rfl
end Go.Proofs.Ytaijcnkmklibcaa
