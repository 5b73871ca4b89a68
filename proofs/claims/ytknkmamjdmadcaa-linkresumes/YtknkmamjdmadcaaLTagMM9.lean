import Derived.Test.YtknkmamjdmadcaaLTagsM9
import Derived.Test.YtknkmamjdmadcaaLMathM9

/- LinkAgree: the mathematics of tags. -/
namespace Go.Proofs.Ytknkmamjdmadcaa
open Go.RowKit Go.Maps
set_option linter.unusedVariables false
set_option linter.unusedSimpArgs false

/-- what is under way -/
structure Itm where
  k : Int
  fl : Option Lk
  hd : Int
  tg : ByteArray
  fg : Bool
def oneO (x : Itm) : List ByteArray := if x.k = 1 ∧ x.fg = false then [x.tg] else []
def oneS (x : Itm) : List ByteArray := if x.k = 1 ∧ x.fg = true then [x.tg] else []
def oneB (x : Itm) : List ByteArray := if x.k = 5 then [x.tg] else []
def keys (T : List (ByteArray × Dv)) : List ByteArray := T.map (·.1)
def del (T : List (ByteArray × Dv)) (t : ByteArray) : List (ByteArray × Dv) := T.filter fun p => !decide (p.1 = t)
theorem hasK_iff {T : List (ByteArray × Dv)} {t : ByteArray} : hasK T t = true ↔ t ∈ keys T := any_iff
theorem hasK_not {T : List (ByteArray × Dv)} {t : ByteArray} : hasK T t = false ↔ t ∉ keys T := any_not
theorem mem_keys {T : List (ByteArray × Dv)} {t : ByteArray} {p : Dv} (h : (t, p) ∈ T) : t ∈ keys T := List.mem_map.2 ⟨(t, p), h, rfl⟩
theorem key_inj : ∀ {T : List (ByteArray × Dv)}, (keys T).Nodup → ∀ {t : ByteArray} {p q : Dv}, (t, p) ∈ T → (t, q) ∈ T → p = q
  | [], _, t, p, q, h, _ => by cases h
  | c :: T, hn, t, p, q, h1, h2 => by
    have hn' : c.1 ∉ keys T ∧ (keys T).Nodup := by simpa [keys] using hn
    rcases List.mem_cons.1 h1 with e1 | m1
    · rcases List.mem_cons.1 h2 with e2 | m2
      · exact (Prod.mk.inj (e1.trans e2.symm)).2
      · exact absurd (by rw [← e1]; exact mem_keys m2) hn'.1
    · rcases List.mem_cons.1 h2 with e2 | m2
      · exact absurd (by rw [← e2]; exact mem_keys m1) hn'.1
      · exact key_inj hn'.2 m1 m2
theorem lu_of {T : List (ByteArray × Dv)} (hn : (keys T).Nodup) {t : ByteArray} {p : Dv} (h : (t, p) ∈ T) : lu dv0 T t = p := key_inj hn (lu_mem (hasK_iff.2 (mem_keys h))) h
theorem keys_del : ∀ {T : List (ByteArray × Dv)}, (keys T).Nodup → ∀ {t : ByteArray}, t ∈ keys T → (keys T).Perm (t :: keys (del T t))
  | [], _, t, h => by simp [keys] at h
  | c :: T, hn, t, h => by
    have hn' : c.1 ∉ keys T ∧ (keys T).Nodup := by simpa [keys] using hn
    by_cases hc : c.1 = t
    · have e : del (c :: T) t = T := by
        unfold del
        rw [List.filter_cons_of_neg (by simp [hc])]
        exact filter_none (by rw [← hc]; exact hn'.1)
      rw [e]
      show (c.1 :: keys T).Perm (t :: keys T)
      rw [hc]
    · have ht : t ∈ keys T := by
        have : t = c.1 ∨ t ∈ keys T := by simpa [keys] using h
        rcases this with e | e
        · exact absurd e.symm hc
        · exact e
      have e : del (c :: T) t = c :: del T t := by
        unfold del
        rw [List.filter_cons_of_pos (by simp [hc])]
      rw [e]
      show (c.1 :: keys T).Perm (t :: c.1 :: keys (del T t))
      exact ((keys_del hn'.2 ht).cons c.1).trans (List.Perm.swap t c.1 _)
theorem mem_del {T : List (ByteArray × Dv)} {t u : ByteArray} {p : Dv} (h : (u, p) ∈ T) (hu : u ≠ t) : (u, p) ∈ del T t := List.mem_filter.2 ⟨h, by simp [hu]⟩
theorem del_sub {T : List (ByteArray × Dv)} {t u : ByteArray} (h : u ∈ keys (del T t)) : u ∈ keys T := by
  obtain ⟨p, hp, rfl⟩ := List.mem_map.1 h
  exact List.mem_map.2 ⟨p, (List.mem_filter.1 hp).1, rfl⟩
def oTags (O : List Itm) : List ByteArray := O.flatMap oneO
def sTags (O : List Itm) : List ByteArray := O.flatMap oneS
def bTags (B : List Itm) : List ByteArray := B.flatMap oneB
def okO (md : Int) (x : Itm) : Prop := (x.k = 1 ∧ x.fl = none ∧ (x.fg = true → md ≠ 0) ∧ (x.fg = false → md ≠ 1)) ∨ (x.k = 2 ∧ ∃ l, x.fl = some l ∧ x.hd = 5 ∧ l.rc = false ∧ l.av = 0)
def okB (sec : Bool) (x : Itm) : Prop := (x.k = 5 ∧ x.fl = none ∧ x.fg = !sec) ∨ (x.k = 0 ∧ ∃ l, x.fl = some l ∧ x.hd = 3)
structure Tg (sec : Bool) (N : Nat) (md : Int) (Ts Tr : List (ByteArray × Dv)) (O B : List Itm) (G : List ByteArray) : Prop where
  oW : ∀ x ∈ O, okO md x
  bW : ∀ x ∈ B, okB sec x
  ix : ∀ t ∈ keys Ts ++ sTags O, ∃ i, i < N ∧ t = tagB i
  sn : ∀ t ∈ sTags O, t ∉ keys Ts
  nd : (G ++ oTags O ++ bTags B).Nodup
  pe : ∀ t ∈ G ++ oTags O ++ bTags B, ∃ a, (t, (a, 0)) ∈ Ts
  k1 : sec = false → (keys Ts).Perm (G ++ oTags O ++ bTags B) ∧ (keys Tr).Perm G
  k2 : sec = true → (keys Ts).Perm (keys Tr ++ oTags O) ∧ ∀ t ∈ G, t ∈ keys Tr
  lt : Ts.length ≤ N
section
variable {sec : Bool} {N : Nat} {md : Int} {Ts Tr : List (ByteArray × Dv)} {O B : List Itm} {G : List ByteArray}
theorem Tg.start : Tg sec 0 md [] [] [] [] [] := ⟨by simp, by simp, by simp [keys, sTags], by simp [keys, sTags], by simp [oTags, bTags], by simp [oTags, bTags], fun _ => ⟨by simp [keys, oTags, bTags], by simp [keys]⟩, fun _ => ⟨by simp [keys, oTags], by simp⟩, Nat.zero_le _⟩
theorem Tg.sub (h : Tg sec N md Ts Tr O B G) {t : ByteArray} (ht : t ∈ keys Tr) : t ∈ keys Ts := by
  cases hs : sec with
  | false =>
    obtain ⟨a, b⟩ := h.k1 hs
    rw [a.mem_iff]
    simp [b.mem_iff.1 ht]
  | true =>
    obtain ⟨a, b⟩ := h.k2 hs
    rw [a.mem_iff]
    simp [ht]
theorem Tg.len (h : Tg sec N md Ts Tr O B G) : Tr.length ≤ N := by
  have e1 : Ts.length = (keys Ts).length := by simp [keys]
  have e2 : Tr.length = (keys Tr).length := by simp [keys]
  have := h.lt
  cases hs : sec with
  | false =>
    obtain ⟨a, b⟩ := h.k1 hs
    have := a.length_eq
    have := b.length_eq
    simp at *
    omega
  | true =>
    obtain ⟨a, b⟩ := h.k2 hs
    have := a.length_eq
    simp at *
    omega
theorem Tg.fresh (h : Tg sec N md Ts Tr O B G) (hN : N < 4294967296) : tagB N ∉ keys Ts ∧ tagB N ∉ sTags O := by
  have : ∀ t ∈ keys Ts ++ sTags O, t ≠ tagB N := fun t ht e => by
    obtain ⟨i, hi, rfl⟩ := h.ix t ht
    have := tagB_inj (by omega) hN e
    omega
  exact ⟨fun m => this _ (by simp [m]) rfl, fun m => this _ (by simp [m]) rfl⟩
theorem Tg.sizeS (h : Tg sec N md Ts Tr O B G) {t : ByteArray} (ht : t ∈ keys Ts) : t.size = 5 := by
  obtain ⟨i, _, rfl⟩ := h.ix t (by simp [ht])
  rfl
/-- one is sent that is not settled -/
theorem Tg.sendO (h : Tg sec N md Ts Tr O B G) (hN : N < 4294967296) (hm : md ≠ 1) : Tg sec (N + 1) md ((tagB N, dv0) :: Ts) Tr (O ++ [⟨1, none, 0, tagB N, false⟩]) B G := by
  obtain ⟨f1, f2⟩ := h.fresh hN
  have eo : oTags (O ++ [⟨1, none, 0, tagB N, false⟩]) = oTags O ++ [tagB N] := by simp [oTags, oneO]
  have es : sTags (O ++ [⟨1, none, 0, tagB N, false⟩]) = sTags O := by simp [sTags, oneS]
  have ek : keys ((tagB N, dv0) :: Ts) = tagB N :: keys Ts := rfl
  have hf : tagB N ∉ G ++ oTags O ++ bTags B := fun m => by
    obtain ⟨a, ha⟩ := h.pe _ m
    exact f1 (mem_keys ha)
  have pm : (G ++ (oTags O ++ [tagB N]) ++ bTags B).Perm (tagB N :: (G ++ oTags O ++ bTags B)) := by
    rw [← List.append_assoc, List.append_assoc (G ++ oTags O)]
    exact List.perm_middle
  refine ⟨fun x hx => ?_, h.bW, fun t ht => ?_, fun t ht => ?_, ?_, fun t ht => ?_, fun hs => ?_, fun hs => ?_, ?_⟩
  · rcases List.mem_append.1 hx with hx | hx
    · exact h.oW x hx
    · rw [List.mem_singleton] at hx
      subst hx
      exact .inl ⟨rfl, rfl, fun e => (by cases e), fun _ => hm⟩
  · rw [es, ek] at ht
    rcases List.mem_cons.1 ht with rfl | ht
    · exact ⟨N, by omega, rfl⟩
    · obtain ⟨i, hi, e⟩ := h.ix t ht
      exact ⟨i, by omega, e⟩
  · rw [es] at ht
    rw [ek]
    intro m
    rcases List.mem_cons.1 m with rfl | m
    · exact f2 ht
    · exact h.sn t ht m
  · rw [eo, pm.nodup_iff, List.nodup_cons]
    exact ⟨hf, h.nd⟩
  · rw [eo, pm.mem_iff] at ht
    rcases List.mem_cons.1 ht with rfl | ht
    · exact ⟨0, List.mem_cons.2 (.inl rfl)⟩
    · obtain ⟨a, ha⟩ := h.pe t ht
      exact ⟨a, List.mem_cons_of_mem _ ha⟩
  · rw [eo, ek]
    exact ⟨((h.k1 hs).1.cons _).trans pm.symm, (h.k1 hs).2⟩
  · rw [eo, ek, ← List.append_assoc]
    exact ⟨((h.k2 hs).1.cons _).trans (List.perm_append_singleton _ _).symm, (h.k2 hs).2⟩
  · have := h.lt
    simp
    exact this
theorem Tg.sendS (h : Tg sec N md Ts Tr O B G) (hN : N < 4294967296) (hm : md ≠ 0) : Tg sec (N + 1) md Ts Tr (O ++ [⟨1, none, 0, tagB N, true⟩]) B G := by
  obtain ⟨f1, f2⟩ := h.fresh hN
  have eo : oTags (O ++ [⟨1, none, 0, tagB N, true⟩]) = oTags O := by simp [oTags, oneO]
  have es : sTags (O ++ [⟨1, none, 0, tagB N, true⟩]) = sTags O ++ [tagB N] := by simp [sTags, oneS]
  refine ⟨fun x hx => ?_, h.bW, fun t ht => ?_, fun t ht => ?_, by rw [eo]; exact h.nd, by rw [eo]; exact h.pe, by rw [eo]; exact h.k1, by rw [eo]; exact h.k2, by have := h.lt; omega⟩
  · rcases List.mem_append.1 hx with hx | hx
    · exact h.oW x hx
    · rw [List.mem_singleton] at hx
      subst hx
      exact .inl ⟨rfl, rfl, fun _ => hm, fun e => (by cases e)⟩
  · rw [es, ← List.append_assoc] at ht
    rcases List.mem_append.1 ht with ht | ht
    · obtain ⟨i, hi, e⟩ := h.ix t ht
      exact ⟨i, by omega, e⟩
    · rw [List.mem_singleton] at ht
      exact ⟨N, by omega, ht⟩
  · rw [es] at ht
    rcases List.mem_append.1 ht with ht | ht
    · exact h.sn t ht
    · rw [List.mem_singleton] at ht
      rw [ht]
      exact f1
/-- something of another kind is put behind, or taken from, what is under way -/
theorem Tg.drain (h : Tg sec N md Ts Tr O B G) {l : Lk} {t : ByteArray} {f : Bool} (hr : l.rc = false) (ha : l.av = 0) : Tg sec N md Ts Tr (O ++ [⟨2, some l, 5, t, f⟩]) B G := by
  have eo : oTags (O ++ [⟨2, some l, 5, t, f⟩]) = oTags O := by simp [oTags, oneO]
  have es : sTags (O ++ [⟨2, some l, 5, t, f⟩]) = sTags O := by simp [sTags, oneS]
  refine ⟨fun x hx => ?_, h.bW, by rw [es]; exact h.ix, by rw [es]; exact h.sn, by rw [eo]; exact h.nd, by rw [eo]; exact h.pe, by rw [eo]; exact h.k1, by rw [eo]; exact h.k2, h.lt⟩
  rcases List.mem_append.1 hx with hx | hx
  · exact h.oW x hx
  · rw [List.mem_singleton] at hx
    subst hx
    exact .inr ⟨rfl, l, rfl, rfl, hr, ha⟩
theorem Tg.grant (h : Tg sec N md Ts Tr O B G) (l : Lk) (t : ByteArray) (f : Bool) : Tg sec N md Ts Tr O (B ++ [⟨0, some l, 3, t, f⟩]) G := by
  have eb : bTags (B ++ [⟨0, some l, 3, t, f⟩]) = bTags B := by simp [bTags, oneB]
  refine ⟨h.oW, fun x hx => ?_, h.ix, h.sn, by rw [eb]; exact h.nd, by rw [eb]; exact h.pe, by rw [eb]; exact h.k1, h.k2, h.lt⟩
  rcases List.mem_append.1 hx with hx | hx
  · exact h.bW x hx
  · rw [List.mem_singleton] at hx
    subst hx
    exact .inr ⟨rfl, l, rfl, rfl⟩
theorem Tg.drained {x : Itm} (h : Tg sec N md Ts Tr (x :: O) B G) (hk : x.k = 2) : Tg sec N md Ts Tr O B G := by
  have eo : oTags (x :: O) = oTags O := by simp [oTags, oneO, hk]
  have es : sTags (x :: O) = sTags O := by simp [sTags, oneS, hk]
  exact ⟨fun y hy => h.oW y (List.mem_cons_of_mem _ hy), h.bW, by rw [← es]; exact h.ix, by rw [← es]; exact h.sn, by rw [← eo]; exact h.nd, by rw [← eo]; exact h.pe, by rw [← eo]; exact h.k1, by rw [← eo]; exact h.k2, h.lt⟩
theorem Tg.granted {x : Itm} (h : Tg sec N md Ts Tr O (x :: B) G) (hk : x.k = 0) : Tg sec N md Ts Tr O B G := by
  have eb : bTags (x :: B) = bTags B := by simp [bTags, oneB, hk]
  exact ⟨h.oW, fun y hy => h.bW y (List.mem_cons_of_mem _ hy), h.ix, h.sn, by rw [← eb]; exact h.nd, by rw [← eb]; exact h.pe, by rw [← eb]; exact h.k1, h.k2, h.lt⟩
/-- a delivery comes that is settled -/
theorem Tg.gotS {x : Itm} (h : Tg sec N md Ts Tr (x :: O) B G) (hk : x.k = 1) (hf : x.fg = true) : hasK Tr x.tg = false ∧ x.tg.size = 5 ∧ Tg sec N md Ts Tr O B G := by
  have eo : oTags (x :: O) = oTags O := by simp [oTags, oneO, hf]
  have es : sTags (x :: O) = x.tg :: sTags O := by simp [sTags, oneS, hk, hf]
  refine ⟨hasK_not.2 fun m => h.sn x.tg (by simp [es]) (h.sub m), ?_, fun y hy => h.oW y (List.mem_cons_of_mem _ hy), h.bW, fun t ht => h.ix t ?_, fun t ht => h.sn t (by rw [es]; exact List.mem_cons_of_mem _ ht), by rw [← eo]; exact h.nd, by rw [← eo]; exact h.pe, by rw [← eo]; exact h.k1, by rw [← eo]; exact h.k2, h.lt⟩
  · obtain ⟨i, _, e⟩ := h.ix x.tg (by simp [es])
    rw [e]
    rfl
  · rw [es]
    rcases List.mem_append.1 ht with ht | ht
    · exact List.mem_append_left _ ht
    · exact List.mem_append_right _ (List.mem_cons_of_mem _ ht)
/-- a delivery comes -/
theorem Tg.gotO {x : Itm} (h : Tg sec N md Ts Tr (x :: O) B G) (hS : (keys Ts).Nodup) (hk : x.k = 1) (hf : x.fg = false) : hasK Tr x.tg = false ∧ x.tg.size = 5 ∧ Tg sec N md Ts ((x.tg, dv0) :: Tr) O B (G ++ [x.tg]) := by
  have eo : oTags (x :: O) = x.tg :: oTags O := by simp [oTags, oneO, hk, hf]
  have es : sTags (x :: O) = sTags O := by simp [sTags, oneS, hf]
  have ek : keys ((x.tg, dv0) :: Tr) = x.tg :: keys Tr := rfl
  have e1 : G ++ [x.tg] ++ oTags O ++ bTags B = G ++ oTags (x :: O) ++ bTags B := by rw [eo]; simp
  have hin : x.tg ∈ G ++ oTags (x :: O) ++ bTags B := by simp [eo]
  obtain ⟨a, ha⟩ := h.pe _ hin
  refine ⟨hasK_not.2 fun m => ?_, h.sizeS (mem_keys ha), fun y hy => h.oW y (List.mem_cons_of_mem _ hy), h.bW, by rw [← es]; exact h.ix, by rw [← es]; exact h.sn, by rw [e1]; exact h.nd, by rw [e1]; exact h.pe, fun hs => ?_, fun hs => ?_, h.lt⟩
  · cases hs : sec with
    | false =>
      have := (h.k1 hs).2.mem_iff.1 m
      have nd := h.nd
      rw [eo] at nd
      have nd2 := (List.nodup_append.1 (List.nodup_append.1 nd).1).2.2
      exact nd2 _ this _ (by simp) rfl
    | true =>
      have hp := (h.k2 hs).1
      rw [eo] at hp
      have nd2 := (List.nodup_append.1 (hp.nodup_iff.1 hS)).2.2
      exact nd2 _ m _ (by simp) rfl
  · rw [e1, ek]
    exact ⟨(h.k1 hs).1, ((h.k1 hs).2.cons _).trans (List.perm_append_singleton _ _).symm⟩
  · rw [ek]
    have hp := (h.k2 hs).1
    rw [eo] at hp
    refine ⟨hp.trans List.perm_middle, fun t ht => ?_⟩
    rcases List.mem_append.1 ht with ht | ht
    · exact List.mem_cons_of_mem _ ((h.k2 hs).2 t ht)
    · rw [List.mem_singleton] at ht
      rw [ht]
      exact List.mem_cons_self
/-- the receiver says that it has one -/
theorem Tg.first {t : ByteArray} (h : Tg sec N md Ts Tr O B (t :: G)) : t ∈ keys Tr ∧ t.size = 5 := by
  obtain ⟨a, ha⟩ := h.pe t (by simp)
  refine ⟨?_, h.sizeS (mem_keys ha)⟩
  cases hs : sec with
  | false => exact (h.k1 hs).2.mem_iff.2 (by simp)
  | true => exact (h.k2 hs).2 t (by simp)
theorem Tg.setP {t : ByteArray} (h : Tg sec N md Ts Tr O B (t :: G)) : (G ++ oTags O ++ (bTags B ++ [t])).Perm (t :: G ++ oTags O ++ bTags B) := by
  rw [← List.append_assoc]
  exact (List.perm_append_singleton _ _)
theorem Tg.setS {t : ByteArray} (h : Tg false N md Ts Tr O B (t :: G)) (hR : (keys Tr).Nodup) : Tg false N md Ts (del Tr t) O (B ++ [⟨5, none, 0, t, true⟩]) G := by
  have eb : bTags (B ++ [⟨5, none, 0, t, true⟩]) = bTags B ++ [t] := by simp [bTags, oneB]
  have pm := h.setP
  refine ⟨h.oW, fun x hx => ?_, h.ix, h.sn, by rw [eb]; exact pm.nodup_iff.2 h.nd, fun u hu => h.pe u (by rw [eb] at hu; exact pm.mem_iff.1 hu), fun hs => ⟨by rw [eb]; exact (h.k1 hs).1.trans pm.symm, ?_⟩, fun hs => (by cases hs), h.lt⟩
  · rcases List.mem_append.1 hx with hx | hx
    · exact h.bW x hx
    · rw [List.mem_singleton] at hx
      subst hx
      exact .inl ⟨rfl, rfl, rfl⟩
  · exact ((keys_del hR h.first.1).symm.trans (h.k1 hs).2).cons_inv
theorem Tg.setO {t : ByteArray} {p : Dv} (h : Tg true N md Ts Tr O B (t :: G)) (hR : (keys Tr).Nodup) : Tg true N md Ts ((t, p) :: del Tr t) O (B ++ [⟨5, none, 0, t, false⟩]) G := by
  have eb : bTags (B ++ [⟨5, none, 0, t, false⟩]) = bTags B ++ [t] := by simp [bTags, oneB]
  have pm := h.setP
  have pk : (keys ((t, p) :: del Tr t)).Perm (keys Tr) := (keys_del hR h.first.1).symm
  refine ⟨h.oW, fun x hx => ?_, h.ix, h.sn, by rw [eb]; exact pm.nodup_iff.2 h.nd, fun u hu => h.pe u (by rw [eb] at hu; exact pm.mem_iff.1 hu), fun hs => (by cases hs), fun hs => ⟨(h.k2 hs).1.trans (pk.symm.append_right _), fun u hu => pk.mem_iff.2 ((h.k2 hs).2 u (by simp [hu]))⟩, h.lt⟩
  rcases List.mem_append.1 hx with hx | hx
  · exact h.bW x hx
  · rw [List.mem_singleton] at hx
    subst hx
    exact .inl ⟨rfl, rfl, rfl⟩
/-- what was said of one comes to the sender -/
theorem Tg.said {x : Itm} (h : Tg sec N md Ts Tr O (x :: B) G) (hS : (keys Ts).Nodup) (hk : x.k = 5) : x.tg.size = 5 ∧ hasK Ts x.tg = true ∧ ∃ a, lu dv0 Ts x.tg = (a, 0) := by
  obtain ⟨a, ha⟩ := h.pe x.tg (by simp [bTags, oneB, hk])
  exact ⟨h.sizeS (mem_keys ha), hasK_iff.2 (mem_keys ha), a, lu_of hS ha⟩
theorem Tg.saidP {x : Itm} (h : Tg sec N md Ts Tr O (x :: B) G) (hk : x.k = 5) : (G ++ oTags O ++ bTags (x :: B)).Perm (x.tg :: (G ++ oTags O ++ bTags B)) := by
  have eb : bTags (x :: B) = x.tg :: bTags B := by simp [bTags, oneB, hk]
  rw [eb]
  exact List.perm_middle
theorem Tg.saidS {x : Itm} (h : Tg false N md Ts Tr O (x :: B) G) (hS : (keys Ts).Nodup) (hk : x.k = 5) : Tg false N md (del Ts x.tg) Tr O B G := by
  have pm := h.saidP hk
  have hm := hasK_iff.1 (h.said hS hk).2.1
  have pk := keys_del hS hm
  have nd := List.nodup_cons.1 (pm.nodup_iff.1 h.nd)
  refine ⟨h.oW, fun y hy => h.bW y (List.mem_cons_of_mem _ hy), fun t ht => h.ix t ?_, fun t ht m => h.sn t ht (del_sub m), nd.2, fun t ht => ?_, fun hs => ⟨?_, (h.k1 hs).2⟩, fun hs => (by cases hs), ?_⟩
  · rcases List.mem_append.1 ht with ht | ht
    · exact List.mem_append_left _ (del_sub ht)
    · exact List.mem_append_right _ ht
  · obtain ⟨a, ha⟩ := h.pe t (pm.mem_iff.2 (List.mem_cons_of_mem _ ht))
    exact ⟨a, mem_del ha fun e => nd.1 (e ▸ ht)⟩
  · exact ((pk.symm.trans (h.k1 hs).1).trans pm).cons_inv
  · have := List.length_filter_le (fun p : ByteArray × Dv => !decide (p.1 = x.tg)) Ts
    have h2 := h.lt
    unfold del
    omega
theorem Tg.saidO {x : Itm} {p : Dv} (h : Tg true N md Ts Tr O (x :: B) G) (hS : (keys Ts).Nodup) (hk : x.k = 5) : Tg true N md ((x.tg, p) :: del Ts x.tg) Tr O B G := by
  have pm := h.saidP hk
  have hm := hasK_iff.1 (h.said hS hk).2.1
  have pk : (keys ((x.tg, p) :: del Ts x.tg)).Perm (keys Ts) := (keys_del hS hm).symm
  have nd := List.nodup_cons.1 (pm.nodup_iff.1 h.nd)
  refine ⟨h.oW, fun y hy => h.bW y (List.mem_cons_of_mem _ hy), fun t ht => h.ix t ?_, fun t ht m => h.sn t ht (pk.mem_iff.1 m), nd.2, fun t ht => ?_, fun hs => (by cases hs), fun hs => ⟨pk.trans (h.k2 hs).1, (h.k2 hs).2⟩, ?_⟩
  · rcases List.mem_append.1 ht with ht | ht
    · exact List.mem_append_left _ (pk.mem_iff.1 ht)
    · exact List.mem_append_right _ ht
  · obtain ⟨a, ha⟩ := h.pe t (pm.mem_iff.2 (List.mem_cons_of_mem _ ht))
    exact ⟨a, List.mem_cons_of_mem _ (mem_del ha fun e => nd.1 (e ▸ ht))⟩
  · have := pk.length_eq
    have h2 := h.lt
    simp [keys] at *
    omega
/-- at last -/
theorem Tg.last (h : Tg sec N md Ts Tr [] [] G) : (keys Ts).Perm (keys Tr) ∧ (sec = false → Ts.length = G.length) := by
  have e1 : Ts.length = (keys Ts).length := by simp [keys]
  cases hs : sec with
  | false =>
    obtain ⟨a, b⟩ := h.k1 hs
    simp [oTags, bTags] at a
    exact ⟨a.trans b.symm, fun _ => by rw [e1, a.length_eq]⟩
  | true =>
    obtain ⟨a, b⟩ := h.k2 hs
    simp [oTags] at a
    exact ⟨a, fun e => (by cases e)⟩
end
end Go.Proofs.Ytknkmamjdmadcaa
