import Derived.Test.YtgpimajdcfoigabDoorD04

/- What is written is read back: no program. What is written is read back: no program. What is written is read back: no program. -/
namespace Go.Proofs.YtgpimajdcfoigabDoor
set_option linter.unusedVariables false
set_option linter.unusedSimpArgs false

theorem pre_split {x y l : List Nat} {p : Nat} (h : x ++ y <+: l.drop p) : x <+: l.drop p ∧ y <+: l.drop (p + x.length) := by
  obtain ⟨z, hz⟩ := h
  refine ⟨⟨y ++ z, by rw [← hz, List.append_assoc]⟩, ⟨z, ?_⟩⟩
  rw [← List.drop_drop, ← hz, List.append_assoc, List.drop_left]
theorem pre_take {x l : List Nat} {p : Nat} (h : x <+: l.drop p) : (l.drop p).take x.length = x := (List.prefix_iff_eq_take.1 h).symm
theorem rnum_back {l : List Nat} {p fin N w : Nat} {sz : Int} (h : digs N w <+: l.drop p) (hf : p + w ≤ fin) : rnum l p fin sz w = .ok (N % 256 ^ w) := by
  unfold rnum
  rw [if_pos hf]
  have := pre_take h
  rw [digs_length] at this
  rw [this, getN_digs]
theorem rnum_one {l : List Nat} {p fin c : Nat} {sz : Int} {y : List Nat} (h : c :: y <+: l.drop p) (hf : p + 1 ≤ fin) : rnum l p fin sz 1 = .ok c ∧ y <+: l.drop (p + 1) := by
  have h1 : [c] ++ y <+: l.drop p := h
  obtain ⟨h2, h3⟩ := pre_split h1
  refine ⟨?_, h3⟩
  unfold rnum
  rw [if_pos hf]
  have := pre_take h2
  simp only [List.length_cons, List.length_nil] at this
  rw [this]
  simp [getN]
theorem mkS_txt (s : ByteArray) : mkS (txt s) = s := by
  unfold mkS txt
  rw [List.map_map]
  have : (s.data.toList.map (UInt8.ofNat ∘ UInt8.toNat)) = s.data.toList := by
    conv => rhs; rw [← List.map_id s.data.toList]
    refine List.map_congr_left fun b _ => ?_
    simp
  rw [this]
theorem mem_sum {l : List V} {g : V → Nat} {x : V} (h : x ∈ l) : g x ≤ (l.map g).sum := by
  induction l with
  | nil => simp at h
  | cons y l ih =>
    rcases List.mem_cons.1 h with rfl | h
    · simp
    · have := ih h; simp; omega
theorem len_sum {l : List V} {g : V → Nat} (h : ∀ x ∈ l, 1 ≤ g x) : l.length ≤ (l.map g).sum := by
  induction l with
  | nil => simp
  | cons y l ih =>
    have h1 := h y (by simp)
    have h2 := ih (fun x hx => h x (by simp [hx]))
    simp; omega
theorem head_pick : ∀ k, k < 24 → 0 < k → ∀ b, 1 ≤ headC (pickC k b) ∧ headC (pickC k b) ≤ 16 := by decide
section
variable (B : Nat → ByteArray → Int) (W : List T → Bool)
theorem many_back (R : Nat → Res (T × Nat)) (g : V → List Nat) (l : List Nat) (fin : Nat) : ∀ (xs : List V) (p : Nat), (xs.map g).flatten <+: l.drop p → p + ((xs.map g).flatten).length ≤ fin →
    (∀ x ∈ xs, ∀ q, g x <+: l.drop q → q + (g x).length ≤ fin → R q = .ok (x, q + (g x).length)) → rmany R xs.length p = .ok (xs, p + ((xs.map g).flatten).length) := by
  intro xs
  induction xs with
  | nil => intro p _ _ _; simp [rmany]
  | cons x xs ih =>
    intro p h1 h2 h3
    rw [List.map_cons, List.flatten_cons] at h1 h2 ⊢
    obtain ⟨h4, h5⟩ := pre_split h1
    rw [List.length_append] at h2 ⊢
    rw [List.length_cons, rmany, h3 x (by simp) p h4 (by omega)]
    simp only
    rw [ih (p + (g x).length) h5 (by omega) (fun y hy => h3 y (by simp [hy]))]
    simp only [Nat.add_assoc]
theorem span_back {α : Type} {l : List Nat} {w least p fin size count : Nat} {sz : Int} {y : List Nat} {x : α} {inner : Nat → Nat → Nat → Int → Res (α × Nat)}
    (h : digs size w ++ (digs count w ++ y) <+: l.drop p) (hf : p + w + size ≤ fin) (hl : least ≤ size) (hw : w ≤ size) (hs : size < 256 ^ w) (hc : count < 256 ^ w)
    (hi : y <+: l.drop (p + w + w) → inner count (p + w + w) (p + w + size) p = .ok (x, p + w + size)) : rspan l w least p fin sz inner = .ok (x, p + w + size) := by
  obtain ⟨h1, h2⟩ := pre_split h
  obtain ⟨h3, h4⟩ := pre_split h2
  rw [digs_length] at h2 h3 h4
  rw [digs_length] at h4
  unfold rspan
  rw [rnum_back h1 (by omega), Nat.mod_eq_of_lt hs]
  simp only
  rw [if_neg (by omega), if_neg (by omega), rnum_back h3 (by omega), Nat.mod_eq_of_lt hc]
  simp only
  rw [hi h4]
  simp
theorem number_back {l : List Nat} {k w p fin N : Nat} {sz : Int} (h : digs N w <+: l.drop p) (hf : p + w ≤ fin)
    (hs : (k = 6 ∨ k = 7 ∨ k = 8 ∨ k = 9) → sext w (N % 256 ^ w) = N) (hn : ¬ (k = 6 ∨ k = 7 ∨ k = 8 ∨ k = 9) → N < 256 ^ w ∧ formC k N = true) : rnumber l k w p fin sz = .ok (N, p + w) := by
  unfold rnumber
  rw [rnum_back h hf]
  simp only
  by_cases hk : k = 6 ∨ k = 7 ∨ k = 8 ∨ k = 9
  · rw [if_pos hk, hs hk]
  · rw [if_neg hk, Nat.mod_eq_of_lt (hn hk).1, if_pos (hn hk).2]
theorem text_back {l : List Nat} {k w p fin : Nat} {sz : Int} {s : ByteArray} (h : digs s.size w ++ txt s <+: l.drop p) (hf : p + w + s.size ≤ fin) (hs : s.size < 256 ^ w) (hb : B k s < 0) : rtext B l k w p fin sz = .ok (s, p + w + s.size) := by
  obtain ⟨h1, h2⟩ := pre_split h
  rw [digs_length] at h2
  unfold rtext
  rw [rnum_back h1 (by omega), Nat.mod_eq_of_lt hs]
  simp only
  have := pre_take h2
  rw [txt_length] at this
  unfold rbytes
  rw [if_pos hf]
  simp only
  rw [this, mkS_txt, if_neg (by omega)]
theorem t_mem {l : List V} {x : T} (h : x ∈ V.ts l) : ∃ y ∈ l, y.t = x := by rw [V.ts_map] at h; exact List.mem_map.1 h
theorem T_k (k n : Int) (s : ByteArray) (e : Int) (l : List T) : (T.of k n s e l).k = k := rfl
/-- read back, of one value behind a constructor -/
def DatBack (t : T) : Prop := ∀ (f c place p fin : Nat) (sz : Int) (l : List Nat), Gd B W t f → FitsC t c → t.body + 16 < 4294967296 → T.data t c <+: l.drop p → p + (T.data t c).length ≤ fin →
  rdat B W l f t.k.toNat c place p fin sz = .ok (t, p + (T.data t c).length)
theorem val_of_dat {t : T} (ih : DatBack B W t) (f p fin : Nat) (sz : Int) (l : List Nat) (hg : Gd B W t f) (hb : t.body + 16 < 4294967296) (h : T.enc t <+: l.drop p) (hf : p + (T.enc t).length ≤ fin) :
    rvalG l (rdat B W l f) f p fin sz = .ok (t, p + (T.enc t).length) := by
  have hown : 0 < f ∧ 0 ≤ t.k ∧ t.k ≤ 24 := by
    obtain ⟨k, n, s, a, c, e, l, rfl⟩ := V.ex t
    obtain ⟨h1, h2, _⟩ := (Gd_of _ _ _ _ _ _ _ _ _ _).1 hg
    exact ⟨h1, h2.k0, h2.k1⟩
  unfold T.enc at h hf ⊢
  rw [List.length_cons] at hf ⊢
  obtain ⟨h1, h2⟩ := rnum_one (sz := sz) h (fin := fin) (by omega)
  unfold rvalG
  rw [h1]
  simp only
  rw [(kind_code (.inl rfl : FitsC t t.code) hown.2.1 hown.2.2).1]
  simp only
  rw [if_neg (by omega), ih f t.code p (p + 1) fin sz l hg (.inl rfl) hb h2 (by omega)]
  congr 2
  omega
set_option maxRecDepth 10000 in
set_option maxHeartbeats 1000000 in
theorem back_txt (k n : Int) (s : ByteArray) (e : Int) (l : List T) (f c place p fin : Nat) (sz : Int) (b : List Nat) (hk : k = 18 ∨ k = 19 ∨ k = 20) (ih' : ∀ x ∈ l, DatBack B W x) (hg : Gd B W (T.of k n s e l) (f + 1)) (hc : FitsC (T.of k n s e l) c) (hbd : T.body (T.of k n s e l) + 16 < 4294967296) (hp : T.data (T.of k n s e l) c <+: b.drop p) (hfin : p + (T.data (T.of k n s e l) c).length ≤ fin) :
    rdat B W b (f + 1) k.toNat c place p fin sz = .ok (T.of k n s e l, p + (T.data (T.of k n s e l) c).length) := by
  have hlen := data_len B W _ (f + 1) c hg hc
  obtain ⟨hf, own, sub⟩ := (Gd_of _ _ _ _ _ _ _ _ _ _).1 hg
  rw [Nat.add_sub_cancel] at sub
  have hc' := fits_cases hc
  rw [T_k, show (T.of k n s e l).n = n from rfl, show (T.of k n s e l).l = l from V.l_of _ _ _ _ _ _ _] at hc'
  have k0 := own.k0
  have k1 := own.k1
  have n0 := own.n0
  have n1 := own.n1
  unfold T.of at hp hfin hlen hbd hc' ⊢
  have ht := hk
  obtain ⟨hn, hl0, he⟩ := own.isText (by omega)
  subst hn hl0 he
  have hb := body_txt k 0 s none 0 0 [] ht
  have hu := own.utf ht
  rw [data_of, hb] at hp hfin ⊢
  rw [hb] at hbd
  have hcs : (c / 16 = 10 ∧ s.size ≤ 255) ∨ c / 16 = 11 := by
    rcases ht with rfl | rfl | rfl
    · have : pickC (18 : Int).toNat false = 176 ∧ pickC (18 : Int).toNat true = 160 := by decide
      rw [this.1, this.2, hb] at hc'
      simp only [smallC] at hc'
      simp at hc'
      omega
    · have : pickC (19 : Int).toNat false = 177 ∧ pickC (19 : Int).toNat true = 161 := by decide
      rw [this.1, this.2, hb] at hc'
      simp only [smallC] at hc'
      simp at hc'
      omega
    · have : pickC (20 : Int).toNat false = 179 ∧ pickC (20 : Int).toNat true = 163 := by decide
      rw [this.1, this.2, hb] at hc'
      simp only [smallC] at hc'
      simp at hc'
      omega
  rcases hcs with ⟨hlay, hsm⟩ | hlay
  · rw [if_neg (by omega), if_pos hlay] at hp hfin ⊢
    simp only [List.length_append, digs_length, txt_length] at hfin ⊢
    rw [rdat, if_neg (by omega), if_neg (by omega), if_neg (by omega), if_pos (by omega), if_pos hlay, text_back B hp (by omega) (by omega) hu]
    simp only
    congr 2
    · rw [Int.toNat_of_nonneg k0]; rfl
    · omega
  · rw [if_neg (by omega), if_neg (by omega), if_pos hlay] at hp hfin ⊢
    simp only [List.length_append, digs_length, txt_length] at hfin ⊢
    rw [rdat, if_neg (by omega), if_neg (by omega), if_neg (by omega), if_pos (by omega), if_neg (by omega), text_back B hp (by omega) (by omega) hu]
    simp only
    congr 2
    · rw [Int.toNat_of_nonneg k0]; rfl
    · omega
set_option maxRecDepth 10000 in
set_option maxHeartbeats 1000000 in
theorem back_six (k n : Int) (s : ByteArray) (e : Int) (l : List T) (f c place p fin : Nat) (sz : Int) (b : List Nat) (hk : k = 14 ∨ k = 17) (ih' : ∀ x ∈ l, DatBack B W x) (hg : Gd B W (T.of k n s e l) (f + 1)) (hc : FitsC (T.of k n s e l) c) (hbd : T.body (T.of k n s e l) + 16 < 4294967296) (hp : T.data (T.of k n s e l) c <+: b.drop p) (hfin : p + (T.data (T.of k n s e l) c).length ≤ fin) :
    rdat B W b (f + 1) k.toNat c place p fin sz = .ok (T.of k n s e l, p + (T.data (T.of k n s e l) c).length) := by
  have hlen := data_len B W _ (f + 1) c hg hc
  obtain ⟨hf, own, sub⟩ := (Gd_of _ _ _ _ _ _ _ _ _ _).1 hg
  rw [Nat.add_sub_cancel] at sub
  have hc' := fits_cases hc
  rw [T_k, show (T.of k n s e l).n = n from rfl, show (T.of k n s e l).l = l from V.l_of _ _ _ _ _ _ _] at hc'
  have k0 := own.k0
  have k1 := own.k1
  have n0 := own.n0
  have n1 := own.n1
  unfold T.of at hp hfin hlen hbd hc' ⊢
  have h6 := hk
  obtain ⟨hn, hl0, he⟩ := own.isText (by omega)
  subst hn hl0 he
  have hsx := own.six h6
  rw [data_of] at hp hfin ⊢
  have hcs : c / 16 = 9 := by
    rcases h6 with rfl | rfl
    · have : pickC (14 : Int).toNat false = 148 ∧ pickC (14 : Int).toNat true = 148 := by decide
      rw [this.1, this.2] at hc'; omega
    · have : pickC (17 : Int).toNat false = 152 ∧ pickC (17 : Int).toNat true = 152 := by decide
      rw [this.1, this.2] at hc'; omega
  rw [if_neg (by omega), if_neg (by omega), if_neg (by omega), if_pos hcs] at hp hfin ⊢
  rw [txt_length, hsx] at hfin ⊢
  rw [rdat, if_neg (by omega), if_neg (by omega), if_pos hcs]
  unfold rbytes
  rw [if_pos hfin]
  have := pre_take hp
  rw [txt_length, hsx] at this
  simp only
  rw [this, mkS_txt, Int.toNat_of_nonneg k0]
  rfl
set_option maxRecDepth 10000 in
set_option maxHeartbeats 1000000 in
theorem back_desc (k n : Int) (s : ByteArray) (e : Int) (l : List T) (f c place p fin : Nat) (sz : Int) (b : List Nat) (hk : k = 24) (ih' : ∀ x ∈ l, DatBack B W x) (hg : Gd B W (T.of k n s e l) (f + 1)) (hc : FitsC (T.of k n s e l) c) (hbd : T.body (T.of k n s e l) + 16 < 4294967296) (hp : T.data (T.of k n s e l) c <+: b.drop p) (hfin : p + (T.data (T.of k n s e l) c).length ≤ fin) :
    rdat B W b (f + 1) k.toNat c place p fin sz = .ok (T.of k n s e l, p + (T.data (T.of k n s e l) c).length) := by
  have hlen := data_len B W _ (f + 1) c hg hc
  obtain ⟨hf, own, sub⟩ := (Gd_of _ _ _ _ _ _ _ _ _ _).1 hg
  rw [Nat.add_sub_cancel] at sub
  have hc' := fits_cases hc
  rw [T_k, show (T.of k n s e l).n = n from rfl, show (T.of k n s e l).l = l from V.l_of _ _ _ _ _ _ _] at hc'
  have k0 := own.k0
  have k1 := own.k1
  have n0 := own.n0
  have n1 := own.n1
  unfold T.of at hp hfin hlen hbd hc' ⊢
  have hbody : (k = 21 ∨ k = 22 ∨ k = 24) ∨ k = 23 → ∀ x ∈ l, T.body x ≤ T.body (V.of k n s none 0 e l) := by
    rintro (h | rfl) x hx
    · rw [body_enc _ _ _ _ _ _ _ h]
      have := mem_sum (g := T.len) hx
      have h2 : T.body x ≤ T.len x := by unfold T.len; omega
      omega
    · rw [body_arr]
      have := mem_sum (g := T.body) hx
      omega
  have hval : (k = 21 ∨ k = 22 ∨ k = 24) → ∀ x ∈ l, ∀ (fin : Nat) (sz : Int) (q : Nat), T.enc x <+: b.drop q → q + (T.enc x).length ≤ fin → rvalG b (rdat B W b f) f q fin sz = .ok (x, q + (T.enc x).length) := by
    intro hk x hx fin sz q h1 h2
    have := hbody (.inl hk) x hx
    exact val_of_dat B W (ih' x hx) f q fin sz b (sub x hx) (by omega) h1 h2
  have hes : (k = 21 ∨ k = 22 ∨ k = 24) → (encs l).length = T.body (V.of k n s none 0 e l) := fun hk => by
    rw [body_enc _ _ _ _ _ _ _ hk]
    exact sum_flat l _ _ (fun x hx => enc_len B W x f (sub x hx))
  subst hk
  have hcs : c = 0 := by
    have : pickC (24 : Int).toNat false = 0 ∧ pickC (24 : Int).toNat true = 0 := by decide
    rw [this.1, this.2] at hc'
    omega
  subst hcs
  obtain ⟨hn, hs, he⟩ := own.isList (by omega)
  subst hn hs he
  have h2 := own.desc rfl
  obtain ⟨x, y, rfl⟩ : ∃ x y, l = [x, y] := by
    match l, h2 with
    | [x, y], _ => exact ⟨x, y, rfl⟩
  rw [data_of] at hp hfin ⊢
  rw [if_neg (by decide), if_neg (by decide), if_neg (by decide), if_neg (by decide), if_neg (by decide), if_neg (by decide), if_neg (by decide), if_neg (by decide), if_pos (by decide)] at hp hfin ⊢
  have e1 : encs [x, y] = T.enc x ++ T.enc y := by simp [encs]
  rw [e1] at hp hfin ⊢
  obtain ⟨h3, h4⟩ := pre_split hp
  rw [List.length_append] at hfin ⊢
  rw [rdat]
  simp only [Nat.zero_div, if_true]
  rw [hval (by omega) x (by simp) fin sz p h3 (by omega)]
  simp only
  rw [hval (by omega) y (by simp) fin sz _ h4 (by omega)]
  simp only
  rw [Nat.add_assoc]
  rfl
set_option maxRecDepth 10000 in
set_option maxHeartbeats 1000000 in
theorem back_list (k n : Int) (s : ByteArray) (e : Int) (l : List T) (f c place p fin : Nat) (sz : Int) (b : List Nat) (hk : k = 21 ∨ k = 22) (ih' : ∀ x ∈ l, DatBack B W x) (hg : Gd B W (T.of k n s e l) (f + 1)) (hc : FitsC (T.of k n s e l) c) (hbd : T.body (T.of k n s e l) + 16 < 4294967296) (hp : T.data (T.of k n s e l) c <+: b.drop p) (hfin : p + (T.data (T.of k n s e l) c).length ≤ fin) :
    rdat B W b (f + 1) k.toNat c place p fin sz = .ok (T.of k n s e l, p + (T.data (T.of k n s e l) c).length) := by
  have hlen := data_len B W _ (f + 1) c hg hc
  obtain ⟨hf, own, sub⟩ := (Gd_of _ _ _ _ _ _ _ _ _ _).1 hg
  rw [Nat.add_sub_cancel] at sub
  have hc' := fits_cases hc
  rw [T_k, show (T.of k n s e l).n = n from rfl, show (T.of k n s e l).l = l from V.l_of _ _ _ _ _ _ _] at hc'
  have k0 := own.k0
  have k1 := own.k1
  have n0 := own.n0
  have n1 := own.n1
  unfold T.of at hp hfin hlen hbd hc' ⊢
  have hbody : (k = 21 ∨ k = 22 ∨ k = 24) ∨ k = 23 → ∀ x ∈ l, T.body x ≤ T.body (V.of k n s none 0 e l) := by
    rintro (h | rfl) x hx
    · rw [body_enc _ _ _ _ _ _ _ h]
      have := mem_sum (g := T.len) hx
      have h2 : T.body x ≤ T.len x := by unfold T.len; omega
      omega
    · rw [body_arr]
      have := mem_sum (g := T.body) hx
      omega
  have hval : (k = 21 ∨ k = 22 ∨ k = 24) → ∀ x ∈ l, ∀ (fin : Nat) (sz : Int) (q : Nat), T.enc x <+: b.drop q → q + (T.enc x).length ≤ fin → rvalG b (rdat B W b f) f q fin sz = .ok (x, q + (T.enc x).length) := by
    intro hk x hx fin sz q h1 h2
    have := hbody (.inl hk) x hx
    exact val_of_dat B W (ih' x hx) f q fin sz b (sub x hx) (by omega) h1 h2
  have hes : (k = 21 ∨ k = 22 ∨ k = 24) → (encs l).length = T.body (V.of k n s none 0 e l) := fun hk => by
    rw [body_enc _ _ _ _ _ _ _ hk]
    exact sum_flat l _ _ (fun x hx => enc_len B W x f (sub x hx))
  have hl := hk
  have hk3 : k = 21 ∨ k = 22 ∨ k = 24 := by omega
  have hel := hes hk3
  obtain ⟨hn, hs, he⟩ := own.isList hk3
  subst hn hs he
  have hcount : l.length ≤ T.body (V.of k 0 e0 none 0 0 l) := by
    rw [body_enc _ _ _ _ _ _ _ hk3]
    exact len_sum (fun x hx => by unfold T.len; omega)
  rw [data_of] at hp hfin hlen ⊢
  have hcs : (c = 69 ∧ k = 21 ∧ l.length = 0) ∨ ((c = 192 ∧ k = 21 ∨ c = 193 ∧ k = 22) ∧ 1 + T.body (V.of k 0 e0 none 0 0 l) ≤ 255) ∨ (c = 208 ∧ k = 21 ∨ c = 209 ∧ k = 22) := by
    rcases hl with rfl | rfl
    · have : pickC (21 : Int).toNat false = 208 ∧ pickC (21 : Int).toNat true = 192 := by decide
      obtain ⟨len, hlen0⟩ : ∃ len, l.length = len := ⟨_, rfl⟩
      rw [this.1, this.2, hlen0] at hc'
      simp only [smallC] at hc'
      simp at hc'
      omega
    · have : pickC (22 : Int).toNat false = 209 ∧ pickC (22 : Int).toNat true = 193 := by decide
      obtain ⟨len, hlen0⟩ : ∃ len, l.length = len := ⟨_, rfl⟩
      rw [this.1, this.2, hlen0] at hc'
      simp only [smallC] at hc'
      simp at hc'
      omega
  have hmap : (if k.toNat = 22 ∧ l.length % 2 ≠ 0 then (.error ((place : Int), 34) : Res (List T × Nat)) else if k.toNat = 22 ∧ 1024 < l.length / 2 then .error ((place : Int), 2) else .ok (l, 0)) = .ok (l, 0) ∧ ¬ (k.toNat = 22 ∧ l.length % 2 ≠ 0) ∧ ¬ (k.toNat = 22 ∧ 1024 < l.length / 2) ∧ ¬ (k.toNat = 22 ∧ W l = true) := by
    rcases hl with rfl | rfl
    · simp
    · obtain ⟨m1, m2, m3⟩ := own.map rfl
      have m4 : ¬ 1024 < l.length / 2 := by omega
      simp [m1, m3, m4]
  obtain ⟨-, hm1, hm2, hm3⟩ := hmap
  rcases hcs with ⟨rfl, rfl, h0⟩ | ⟨hc2, hsm⟩ | hc2
  · obtain rfl : l = [] := List.eq_nil_of_length_eq_zero h0
    rw [rdat]
    simp [T.of]
  · have hlay : c / 16 = 12 := by omega
    rw [if_neg (by omega), if_neg (by omega), if_neg (by omega), if_neg (by omega), if_neg (by omega), if_neg (by omega), if_pos hlay] at hp hfin hlen ⊢
    have hfin' : p + 1 + (1 + T.body (V.of k 0 e0 none 0 0 l)) ≤ fin := by
      rw [← hel]
      simp only [List.length_append, digs_length] at hfin
      omega
    have hsp : rspan b 1 1 p fin sz (fun count q fin sz => if k.toNat = 22 ∧ count % 2 ≠ 0 then .error ((place : Int), 34) else if k.toNat = 22 ∧ 1024 < count / 2 then .error ((place : Int), 2) else rmany (fun r => rvalG b (rdat B W b f) f r fin sz) count q) = .ok (l, p + 1 + (1 + T.body (V.of k 0 e0 none 0 0 l))) := by
      refine span_back hp hfin' (by omega) (by omega) (by omega) (by omega) (fun hy => ?_)
      rw [if_neg hm1, if_neg hm2]
      have := many_back (fun r => rvalG b (rdat B W b f) f r (p + 1 + (1 + T.body (V.of k 0 e0 none 0 0 l))) p) T.enc b (p + 1 + (1 + T.body (V.of k 0 e0 none 0 0 l))) l (p + 1 + 1) hy (by show _ + (encs l).length ≤ _; omega) (fun x hx q h1 h2 => hval hk3 x hx _ _ q h1 h2)
      rw [this]
      show Except.ok (l, p + 1 + 1 + (encs l).length) = _
      rw [hel]
      congr 2
      omega
    rw [rdat]
    rw [if_neg (by omega), if_neg (by omega), if_neg (by omega), if_neg (by omega), if_pos (by omega), if_pos hlay]
    unfold relems
    rw [hsp]
    simp only
    rw [if_neg hm3]
    simp only
    congr 2
    · rw [Int.toNat_of_nonneg k0]; rfl
    · simp only [List.length_append, digs_length]; omega
  · have hlay : c / 16 = 13 := by omega
    rw [if_neg (by omega), if_neg (by omega), if_neg (by omega), if_neg (by omega), if_neg (by omega), if_neg (by omega), if_neg (by omega), if_pos hlay] at hp hfin hlen ⊢
    have hfin' : p + 4 + (4 + T.body (V.of k 0 e0 none 0 0 l)) ≤ fin := by
      rw [← hel]
      simp only [List.length_append, digs_length] at hfin
      omega
    have hsp : rspan b 4 4 p fin sz (fun count q fin sz => if k.toNat = 22 ∧ count % 2 ≠ 0 then .error ((place : Int), 34) else if k.toNat = 22 ∧ 1024 < count / 2 then .error ((place : Int), 2) else rmany (fun r => rvalG b (rdat B W b f) f r fin sz) count q) = .ok (l, p + 4 + (4 + T.body (V.of k 0 e0 none 0 0 l))) := by
      refine span_back hp hfin' (by omega) (by omega) (by omega) (by omega) (fun hy => ?_)
      rw [if_neg hm1, if_neg hm2]
      have := many_back (fun r => rvalG b (rdat B W b f) f r (p + 4 + (4 + T.body (V.of k 0 e0 none 0 0 l))) p) T.enc b (p + 4 + (4 + T.body (V.of k 0 e0 none 0 0 l))) l (p + 4 + 4) hy (by show _ + (encs l).length ≤ _; omega) (fun x hx q h1 h2 => hval hk3 x hx _ _ q h1 h2)
      rw [this]
      show Except.ok (l, p + 4 + 4 + (encs l).length) = _
      rw [hel]
      congr 2
      omega
    rw [rdat]
    rw [if_neg (by omega), if_neg (by omega), if_neg (by omega), if_neg (by omega), if_pos (by omega), if_neg (by omega)]
    unfold relems
    rw [hsp]
    simp only
    rw [if_neg hm3]
    simp only
    congr 2
    · rw [Int.toNat_of_nonneg k0]; rfl
    · simp only [List.length_append, digs_length]; omega
set_option maxRecDepth 10000 in
set_option maxHeartbeats 1000000 in
theorem back_arr (k n : Int) (s : ByteArray) (e : Int) (l : List T) (f c place p fin : Nat) (sz : Int) (b : List Nat) (hk : k = 23) (ih' : ∀ x ∈ l, DatBack B W x) (hg : Gd B W (T.of k n s e l) (f + 1)) (hc : FitsC (T.of k n s e l) c) (hbd : T.body (T.of k n s e l) + 16 < 4294967296) (hp : T.data (T.of k n s e l) c <+: b.drop p) (hfin : p + (T.data (T.of k n s e l) c).length ≤ fin) :
    rdat B W b (f + 1) k.toNat c place p fin sz = .ok (T.of k n s e l, p + (T.data (T.of k n s e l) c).length) := by
  have hlen := data_len B W _ (f + 1) c hg hc
  obtain ⟨hf, own, sub⟩ := (Gd_of _ _ _ _ _ _ _ _ _ _).1 hg
  rw [Nat.add_sub_cancel] at sub
  have hc' := fits_cases hc
  rw [T_k, show (T.of k n s e l).n = n from rfl, show (T.of k n s e l).l = l from V.l_of _ _ _ _ _ _ _] at hc'
  have k0 := own.k0
  have k1 := own.k1
  have n0 := own.n0
  have n1 := own.n1
  unfold T.of at hp hfin hlen hbd hc' ⊢
  have hbody : (k = 21 ∨ k = 22 ∨ k = 24) ∨ k = 23 → ∀ x ∈ l, T.body x ≤ T.body (V.of k n s none 0 e l) := by
    rintro (h | rfl) x hx
    · rw [body_enc _ _ _ _ _ _ _ h]
      have := mem_sum (g := T.len) hx
      have h2 : T.body x ≤ T.len x := by unfold T.len; omega
      omega
    · rw [body_arr]
      have := mem_sum (g := T.body) hx
      omega
  have hval : (k = 21 ∨ k = 22 ∨ k = 24) → ∀ x ∈ l, ∀ (fin : Nat) (sz : Int) (q : Nat), T.enc x <+: b.drop q → q + (T.enc x).length ≤ fin → rvalG b (rdat B W b f) f q fin sz = .ok (x, q + (T.enc x).length) := by
    intro hk x hx fin sz q h1 h2
    have := hbody (.inl hk) x hx
    exact val_of_dat B W (ih' x hx) f q fin sz b (sub x hx) (by omega) h1 h2
  have hes : (k = 21 ∨ k = 22 ∨ k = 24) → (encs l).length = T.body (V.of k n s none 0 e l) := fun hk => by
    rw [body_enc _ _ _ _ _ _ _ hk]
    exact sum_flat l _ _ (fun x hx => enc_len B W x f (sub x hx))
  subst hk
  obtain ⟨hn, hs, he0, he1, hee⟩ := own.isArr rfl
  subst hn hs
  have hfit := fits_acode (n := 0) (s := e0) (a := none) (c := 0) hee
  have hb := body_arr 0 e0 none 0 e l
  obtain ⟨ac, hac⟩ : ∃ ac, T.acode (V.of 23 0 e0 none 0 e l) = ac := ⟨_, rfl⟩
  rw [hac] at hfit hb
  have hacp : ∃ q, ac = pickC e.toNat q := ⟨_, by rw [← hac]; unfold T.acode acodeG; rw [V.e_of]⟩
  obtain ⟨q, hq⟩ := hacp
  have hst : standsC ac = true := by rw [hq]; exact stands_pick _ (by omega) (by omega) _
  have hkd : kindC ac = some e.toNat := by rw [hq]; exact kind_pick _ (by omega) _
  have hhd : 1 ≤ headC ac := by rw [hq]; exact (head_pick _ (by omega) (by omega) _).1
  have hdl : (datas ac l).length = (l.map T.body).sum + l.length * headC ac := by
    unfold datas
    rw [sum_flat l _ (fun x => headC ac + T.body x) (fun x hx => data_len B W x f ac (sub x hx) (hfit x hx)), sum_plus]
  have hcnt : l.length ≤ (datas ac l).length := by
    rw [hdl]
    have := Nat.mul_le_mul_left l.length hhd
    omega
  have hbd2 : T.body (V.of 23 0 e0 none 0 e l) = 1 + (datas ac l).length := by rw [hb, hdl]
  rw [data_of, hac] at hp hfin hlen ⊢
  have hcs : (c = 224 ∧ 1 + T.body (V.of 23 0 e0 none 0 e l) ≤ 255) ∨ c = 240 := by
    have : pickC (23 : Int).toNat false = 240 ∧ pickC (23 : Int).toNat true = 224 := by decide
    rw [this.1, this.2] at hc'
    simp only [smallC] at hc'
    simp at hc'
    omega
  have hrd : ∀ (fin : Nat) (sz : Int) (r : Nat), datas ac l <+: b.drop r → r + (datas ac l).length ≤ fin →
      rmany (fun r => if f = 0 then .error ((r : Int), 26) else rdat B W b f ((kindC ac).getD 0) ac r r fin sz) l.length r = .ok (l, r + (datas ac l).length) := by
    intro fin sz r h1 h2
    refine many_back _ (fun x => T.data x ac) b fin l r h1 h2 (fun x hx q h3 h4 => ?_)
    have hx0 : 0 < f := by
      obtain ⟨k', n', s', a', c', e', l', rfl⟩ := V.ex x
      exact ((Gd_of _ _ _ _ _ _ _ _ _ _).1 (sub _ hx)).1
    have := hbody (.inr rfl) x hx
    show (if f = 0 then _ else _) = _
    rw [if_neg (by omega), hkd]
    have h5 := ih' x hx f ac q q fin sz b (sub x hx) (hfit x hx) (by omega) h3 h4
    rw [hee x hx] at h5
    exact h5
  rcases hcs with ⟨rfl, hsm⟩ | rfl
  · simp only [Nat.reduceDiv, Nat.reduceEqDiff, if_true, if_false] at hp hfin ⊢
    rw [hbd2] at hp hfin hsm ⊢
    simp only [List.length_append, digs_length, List.length_cons] at hfin ⊢
    rw [rdat]
    simp only [Nat.reduceDiv, Nat.reduceEqDiff, or_false, or_true, true_or, false_or, if_true, if_false]
    have hsp : rarr b (rdat B W b f) f 1 p fin sz = .ok ((e.toNat, l), p + 1 + (1 + (1 + (datas ac l).length))) := by
      unfold rarr
      refine span_back hp (by omega) (by omega) (by omega) (by omega) (by omega) (fun hy => ?_)
      obtain ⟨h6, h7⟩ := rnum_one (sz := (p : Int)) hy (fin := p + 1 + (1 + (1 + (datas ac l).length))) (by omega)
      rw [h6]
      simp only
      rw [if_pos hst, hrd _ _ _ h7 (by omega), hkd]
      simp only [Option.getD_some]
      congr 2
      omega
    rw [hsp]
    simp only
    congr 2
    · rw [show ((e.toNat : Nat) : Int) = e from Int.toNat_of_nonneg (by omega)]; rfl
    · omega
  · simp only [Nat.reduceDiv, Nat.reduceEqDiff, if_true, if_false] at hp hfin ⊢
    rw [hbd2] at hp hfin hbd ⊢
    simp only [List.length_append, digs_length, List.length_cons] at hfin ⊢
    rw [rdat]
    simp only [Nat.reduceDiv, Nat.reduceEqDiff, or_false, or_true, true_or, false_or, if_true, if_false]
    have hsp : rarr b (rdat B W b f) f 4 p fin sz = .ok ((e.toNat, l), p + 4 + (4 + (1 + (datas ac l).length))) := by
      unfold rarr
      refine span_back hp (by omega) (by omega) (by omega) (by omega) (by omega) (fun hy => ?_)
      obtain ⟨h6, h7⟩ := rnum_one (sz := (p : Int)) hy (fin := p + 4 + (4 + (1 + (datas ac l).length))) (by omega)
      rw [h6]
      simp only
      rw [if_pos hst, hrd _ _ _ h7 (by omega), hkd]
      simp only [Option.getD_some]
      congr 2
      omega
    rw [hsp]
    simp only
    congr 2
    · rw [show ((e.toNat : Nat) : Int) = e from Int.toNat_of_nonneg (by omega)]; rfl
    · omega
end
end Go.Proofs.YtgpimajdcfoigabDoor
namespace Go.Proofs.YtgpimajdcfoigabDoor
set_option linter.unusedVariables false
set_option linter.unusedSimpArgs false
section
variable (B : Nat → ByteArray → Int) (W : List T → Bool)
theorem sext1 (m : Nat) (h1 : m < 18446744073709551616) (h : m ≤ 127 ∨ 18446744073709551488 ≤ m) : sext 1 (m % 256 ^ 1) = m := by
  unfold sext
  rw [if_pos rfl]
  split <;> omega
theorem sext2 (m : Nat) (h1 : m < 18446744073709551616) (h : m ≤ 32767 ∨ 18446744073709518848 ≤ m) : sext 2 (m % 256 ^ 2) = m := by
  unfold sext
  rw [if_neg (by decide), if_pos rfl]
  split <;> omega
theorem sext4 (m : Nat) (h1 : m < 18446744073709551616) (h : m ≤ 2147483647 ∨ 18446744071562067968 ≤ m) : sext 4 (m % 256 ^ 4) = m := by
  unfold sext
  rw [if_neg (by decide), if_neg (by decide), if_pos rfl]
  split <;> omega
theorem sext8 (m : Nat) (h1 : m < 18446744073709551616) (h : True) : sext 8 (m % 256 ^ 8) = m := by
  unfold sext
  rw [if_neg (by decide), if_neg (by decide), if_neg (by decide)]
  omega
set_option maxRecDepth 10000 in
set_option maxHeartbeats 1000000 in
theorem back_num (k n : Int) (s : ByteArray) (e : Int) (l : List T) (f c place p fin : Nat) (sz : Int) (b : List Nat) (hk : k < 14 ∨ k = 15 ∨ k = 16) (ih' : ∀ x ∈ l, DatBack B W x) (hg : Gd B W (T.of k n s e l) (f + 1)) (hc : FitsC (T.of k n s e l) c) (hbd : T.body (T.of k n s e l) + 16 < 4294967296) (hp : T.data (T.of k n s e l) c <+: b.drop p) (hfin : p + (T.data (T.of k n s e l) c).length ≤ fin) :
    rdat B W b (f + 1) k.toNat c place p fin sz = .ok (T.of k n s e l, p + (T.data (T.of k n s e l) c).length) := by
  have hlen := data_len B W _ (f + 1) c hg hc
  obtain ⟨hf, own, sub⟩ := (Gd_of _ _ _ _ _ _ _ _ _ _).1 hg
  rw [Nat.add_sub_cancel] at sub
  have hc' := fits_cases hc
  rw [T_k, show (T.of k n s e l).n = n from rfl, show (T.of k n s e l).l = l from V.l_of _ _ _ _ _ _ _] at hc'
  have k0 := own.k0
  have k1 := own.k1
  have n0 := own.n0
  have n1 := own.n1
  unfold T.of at hp hfin hlen hbd hc' ⊢
  obtain ⟨hs, hl0, he⟩ := own.isNum (by omega)
  subst hs hl0 he
  rw [data_of] at hp hfin ⊢
  have num := own.num
  have hN : ((n.toNat : Nat) : Int) = n := Int.toNat_of_nonneg n0
  have hcase : (c / 16 = 4 ∧ n = (if c = 65 then 1 else 0)) ∨ ((c / 16 = 5 ∨ c / 16 = 6 ∨ c / 16 = 7 ∨ c / 16 = 8) ∧
      ((k = 6 ∨ k = 7 ∨ k = 8 ∨ k = 9) → sext (nwid c) (n.toNat % 256 ^ nwid c) = n.toNat) ∧ (¬ (k = 6 ∨ k = 7 ∨ k = 8 ∨ k = 9) → n.toNat < 256 ^ nwid c ∧ formC k.toNat n.toNat = true)) := by
    have h00 := own.isNull
    clear hp hfin hlen hbd hg hc own sub hN ih'
    obtain ⟨m, rfl⟩ : ∃ m : Nat, n = m := ⟨n.toNat, (Int.toNat_of_nonneg n0).symm⟩
    rw [Int.toNat_natCast]
    have hm1 : m < 18446744073709551616 := by omega
    clear n0 n1
    have : k = 0 ∨ k = 1 ∨ k = 2 ∨ k = 3 ∨ k = 4 ∨ k = 5 ∨ k = 6 ∨ k = 7 ∨ k = 8 ∨ k = 9 ∨ k = 10 ∨ k = 11 ∨ k = 12 ∨ k = 13 ∨ k = 15 ∨ k = 16 := by omega
    clear hk k0 k1
    rcases this with rfl | rfl | rfl | rfl | rfl | rfl | rfl | rfl | rfl | rfl | rfl | rfl | rfl | rfl | rfl | rfl
    · have hpk : pickC (0 : Int).toNat false = 64 ∧ pickC (0 : Int).toNat true = 64 := by decide
      rw [hpk.1, hpk.2] at hc'
      clear hpk
      clear num
      have h0 : m = 0 := by have := h00 rfl; omega
      clear h00
      have : c = 64 := by omega
      subst this h0
      left; exact ⟨by decide, by decide⟩
    · have hpk : pickC (1 : Int).toNat false = 86 ∧ pickC (1 : Int).toNat true = 86 := by decide
      rw [hpk.1, hpk.2] at hc'
      clear hpk
      have hf1 := num.1 rfl; clear num
      clear h00
      have : (c = 65 ∧ m = 1) ∨ (c = 66 ∧ m = 0) ∨ c = 86 := by omega
      clear hc'
      rcases this with ⟨rfl, rfl⟩ | ⟨rfl, rfl⟩ | rfl
      · left; exact ⟨by decide, by decide⟩
      · left; exact ⟨by decide, by decide⟩
      · right; refine ⟨by decide, fun h => absurd h (by decide), fun _ => ⟨?_, ?_⟩⟩; (show m < 256 ^ 1; omega); (simp [formC]; try omega)
    · have hpk : pickC (2 : Int).toNat false = 80 ∧ pickC (2 : Int).toNat true = 80 := by decide
      rw [hpk.1, hpk.2] at hc'
      clear hpk
      have hf1 := num.2.1 rfl; clear num
      clear h00
      have : c = 80 := by omega
      clear hc'
      subst this
      right; refine ⟨by decide, fun h => absurd h (by decide), fun _ => ⟨?_, ?_⟩⟩; (show m < 256 ^ 1; omega); (simp [formC]; try omega)
    · have hpk : pickC (3 : Int).toNat false = 96 ∧ pickC (3 : Int).toNat true = 96 := by decide
      rw [hpk.1, hpk.2] at hc'
      clear hpk
      have hf1 := num.2.2.1 rfl; clear num
      clear h00
      have : c = 96 := by omega
      clear hc'
      subst this
      right; refine ⟨by decide, fun h => absurd h (by decide), fun _ => ⟨?_, ?_⟩⟩; (show m < 256 ^ 2; omega); (simp [formC]; try omega)
    · have hpk : pickC (4 : Int).toNat false = 112 ∧ pickC (4 : Int).toNat true = 82 := by decide
      rw [hpk.1, hpk.2] at hc'
      clear hpk
      have hf1 := num.2.2.2.1 (by omega); clear num
      clear h00
      have : (c = 67 ∧ m = 0) ∨ c = 112 ∨ (c = 82 ∧ m ≤ 255) := by simp [smallC] at hc'; omega
      clear hc'
      rcases this with ⟨rfl, rfl⟩ | rfl | ⟨rfl, h⟩
      · left; exact ⟨by decide, by decide⟩
      · right; refine ⟨by decide, fun h => absurd h (by decide), fun _ => ⟨?_, ?_⟩⟩; (show m < 256 ^ 4; omega); (simp [formC]; try omega)
      · right; refine ⟨by decide, fun h => absurd h (by decide), fun _ => ⟨?_, ?_⟩⟩; (show m < 256 ^ 1; omega); (simp [formC]; try omega)
    · have hpk : pickC (5 : Int).toNat false = 128 ∧ pickC (5 : Int).toNat true = 83 := by decide
      rw [hpk.1, hpk.2] at hc'
      clear hpk
      clear num
      clear h00
      have : (c = 68 ∧ m = 0) ∨ c = 128 ∨ (c = 83 ∧ m ≤ 255) := by simp [smallC] at hc'; omega
      clear hc'
      rcases this with ⟨rfl, rfl⟩ | rfl | ⟨rfl, h⟩
      · left; exact ⟨by decide, by decide⟩
      · right; refine ⟨by decide, fun h => absurd h (by decide), fun _ => ⟨?_, ?_⟩⟩; (show m < 256 ^ 8; omega); (simp [formC]; try omega)
      · right; refine ⟨by decide, fun h => absurd h (by decide), fun _ => ⟨?_, ?_⟩⟩; (show m < 256 ^ 1; omega); (simp [formC]; try omega)
    · have hpk : pickC (6 : Int).toNat false = 81 ∧ pickC (6 : Int).toNat true = 81 := by decide
      rw [hpk.1, hpk.2] at hc'
      clear hpk
      have hf1 := num.2.2.2.2.1 rfl; clear num
      clear h00
      have : c = 81 := by omega
      clear hc'
      subst this
      right; refine ⟨by decide, fun _ => ?_, fun h => absurd (by decide) h⟩; show sext 1 (m % 256 ^ 1) = m; exact sext1 m hm1 (by omega)
    · have hpk : pickC (7 : Int).toNat false = 97 ∧ pickC (7 : Int).toNat true = 97 := by decide
      rw [hpk.1, hpk.2] at hc'
      clear hpk
      have hf1 := num.2.2.2.2.2.1 rfl; clear num
      clear h00
      have : c = 97 := by omega
      clear hc'
      subst this
      right; refine ⟨by decide, fun _ => ?_, fun h => absurd (by decide) h⟩; show sext 2 (m % 256 ^ 2) = m; exact sext2 m hm1 (by omega)
    · have hpk : pickC (8 : Int).toNat false = 113 ∧ pickC (8 : Int).toNat true = 84 := by decide
      rw [hpk.1, hpk.2] at hc'
      clear hpk
      have hf1 := num.2.2.2.2.2.2.1 rfl; clear num
      clear h00
      have : c = 113 ∨ (c = 84 ∧ (m ≤ 127 ∨ 18446744073709551488 ≤ m)) := by simp [smallC] at hc'; omega
      clear hc'
      rcases this with rfl | ⟨rfl, h⟩
      · right; refine ⟨by decide, fun _ => ?_, fun h => absurd (by decide) h⟩; show sext 4 (m % 256 ^ 4) = m; exact sext4 m hm1 (by omega)
      · right; refine ⟨by decide, fun _ => ?_, fun h => absurd (by decide) h⟩; show sext 1 (m % 256 ^ 1) = m; exact sext1 m hm1 (by omega)
    · have hpk : pickC (9 : Int).toNat false = 129 ∧ pickC (9 : Int).toNat true = 85 := by decide
      rw [hpk.1, hpk.2] at hc'
      clear hpk
      clear num
      clear h00
      have : c = 129 ∨ (c = 85 ∧ (m ≤ 127 ∨ 18446744073709551488 ≤ m)) := by simp [smallC] at hc'; omega
      clear hc'
      rcases this with rfl | ⟨rfl, h⟩
      · right; refine ⟨by decide, fun _ => ?_, fun h => absurd (by decide) h⟩; show sext 8 (m % 256 ^ 8) = m; exact sext8 m hm1 trivial
      · right; refine ⟨by decide, fun _ => ?_, fun h => absurd (by decide) h⟩; show sext 1 (m % 256 ^ 1) = m; exact sext1 m hm1 (by omega)
    · have hpk : pickC (10 : Int).toNat false = 114 ∧ pickC (10 : Int).toNat true = 114 := by decide
      rw [hpk.1, hpk.2] at hc'
      clear hpk
      have hf1 := num.2.2.2.1 (by omega); clear num
      clear h00
      have : c = 114 := by omega
      clear hc'
      subst this
      right; refine ⟨by decide, fun h => absurd h (by decide), fun _ => ⟨?_, ?_⟩⟩; (show m < 256 ^ 4; omega); (simp [formC]; try omega)
    · have hpk : pickC (11 : Int).toNat false = 130 ∧ pickC (11 : Int).toNat true = 130 := by decide
      rw [hpk.1, hpk.2] at hc'
      clear hpk
      clear num
      clear h00
      have : c = 130 := by omega
      clear hc'
      subst this
      right; refine ⟨by decide, fun h => absurd h (by decide), fun _ => ⟨?_, ?_⟩⟩; (show m < 256 ^ 8; omega); (simp [formC]; try omega)
    · have hpk : pickC (12 : Int).toNat false = 116 ∧ pickC (12 : Int).toNat true = 116 := by decide
      rw [hpk.1, hpk.2] at hc'
      clear hpk
      have hf1 := num.2.2.2.1 (by omega); clear num
      clear h00
      have : c = 116 := by omega
      clear hc'
      subst this
      right; refine ⟨by decide, fun h => absurd h (by decide), fun _ => ⟨?_, ?_⟩⟩; (show m < 256 ^ 4; omega); (simp [formC]; try omega)
    · have hpk : pickC (13 : Int).toNat false = 132 ∧ pickC (13 : Int).toNat true = 132 := by decide
      rw [hpk.1, hpk.2] at hc'
      clear hpk
      clear num
      clear h00
      have : c = 132 := by omega
      clear hc'
      subst this
      right; refine ⟨by decide, fun h => absurd h (by decide), fun _ => ⟨?_, ?_⟩⟩; (show m < 256 ^ 8; omega); (simp [formC]; try omega)
    · have hpk : pickC (15 : Int).toNat false = 115 ∧ pickC (15 : Int).toNat true = 115 := by decide
      rw [hpk.1, hpk.2] at hc'
      clear hpk
      have hf1 := num.2.2.2.2.2.2.2 rfl; clear num
      clear h00
      have : c = 115 := by omega
      clear hc'
      subst this
      right; refine ⟨by decide, fun h => absurd h (by decide), fun _ => ⟨?_, ?_⟩⟩; (show m < 256 ^ 4; omega); (simp [formC]; try omega)
    · have hpk : pickC (16 : Int).toNat false = 131 ∧ pickC (16 : Int).toNat true = 131 := by decide
      rw [hpk.1, hpk.2] at hc'
      clear hpk
      clear num
      clear h00
      have : c = 131 := by omega
      clear hc'
      subst this
      right; refine ⟨by decide, fun h => absurd h (by decide), fun _ => ⟨?_, ?_⟩⟩; (show m < 256 ^ 8; omega); (simp [formC]; try omega)
  rcases hcase with ⟨hlay, hn⟩ | ⟨hlay, h7, h8⟩
  · rw [if_pos hlay] at hp hfin ⊢
    rw [rdat, if_neg (by omega), if_pos hlay, Int.toNat_of_nonneg k0, hn]
    rfl
  · rw [if_neg (by omega), if_neg (by omega), if_neg (by omega), if_neg (by omega), if_neg (by omega), if_neg (by omega), if_neg (by omega), if_neg (by omega), if_neg (by omega)] at hp hfin ⊢
    rw [digs_length] at hfin ⊢
    rw [rdat, if_neg (by omega), if_neg (by omega), if_neg (by omega), if_neg (by omega), if_neg (by omega), if_neg (by omega), number_back hp hfin (fun h => h7 (by omega)) (fun h => h8 (by omega))]
    simp only
    rw [Int.toNat_of_nonneg k0, hN]
    rfl

end
end Go.Proofs.YtgpimajdcfoigabDoor
namespace Go.Proofs.YtgpimajdcfoigabDoor
set_option linter.unusedVariables false
set_option linter.unusedSimpArgs false
section
variable (B : Nat → ByteArray → Int) (W : List T → Bool)
theorem dat_back : ∀ v : V, DatBack B W v.t := by
  refine V.ind ?_
  intro k n s a0 c0 e l0 ih
  rw [V.t_of]
  have ih' : ∀ x ∈ V.ts l0, DatBack B W x := fun x hx => by obtain ⟨y, hy, rfl⟩ := t_mem hx; exact ih y hy
  generalize V.ts l0 = l at ih'
  clear ih
  intro f c place p fin sz b hg hc hbd hp hfin
  obtain ⟨hf, own, sub⟩ := (Gd_of _ _ _ _ _ _ _ _ _ _).1 hg
  obtain ⟨f, rfl⟩ : ∃ g, f = g + 1 := ⟨f - 1, by omega⟩
  rw [T_k]
  have k0 := own.k0
  have k1 := own.k1
  by_cases hl : k = 21 ∨ k = 22
  · exact back_list B W k n s e l f c place p fin sz b hl ih' hg hc hbd hp hfin
  by_cases hd : k = 24
  · exact back_desc B W k n s e l f c place p fin sz b hd ih' hg hc hbd hp hfin
  by_cases ha : k = 23
  · exact back_arr B W k n s e l f c place p fin sz b ha ih' hg hc hbd hp hfin
  by_cases ht : k = 18 ∨ k = 19 ∨ k = 20
  · exact back_txt B W k n s e l f c place p fin sz b ht ih' hg hc hbd hp hfin
  by_cases h6 : k = 14 ∨ k = 17
  · exact back_six B W k n s e l f c place p fin sz b h6 ih' hg hc hbd hp hfin
  · exact back_num B W k n s e l f c place p fin sz b (by omega) ih' hg hc hbd hp hfin
/-- read back, of a value with its constructor -/
theorem val_back (v : V) (f p fin : Nat) (sz : Int) (l : List Nat) (hg : Gd B W v.t f) (hb : T.body v.t + 16 < 4294967296) (h : T.enc v.t <+: l.drop p) (hf : p + (T.enc v.t).length ≤ fin) :
    rval B W l f p fin sz = .ok (v.t, p + (T.enc v.t).length) := val_of_dat B W (dat_back B W v) f p fin sz l hg hb h hf
end
end Go.Proofs.YtgpimajdcfoigabDoor
