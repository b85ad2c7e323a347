/- Reading what was written, whole or cut; and writing what was read. -/
import Derived.Test.YthfcegfmciaajaaWireO
namespace Go.Proofs.Ythfcegfmciaajaa
open Go.RowKit

theorem cB_drop {l r : List UInt8} {j : Nat} {c : UInt8} (h : l.drop j = c :: r) : cB l j = c.toNat ∧ l.drop (j + 1) = r ∧ j < l.length := by
  have hj : j < l.length := by
    rcases Nat.lt_or_ge j l.length with h1 | h1
    · exact h1
    · rw [List.drop_eq_nil_of_le h1] at h; cases h
  rw [List.drop_eq_getElem_cons hj] at h
  injection h with h1 h2
  exact ⟨by rw [cB_in hj, h1], h2, hj⟩
theorem encU_pos (f u : Nat) : 0 < (encU f u).length := by
  cases f with
  | zero => simp [encU]
  | succ f => rw [encU]; split <;> simp
theorem nat_u8 {u : Nat} (h : u < 256) : (UInt8.ofNat u).toNat = u := by simp; omega

/-- A number that was written, read. -/
theorem enc_read (l t : List UInt8) (a : Nat) : ∀ f u i, l.drop (a + i) = encU f u ++ t → u < 2 * 128 ^ f → f + i ≤ 9 →
    ∃ m, (encU f u).length = m + 1 ∧ kOf l a i (10 - i) = i + m ∧ cB l (a + (i + m)) < 128 ∧ a + (i + m) < l.length ∧ (1 ≤ u → 0 < cB l (a + (i + m))) ∧ (0 < m → 1 ≤ u) ∧ (i + m = 9 → f = m → cB l (a + (i + m)) ≤ 1) ∧ m ≤ f ∧ valL l a (i + m + 1) = valL l a i + u * 128 ^ i := by
  intro f
  induction f with
  | zero =>
    intro u i h hu hi
    have hu' : u < 2 := by simpa using hu
    rw [encU, List.singleton_append] at h
    obtain ⟨h1, h2, h3⟩ := cB_drop h
    rw [nat_u8 (by omega)] at h1
    refine ⟨0, by simp [encU], kOf_stop (by omega) (by omega), ?_, h3, ?_, by omega, ?_, by omega, ?_⟩
    · show cB l (a + i) < 128; omega
    · intro hp; show 0 < cB l (a + i); omega
    · intro _ _; show cB l (a + i) ≤ 1; omega
    · show valL l a (i + 1) = _
      rw [valL, h1, Nat.mod_eq_of_lt (by omega)]
  | succ f ih =>
    intro u i h hu hi
    by_cases hs : u < 128
    · rw [encU_last hs, List.singleton_append] at h
      obtain ⟨h1, h2, h3⟩ := cB_drop h
      rw [nat_u8 (by omega)] at h1
      refine ⟨0, by simp [encU_last hs], kOf_stop (by omega) (by omega), ?_, h3, ?_, by omega, ?_, by omega, ?_⟩
      · show cB l (a + i) < 128; omega
      · intro hp; show 0 < cB l (a + i); omega
      · intro h9 hf; omega
      · show valL l a (i + 1) = _
        rw [valL, h1, Nat.mod_eq_of_lt (by omega)]
    · have he : encU (f + 1) u = UInt8.ofNat (u % 128 + 128) :: encU f (u / 128) := by rw [encU, if_neg hs]
      rw [he, List.cons_append] at h
      obtain ⟨h1, h2, h3⟩ := cB_drop h
      rw [nat_u8 (by omega)] at h1
      obtain ⟨m, i1, i2, i3, i4, i5, i6, i7, i8, i9⟩ := ih (u / 128) (i + 1) (by rw [← h2]; rfl) (by rw [Nat.pow_succ] at hu; omega) (by omega)
      have e : i + (m + 1) = i + 1 + m := by omega
      refine ⟨m + 1, by rw [he, List.length_cons, i1], ?_, ?_, ?_, ?_, by omega, ?_, by omega, ?_⟩
      · rw [kOf_go (by omega) (by omega), i2, e]
      · rw [e]; exact i3
      · rw [e]; exact i4
      · intro _; rw [e]; exact i5 (by omega)
      · intro h9 hf; rw [e]; exact i7 (by omega) (by omega)
      · rw [e, i9, valL, h1, show (u % 128 + 128) % 128 = u % 128 by omega, Nat.pow_succ]
        have : u % 128 * 128 ^ i + u / 128 * (128 ^ i * 128) = u * 128 ^ i := by
          rw [Nat.mul_comm (128 ^ i) 128, ← Nat.mul_assoc, ← Nat.add_mul]
          congr 1
          omega
        omega

theorem sgn_zigzag (n : Int) : sgn (Lib.zigzag n) = n := by
  unfold sgn Lib.zigzag
  by_cases h : 0 ≤ n
  · rw [if_pos h, if_neg (by omega)]; omega
  · rw [if_neg h, if_pos (by omega)]; omega
theorem zigzag_sgn (u : Nat) : Lib.zigzag (sgn u) = u := by
  unfold sgn Lib.zigzag
  by_cases h : u % 2 = 1
  · rw [if_pos h, if_neg (by omega)]; omega
  · rw [if_neg h, if_pos (by omega)]; omega

/-- What was written at the end of p is read there, whatever follows. -/
theorem int_back (p t : List UInt8) (n : Int) (hn : Fits n) : intE (p ++ encI n ++ t) p.length = 0 ∧ intN (p ++ encI n ++ t) p.length = n ∧ intTo (p ++ encI n ++ t) p.length = ((p ++ encI n).length : Int) := by
  have hd : (p ++ encI n ++ t).drop (p.length + 0) = encU 9 (Lib.zigzag n) ++ t := by
    rw [List.append_assoc, Nat.add_zero, List.drop_append_of_le_length (Nat.le_refl _), List.drop_length, List.nil_append]
    rfl
  have hu := Lib.zigzag_lt hn.1 hn.2
  obtain ⟨m, i1, i2, i3, i4, i5, i6, i7, i8, i9⟩ := enc_read _ t p.length 9 (Lib.zigzag n) 0 hd (by rw [show (2 * 128 ^ 9 : Nat) = 18446744073709551616 by decide]; exact hu) (by omega)
  simp only [Nat.zero_add] at i2 i3 i4 i5 i7 i9
  obtain ⟨e1, e2, e3⟩ := int_ok (l := p ++ encI n ++ t) (a := p.length) (n := m) (by simp) i2 (by omega) i4 (by
    rintro (⟨h1, h2⟩ | ⟨h1, h2⟩)
    · have := i5 (i6 h1); omega
    · have := i7 h1 h1.symm; omega)
  refine ⟨e1, ?_, ?_⟩
  · rw [e2, i9]
    show sgn (0 + Lib.zigzag n * 1) = n
    rw [Nat.zero_add, Nat.mul_one, sgn_zigzag]
  · rw [e3, List.length_append]
    have : (encI n).length = m + 1 := i1
    omega

/-- A number that was cut. -/
theorem enc_cut (l : List UInt8) (a : Nat) : ∀ f u i c, l.drop (a + i) = (encU f u).take c → c < (encU f u).length → f + i ≤ 9 → kOf l a i (10 - i) = i + c := by
  intro f
  induction f with
  | zero =>
    intro u i c h hc hi
    have hc0 : c = 0 := by simpa [encU] using hc
    subst hc0
    have ho : cB l (a + i) = 0 := cB_out (by simpa using h)
    rw [kOf_stop (by omega) (by omega)]
    rfl
  | succ f ih =>
    intro u i c h hc hi
    cases c with
    | zero =>
      have ho : cB l (a + i) = 0 := cB_out (by simpa using h)
      rw [kOf_stop (by omega) (by omega)]
      rfl
    | succ c =>
      have hs : ¬ u < 128 := by intro hs; rw [encU_last hs] at hc; simp at hc
      have he : encU (f + 1) u = UInt8.ofNat (u % 128 + 128) :: encU f (u / 128) := by rw [encU, if_neg hs]
      rw [he, List.take_succ_cons] at h
      rw [he, List.length_cons] at hc
      obtain ⟨h1, h2, h3⟩ := cB_drop h
      rw [nat_u8 (by omega)] at h1
      rw [kOf_go (by omega) (by omega), ih (u / 128) (i + 1) c (by rw [← h2]; rfl) (by omega) (by omega)]
      omega
theorem int_cut (p : List UInt8) (n : Int) (c : Nat) (hc : c < (encI n).length) : intE (p ++ (encI n).take c) p.length = 4 := by
  have hd : (p ++ (encI n).take c).drop (p.length + 0) = (encU 9 (Lib.zigzag n)).take c := by
    rw [Nat.add_zero, List.drop_append_of_le_length (Nat.le_refl _), List.drop_length, List.nil_append]
    rfl
  have hk := enc_cut _ p.length 9 (Lib.zigzag n) 0 c hd hc (by omega)
  rw [Nat.zero_add] at hk
  have h10 := encI_len n
  rw [intE_in (by simp)]
  unfold errAt
  simp only [show 10 - 0 = 10 from rfl] at hk
  simp only [hk]
  rw [if_neg (by omega), if_pos (by rw [List.length_append, List.length_take]; omega)]

/-- The length of a list that was written. -/
theorem len_back (p t : List UInt8) (n : Nat) (hn : n ≤ 100000) : lenE (p ++ encI n ++ t) p.length = 0 ∧ lenN (p ++ encI n ++ t) p.length = n ∧ lenTo (p ++ encI n ++ t) p.length = ((p ++ encI n).length : Int) := by
  obtain ⟨e1, e2, e3⟩ := int_back p t (n : Int) ⟨by omega, by omega⟩
  obtain ⟨k1, k2, k3⟩ := len_ok e1 (by rw [e2]; omega)
  exact ⟨k1, k2.trans e2, k3.trans e3⟩
theorem len_cut (p : List UInt8) (n : Int) (c : Nat) (hc : c < (encI n).length) : lenE (p ++ (encI n).take c) p.length = 4 :=
  (len_bad (int_cut p n c hc) (by decide)).1

/-- A text that was written, whole and cut. -/
theorem text_back (p t s : List UInt8) (hs : s.length ≤ 100000) : textS (p ++ encI s.length ++ s ++ t) p.length = s ∧ textTo (p ++ encI s.length ++ s ++ t) p.length = ((p ++ encI s.length ++ s).length : Int) ∧ textE (p ++ encI s.length ++ s ++ t) p.length = 0 := by
  obtain ⟨e1, e2, e3⟩ := len_back p (s ++ t) s.length hs
  rw [← List.append_assoc] at e1 e2 e3
  have h0 : textE (p ++ encI s.length ++ s ++ t) p.length = 0 := by
    unfold textE
    rw [if_pos e1, e2, e3, if_neg]
    simp only [List.length_append]
    omega
  refine ⟨?_, ?_, h0⟩
  · unfold textS
    rw [if_pos h0, e2, e3, Int.toNat_natCast, Int.toNat_natCast, List.append_assoc, List.drop_append_of_le_length (Nat.le_refl _), List.drop_length, List.nil_append, List.take_append_of_le_length (Nat.le_refl _), List.take_length]
  · unfold textTo
    rw [if_pos h0, e2, e3, List.length_append (bs := s)]
    omega
theorem text_cut (p s : List UInt8) (hs : s.length ≤ 100000) (c : Nat) (hc : c < (encI s.length ++ s).length) : textE (p ++ (encI s.length ++ s).take c) p.length = 4 := by
  by_cases h : c < (encI s.length).length
  · rw [List.take_append_of_le_length (by omega)]
    have := len_cut p s.length c h
    unfold textE
    rw [if_neg (by rw [this]; decide), this]
  · have e : (encI s.length ++ s).take c = encI s.length ++ s.take (c - (encI s.length).length) := by rw [List.take_append, List.take_of_length_le (by omega)]
    obtain ⟨e1, e2, e3⟩ := len_back p (s.take (c - (encI s.length).length)) s.length hs
    rw [e, ← List.append_assoc]
    unfold textE
    rw [if_pos e1, e2, e3, if_pos]
    simp only [List.length_append, List.length_take] at hc ⊢
    omega

/-- Numbers that were written, whole and cut. -/
theorem ins_back (t : List UInt8) : ∀ (L : List Int) (p : List UInt8), Fit L → insE (p ++ encs L ++ t) L.length p.length = 0 ∧ insL (p ++ encs L ++ t) L.length p.length = L ∧ insT (p ++ encs L ++ t) L.length p.length = ((p ++ encs L).length : Int) := by
  intro L
  induction L with
  | nil => intro p _; simp [insE, insL, insT, encs]
  | cons n L ih =>
    intro p hf
    have ec : encs (n :: L) = encI n ++ encs L := by simp [encs]
    obtain ⟨e1, e2, e3⟩ := int_back p (encs L ++ t) n (hf n (by simp))
    obtain ⟨i1, i2, i3⟩ := ih (p ++ encI n) (fun x hx => hf x (by simp [hx]))
    rw [ec, ← List.append_assoc p (encI n) (encs L)]
    rw [← List.append_assoc] at e1 e2 e3
    refine ⟨?_, ?_, ?_⟩
    · rw [List.length_cons, insE, if_pos e1, e3]; exact i1
    · rw [List.length_cons, insL, e2, e3, i2]
    · rw [List.length_cons, insT, e3]; exact i3
theorem ins_cut : ∀ (L : List Int) (p : List UInt8) (c : Nat), Fit L → c < (encs L).length → insE (p ++ (encs L).take c) L.length p.length = 4 := by
  intro L
  induction L with
  | nil => intro p c _ hc; simp [encs] at hc
  | cons n L ih =>
    intro p c hf hc
    have ec : encs (n :: L) = encI n ++ encs L := by simp [encs]
    rw [ec] at hc ⊢
    rw [List.length_append] at hc
    rw [List.length_cons, insE]
    by_cases h : c < (encI n).length
    · rw [List.take_append_of_le_length (by omega)]
      have := int_cut p n c h
      rw [if_neg (by rw [this]; decide), this]
    · have e : (encI n ++ encs L).take c = encI n ++ (encs L).take (c - (encI n).length) := by rw [List.take_append, List.take_of_length_le (by omega)]
      obtain ⟨e1, e2, e3⟩ := int_back p ((encs L).take (c - (encI n).length)) n (hf n (by simp))
      rw [e, ← List.append_assoc, if_pos e1, e3]
      exact ih (p ++ encI n) (c - (encI n).length) (fun x hx => hf x (by simp [hx])) (by omega)
theorem list_back (p t : List UInt8) (L : List Int) (hf : Fit L) (hL : L.length ≤ 100000) : insL' (p ++ encI L.length ++ encs L ++ t) p.length = L ∧ insT' (p ++ encI L.length ++ encs L ++ t) p.length = ((p ++ encI L.length ++ encs L).length : Int) ∧ insE' (p ++ encI L.length ++ encs L ++ t) p.length = 0 := by
  obtain ⟨e1, e2, e3⟩ := len_back p (encs L ++ t) L.length hL
  rw [← List.append_assoc] at e1 e2 e3
  obtain ⟨i1, i2, i3⟩ := ins_back t L (p ++ encI L.length) hf
  have h0 : insE' (p ++ encI L.length ++ encs L ++ t) p.length = 0 := by
    unfold insE'
    rw [if_pos e1, e2, e3, Int.toNat_natCast]
    exact i1
  refine ⟨?_, ?_, h0⟩
  · unfold insL'
    rw [if_pos h0, e2, e3, Int.toNat_natCast]
    exact i2
  · unfold insT'
    rw [if_pos h0, e2, e3, Int.toNat_natCast]
    exact i3
theorem list_cut (p : List UInt8) (L : List Int) (hf : Fit L) (hL : L.length ≤ 100000) (c : Nat) (hc : c < (encI L.length ++ encs L).length) : insE' (p ++ (encI L.length ++ encs L).take c) p.length = 4 := by
  by_cases h : c < (encI L.length).length
  · rw [List.take_append_of_le_length (by omega)]
    have := len_cut p L.length c h
    unfold insE'
    rw [if_neg (by rw [this]; decide), this]
  · have e : (encI L.length ++ encs L).take c = encI L.length ++ (encs L).take (c - (encI L.length).length) := by rw [List.take_append, List.take_of_length_le (by omega)]
    obtain ⟨e1, e2, e3⟩ := len_back p ((encs L).take (c - (encI L.length).length)) L.length hL
    rw [List.length_append] at hc
    rw [e, ← List.append_assoc]
    unfold insE'
    rw [if_pos e1, e2, e3, Int.toNat_natCast]
    exact ins_cut L (p ++ encI L.length) _ hf (by omega)

/-! ### Writing what was read -/
/-- The value of m bytes from the place i on. -/
def tail_ (l : List UInt8) (a : Nat) : Nat → Nat → Nat
  | _, 0 => 0
  | i, m + 1 => cB l (a + i) % 128 + 128 * tail_ l a (i + 1) m
theorem valL_tail (l : List UInt8) (a : Nat) : ∀ m i, valL l a (i + m) = valL l a i + 128 ^ i * tail_ l a i m
  | 0, i => by simp [tail_]
  | m + 1, i => by
    rw [show i + (m + 1) = i + 1 + m by omega, valL_tail l a m (i + 1), valL, tail_, Nat.pow_succ, Nat.mul_add, Nat.mul_assoc, Nat.mul_comm (cB l (a + i) % 128)]
    omega
theorem tail_pos (l : List UInt8) (a : Nat) : ∀ m i, 0 < cB l (a + (i + m)) → cB l (a + (i + m)) < 128 → 0 < tail_ l a i (m + 1)
  | 0, i, h, h2 => by
    rw [tail_, tail_]
    have : cB l (a + i) % 128 = cB l (a + i) := Nat.mod_eq_of_lt h2
    have h' : 0 < cB l (a + i) := h
    omega
  | m + 1, i, h, h2 => by
    have := tail_pos l a m (i + 1) (by rw [show i + 1 + m = i + (m + 1) by omega]; exact h) (by rw [show i + 1 + m = i + (m + 1) by omega]; exact h2)
    rw [tail_]
    omega
theorem kOf_all (l : List UInt8) (a : Nat) : ∀ f i k, kOf l a i f = k → k < i + f → (∀ j, i ≤ j → j < k → 128 ≤ cB l (a + j)) ∧ cB l (a + k) < 128
  | 0, i, k, h, hk => by simp [kOf] at h; omega
  | f + 1, i, k, h, hk => by
    rw [kOf] at h
    by_cases hc : 128 ≤ cB l (a + i)
    · rw [if_pos hc] at h
      obtain ⟨h1, h2⟩ := kOf_all l a f (i + 1) k h (by omega)
      refine ⟨fun j hj hjk => ?_, h2⟩
      rcases Nat.eq_or_lt_of_le hj with e | e
      · exact e ▸ hc
      · exact h1 j e hjk
    · rw [if_neg hc] at h
      subst h
      exact ⟨fun j h1 h2 => by omega, by omega⟩
theorem cB_lt (l : List UInt8) (j : Nat) : cB l j < 256 := UInt8.toNat_lt _
theorem drop_cB {l : List UInt8} {j : Nat} (h : j < l.length) : l.drop j = UInt8.ofNat (cB l j) :: l.drop (j + 1) := by
  rw [List.drop_eq_getElem_cons h, cB_in h]
  congr 1
  simp
theorem enc_again (l : List UInt8) (a : Nat) : ∀ m f i, (∀ j, i ≤ j → j < i + m → 128 ≤ cB l (a + j)) → cB l (a + (i + m)) < 128 → (0 < m → 0 < cB l (a + (i + m))) → m ≤ f → a + (i + m) < l.length →
    encU f (tail_ l a i (m + 1)) = (l.drop (a + i)).take (m + 1)
  | 0, f, i, _, h2, _, _, hin => by
    have e : tail_ l a i 1 = cB l (a + i) := by
      rw [tail_, tail_]
      have : cB l (a + i) % 128 = cB l (a + i) := Nat.mod_eq_of_lt h2
      omega
    have h2' : cB l (a + i) < 128 := h2
    rw [e, encU_last h2', drop_cB (show a + i < l.length from hin)]
    rfl
  | m + 1, f, i, h1, h2, h3, hf, hin => by
    have e : i + (m + 1) = i + 1 + m := by omega
    rw [e] at h2 h3 hin
    have ih := fun g hg => enc_again l a m g (i + 1) (fun j hj hj2 => h1 j (by omega) (by omega)) h2 (fun _ => h3 (by omega)) hg hin
    have hp := tail_pos l a m (i + 1) (h3 (by omega)) h2
    have hc := h1 i (Nat.le_refl _) (by omega)
    have hc2 := cB_lt l (a + i)
    obtain ⟨g, rfl⟩ : ∃ g, f = g + 1 := ⟨f - 1, by omega⟩
    have ht : tail_ l a i (m + 1 + 1) = cB l (a + i) % 128 + 128 * tail_ l a (i + 1) (m + 1) := rfl
    rw [drop_cB (show a + i < l.length by omega), List.take_succ_cons, encU, if_neg (by omega)]
    congr 1
    · congr 1; omega
    · rw [← Nat.add_assoc] at ih
      rw [← ih g (by omega)]
      congr 1
      omega

/-- The bytes of a number that was read are those that are written for it. -/
theorem int_again {l : List UInt8} {a : Nat} (h : intE l (a : Int) = 0) : l.take (intTo l (a : Int)).toNat = l.take a ++ encI (intN l a) := by
  have ha : a ≤ l.length := by
    unfold intE at h
    split at h
    · cases h
    · omega
  have he := h
  rw [intE_in ha] at he
  have hN : intN l a = sgn (valL l a (kOf l a 0 10 + 1)) := by unfold intN; rw [if_pos h, Int.toNat_natCast]
  have hT : intTo l a = (a : Int) + kOf l a 0 10 + 1 := by unfold intTo; rw [if_pos h, Int.toNat_natCast]
  have hk := (kOf_ge l a 10 0).2
  unfold errAt at he
  generalize hK : kOf l a 0 10 = k at *
  simp only at he
  split at he
  · cases he
  split at he
  · cases he
  split at he
  · cases he
  rename_i h1 h2 h3
  obtain ⟨k1, k2⟩ := kOf_all l a 10 0 k hK (by omega)
  have hv := valL_tail l a (k + 1) 0
  rw [Nat.zero_add] at hv
  have hv' : valL l a (k + 1) = tail_ l a 0 (k + 1) := by rw [hv]; simp [valL]
  have hag := enc_again l a k 9 0 (fun j hj hjk => k1 j hj (by omega)) (by rw [Nat.zero_add]; exact k2) (fun h0 => by rw [Nat.zero_add]; omega) (by omega) (by omega)
  rw [hN, hT, hv']
  unfold encI
  rw [zigzag_sgn, hag, show ((a : Int) + k + 1).toNat = a + (k + 1) by omega, List.take_add]
  rfl
theorem len_again {l : List UInt8} {a : Nat} (h : lenE l (a : Int) = 0) : l.take (lenTo l (a : Int)).toNat = l.take a ++ encI (lenN l a) := by
  have h1 : intE l a = 0 ∧ ¬ intN l a < 0 := by
    unfold lenE at h
    split at h
    · split at h
      · cases h
      · exact ⟨by assumption, by assumption⟩
    · exact absurd h (by assumption)
  obtain ⟨_, e2, e3⟩ := len_ok h1.1 h1.2
  rw [e2, e3]
  exact int_again h1.1
theorem text_again {l : List UInt8} {a : Nat} (h : textE l (a : Int) = 0) : l.take (textTo l (a : Int)).toNat = l.take a ++ encI (textS l a).length ++ textS l a ∧ textTo l (a : Int) ≤ l.length ∧ 0 ≤ textTo l (a : Int) := by
  have h1 : lenE l a = 0 := by
    unfold textE at h
    split at h
    · assumption
    · exact h
  have h2 : ¬ ((l.length : Int) - lenTo l a < lenN l a) := by
    unfold textE at h
    rw [if_pos h1] at h
    split at h
    · cases h
    · assumption
  obtain ⟨b1, b2, b3, b4⟩ := len_bd h1
  have hS : textS l a = (l.drop (lenTo l a).toNat).take (lenN l a).toNat := by unfold textS; rw [if_pos h]
  have hT : textTo l a = lenTo l a + lenN l a := by unfold textTo; rw [if_pos h]
  have hl : (textS l a).length = (lenN l a).toNat := by rw [hS, List.length_take, List.length_drop]; omega
  refine ⟨?_, by omega, by omega⟩
  rw [hl, show (((lenN l a).toNat : Nat) : Int) = lenN l a by omega, ← len_again h1, hS, hT, show (lenTo l a + lenN l a).toNat = (lenTo l a).toNat + (lenN l a).toNat by omega, List.take_add]
theorem ins_again (l : List UInt8) : ∀ (n : Nat) (t : Int), insE l n t = 0 → 0 ≤ t → t ≤ l.length → l.take (insT l n t).toNat = l.take t.toNat ++ encs (insL l n t) ∧ 0 ≤ insT l n t ∧ insT l n t ≤ l.length ∧ Fit (insL l n t)
  | 0, t, _, h0, h1 => by simp [insT, insL, encs, h0, h1, Fit]
  | n + 1, t, h, h0, h1 => by
    have hz : intE l t = 0 := by
      rw [insE] at h
      split at h
      · assumption
      · exact h
    have h' : insE l n (intTo l t) = 0 := by rw [insE, if_pos hz] at h; exact h
    obtain ⟨b1, b2, b3⟩ := int_bd hz
    obtain ⟨i1, i2, i3, i4⟩ := ins_again l n (intTo l t) h' (by omega) b2
    obtain ⟨a, rfl⟩ : ∃ a : Nat, t = (a : Int) := ⟨t.toNat, by omega⟩
    refine ⟨?_, i2, i3, ?_⟩
    · rw [insT, i1, int_again hz, insL, Int.toNat_natCast]
      simp [encs]
    · rw [insL]
      intro x hx
      rcases List.mem_cons.1 hx with rfl | hx
      · exact b3
      · exact i4 x hx
theorem list_again {l : List UInt8} {a : Nat} (h : insE' l (a : Int) = 0) : l.take (insT' l (a : Int)).toNat = l.take a ++ encI (insL' l a).length ++ encs (insL' l a) ∧ 0 ≤ insT' l (a : Int) ∧ insT' l (a : Int) ≤ l.length ∧ Fit (insL' l a) ∧ (insL' l a).length ≤ l.length := by
  have h1 : lenE l a = 0 := by
    unfold insE' at h
    split at h
    · assumption
    · exact h
  have h2 : insE l (lenN l a).toNat (lenTo l a) = 0 := by
    unfold insE' at h
    rw [if_pos h1] at h
    exact h
  obtain ⟨b1, b2, b3, b4⟩ := len_bd h1
  obtain ⟨i1, i2, i3, i4⟩ := ins_again l _ _ h2 (by omega) b2
  obtain ⟨c1, c2, c3⟩ := insL_len l _ _ h2
  have hS : insL' l a = insL l (lenN l a).toNat (lenTo l a) := by unfold insL'; rw [if_pos h]
  have hT : insT' l a = insT l (lenN l a).toNat (lenTo l a) := by unfold insT'; rw [if_pos h]
  rw [hS, hT]
  refine ⟨?_, i2, i3, i4, ?_⟩
  · rw [c1, show (((lenN l a).toNat : Nat) : Int) = lenN l a by omega, ← len_again h1]
    exact i1
  · rw [c1]; omega
end Go.Proofs.Ythfcegfmciaajaa
