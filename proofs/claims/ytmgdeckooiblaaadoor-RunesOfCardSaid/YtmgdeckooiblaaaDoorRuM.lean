/- UTF-8: plain mathematics over the model's own decoder. -/
import Derived.Test.YtmgdeckooiblaaaDoorBase
import Derived.Lib.ValidU
import Derived.Lib.DecodeN
import Derived.Lib.RuneBytes
namespace Go.Proofs.YtmgdeckooiblaaaDoor

/-! ### Scalars and their encodings -/
def scal (p : Int) : Prop := 0 ≤ p ∧ p ≤ 1114111 ∧ (p < 55296 ∨ 57343 < p)
instance (p : Int) : Decidable (scal p) := by unfold scal; infer_instance
/-- The numbers of a scalar's bytes. -/
def encN (p : Nat) : List Nat :=
  if p < 128 then [p] else if p < 2048 then [192 + p / 64, 128 + p % 64]
  else if p < 65536 then [224 + p / 4096, 128 + p / 64 % 64, 128 + p % 64]
  else [240 + p / 262144, 128 + p / 4096 % 64, 128 + p / 64 % 64, 128 + p % 64]
def enc (p : Nat) : List UInt8 := (encN p).map UInt8.ofNat
def encs (l : List Nat) : List UInt8 := l.flatMap enc
theorem encN_byte {p : Nat} (h : scal p) : ∀ x ∈ encN p, x < 256 := by
  unfold scal at h
  intro x hx
  unfold encN at hx
  split at hx
  · simp at hx; omega
  · split at hx
    · simp at hx; omega
    · split at hx
      · simp at hx; omega
      · simp at hx; omega
theorem enc_len (p : Nat) : 1 ≤ (enc p).length ∧ (enc p).length ≤ 4 := by
  unfold enc encN
  split
  · simp
  · split
    · simp
    · split <;> simp
theorem encs_cons (p : Nat) (l : List Nat) : encs (p :: l) = enc p ++ encs l := rfl
theorem encs_append (a b : List Nat) : encs (a ++ b) = encs a ++ encs b := by simp [encs]
theorem encs_len (l : List Nat) : l.length ≤ (encs l).length ∧ (encs l).length ≤ 4 * l.length := by
  induction l with
  | nil => simp [encs]
  | cons p l ih => have := enc_len p; rw [encs_cons, List.length_append, List.length_cons]; omega
theorem enc_lib {p : Nat} (h : scal p) : Lib.encodeRune (p : Int) = enc p := by
  unfold scal at h
  unfold Lib.encodeRune enc encN
  by_cases h1 : p < 128
  · rw [if_pos h1, Lib.encodeRuneZ_one (by omega) (by omega)]; simp
  · rw [if_neg h1]
    by_cases h2 : p < 2048
    · rw [if_pos h2, Lib.encodeRuneZ_two (by omega) (by omega)]
      simp only [List.map_cons, List.map_nil]
      rw [show (192 + (p : Int) / 64).toNat = 192 + p / 64 by omega, show (128 + (p : Int) % 64).toNat = 128 + p % 64 by omega]
    · rw [if_neg h2]
      by_cases h3 : p < 65536
      · rw [if_pos h3, Lib.encodeRuneZ_three (by omega)]
        simp only [List.map_cons, List.map_nil]
        rw [show (224 + (p : Int) / 4096).toNat = 224 + p / 4096 by omega, show (128 + (p : Int) / 64 % 64).toNat = 128 + p / 64 % 64 by omega, show (128 + (p : Int) % 64).toNat = 128 + p % 64 by omega]
      · rw [if_neg h3, Lib.encodeRuneZ_four (by omega) (by omega)]
        simp only [List.map_cons, List.map_nil]
        rw [show (240 + (p : Int) / 262144).toNat = 240 + p / 262144 by omega, show (128 + (p : Int) / 4096 % 64).toNat = 128 + p / 4096 % 64 by omega, show (128 + (p : Int) / 64 % 64).toNat = 128 + p / 64 % 64 by omega, show (128 + (p : Int) % 64).toNat = 128 + p % 64 by omega]

/-! ### The model's decoder -/
/-- The byte at a place, as a number; 0 beyond the end. -/
def bt (l : List UInt8) (i : Nat) : Nat := (l.getD i 0).toNat
theorem bt_lt (l : List UInt8) (i : Nat) : bt l i < 256 := UInt8.toNat_lt _
theorem decL (l : List UInt8) : Lib.decodeL l = Lib.decodeN l.length (bt l 0) (bt l 1) (bt l 2) (bt l 3) := by
  have hg : ∀ i, (ByteArray.mk l.toArray).get! i = l.getD i 0 := by
    intro i
    show (l.toArray)[i]! = _
    simp [List.getD_eq_getElem?_getD, Array.getElem!_eq_getD, Array.getD_eq_getD_getElem?]
    rfl
  unfold Lib.decodeL
  rw [Lib.decode_at]
  simp only [hg, bt]
  rfl
/-- A step of the decoder that is no error. -/
def gd (l : List UInt8) : Option (Nat × Nat) := if (Lib.decodeL l).1 = 65533 ∧ (Lib.decodeL l).2 = 1 then none else some (Lib.decodeL l)

theorem bt_append (a r : List UInt8) (i : Nat) (h : i < a.length) : bt (a ++ r) i = (a[i]).toNat := by
  unfold bt
  rw [List.getD_eq_getElem?_getD, List.getElem?_append_left h, List.getElem?_eq_getElem h]
  rfl
theorem ofNat_toNat' (x : Nat) (h : x < 256) : (UInt8.ofNat x).toNat = x := by rw [UInt8.toNat_ofNat']; omega

/-- What is encoded is decoded. -/
theorem dec_enc {p : Nat} (h : scal p) (r : List UInt8) : Lib.decodeL (enc p ++ r) = (p, (enc p).length) := by
  unfold scal at h
  rw [decL]
  unfold enc encN
  by_cases h1 : p < 128
  · rw [if_pos h1]
    have e0 : bt ([p].map UInt8.ofNat ++ r) 0 = p := ofNat_toNat' p (by omega)
    unfold Lib.decodeN
    rw [e0, if_pos h1]; rfl
  · rw [if_neg h1]
    by_cases h2 : p < 2048
    · rw [if_pos h2]
      have e0 : bt ([192 + p / 64, 128 + p % 64].map UInt8.ofNat ++ r) 0 = 192 + p / 64 := ofNat_toNat' _ (by omega)
      have e1 : bt ([192 + p / 64, 128 + p % 64].map UInt8.ofNat ++ r) 1 = 128 + p % 64 := ofNat_toNat' _ (by omega)
      have el : 1 < ([192 + p / 64, 128 + p % 64].map UInt8.ofNat ++ r).length := by simp
      unfold Lib.decodeN
      rw [e0, e1, if_neg (by omega), if_pos ⟨by omega, el, by omega⟩, if_pos (by omega)]
      refine Prod.ext ?_ rfl
      show (192 + p / 64) % 32 * 64 + (128 + p % 64) % 64 = p
      omega
    · rw [if_neg h2]
      by_cases h3 : p < 65536
      · rw [if_pos h3]
        have e0 : bt ([224 + p / 4096, 128 + p / 64 % 64, 128 + p % 64].map UInt8.ofNat ++ r) 0 = 224 + p / 4096 := ofNat_toNat' _ (by omega)
        have e1 : bt ([224 + p / 4096, 128 + p / 64 % 64, 128 + p % 64].map UInt8.ofNat ++ r) 1 = 128 + p / 64 % 64 := ofNat_toNat' _ (by omega)
        have e2 : bt ([224 + p / 4096, 128 + p / 64 % 64, 128 + p % 64].map UInt8.ofNat ++ r) 2 = 128 + p % 64 := ofNat_toNat' _ (by omega)
        have el : 2 < ([224 + p / 4096, 128 + p / 64 % 64, 128 + p % 64].map UInt8.ofNat ++ r).length := by simp
        have ep : (224 + p / 4096) % 16 * 4096 + (128 + p / 64 % 64) % 64 * 64 + (128 + p % 64) % 64 = p := by omega
        unfold Lib.decodeN
        rw [e0, e1, e2, ep, if_neg (by omega), if_neg (by omega), if_pos ⟨by omega, ⟨by omega, by omega⟩, el, by omega⟩, if_pos ⟨by omega, by omega⟩]
        rfl
      · rw [if_neg h3]
        have e0 : bt ([240 + p / 262144, 128 + p / 4096 % 64, 128 + p / 64 % 64, 128 + p % 64].map UInt8.ofNat ++ r) 0 = 240 + p / 262144 := ofNat_toNat' _ (by omega)
        have e1 : bt ([240 + p / 262144, 128 + p / 4096 % 64, 128 + p / 64 % 64, 128 + p % 64].map UInt8.ofNat ++ r) 1 = 128 + p / 4096 % 64 := ofNat_toNat' _ (by omega)
        have e2 : bt ([240 + p / 262144, 128 + p / 4096 % 64, 128 + p / 64 % 64, 128 + p % 64].map UInt8.ofNat ++ r) 2 = 128 + p / 64 % 64 := ofNat_toNat' _ (by omega)
        have e3 : bt ([240 + p / 262144, 128 + p / 4096 % 64, 128 + p / 64 % 64, 128 + p % 64].map UInt8.ofNat ++ r) 3 = 128 + p % 64 := ofNat_toNat' _ (by omega)
        have el : 3 < ([240 + p / 262144, 128 + p / 4096 % 64, 128 + p / 64 % 64, 128 + p % 64].map UInt8.ofNat ++ r).length := by simp
        have ep : (240 + p / 262144) % 8 * 262144 + (128 + p / 4096 % 64) % 64 * 4096 + (128 + p / 64 % 64) % 64 * 64 + (128 + p % 64) % 64 = p := by omega
        unfold Lib.decodeN
        rw [e0, e1, e2, e3, ep, if_neg (by omega), if_neg (by omega), if_neg (by omega), if_pos ⟨by omega, ⟨by omega, by omega⟩, ⟨by omega, by omega⟩, el, by omega⟩, if_pos ⟨by omega, by omega⟩]
        rfl
theorem gd_enc {p : Nat} (h : scal p) (r : List UInt8) : gd (enc p ++ r) = some (p, (enc p).length) := by
  unfold gd
  rw [dec_enc h, if_neg]
  rintro ⟨h1, h2⟩
  simp only at h1 h2
  subst h1
  have : (enc 65533).length = 3 := rfl
  omega

theorem byte_of (l : List UInt8) (i x : Nat) (h : i < l.length) (hx : bt l i = x) : l[i] = UInt8.ofNat x := by
  subst hx
  unfold bt
  rw [List.getD_eq_getElem?_getD, List.getElem?_eq_getElem h]
  simp
theorem take_bytes : ∀ (l : List UInt8) (n : Nat) (xs : List Nat), xs.length = n → n ≤ l.length → (∀ i (h : i < xs.length), bt l i = xs[i]) → l.take n = xs.map UInt8.ofNat := fun l n xs hn hl hx => by
  apply List.ext_getElem
  · simp; omega
  · intro i h1 h2
    have h3 : i < xs.length := by simpa using h2
    rw [List.getElem_take, List.getElem_map]
    exact byte_of l i _ (by omega) (hx i h3)
/-- What is decoded was encoded. -/
theorem gd_some {l : List UInt8} {p n : Nat} (hl : l ≠ []) (h : gd l = some (p, n)) : scal p ∧ n = (enc p).length ∧ n ≤ l.length ∧ l.take n = enc p := by
  have hl0 : 0 < l.length := List.length_pos_iff.2 hl
  unfold gd at h
  split at h
  · cases h
  rename_i hbad
  have hd : Lib.decodeL l = (p, n) := Option.some.inj h
  rw [hd] at hbad
  rw [decL] at hd
  have hb0 := bt_lt l 0
  have hb1 := bt_lt l 1
  have hb2 := bt_lt l 2
  have hb3 := bt_lt l 3
  have key : ∀ (n' : Nat) (xs : List Nat), xs = encN p → xs.length = n' → n = n' → n' ≤ l.length → (∀ i (h : i < xs.length), bt l i = xs[i]) → n = (enc p).length ∧ n ≤ l.length ∧ l.take n = enc p := by
    rintro n' xs rfl h1 rfl h3 h4
    exact ⟨by unfold enc; rw [List.length_map, h1], h3, take_bytes l n _ h1 h3 h4⟩
  unfold Lib.decodeN at hd
  split at hd
  · rename_i h1
    injection hd with e1 e2
    subst e1
    refine ⟨⟨by omega, by omega, by omega⟩, key 1 [bt l 0] (by unfold encN; rw [if_pos h1]) rfl e2.symm (by omega) (fun i hi => ?_)⟩
    obtain rfl : i = 0 := by simpa using hi
    rfl
  · rename_i h1
    split at hd
    · rename_i h2
      split at hd
      · rename_i h3
        injection hd with e1 e2
        have hp : p < 2048 := by omega
        have hp2 : 128 ≤ p := by omega
        refine ⟨⟨by omega, by omega, by omega⟩, key 2 [192 + p / 64, 128 + p % 64] (by unfold encN; rw [if_neg (by omega), if_pos hp]) rfl e2.symm (by omega) (fun i hi => ?_)⟩
        match i, hi with
        | 0, _ => show bt l 0 = 192 + p / 64; omega
        | 1, _ => show bt l 1 = 128 + p % 64; omega
      · injection hd with e1 e2; exact absurd ⟨e1.symm, e2.symm⟩ hbad
    · rename_i h2
      split at hd
      · rename_i h3
        split at hd
        · rename_i h4
          injection hd with e1 e2
          have hp : p < 65536 := by omega
          have hp2 : 2048 ≤ p := by omega
          refine ⟨⟨by omega, by omega, by omega⟩, key 3 [224 + p / 4096, 128 + p / 64 % 64, 128 + p % 64] (by unfold encN; rw [if_neg (by omega), if_neg (by omega), if_pos hp]) rfl e2.symm (by omega) (fun i hi => ?_)⟩
          match i, hi with
          | 0, _ => show bt l 0 = 224 + p / 4096; omega
          | 1, _ => show bt l 1 = 128 + p / 64 % 64; omega
          | 2, _ => show bt l 2 = 128 + p % 64; omega
        · injection hd with e1 e2; exact absurd ⟨e1.symm, e2.symm⟩ hbad
      · rename_i h3
        split at hd
        · rename_i h4
          split at hd
          · rename_i h5
            injection hd with e1 e2
            have hp2 : 65536 ≤ p := by omega
            have hp3 : p ≤ 1114111 := by omega
            refine ⟨⟨by omega, by omega, by omega⟩, key 4 [240 + p / 262144, 128 + p / 4096 % 64, 128 + p / 64 % 64, 128 + p % 64] (by unfold encN; rw [if_neg (by omega), if_neg (by omega), if_neg (by omega)]) rfl e2.symm (by omega) (fun i hi => ?_)⟩
            match i, hi with
            | 0, _ => show bt l 0 = 240 + p / 262144; omega
            | 1, _ => show bt l 1 = 128 + p / 4096 % 64; omega
            | 2, _ => show bt l 2 = 128 + p / 64 % 64; omega
            | 3, _ => show bt l 3 = 128 + p % 64; omega
          · injection hd with e1 e2; exact absurd ⟨e1.symm, e2.symm⟩ hbad
        · injection hd with e1 e2; exact absurd ⟨e1.symm, e2.symm⟩ hbad

/-! ### The scalars of a string -/
def ptsF : Nat → List UInt8 → Option (List Nat)
  | 0, _ => some []
  | f + 1, l => if l = [] then some [] else match gd l with | none => none | some (p, n) => (ptsF f (l.drop n)).map (p :: ·)
def pts (l : List UInt8) : Option (List Nat) := ptsF l.length l
theorem ptsF_valid : ∀ (f : Nat) (l : List UInt8), Lib.validGoD f l = (ptsF f l).isSome
  | 0, l => rfl
  | f + 1, l => by
    unfold Lib.validGoD ptsF gd
    by_cases h : l = []
    · rw [if_pos h, if_pos h]; rfl
    · rw [if_neg h, if_neg h]
      by_cases hb : (Lib.decodeL l).1 = 65533 ∧ (Lib.decodeL l).2 = 1
      · rw [if_pos hb, if_pos hb]; rfl
      · rw [if_neg hb, if_neg hb, ptsF_valid f]
        show _ = (Option.map _ (ptsF f (l.drop (Lib.decodeL l).2))).isSome
        cases ptsF f (l.drop (Lib.decodeL l).2) <;> rfl
theorem pts_valid (l : List UInt8) : Lib.validD l = (pts l).isSome := ptsF_valid l.length l
theorem ptsF_encs : ∀ (f : Nat) (l : List UInt8) (ps : List Nat), l.length ≤ f → ptsF f l = some ps → encs ps = l ∧ ∀ p ∈ ps, scal p
  | 0, l, ps, hf, h => by
    obtain rfl : l = [] := List.eq_nil_of_length_eq_zero (by omega)
    have : ps = [] := by simpa [ptsF] using h.symm
    subst this; exact ⟨rfl, by simp⟩
  | f + 1, l, ps, hf, h => by
    unfold ptsF at h
    by_cases hl : l = []
    · rw [if_pos hl] at h
      have : ps = [] := by simpa using h.symm
      subst this hl; exact ⟨rfl, by simp⟩
    · rw [if_neg hl] at h
      cases hg : gd l with
      | none => rw [hg] at h; cases h
      | some q =>
        obtain ⟨p, n⟩ := q
        rw [hg] at h
        obtain ⟨h1, h2, h3, h4⟩ := gd_some hl hg
        have hn := (enc_len p).1
        cases hr : ptsF f (l.drop n) with
        | none => simp [hr] at h
        | some qs =>
          have : ps = p :: qs := by simpa [hr] using h.symm
          subst this
          obtain ⟨i1, i2⟩ := ptsF_encs f (l.drop n) qs (by rw [List.length_drop]; omega) hr
          refine ⟨by rw [encs_cons, i1, ← h4, List.take_append_drop], fun x hx => ?_⟩
          rcases List.mem_cons.1 hx with rfl | hx
          · exact h1
          · exact i2 x hx
theorem ptsF_of : ∀ (ps : List Nat) (f : Nat), (∀ p ∈ ps, scal p) → (encs ps).length ≤ f → ptsF f (encs ps) = some ps
  | [], 0, _, _ => rfl
  | [], f + 1, _, _ => by
    have e : encs [] = [] := rfl
    rw [e]; unfold ptsF; exact if_pos rfl
  | p :: ps, f, h, hf => by
    have hn := (enc_len p).1
    rw [encs_cons, List.length_append] at hf
    obtain ⟨g, rfl⟩ : ∃ g, f = g + 1 := ⟨f - 1, by omega⟩
    unfold ptsF
    rw [if_neg (by rw [encs_cons]; intro e; have := congrArg List.length e; simp at this; rw [this.1] at hn; simp at hn), encs_cons, gd_enc (h p (by simp))]
    show Option.map _ (ptsF g ((enc p ++ encs ps).drop (enc p).length)) = _
    rw [List.drop_left, ptsF_of ps g (fun x hx => h x (by simp [hx])) (by omega)]
    rfl
theorem pts_encs {l : List UInt8} {ps : List Nat} (h : pts l = some ps) : encs ps = l ∧ ∀ p ∈ ps, scal p := ptsF_encs _ _ _ (Nat.le_refl _) h
theorem pts_of {ps : List Nat} (h : ∀ p ∈ ps, scal p) : pts (encs ps) = some ps := ptsF_of ps _ h (Nat.le_refl _)
theorem encs_inj {a b : List Nat} (ha : ∀ p ∈ a, scal p) (hb : ∀ p ∈ b, scal p) (h : encs a = encs b) : a = b := by
  have h1 := pts_of ha
  rw [h, pts_of hb] at h1
  exact (Option.some.inj h1).symm
/-- A step of pts. -/
theorem pts_step {l : List UInt8} (hl : l ≠ []) : pts l = match gd l with | none => none | some (p, n) => (pts (l.drop n)).map (p :: ·) := by
  cases hg : gd l with
  | none =>
    obtain ⟨f, hf⟩ : ∃ f, l.length = f + 1 := ⟨l.length - 1, by have := List.length_pos_iff.2 hl; omega⟩
    unfold pts
    rw [hf, ptsF, if_neg hl, hg]
  | some q =>
    obtain ⟨p, n⟩ := q
    obtain ⟨h1, h2, h3, h4⟩ := gd_some hl hg
    show pts l = (pts (l.drop n)).map (p :: ·)
    have e : l = enc p ++ l.drop n := by rw [← h4, List.take_append_drop]
    cases hr : pts (l.drop n) with
    | some qs =>
      obtain ⟨i1, i2⟩ := pts_encs hr
      rw [e, ← i1]
      show pts (encs (p :: qs)) = _
      rw [pts_of]
      · rfl
      · intro x hx
        rcases List.mem_cons.1 hx with rfl | hx
        · exact h1
        · exact i2 x hx
    | none =>
      cases hp : pts l with
      | none => rfl
      | some ps =>
        exfalso
        obtain ⟨i1, i2⟩ := pts_encs hp
        cases ps with
        | nil => exact hl i1.symm
        | cons x xs =>
          rw [encs_cons] at i1
          have g1 := gd_enc (i2 x (by simp)) (encs xs)
          rw [i1, hg] at g1
          injection g1 with g1
          injection g1 with g1 g2
          rw [← i1, g2, List.drop_left, pts_of fun y hy => i2 y (by simp [hy])] at hr
          cases hr
end Go.Proofs.YtmgdeckooiblaaaDoor
