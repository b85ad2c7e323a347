/- Hashes tell apart; bytes that are changed. -/
import Derived.Test.YtopedbkefncfnaaSumsM
namespace Go.Proofs.Ytopedbkefncfnaa
open Go.RowKit

theorem mul_inj {y y' : Nat} (hy : y < 4611686018427387904) (hy' : y' < 4611686018427387904) (h : (y * 1099511628211) % 4611686018427387904 = (y' * 1099511628211) % 4611686018427387904) : y = y' := by
  have e : ∀ z : Nat, z < 4611686018427387904 → (((z * 1099511628211) % 4611686018427387904) * 1051115900582139259) % 4611686018427387904 = z := by
    intro z hz
    rw [Nat.mod_mul_mod, Nat.mul_assoc, ← Nat.mul_mod_mod]
    rw [show (1099511628211 * 1051115900582139259) % 4611686018427387904 = 1 from by decide, Nat.mul_one, Nat.mod_eq_of_lt hz]
  rw [← e y hy, ← e y' hy', h]
theorem hashByte_mod' (u : Nat) (c : UInt8) : hashByte u c % 4611686018427387904 = (((u % 4611686018427387904) ^^^ c.toNat) * 1099511628211) % 4611686018427387904 := by
  rw [hashByte_mod]
  exact Nat.mod_mod_of_dvd _ (by decide)
theorem xor_lt62 (u : Nat) (c : UInt8) : (u % 4611686018427387904) ^^^ c.toNat < 4611686018427387904 := by
  have hc := c.toNat_lt
  have h : u % 4611686018427387904 < 2 ^ 62 := Nat.mod_lt _ (by decide)
  have := Nat.xor_lt_two_pow (n := 62) h (show c.toNat < 2 ^ 62 by omega)
  simpa using this
theorem hashByte_inj {u u' : Nat} {c c' : UInt8} (h : hashByte u c % 4611686018427387904 = hashByte u' c' % 4611686018427387904) : (u % 4611686018427387904) ^^^ c.toNat = (u' % 4611686018427387904) ^^^ c'.toNat :=
  mul_inj (xor_lt62 u c) (xor_lt62 u' c') ((hashByte_mod' u c).symm.trans (h.trans (hashByte_mod' u' c')))
theorem hashL_inj : ∀ (l : List UInt8) {u u' : Nat}, hashL u l % 4611686018427387904 = hashL u' l % 4611686018427387904 → u % 4611686018427387904 = u' % 4611686018427387904
  | [], _, _, h => h
  | c :: l, u, u', h => by
    have e : ∀ x, hashL x (c :: l) = hashL (hashByte x c) l := fun x => by rw [hashL, hashL, List.foldl_cons]
    rw [e, e] at h
    exact xor_cancel (hashByte_inj (hashL_inj l h))
theorem more_same (g h : Int) (b : List UInt8) : (moreZ g b = moreZ h b) ↔ word g % 4611686018427387904 = word h % 4611686018427387904 := by
  unfold moreZ
  constructor
  · exact hashL_inj b
  · intro e
    rw [← hashL_mod, e, hashL_mod]
theorem hash_one (u v : List UInt8) (c c' : UInt8) (h : moreZ 860922984064492325 (u ++ [c] ++ v) = moreZ 860922984064492325 (u ++ [c'] ++ v)) : c = c' := by
  unfold moreZ at h
  have e : ∀ (x : UInt8), hashL (word 860922984064492325) (u ++ [x] ++ v) = hashL (hashByte (hashL (word 860922984064492325) u) x) v := by
    intro x
    unfold hashL
    rw [List.foldl_append, List.foldl_append, List.foldl_cons, List.foldl_nil]
  rw [e, e] at h
  have h1 := hashByte_inj (hashL_inj v h)
  rw [Nat.xor_comm _ c.toNat, Nat.xor_comm _ c'.toNat] at h1
  exact UInt8.toNat_inj.1 (xor_cancel h1)

/-- One of four bytes. -/
def sel (x0 x1 x2 x3 : UInt8) : Nat → UInt8
  | 0 => x0
  | 1 => x1
  | 2 => x2
  | 3 => x3
  | _ => 0
/-- Bytes changed at a place, behind n rounds. -/
def chg (b : List UInt8) (at_ : Int) (x : Nat → UInt8) (n : Nat) : List UInt8 := b.mapIdx fun j c => if 0 ≤ at_ ∧ at_ ≤ j ∧ (j : Int) < at_ + n then c ^^^ x (j - at_.toNat) else c
theorem chg_len (b : List UInt8) (at_ : Int) (x : Nat → UInt8) (n : Nat) : (chg b at_ x n).length = b.length := by simp [chg]
theorem chg_at (b : List UInt8) (at_ : Int) (x : Nat → UInt8) (n j : Nat) (h : j < b.length) : (chg b at_ x n)[j]? = some (if 0 ≤ at_ ∧ at_ ≤ j ∧ (j : Int) < at_ + n then b[j] ^^^ x (j - at_.toNat) else b[j]) := by
  simp [chg, h]
theorem chg_zero (b : List UInt8) (at_ : Int) (x : Nat → UInt8) : chg b at_ x 0 = b := by
  apply List.ext_getElem?
  intro j
  by_cases h : j < b.length
  · rw [chg_at _ _ _ _ _ h, if_neg (by omega), List.getElem?_eq_getElem h]
  · rw [List.getElem?_eq_none (by rw [chg_len]; omega), List.getElem?_eq_none (by omega)]
theorem chg_skip (b : List UInt8) (at_ : Int) (x : Nat → UInt8) (n : Nat) (h : ¬ (0 ≤ at_ ∧ at_ + n < b.length)) : chg b at_ x (n + 1) = chg b at_ x n := by
  apply List.ext_getElem?
  intro j
  by_cases hj : j < b.length
  · rw [chg_at _ _ _ _ _ hj, chg_at _ _ _ _ _ hj]
    by_cases c : 0 ≤ at_ ∧ at_ ≤ j ∧ (j : Int) < at_ + n
    · rw [if_pos c, if_pos (by omega)]
    · rw [if_neg c, if_neg (by omega)]
  · rw [List.getElem?_eq_none (by rw [chg_len]; omega), List.getElem?_eq_none (by rw [chg_len]; omega)]
theorem chg_set (b : List UInt8) (at_ : Int) (x : Nat → UInt8) (n k : Nat) (hk : at_ + n = k) (h0 : 0 ≤ at_) (hl : k < b.length) : (chg b at_ x n).set k (b[k] ^^^ x n) = chg b at_ x (n + 1) := by
  apply List.ext_getElem?
  intro j
  rw [List.getElem?_set]
  by_cases hj : j < b.length
  · by_cases e : k = j
    · subst e
      rw [if_pos rfl, if_pos (by rw [chg_len]; exact hj), chg_at _ _ _ _ _ hj, if_pos (by omega)]
      congr 3
      omega
    · rw [if_neg e, chg_at _ _ _ _ _ hj, chg_at _ _ _ _ _ hj]
      by_cases c : 0 ≤ at_ ∧ at_ ≤ j ∧ (j : Int) < at_ + n
      · rw [if_pos c, if_pos (by omega)]
      · rw [if_neg c, if_neg (by omega)]
  · rw [if_neg (by omega), List.getElem?_eq_none (by rw [chg_len]; omega), List.getElem?_eq_none (by rw [chg_len]; omega)]
theorem chg_take (b : List UInt8) (at_ : Int) (x : Nat → UInt8) (n : Nat) : (chg b at_ x n).take at_.toNat = b.take at_.toNat := by
  apply List.ext_getElem?
  intro j
  rw [List.getElem?_take, List.getElem?_take]
  by_cases h : j < at_.toNat
  · rw [if_pos h, if_pos h]
    by_cases hj : j < b.length
    · rw [chg_at _ _ _ _ _ hj, if_neg (by omega), List.getElem?_eq_getElem hj]
    · rw [List.getElem?_eq_none (by rw [chg_len]; omega), List.getElem?_eq_none (by omega)]
  · rw [if_neg h, if_neg h]
theorem chg_drop (b : List UInt8) (at_ : Int) (x : Nat → UInt8) (n m : Nat) (hx : ∀ i, m ≤ i → i < n → x i = 0) : (chg b at_ x n).drop (at_.toNat + m) = b.drop (at_.toNat + m) := by
  apply List.ext_getElem?
  intro j
  rw [List.getElem?_drop, List.getElem?_drop]
  by_cases hj : at_.toNat + m + j < b.length
  · rw [chg_at _ _ _ _ _ hj, List.getElem?_eq_getElem hj]
    by_cases c : 0 ≤ at_ ∧ at_ ≤ ((at_.toNat + m + j : Nat) : Int) ∧ ((at_.toNat + m + j : Nat) : Int) < at_ + n
    · rw [if_pos c, show at_.toNat + m + j - at_.toNat = m + j by omega, hx _ (by omega) (by omega)]
      congr 1
      exact UInt8.xor_zero
    · rw [if_neg c]
  · rw [List.getElem?_eq_none (by rw [chg_len]; omega), List.getElem?_eq_none (by omega)]
theorem three (l : List UInt8) (a m : Nat) : l = l.take a ++ (l.drop a).take m ++ l.drop (a + m) := by
  rw [List.append_assoc, ← List.drop_drop, List.take_append_drop, List.take_append_drop]
theorem burst_iff (b : List UInt8) (at_ : Int) (x : Nat → UInt8) : (crcL b ^^^ 4294967295 = crcL (chg b at_ x 4) ^^^ 4294967295) ↔ b = chg b at_ x 4 := by
  constructor
  · intro h
    have h := xor_cancel h
    have e1 := three b at_.toNat 4
    have e2 := three (chg b at_ x 4) at_.toNat 4
    rw [chg_take, chg_drop b at_ x 4 4 (by omega)] at e2
    have hlen := chg_len b at_ x 4
    generalize chg b at_ x 4 = c at *
    have h' : crcL (b.take at_.toNat ++ (b.drop at_.toNat).take 4 ++ b.drop (at_.toNat + 4)) = crcL (b.take at_.toNat ++ (c.drop at_.toNat).take 4 ++ b.drop (at_.toNat + 4)) := by rw [← e1, ← e2]; exact h
    have := crc_burst _ _ _ _ (by rw [List.length_take, List.length_take, List.length_drop, List.length_drop, hlen]) (by rw [List.length_take]; omega) h'
    rw [← this] at e2
    exact e1.trans e2.symm
  · intro h
    rw [← h]
theorem apart_iff (b : List UInt8) (at_ : Int) (x : UInt8) (h0 : 0 ≤ at_) (hl : at_ < b.length) : (moreZ 860922984064492325 b = moreZ 860922984064492325 (chg b at_ (sel x 0 0 0) 4)) ↔ b = chg b at_ (sel x 0 0 0) 4 := by
  constructor
  · intro h
    have e1 := three b at_.toNat 1
    have e2 := three (chg b at_ (sel x 0 0 0) 4) at_.toNat 1
    rw [chg_take, chg_drop b at_ (sel x 0 0 0) 4 1 (by intro i h1 h2; have : i = 1 ∨ i = 2 ∨ i = 3 := by omega
                                                       rcases this with rfl | rfl | rfl <;> rfl)] at e2
    have k1 : at_.toNat < b.length := by omega
    have k2 : at_.toNat < (chg b at_ (sel x 0 0 0) 4).length := by rw [chg_len]; exact k1
    rw [List.drop_eq_getElem_cons k1, List.take_succ_cons, List.take_zero] at e1
    rw [List.drop_eq_getElem_cons k2, List.take_succ_cons, List.take_zero] at e2
    generalize chg b at_ (sel x 0 0 0) 4 = c at *
    have h' : moreZ 860922984064492325 (b.take at_.toNat ++ [b[at_.toNat]] ++ b.drop (at_.toNat + 1)) = moreZ 860922984064492325 (b.take at_.toNat ++ [c[at_.toNat]] ++ b.drop (at_.toNat + 1)) := by rw [← e1, ← e2]; exact h
    have := hash_one _ _ _ _ h'
    rw [← this] at e2
    exact e1.trans e2.symm
  · intro h
    rw [← h]
end Go.Proofs.Ytopedbkefncfnaa
