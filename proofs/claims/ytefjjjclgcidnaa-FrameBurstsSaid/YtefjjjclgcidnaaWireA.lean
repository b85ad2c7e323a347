/- Reading a number: wire.Int. -/
import Derived.Test.YtefjjjclgcidnaaBytes
import Derived.OwnWalk
namespace Go.Proofs.Ytefjjjclgcidnaa
open Go.RowKit

/-- The byte at a place, 0 behind the end. -/
def cB (l : List UInt8) (j : Nat) : Nat := (l.getD j 0).toNat
theorem cB_in {l : List UInt8} {j : Nat} (h : j < l.length) : cB l j = l[j].toNat := by unfold cB; rw [List.getD_eq_getElem?_getD, List.getElem?_eq_getElem h]; rfl
theorem cB_out {l : List UInt8} {j : Nat} (h : l.length ≤ j) : cB l j = 0 := by unfold cB; rw [List.getD_eq_getElem?_getD, List.getElem?_eq_none h]; rfl
/-- How many bytes go on. -/
def kOf (l : List UInt8) (a : Nat) : Nat → Nat → Nat
  | i, 0 => i
  | i, f + 1 => if 128 ≤ cB l (a + i) then kOf l a (i + 1) f else i
/-- The value of the first bytes. -/
def valL (l : List UInt8) (a : Nat) : Nat → Nat
  | 0 => 0
  | k + 1 => valL l a k + cB l (a + k) % 128 * 128 ^ k
theorem valL_lt (l : List UInt8) (a : Nat) : ∀ k, valL l a k < 128 ^ k
  | 0 => by simp [valL]
  | k + 1 => by
    have h := valL_lt l a k
    have h2 : cB l (a + k) % 128 < 128 := Nat.mod_lt _ (by decide)
    have h3 : cB l (a + k) % 128 * 128 ^ k ≤ 127 * 128 ^ k := Nat.mul_le_mul_right _ (by omega)
    rw [valL, Nat.pow_succ]
    omega
/-- What u stands for. -/
def sgn (u : Nat) : Int := if u % 2 = 1 then -((u / 2 : Nat) : Int) - 1 else ((u / 2 : Nat) : Int)

/-- The error of a number at a place within the bytes. -/
def errAt (l : List UInt8) (a : Nat) : Int :=
  let k := kOf l a 0 10
  if k = 10 then 3 else if l.length ≤ a + k then 4 else if (0 < k ∧ cB l (a + k) = 0) ∨ (k = 9 ∧ 1 < cB l (a + k)) then 3 else 0
def intE (l : List UInt8) (at_ : Int) : Int := if at_ < 0 ∨ (l.length : Int) < at_ then 2 else errAt l at_.toNat
def intN (l : List UInt8) (at_ : Int) : Int := if intE l at_ = 0 then sgn (valL l at_.toNat (kOf l at_.toNat 0 10 + 1)) else 0
def intTo (l : List UInt8) (at_ : Int) : Int := if intE l at_ = 0 then at_ + kOf l at_.toNat 0 10 + 1 else 0

theorem and127 (c : UInt8) : bits .and .u8 (c.toNat : Int) 127 = ((c.toNat % 128 : Nat) : Int) := by
  have : ∀ n : Fin 256, bits .and .u8 (n.val : Int) 127 = ((n.val % 128 : Nat) : Int) := by decide +kernel
  exact this ⟨c.toNat, c.toNat_lt⟩

theorem kOf_stop {l : List UInt8} {a n : Nat} (h10 : n < 10) (h : cB l (a + n) < 128) : kOf l a n (10 - n) = n := by
  rw [show 10 - n = (9 - n) + 1 by omega, kOf, if_neg (by omega)]
theorem kOf_go {l : List UInt8} {a n : Nat} (h10 : n < 10) (h : 128 ≤ cB l (a + n)) : kOf l a n (10 - n) = kOf l a (n + 1) (10 - (n + 1)) := by
  rw [show 10 - n = (10 - (n + 1)) + 1 by omega, kOf, if_pos h]
theorem intE_in {l : List UInt8} {a : Nat} (ha : a ≤ l.length) : intE l a = errAt l a := by
  unfold intE
  rw [if_neg (by omega)]
  rfl
theorem int_err {l : List UInt8} {a : Nat} {e : Int} (ha : a ≤ l.length) (h : errAt l a = e) (he : e ≠ 0) : intE l a = e ∧ intN l a = 0 ∧ intTo l a = 0 := by
  have h1 : intE l a = e := (intE_in ha).trans h
  exact ⟨h1, by unfold intN; rw [if_neg (by rw [h1]; exact he)], by unfold intTo; rw [if_neg (by rw [h1]; exact he)]⟩
theorem int_ok {l : List UInt8} {a n : Nat} (ha : a ≤ l.length) (hk : kOf l a 0 10 = n) (h10 : n < 10) (hin : a + n < l.length) (h1 : ¬ ((0 < n ∧ cB l (a + n) = 0) ∨ (n = 9 ∧ 1 < cB l (a + n)))) :
    intE l a = 0 ∧ intN l a = sgn (valL l a (n + 1)) ∧ intTo l a = ((a + n + 1 : Nat) : Int) := by
  have he : intE l a = 0 := by rw [intE_in ha]; unfold errAt; simp only [hk]; rw [if_neg (by omega), if_neg (by omega), if_neg h1]
  refine ⟨he, ?_, ?_⟩
  · unfold intN
    rw [if_pos he]
    simp [hk]
  · unfold intTo
    rw [if_pos he]
    simp [hk]

theorem pow7 (n : Nat) : 2 ^ (7 * n) = 128 ^ n := by rw [Nat.pow_mul]
theorem shift_wrap {n C : Nat} (hn : n ≤ 9) : IntKind.u64.wrap ((C : Int) * 2 ^ (7 * n)) = ((C % 2 ^ (64 - 7 * n) * 2 ^ (7 * n) : Nat) : Int) := by
  rw [IntKind.wrap_u64, show ((C : Int) * 2 ^ (7 * n)) = ((C * 2 ^ (7 * n) : Nat) : Int) by push_cast; rfl]
  have e : (18446744073709551616 : Nat) = 2 ^ (64 - 7 * n) * 2 ^ (7 * n) := by rw [← Nat.pow_add, show 64 - 7 * n + 7 * n = 64 by omega]
  rw [← Nat.mul_mod_mul_right, ← e]
  rfl
theorem shift_lt {n C : Nat} (hn : n ≤ 9) : C % 2 ^ (64 - 7 * n) * 2 ^ (7 * n) + 2 ^ (7 * n) ≤ 18446744073709551616 := by
  have h : C % 2 ^ (64 - 7 * n) + 1 ≤ 2 ^ (64 - 7 * n) := Nat.mod_lt _ (Nat.two_pow_pos _)
  have := Nat.mul_le_mul_right (2 ^ (7 * n)) h
  have e : (18446744073709551616 : Nat) = 2 ^ (64 - 7 * n) * 2 ^ (7 * n) := by rw [← Nat.pow_add, show 64 - 7 * n + 7 * n = 64 by omega]
  rw [Nat.add_mul, Nat.one_mul] at this
  omega
theorem shift_or {n X C : Nat} (hn : n ≤ 9) (hX : X < 2 ^ (7 * n)) : bits .or .u64 (X : Int) (IntKind.u64.wrap ((C : Int) * 2 ^ (7 * n))) = ((X + C % 2 ^ (64 - 7 * n) * 2 ^ (7 * n) : Nat) : Int) := by
  have h1 := shift_lt (C := C) hn
  rw [shift_wrap hn, u64_or_nat _ _ (by omega) (by omega), Nat.or_comm, Nat.mul_comm, ← Nat.two_pow_add_eq_or_of_lt hX, Nat.add_comm]
theorem shift_small {n C : Nat} (hn : n ≤ 8) (hC : C < 128) : C % 2 ^ (64 - 7 * n) = C := by
  apply Nat.mod_eq_of_lt
  have : 2 ^ 8 ≤ 2 ^ (64 - 7 * n) := Nat.pow_le_pow_right (by decide) (by omega)
  omega
theorem valL_next (l : List UInt8) (a n c : Nat) (hc : cB l (a + n) = c) (hn : n ≤ 9) (h9 : n = 9 → c % 128 ≤ 1) : valL l a n + c % 128 % 2 ^ (64 - 7 * n) * 2 ^ (7 * n) = valL l a (n + 1) := by
  rw [valL, hc, pow7]
  congr 2
  rcases Nat.lt_or_ge n 9 with h | h
  · exact shift_small (by omega) (Nat.mod_lt _ (by decide))
  · obtain rfl : n = 9 := by omega
    have := h9 rfl
    omega

end Go.Proofs.Ytefjjjclgcidnaa
