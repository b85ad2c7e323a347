/- power; one bit inverted. -/
import Derived.Test.YtefjjjclgcidnaaFrBM
import Derived.Test.YtefjjjclgcidnaaFrP
namespace Go.Proofs.Ytefjjjclgcidnaa
open Go.RowKit

theorem xor_scale (a b k : Nat) : (a ^^^ b) * 2 ^ k = (a * 2 ^ k) ^^^ (b * 2 ^ k) := by
  apply Nat.eq_of_testBit_eq
  intro i
  rw [Nat.testBit_xor, Nat.mul_comm (a ^^^ b), Nat.mul_comm a, Nat.mul_comm b, Nat.testBit_two_pow_mul, Nat.testBit_two_pow_mul, Nat.testBit_two_pow_mul, Nat.testBit_xor]
  by_cases h : k ≤ i <;> simp [h]
/-- A byte in which one bit is inverted. -/
def flipB (c : UInt8) (j : Nat) : UInt8 := UInt8.ofNat (c.toNat ^^^ 2 ^ j)
theorem flipB_nat (c : UInt8) {j : Nat} (h : j < 8) : (flipB c j).toNat = c.toNat ^^^ 2 ^ j := by
  have : c.toNat ^^^ 2 ^ j < 2 ^ 8 := Nat.xor_lt_two_pow (by have := c.toNat_lt; omega) (Nat.pow_lt_pow_right (by decide) h)
  unfold flipB
  exact nat_u8 this
theorem numL_flip : ∀ (l : List UInt8) (k j : Nat), k < l.length → j < 8 → numL (l.set k (flipB (l.getD k 0) j)) = numL l ^^^ 2 ^ (8 * k + j)
  | [], k, _, h, _ => by simp at h
  | c :: l, 0, j, _, hj => by
    show (flipB c j).toNat + 256 * numL l = (c.toNat + 256 * numL l) ^^^ 2 ^ (8 * 0 + j)
    rw [flipB_nat c hj, ← xor_low_ _ _ c.toNat_lt, ← xor_low_ _ _ (Nat.xor_lt_two_pow (n := 8) (by have := c.toNat_lt; omega) (Nat.pow_lt_pow_right (by decide) hj))]
    rw [Nat.mul_zero, Nat.zero_add, Nat.xor_assoc, Nat.xor_assoc, Nat.xor_comm (2 ^ j)]
  | c :: l, k + 1, j, h, hj => by
    have ih := numL_flip l k j (by simpa using h) hj
    show c.toNat + 256 * numL (l.set k (flipB (l.getD k 0) j)) = (c.toNat + 256 * numL l) ^^^ 2 ^ (8 * (k + 1) + j)
    rw [ih, ← xor_low_ _ _ c.toNat_lt, ← xor_low_ _ _ c.toNat_lt, xor_scale, Nat.xor_assoc]
    congr 2
    rw [← Nat.pow_add]
    congr 1
    omega
/-- The first bits of a pattern, one more. -/
theorem bits_more (p i a : Nat) : (p % 2 ^ (i + 1)) * 2 ^ a = ((p % 2 ^ i) * 2 ^ a) ^^^ (if p / 2 ^ i % 2 = 1 then 2 ^ (a + i) else 0) := by
  have h : p % 2 ^ (i + 1) = 2 ^ i * (p / 2 ^ i % 2) + p % 2 ^ i := by
    rw [Nat.pow_succ, Nat.mod_mul, Nat.add_comm]
  have h2 := Nat.mod_lt p (Nat.two_pow_pos i)
  by_cases hb : p / 2 ^ i % 2 = 1
  · rw [if_pos hb, h, hb, Nat.mul_one]
    have : 2 ^ i + p % 2 ^ i = (p % 2 ^ i) ^^^ 2 ^ i := by
      apply Nat.eq_of_testBit_eq
      intro j
      have e := Nat.testBit_two_pow_mul_add 1 h2 j
      rw [Nat.mul_one] at e
      rw [e, Nat.testBit_xor]
      by_cases hj : j < i
      · rw [if_pos hj]
        have : (2 ^ i).testBit j = false := by rw [Nat.testBit_two_pow]; simp; omega
        rw [this]; simp
      · rw [if_neg hj, Nat.testBit_lt_two_pow (Nat.lt_of_lt_of_le h2 (Nat.pow_le_pow_right (by decide) (by omega))), Nat.testBit_two_pow]
        by_cases hji : i = j
        · subst hji; simp
        · have : 1 ≤ j - i := by omega
          have h1 : Nat.testBit 1 (j - i) = false := by
            obtain ⟨d, hd⟩ : ∃ d, j - i = d + 1 := ⟨j - i - 1, by omega⟩
            rw [hd, Nat.testBit_succ]; simp
          rw [h1]; simp [hji]
    rw [this, xor_scale, ← Nat.pow_add, Nat.add_comm i a]
  · rw [if_neg hb, h, show p / 2 ^ i % 2 = 0 by omega]
    simp

set_option maxHeartbeats 1000000 in
theorem power_any (n : Nat) (hn : n ≤ 7) (w : World) : Calls Try.prog 20 #[.int .i64 (n : Int)] w (Ret (.int .u8 ((2 ^ n : Nat) : Int)) w) := by
  have HP : Hid ((2 : Nat) ^ n = 2 ^ n) := Lib.hid rfl
  go_enter Try.func20, Try.ntmps20
  go_wp2
  go_loop [3, 4] (fun p i => ∃ k : Nat, k ≤ n ∧ i = .int .i64 (k : Int) ∧ p = .int .u8 ((2 ^ k : Nat) : Int)) (fun _ i => n + 1 - (intOf i).toNat)
  case atStart => exact ⟨0, by omega, rfl, rfl⟩
  case round =>
    obtain ⟨k, hk, rfl, rfl⟩ := hrel
    by_cases hlt : k < n
    · have hlt' : (k : Int) < n := by omega
      have h2 : 2 ^ k < 2 ^ 7 := Nat.pow_lt_pow_right (by decide) (by omega)
      have HE : Hid (2 ^ (k + 1) = 2 ^ k * 2) := Lib.hid (Nat.pow_succ 2 k)
      generalize 2 ^ k = X at *
      have hX : (X : Int) * 2 < 256 := by omega
      go_wp2
      go_round
      case rel => exact ⟨k + 1, by omega, by go_num, congrArg (Value.int .u8) (by rw [HE.out]; omega)⟩
      case measure => simp [intOf]; omega
    · obtain rfl : k = n := by omega
      go_wp2
      go_ret
      exact Ret.mk rfl (Below.refl _ _)
end Go.Proofs.Ytefjjjclgcidnaa
