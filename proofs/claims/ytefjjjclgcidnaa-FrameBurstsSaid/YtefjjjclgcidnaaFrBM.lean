/- A burst of at most 32 bits is seen by the checksum. -/
import Derived.Test.YtefjjjclgcidnaaFrM
namespace Go.Proofs.Ytefjjjclgcidnaa
open Go.RowKit

theorem xor_cancel {a b c : Nat} (h : a ^^^ c = b ^^^ c) : a = b := by
  have := congrArg (· ^^^ c) h
  simpa [Nat.xor_assoc] using this

theorem xor_top {a : Nat} (h : a < 2147483648) : 2147483648 ≤ a ^^^ 3988292384 := by
  rcases Nat.lt_or_ge (a ^^^ 3988292384) 2147483648 with h1 | h1
  · have h2 := Nat.xor_lt_two_pow (n := 31) h1 h
    rw [Nat.xor_comm a, Nat.xor_assoc, Nat.xor_self, Nat.xor_zero] at h2
    omega
  · exact h1

theorem crcBit_inj {x y : Nat} (hx : x < 4294967296) (hy : y < 4294967296) (h : crcBit x = crcBit y) : x = y := by
  have tx := xor_top (a := x / 2) (by omega)
  have ty := xor_top (a := y / 2) (by omega)
  unfold crcBit at h
  by_cases px : x % 2 = 1 <;> by_cases py : y % 2 = 1
  · rw [if_pos px, if_pos py] at h
    have := xor_cancel h
    omega
  · rw [if_pos px, if_neg py] at h
    omega
  · rw [if_neg px, if_pos py] at h
    omega
  · rw [if_neg px, if_neg py] at h
    omega

theorem crcBits_inj {x y : Nat} (hx : x < 4294967296) (hy : y < 4294967296) : ∀ n, crcBits x n = crcBits y n → x = y
  | 0, h => h
  | n + 1, h => crcBits_inj hx hy n (crcBit_inj (crcBits_lt hx n) (crcBits_lt hy n) h)

theorem crcBit_xor (x y : Nat) : crcBit (x ^^^ y) = crcBit x ^^^ crcBit y := by
  have e : (x ^^^ y) / 2 = (x / 2) ^^^ (y / 2) := Nat.xor_div_two
  have m : (x ^^^ y) % 2 = (x % 2 + y % 2) % 2 := by
    have h := Nat.xor_mod_two_pow (a := x) (b := y) (n := 1)
    rw [show (2 : Nat) ^ 1 = 2 from rfl] at h
    rw [h]
    have hx : x % 2 = 0 ∨ x % 2 = 1 := by omega
    have hy : y % 2 = 0 ∨ y % 2 = 1 := by omega
    rcases hx with hx | hx <;> rcases hy with hy | hy <;> rw [hx, hy] <;> rfl
  unfold crcBit
  rw [e, m]
  by_cases px : x % 2 = 1 <;> by_cases py : y % 2 = 1
  · rw [if_pos px, if_pos py, if_neg (by omega), Nat.xor_assoc, Nat.xor_comm (3988292384), Nat.xor_assoc, Nat.xor_self, Nat.xor_zero]
  · rw [if_pos px, if_neg py, if_pos (by omega), Nat.xor_assoc, Nat.xor_comm (y / 2), ← Nat.xor_assoc]
  · rw [if_neg px, if_pos py, if_pos (by omega), Nat.xor_assoc]
  · rw [if_neg px, if_neg py, if_neg (by omega)]

theorem crcBits_xor (x y : Nat) : ∀ n, crcBits (x ^^^ y) n = crcBits x n ^^^ crcBits y n
  | 0 => rfl
  | n + 1 => by rw [crcBits, crcBits_xor x y n, crcBit_xor]; rfl

theorem crcBits_zero : ∀ n, crcBits 0 n = 0
  | 0 => rfl
  | n + 1 => by rw [crcBits, crcBits_zero n]; rfl

theorem crcBits_add (x : Nat) (m : Nat) : ∀ n, crcBits (crcBits x m) n = crcBits x (m + n)
  | 0 => rfl
  | n + 1 => by
    show crcBit (crcBits (crcBits x m) n) = crcBit (crcBits x (m + n))
    rw [crcBits_add x m n]
theorem crcBit_double (y : Nat) : crcBit (y * 2) = y := by
  unfold crcBit
  rw [if_neg (by omega)]
  omega
/-- What lies above the bits that are taken comes down. -/
theorem crcBits_above (x : Nat) : ∀ (k y : Nat), crcBits (x ^^^ (y * 2 ^ k)) k = crcBits x k ^^^ y
  | 0, y => by simp [crcBits]
  | k + 1, y => by
    show crcBit (crcBits (x ^^^ (y * 2 ^ (k + 1))) k) = crcBit (crcBits x k) ^^^ y
    rw [show y * 2 ^ (k + 1) = (y * 2) * 2 ^ k by rw [Nat.pow_succ, Nat.mul_assoc, Nat.mul_comm 2], crcBits_above x k (y * 2), crcBit_xor, crcBit_double]
/-- The number of bytes, the least significant first. -/
def numL : List UInt8 → Nat
  | [] => 0
  | c :: l => c.toNat + 256 * numL l
theorem xor_low_ (c N : Nat) (h : c < 256) : c ^^^ (N * 2 ^ 8) = c + 256 * N := by
  apply Nat.eq_of_testBit_eq
  intro i
  rw [Nat.testBit_xor, show c + 256 * N = 2 ^ 8 * N + c by omega, Nat.testBit_two_pow_mul_add N (show c < 2 ^ 8 from h), Nat.mul_comm N, Nat.testBit_two_pow_mul]
  by_cases hi : i < 8
  · have h8 : ¬ 8 ≤ i := by omega
    rw [if_pos hi]
    simp [h8]
  · rw [if_neg hi, Nat.testBit_lt_two_pow (Nat.lt_of_lt_of_le (show c < 2 ^ 8 from h) (Nat.pow_le_pow_right (by decide) (by omega)))]
    have h8 : 8 ≤ i := by omega
    simp [h8]
theorem fold_num : ∀ (l : List UInt8) (r : Nat), l.foldl crcByte r = crcBits (r ^^^ numL l) (8 * l.length)
  | [], r => by simp [numL, crcBits]
  | c :: l, r => by
    rw [List.foldl_cons, fold_num l, List.length_cons]
    unfold crcByte
    rw [← crcBits_above, crcBits_add, Nat.xor_assoc, xor_low_ _ _ c.toNat_lt]
    rw [show 8 + 8 * l.length = 8 * (l.length + 1) by omega]
    rfl
theorem crcBits_ne {p : Nat} (hp : p < 4294967296) (h0 : p ≠ 0) (n : Nat) : crcBits p n ≠ 0 := fun h => h0 (crcBits_inj hp (by omega) n (by rw [h, crcBits_zero]))
theorem crcBits_shift (p a m : Nat) : crcBits (p * 2 ^ a) (a + m) = crcBits p m := by
  have := crcBits_above 0 a p
  rw [Nat.zero_xor, crcBits_zero, Nat.zero_xor] at this
  rw [← crcBits_add, this]
/-- Bytes that differ in a burst have different registers. -/
theorem burst_ne {s x : List UInt8} {p a r : Nat} (hl : x.length = s.length) (hx : numL x = numL s ^^^ (p * 2 ^ a)) (hp : p < 4294967296) (h0 : p ≠ 0) (ha : a ≤ 8 * s.length) : x.foldl crcByte r ≠ s.foldl crcByte r := by
  rw [fold_num, fold_num, hx, hl, ← Nat.xor_assoc, crcBits_xor]
  obtain ⟨m, hm⟩ : ∃ m, 8 * s.length = a + m := ⟨8 * s.length - a, by omega⟩
  rw [hm, crcBits_shift]
  intro h
  have h2 := crcBits_ne hp h0 m
  apply h2
  have := congrArg (crcBits (r ^^^ numL s) (a + m) ^^^ ·) h
  simpa [← Nat.xor_assoc] using this
theorem numL_tail4 {n : Nat} (h : n < 4294967296) : numL (tail4 n) = n := by
  simp only [tail4, numL]
  simp
  omega
/-- The register of a frame is always the same. -/
theorem seal_residue (M : List UInt8) : (M ++ tail4 (crcZ M)).foldl crcByte 4294967295 = crcBits 4294967295 32 := by
  rw [List.foldl_append, fold_num (tail4 (crcZ M)), numL_tail4 (crcZ_lt M), tail4_len]
  have : M.foldl crcByte 4294967295 ^^^ crcZ M = 4294967295 := by
    show crcL M ^^^ (crcL M ^^^ 4294967295) = 4294967295
    rw [← Nat.xor_assoc, Nat.xor_self, Nat.zero_xor]
  rw [this]
/-- A frame in which a burst of bits was inverted, none of them of the length, is none. -/
theorem op_burst (k : Nat) (b x : List UInt8) (hb : b.length ≤ 1048576) (hl : x.length = (sealL k b).length) {p a : Nat} (hx : numL x = numL (sealL k b) ^^^ (p * 2 ^ a)) (hp : p < 4294967296) (h0 : p ≠ 0) (ha : a ≤ 8 * (sealL k b).length)
    (hn : (x.drop 2).take (encI b.length).length = encI b.length) : opE x 0 ≠ 0 := by
  intro h
  have hsl := sealL_len k b
  have hml : (sealM k b).length = 2 + (encI b.length).length + b.length := by simp [sealM]; omega
  obtain ⟨x0, x1, r, rfl⟩ : ∃ x0 x1 r, x = x0 :: x1 :: r := by
    match x, hl with
    | x0 :: x1 :: r, _ => exact ⟨x0, x1, r, rfl⟩
    | [_], hl => simp at hl; omega
    | [], hl => simp at hl; omega
  have hr : r = encI b.length ++ r.drop (encI b.length).length := by
    have e := List.take_append_drop (encI b.length).length r
    have hn' : r.take (encI b.length).length = encI b.length := by simpa using hn
    rw [hn'] at e
    exact e.symm
  obtain ⟨i1, i2, i3⟩ := int_back [x0, x1] (r.drop (encI b.length).length) b.length ⟨by omega, by omega⟩
  have e2 : [x0, x1] ++ encI b.length ++ r.drop (encI b.length).length = x0 :: x1 :: r := by
    rw [List.append_assoc, ← hr]; rfl
  rw [e2] at i1 i2 i3
  have h1 : hdE (x0 :: x1 :: r) 0 = 0 := by
    rcases Classical.em (hdE (x0 :: x1 :: r) 0 = 0) with e | e
    · exact e
    · have : opE (x0 :: x1 :: r) 0 = hdE (x0 :: x1 :: r) 0 := by unfold opE; rw [if_pos e]
      rw [this] at h; exact h
  obtain ⟨_, _, g3, _⟩ := op_ok h
  obtain ⟨_, _, k3, _⟩ := hd_ok h1
  obtain ⟨y, kk, hy, _, _, _, _, g5, g6, g7, g8⟩ := op_again h
  obtain rfl : y = 0 := by omega
  have hN : (opN (x0 :: x1 :: r) 0).toNat = (x0 :: x1 :: r).length := by
    rw [g3, k3]
    have e3 : ((Int.toNat 0 + 2 : Nat) : Int) = (([x0, x1] : List UInt8).length : Int) := rfl
    rw [e3, i2, i3, hl, hsl, hml]
    simp only [List.length_append, List.length_cons, List.length_nil]
    omega
  rw [List.drop_zero, hN, Nat.sub_zero, List.take_length] at g8
  have hres := seal_residue (sealM kk (opC (x0 :: x1 :: r) 0))
  have hres2 := seal_residue (sealM k b)
  have e4 : sealM kk (opC (x0 :: x1 :: r) 0) ++ tail4 (crcZ (sealM kk (opC (x0 :: x1 :: r) 0))) = x0 :: x1 :: r := g8
  rw [e4] at hres
  exact burst_ne hl hx hp h0 ha (hres.trans hres2.symm)
end Go.Proofs.Ytefjjjclgcidnaa
