/- Bursts and hashes: the plain mathematics. -/
import Derived.Test.YtopedbkefncfnaaSumsH
namespace Go.Proofs.Ytopedbkefncfnaa
open Go.RowKit

theorem xor_cancel {a b c : Nat} (h : a ^^^ c = b ^^^ c) : a = b := by
  have := congrArg (· ^^^ c) h
  simpa [Nat.xor_assoc] using this
theorem xor_top {a : Nat} (h : a < 2147483648) : 2147483648 ≤ a ^^^ 3988292384 := by
  rcases Nat.lt_or_ge (a ^^^ 3988292384) 2147483648 with h1 | h1
  · have h2 := Nat.xor_lt_two_pow (n := 31) h1 h
    rw [Nat.xor_comm a, Nat.xor_assoc, Nat.xor_self, Nat.xor_zero] at h2
    omega
  · exact h1
theorem crcBit_inj {x y : Nat} (hx : x < 4294967296) (hy : y < 4294967296) (h : crcBit x = crcBit y) : x = y := by
  have tx := xor_top (a := x / 2) (by omega)
  have ty := xor_top (a := y / 2) (by omega)
  unfold crcBit at h
  by_cases px : x % 2 = 1 <;> by_cases py : y % 2 = 1
  · rw [if_pos px, if_pos py] at h
    have := xor_cancel h
    omega
  · rw [if_pos px, if_neg py] at h
    omega
  · rw [if_neg px, if_pos py] at h
    omega
  · rw [if_neg px, if_neg py] at h
    omega
theorem crcBits_inj {x y : Nat} (hx : x < 4294967296) (hy : y < 4294967296) : ∀ n, crcBits x n = crcBits y n → x = y
  | 0, h => h
  | n + 1, h => crcBits_inj hx hy n (crcBit_inj (crcBits_lt hx n) (crcBits_lt hy n) h)
theorem crcBit_xor (x y : Nat) : crcBit (x ^^^ y) = crcBit x ^^^ crcBit y := by
  have e : (x ^^^ y) / 2 = (x / 2) ^^^ (y / 2) := Nat.xor_div_two
  have m : (x ^^^ y) % 2 = (x % 2 + y % 2) % 2 := by
    have h := Nat.xor_mod_two_pow (a := x) (b := y) (n := 1)
    rw [show (2 : Nat) ^ 1 = 2 from rfl] at h
    rw [h]
    have hx : x % 2 = 0 ∨ x % 2 = 1 := by omega
    have hy : y % 2 = 0 ∨ y % 2 = 1 := by omega
    rcases hx with hx | hx <;> rcases hy with hy | hy <;> rw [hx, hy] <;> rfl
  unfold crcBit
  rw [e, m]
  by_cases px : x % 2 = 1 <;> by_cases py : y % 2 = 1
  · rw [if_pos px, if_pos py, if_neg (by omega), Nat.xor_assoc, Nat.xor_comm (3988292384), Nat.xor_assoc, Nat.xor_self, Nat.xor_zero]
  · rw [if_pos px, if_neg py, if_pos (by omega), Nat.xor_assoc, Nat.xor_comm (y / 2), ← Nat.xor_assoc]
  · rw [if_neg px, if_pos py, if_pos (by omega), Nat.xor_assoc]
  · rw [if_neg px, if_neg py, if_neg (by omega)]
theorem crcBits_xor (x y : Nat) : ∀ n, crcBits (x ^^^ y) n = crcBits x n ^^^ crcBits y n
  | 0 => rfl
  | n + 1 => by rw [crcBits, crcBits_xor x y n, crcBit_xor]; rfl
theorem crcBits_zero : ∀ n, crcBits 0 n = 0
  | 0 => rfl
  | n + 1 => by rw [crcBits, crcBits_zero n]; rfl
/-- After n bits: nothing was added, or a high bit stands. -/
theorem crcBits_high {x : Nat} (hx : x < 4294967296) : ∀ n, n ≤ 32 → crcBits x n = x / 2 ^ n ∨ 2 ^ (32 - n) ≤ crcBits x n
  | 0, _ => .inl (by simp [crcBits])
  | n + 1, h => by
    have hz := crcBits_lt hx n
    rw [crcBits]
    have e32 : 2 ^ (32 - n) = 2 * 2 ^ (32 - (n + 1)) := by rw [← Nat.pow_succ']; congr 1; omega
    have hle : 2 ^ (32 - (n + 1)) ≤ 2147483648 := by
      have := Nat.pow_le_pow_right (n := 2) (by omega) (show 32 - (n + 1) ≤ 31 by omega)
      simpa using this
    by_cases p : crcBits x n % 2 = 1
    · right
      have := xor_top (a := crcBits x n / 2) (by omega)
      rw [crcBit, if_pos p]
      omega
    · rw [crcBit, if_neg p]
      rcases crcBits_high hx n (by omega) with h1 | h1
      · left
        rw [h1, Nat.div_div_eq_div_mul, Nat.pow_succ]
      · right
        omega
/-- The difference of two registers behind one byte. -/
def T8 (x : Nat) : Nat := crcBits x 8
theorem T8_byte {d : Nat} (h : d < 256) (h0 : d ≠ 0) : 16777216 ≤ T8 d := by
  rcases crcBits_high (x := d) (by omega) 8 (by omega) with h1 | h1
  · exfalso
    have h2 : crcBits d 8 = crcBits 0 8 := by rw [h1, crcBits_zero]; omega
    exact h0 (crcBits_inj (by omega) (by omega) 8 h2)
  · unfold T8
    simpa using h1
theorem T8_high {d k : Nat} (hd : d < 4294967296) (h : k * 256 ≤ d) (hk : k ≤ 16777216) : k ≤ T8 d := by
  rcases crcBits_high hd 8 (by omega) with h1 | h1
  · unfold T8
    rw [h1]
    omega
  · unfold T8
    have : (16777216 : Nat) ≤ crcBits d 8 := by simpa using h1
    omega
theorem T8_lt {d : Nat} (hd : d < 4294967296) : T8 d < 4294967296 := crcBits_lt hd 8
theorem crcByte_xor (x y : Nat) (c e : UInt8) : crcByte x c ^^^ crcByte y e = T8 ((x ^^^ y) ^^^ (c.toNat ^^^ e.toNat)) := by
  unfold crcByte T8
  rw [← crcBits_xor]
  congr 1
  rw [Nat.xor_assoc, Nat.xor_assoc]
  congr 1
  rw [← Nat.xor_assoc, ← Nat.xor_assoc, Nat.xor_comm c.toNat]
theorem xor_byte_lt (c e : UInt8) : c.toNat ^^^ e.toNat < 256 := Nat.xor_lt_two_pow (n := 8) (by have := c.toNat_lt; omega) (by have := e.toNat_lt; omega)
theorem xor_low {D b k : Nat} (hb : b < 256) (h : k * 256 ≤ D) : k * 256 ≤ D ^^^ b := by
  have h1 : (D ^^^ b) / 256 = D / 256 := by
    have := Nat.xor_div_two_pow (a := D) (b := b) (n := 8)
    rw [show (2 : Nat) ^ 8 = 256 from rfl] at this
    rw [this, Nat.div_eq_of_lt hb, Nat.xor_zero]
  omega
/-- A difference that is high stays one over a byte or two. -/
theorem diff_step {x y k : Nat} (hx : x < 4294967296) (hy : y < 4294967296) (h : k * 256 ≤ x ^^^ y) (hk : k ≤ 16777216) (c e : UInt8) : k ≤ crcByte x c ^^^ crcByte y e := by
  rw [crcByte_xor]
  exact T8_high (Nat.xor_lt_two_pow (n := 32) (Nat.xor_lt_two_pow (n := 32) hx hy) (by have := xor_byte_lt c e; omega)) (xor_low (xor_byte_lt c e) h) hk
theorem ne_of_xor {x y : Nat} (h : 1 ≤ x ^^^ y) : x ≠ y := by
  rintro rfl
  rw [Nat.xor_self] at h
  omega
theorem byte_ne {c e : UInt8} (h : c ≠ e) : c.toNat ^^^ e.toNat ≠ 0 := by
  intro h0
  apply h
  have : c.toNat = e.toNat := by
    have := congrArg (· ^^^ e.toNat) h0
    simpa [Nat.xor_assoc] using this
  exact UInt8.toNat_inj.1 this

theorem crcFold_inj : ∀ (l : List UInt8) {x y : Nat}, x < 4294967296 → y < 4294967296 → l.foldl crcByte x = l.foldl crcByte y → x = y
  | [], _, _, _, _, h => h
  | c :: l, x, y, hx, hy, h => by
    rw [List.foldl_cons, List.foldl_cons] at h
    have h1 := crcFold_inj l (crcByte_lt hx c) (crcByte_lt hy c) h
    unfold crcByte at h1
    have hb := c.toNat_lt
    have h2 := crcBits_inj (Nat.xor_lt_two_pow (n := 32) hx (by omega)) (Nat.xor_lt_two_pow (n := 32) hy (by omega)) 8 h1
    exact xor_cancel h2

/-- How high a difference must stand for n more bytes. -/
def lvl : Nat → Nat
  | 0 => 1
  | n + 1 => lvl n * 256
/-- A high difference does not vanish over n bytes. -/
theorem fold_high : ∀ (a b : List UInt8) {x y : Nat}, a.length = b.length → a.length ≤ 3 → x < 4294967296 → y < 4294967296 → lvl a.length ≤ x ^^^ y → a.foldl crcByte x ≠ b.foldl crcByte y
  | [], [], x, y, _, _, _, _, h => ne_of_xor h
  | c :: a, e :: b, x, y, hl, h3, hx, hy, h => by
    rw [List.foldl_cons, List.foldl_cons]
    have hk : lvl a.length ≤ 16777216 := by
      have : a.length = 0 ∨ a.length = 1 ∨ a.length = 2 := by simp at h3; omega
      rcases this with h | h | h <;> rw [h] <;> decide
    exact fold_high a b (by simpa using hl) (by simp at h3; omega) (crcByte_lt hx c) (crcByte_lt hy e) (diff_step hx hy h hk c e)
/-- Four bytes or fewer: the register tells them apart. -/
theorem fold_apart : ∀ (a b : List UInt8) {x : Nat}, a.length = b.length → a.length ≤ 4 → x < 4294967296 → a.foldl crcByte x = b.foldl crcByte x → a = b
  | [], [], _, _, _, _, _ => rfl
  | c :: a, e :: b, x, hl, h4, hx, h => by
    rw [List.foldl_cons, List.foldl_cons] at h
    by_cases hce : c = e
    · subst hce
      rw [fold_apart a b (by simpa using hl) (by simp at h4; omega) (crcByte_lt hx c) h]
    · exfalso
      have hb := byte_ne hce
      have h16 := T8_byte (xor_byte_lt c e) hb
      have hd : crcByte x c ^^^ crcByte x e = T8 (c.toNat ^^^ e.toNat) := by rw [crcByte_xor, Nat.xor_self, Nat.zero_xor]
      refine fold_high a b (by simpa using hl) (by simp at h4; omega) (crcByte_lt hx c) (crcByte_lt hx e) ?_ h
      rw [hd]
      have hk : lvl a.length ≤ 16777216 := by
        have : a.length = 0 ∨ a.length = 1 ∨ a.length = 2 ∨ a.length = 3 := by simp at h4; omega
        rcases this with h | h | h | h <;> rw [h] <;> decide
      omega
theorem crc_burst (u a b v : List UInt8) (hl : a.length = b.length) (h4 : a.length ≤ 4) (h : crcL (u ++ a ++ v) = crcL (u ++ b ++ v)) : a = b := by
  unfold crcL at h
  simp only [List.foldl_append] at h
  have hu : u.foldl crcByte 4294967295 < 4294967296 := crcL_lt u
  have hf : ∀ (l : List UInt8) {x : Nat}, x < 4294967296 → l.foldl crcByte x < 4294967296 := by
    intro l
    induction l with
    | nil => intro x h; exact h
    | cons c l ih => intro x h; exact ih (crcByte_lt h c)
  exact fold_apart a b hl h4 hu (crcFold_inj v (hf a hu) (hf b hu) h)
end Go.Proofs.Ytopedbkefncfnaa
