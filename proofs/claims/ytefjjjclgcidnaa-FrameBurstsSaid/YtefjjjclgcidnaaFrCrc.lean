/- Contracts of the checksums. -/
import Derived.Test.YtefjjjclgcidnaaBytes
namespace Go.Proofs.Ytefjjjclgcidnaa
open Go.RowKit

/-- One bit of the register. -/
def crcBit (x : Nat) : Nat := if x % 2 = 1 then (x / 2) ^^^ 3988292384 else x / 2
def crcBits (x : Nat) : Nat → Nat
  | 0 => x
  | n + 1 => crcBit (crcBits x n)
def crcByte (x : Nat) (c : UInt8) : Nat := crcBits (x ^^^ c.toNat) 8
def crcL (l : List UInt8) : Nat := l.foldl crcByte 4294967295
theorem crcBit_lt {x : Nat} (h : x < 4294967296) : crcBit x < 4294967296 := by
  unfold crcBit
  split
  · exact Nat.xor_lt_two_pow (n := 32) (by omega) (by omega)
  · omega
theorem crcBits_lt {x : Nat} (h : x < 4294967296) : ∀ n, crcBits x n < 4294967296
  | 0 => h
  | n + 1 => crcBit_lt (crcBits_lt h n)
theorem crcByte_lt {x : Nat} (h : x < 4294967296) (c : UInt8) : crcByte x c < 4294967296 :=
  crcBits_lt (Nat.xor_lt_two_pow (n := 32) h (by have := c.toNat_lt; omega)) 8
theorem crcL_take (l : List UInt8) (k : Nat) (h : k < l.length) : crcL (l.take (k + 1)) = crcByte (crcL (l.take k)) l[k] := by
  unfold crcL
  rw [List.take_succ_eq_append_getElem h, List.foldl_append]
  rfl
theorem crcL_lt (l : List UInt8) : crcL l < 4294967296 := by
  unfold crcL
  have : ∀ (l : List UInt8) (x : Nat), x < 4294967296 → l.foldl crcByte x < 4294967296 := by
    intro l
    induction l with
    | nil => intro x h; exact h
    | cons c l ih => intro x h; exact ih _ (crcByte_lt h c)
  exact this l _ (by omega)
theorem bits_byte (X : Nat) (hX : X < 4294967296) (c : UInt8) : bits .xor .u32 (X : Int) ((c.toNat : Int) % 4294967296) = ((X ^^^ c.toNat : Nat) : Int) := by
  have hc := c.toNat_lt
  rw [show ((c.toNat : Int) % 4294967296) = ((c.toNat : Nat) : Int) by omega]
  exact u32_xor_nat X c.toNat hX (by omega)
theorem bits_one (X : Nat) (hX : X < 4294967296) : bits .and .u32 (X : Int) 1 = ((X % 2 : Nat) : Int) := by
  rw [show (1 : Int) = ((1 : Nat) : Int) from rfl, u32_and_nat X 1 hX (by omega), Nat.and_one_is_mod]

theorem crc_out {X : Nat} (h : X < 4294967296) : wrap64 (bits .xor .u32 IntKind.u32.max (X : Int)) = ((X ^^^ 4294967295 : Nat) : Int) := by
  rw [show IntKind.u32.max = ((4294967295 : Nat) : Int) by simp [IntKind.max, IntKind.signed, IntKind.bits], u32_xor_nat _ _ (by omega) (by omega), Nat.xor_comm]
  have := Nat.xor_lt_two_pow (n := 32) h (show 4294967295 < 2 ^ 32 by omega)
  unfold wrap64
  omega

set_option maxHeartbeats 400000 in
theorem crc_any (l : List UInt8) (A : Option Addr) (cap : Nat) (w : World) (h : Bytes w A l) (hl : l.length ≤ maxLen) :
    Calls Try.prog 32 #[.slice A l.length cap] w (Ret (.int .i64 ((crcL l ^^^ 4294967295 : Nat) : Int)) w) := by
  unfold maxLen at hl
  go_enter Try.func32, Try.ntmps32
  go_wp2
  go_loop [3, 5, 6, 9, 17] (fun x c o i j => ∃ k : Nat, k ≤ l.length ∧ i = .int .i64 (k : Int) ∧ x = .int .u32 (crcL (l.take k) : Int)) (fun _ _ _ i _ => l.length + 1 - (intOf i).toNat)
  case atStart => exact ⟨0, by omega, rfl, rfl⟩
  case round =>
    obtain ⟨k, hk, rfl, rfl⟩ := hrel
    by_cases h15 : k < l.length
    · obtain ⟨ad, rfl, hb, hc⟩ := h.at_ h15
      have hlt : (k : Int) < l.length := by omega
      have HS := Lib.hid (crcL_take l k h15)
      have hX := crcL_lt (l.take k)
      generalize crcL (l.take k) = X at *
      have hbyte := bits_byte X hX l[k]
      have hY : X ^^^ l[k].toNat < 4294967296 := Nat.xor_lt_two_pow (n := 32) hX (by have := l[k].toNat_lt; omega)
      go_wp2
      clear hbyte
      have HB : Hid (crcByte X l[k] = crcBits (X ^^^ l[k].toNat) 8) := Lib.hid rfl
      generalize X ^^^ l[k].toNat = Y at *
      go_loop [3, 6, 17] (fun x o j => ∃ n : Nat, n ≤ 8 ∧ j = .int .i64 (n : Int) ∧ x = .int .u32 (crcBits Y n : Int)) (fun _ _ j => 9 - (intOf j).toNat)
      case atStart => exact ⟨0, by omega, rfl, rfl⟩
      case round =>
        obtain ⟨n, hn, rfl, rfl⟩ := hrel
        by_cases h8 : n < 8
        · have hlt8 : (n : Int) < 8 := by omega
          have hZ := crcBits_lt hY n
          have HZ : Hid (crcBits Y (n + 1) = crcBit (crcBits Y n)) := Lib.hid rfl
          generalize crcBits Y n = Z at *
          have hone := bits_one Z hZ
          by_cases hodd : Z % 2 = 1
          · have HV : Hid (bits .xor .u32 ((Z : Int) / 2) 3988292384 = (crcBit Z : Int)) := Lib.hid (by
              rw [show ((Z : Int) / 2) = ((Z / 2 : Nat) : Int) by omega, show (3988292384 : Int) = ((3988292384 : Nat) : Int) from rfl, u32_xor_nat _ _ (by omega) (by omega)]
              rw [crcBit, if_pos hodd])
            rw [hodd] at hone
            go_wp2
            go_round
            case rel => exact ⟨n + 1, by omega, by go_num, congrArg (Value.int .u32) (by rw [HV.out, HZ.out])⟩
            case measure => simp [intOf]; omega
          · have HV : Hid (((Z : Int) / 2) = (crcBit Z : Int)) := Lib.hid (by
              rw [crcBit, if_neg hodd]
              omega)
            rw [show Z % 2 = 0 by omega] at hone
            go_wp2
            go_round
            case rel => exact ⟨n + 1, by omega, by go_num, congrArg (Value.int .u32) (by rw [HV.out, HZ.out])⟩
            case measure => simp [intOf]; omega
        · obtain rfl : n = 8 := by omega
          go_wp2
          go_round
          case rel => exact ⟨k + 1, by omega, by go_num, congrArg (Value.int .u32) (by rw [HS.out, HB.out])⟩
          case measure => simp [intOf]; omega
    · obtain rfl : k = l.length := by omega
      have hX := crcL_lt l
      go_wp2
      go_ret
      exact Ret.mk (congrArg (Value.int .i64) (crc_out hX)) (Below.refl _ _)

/-- One step of the reference's register. -/
theorem shifted_any (X : Nat) (hX : X < 4294967296) (w : World) : Calls Try.prog 33 #[.int .u64 (X : Int)] w (Ret (.int .u64 (crcBit X : Int)) w) := by
  by_cases hodd : X % 2 = 1
  · have HV : Hid (bits .xor .u64 ((X : Int) / 2) 3988292384 = (crcBit X : Int)) := Lib.hid (by
      rw [show ((X : Int) / 2) = ((X / 2 : Nat) : Int) by omega, show (3988292384 : Int) = ((3988292384 : Nat) : Int) from rfl, u64_xor_nat _ _ (by omega) (by omega)]
      rw [crcBit, if_pos hodd])
    have hone : ((X : Int) % 2 == 1) = true := by simp; omega
    go_enter Try.func33, Try.ntmps33
    go_wp2
    go_ret
    exact Ret.mk (congrArg (Value.int .u64) HV.out) (Below.refl _ _)
  · have HV : Hid (((X : Int) / 2) = (crcBit X : Int)) := Lib.hid (by
      rw [crcBit, if_neg hodd]
      omega)
    have hone : ((X : Int) % 2 == 1) = false := by simp; omega
    go_enter Try.func33, Try.ntmps33
    go_wp2
    go_ret
    exact Ret.mk (congrArg (Value.int .u64) HV.out) (Below.refl _ _)

theorem bits64_byte (X : Nat) (hX : X < 4294967296) (c : UInt8) : bits .xor .u64 (X : Int) (IntKind.u64.wrap (c.toNat : Int)) = ((X ^^^ c.toNat : Nat) : Int) := by
  have hc := c.toNat_lt
  rw [IntKind.wrap_u64, show ((c.toNat : Int) % 18446744073709551616) = ((c.toNat : Nat) : Int) by omega]
  exact u64_xor_nat X c.toNat (by omega) (by omega)
theorem crc_out64 {X : Nat} (h : X < 4294967296) : wrap64 (bits .xor .u64 (X : Int) 4294967295) = ((X ^^^ 4294967295 : Nat) : Int) := by
  rw [show (4294967295 : Int) = ((4294967295 : Nat) : Int) from rfl, u64_xor_nat _ _ (by omega) (by omega)]
  have := Nat.xor_lt_two_pow (n := 32) h (show 4294967295 < 2 ^ 32 by omega)
  unfold wrap64
  omega

set_option maxHeartbeats 400000 in
theorem rcrc_any (l : List UInt8) (A : Option Addr) (cap : Nat) (w : World) (h : Bytes w A l) (hl : l.length ≤ maxLen) :
    Calls Try.prog 25 #[.slice A l.length cap] w (Ret (.int .i64 ((crcL l ^^^ 4294967295 : Nat) : Int)) w) := by
  unfold maxLen at hl
  go_enter Try.func25, Try.ntmps25
  go_wp2
  go_loopw [3, 4, 5] (fun x i j wr => ∃ k : Nat, k ≤ l.length ∧ i = .int .i64 (k : Int) ∧ x = .int .u64 (crcL (l.take k) : Int) ∧ Below w.heap.size w wr) (fun _ i _ _ => l.length + 1 - (intOf i).toNat)
  case atStart => exact ⟨0, by omega, rfl, rfl, Below.refl _ _⟩
  case round =>
    obtain ⟨k, hk, rfl, rfl, hbw⟩ := hrel
    by_cases h15 : k < l.length
    · obtain ⟨ad, rfl, hb, hc⟩ := (h.below hbw).at_ h15
      have hlt : (k : Int) < l.length := by omega
      have HS := Lib.hid (crcL_take l k h15)
      have hX := crcL_lt (l.take k)
      generalize crcL (l.take k) = X at *
      have hbyte := bits64_byte X hX l[k]
      have hY : X ^^^ l[k].toNat < 4294967296 := Nat.xor_lt_two_pow (n := 32) hX (by have := l[k].toNat_lt; omega)
      go_wp2
      clear hbyte
      have HB : Hid (crcByte X l[k] = crcBits (X ^^^ l[k].toNat) 8) := Lib.hid rfl
      generalize X ^^^ l[k].toNat = Y at *
      obtain ⟨wo, rfl⟩ : ∃ wo : World, wo = wr := ⟨_, rfl⟩
      go_loopw [3, 5] (fun x j wr => ∃ n : Nat, n ≤ 8 ∧ j = .int .i64 (n : Int) ∧ x = .int .u64 (crcBits Y n : Int) ∧ Below w.heap.size w wr) (fun _ j _ => 9 - (intOf j).toNat)
      case atStart => exact ⟨0, by omega, rfl, rfl, hbw⟩
      case round =>
        obtain ⟨n, hn, rfl, rfl, hbw2⟩ := hrel
        by_cases h8 : n < 8
        · have hlt8 : (n : Int) < 8 := by omega
          have hZ := crcBits_lt hY n
          have HZ : Hid (crcBits Y (n + 1) = crcBit (crcBits Y n)) := Lib.hid rfl
          generalize crcBits Y n = Z at *
          go_wp2_with fail
          refine (shifted_any Z hZ _).mono ?_
          rintro e w2 ⟨rfl, hb2⟩
          go_wp2
          go_roundw
          case rel => exact ⟨n + 1, by omega, by go_num, congrArg (Value.int .u64) (by rw [HZ.out]), Below.step hbw2 hb2⟩
          case measure => simp [intOf]; omega
        · obtain rfl : n = 8 := by omega
          go_wp2
          go_roundw
          case rel => exact ⟨k + 1, by omega, by go_num, congrArg (Value.int .u64) (by rw [HS.out, HB.out]), hbw2⟩
          case measure => simp [intOf]; omega
    · obtain rfl : k = l.length := by omega
      have hX := crcL_lt l
      go_wp2
      go_ret
      exact Ret.mk (congrArg (Value.int .i64) (crc_out64 hX)) hbw
end Go.Proofs.Ytefjjjclgcidnaa
