/- Contracts of More and Hash. -/
import Derived.Test.YtopedbkefncfnaaSumsA
namespace Go.Proofs.Ytopedbkefncfnaa
open Go.RowKit

/-- One byte of the hash, modulo 2^64. -/
def hashByte (u : Nat) (c : UInt8) : Nat := ((u ^^^ c.toNat) * 1099511628211) % 18446744073709551616
def hashL (u : Nat) (l : List UInt8) : Nat := l.foldl hashByte u
theorem hashByte_lt (u : Nat) (c : UInt8) : hashByte u c < 18446744073709551616 := Nat.mod_lt _ (by omega)
theorem hashL_lt {u : Nat} (h : u < 18446744073709551616) (l : List UInt8) : hashL u l < 18446744073709551616 := by
  unfold hashL
  induction l generalizing u with
  | nil => rw [List.foldl_nil]; exact h
  | cons c l ih => rw [List.foldl_cons]; exact ih (hashByte_lt u c)
theorem hashL_take (u : Nat) (l : List UInt8) (k : Nat) (h : k < l.length) : hashL u (l.take (k + 1)) = hashByte (hashL u (l.take k)) l[k] := by
  unfold hashL
  rw [List.take_succ_eq_append_getElem h, List.foldl_append, List.foldl_cons, List.foldl_nil]
/-- An int as a word. -/
def word (h : Int) : Nat := (h % 18446744073709551616).toNat
theorem word_lt (h : Int) : word h < 18446744073709551616 := by unfold word; omega
def moreZ (h : Int) (l : List UInt8) : Nat := hashL (word h) l % 4611686018427387904

theorem hashByte_mod (u : Nat) (c : UInt8) : hashByte u c % 4611686018427387904 = ((((u % 4611686018427387904) ^^^ c.toNat) * 1099511628211) % 18446744073709551616) % 4611686018427387904 := by
  have hc := c.toNat_lt
  unfold hashByte
  have e : (u ^^^ c.toNat) % 4611686018427387904 = (u % 4611686018427387904) ^^^ c.toNat := by
    have := Nat.xor_mod_two_pow (a := u) (b := c.toNat) (n := 62)
    rw [show (2 : Nat) ^ 62 = 4611686018427387904 from rfl] at this
    rw [this, Nat.mod_eq_of_lt (show c.toNat < 4611686018427387904 by omega)]
  rw [Nat.mod_mod_of_dvd _ (by decide), Nat.mod_mod_of_dvd _ (by decide), Nat.mul_mod, e]

theorem xor_word (X : Nat) (hX : X < 18446744073709551616) (c : UInt8) : bits .xor .u64 (X : Int) (IntKind.u64.wrap (c.toNat : Int)) = ((X ^^^ c.toNat : Nat) : Int) := by
  have hc := c.toNat_lt
  rw [IntKind.wrap_u64, show ((c.toNat : Int) % 18446744073709551616) = ((c.toNat : Nat) : Int) by omega]
  exact u64_xor_nat X c.toNat (by omega) (by omega)

theorem and_mask_nat (X : Nat) : X &&& 4611686018427387903 = X % 4611686018427387904 := Nat.and_two_pow_sub_one_eq_mod X 62
theorem and_mask {X : Nat} (hX : X < 18446744073709551616) : wrap64 (bits .and .u64 (X : Int) 4611686018427387903) = ((X % 4611686018427387904 : Nat) : Int) := by
  rw [show (4611686018427387903 : Int) = ((4611686018427387903 : Nat) : Int) from rfl, u64_and_nat _ _ hX (by omega), and_mask_nat]
  unfold wrap64
  omega

set_option maxHeartbeats 400000 in
theorem more_any (h : Int) (l : List UInt8) (A : Option Addr) (cap : Nat) (w : World) (hv : Bytes w A l) (hl : l.length ≤ maxLen) :
    Calls Try.prog 17 #[.int .i64 h, .slice A l.length cap] w (Ret (.int .i64 (moreZ h l : Int)) w) := by
  unfold maxLen at hl
  have H0 : Hid (IntKind.u64.wrap h = (word h : Int)) := Lib.hid (by rw [IntKind.wrap_u64]; unfold word; omega)
  go_enter Try.func17, Try.ntmps17
  go_wp2
  go_loop [5, 7, 12] (fun x c i => ∃ k : Nat, k ≤ l.length ∧ i = .int .i64 (k : Int) ∧ x = .int .u64 (hashL (word h) (l.take k) : Int)) (fun _ _ i => l.length + 1 - (intOf i).toNat)
  case atStart => exact ⟨0, by omega, rfl, congrArg (Value.int .u64) H0.out⟩
  case round =>
    obtain ⟨k, hk, rfl, rfl⟩ := hrel
    by_cases h15 : k < l.length
    · obtain ⟨ad, rfl, hb, hc⟩ := hv.at_ h15
      have hlt : (k : Int) < l.length := by omega
      have HS := Lib.hid (hashL_take (word h) l k h15)
      have hX := hashL_lt (word_lt h) (l.take k)
      generalize hashL (word h) (l.take k) = X at *
      have hbyte := xor_word X hX l[k]
      have HV : Hid (IntKind.u64.wrap (((X ^^^ l[k].toNat : Nat) : Int) * 1099511628211) = (hashByte X l[k] : Int)) := Lib.hid (by
        rw [IntKind.wrap_u64]
        unfold hashByte
        generalize X ^^^ l[k].toNat = Y
        omega)
      go_wp2
      go_round
      case rel => exact ⟨k + 1, by omega, by go_num, congrArg (Value.int .u64) (by rw [HS.out, HV.out])⟩
      case measure => simp [intOf]; omega
    · obtain rfl : k = l.length := by omega
      have hX := hashL_lt (word_lt h) l
      go_wp2
      go_ret
      exact Ret.mk (congrArg (Value.int .i64) (and_mask hX)) (Below.refl _ _)

theorem and_mask64 {X : Nat} (hX : X < 18446744073709551616) : bits .and .u64 (X : Int) 4611686018427387903 = ((X % 4611686018427387904 : Nat) : Int) := by
  rw [show (4611686018427387903 : Int) = ((4611686018427387903 : Nat) : Int) from rfl, u64_and_nat _ _ hX (by omega), and_mask_nat]

set_option maxHeartbeats 400000 in
theorem rmore_any (h : Int) (l : List UInt8) (A : Option Addr) (cap : Nat) (w : World) (hv : Bytes w A l) (hl : l.length ≤ maxLen) :
    Calls Try.prog 18 #[.int .i64 h, .slice A l.length cap] w (Ret (.int .i64 (moreZ h l : Int)) w) := by
  unfold maxLen at hl
  have H0 : Hid (bits .and .u64 (IntKind.u64.wrap h) 4611686018427387903 = ((word h % 4611686018427387904 : Nat) : Int)) := Lib.hid (by
    rw [show IntKind.u64.wrap h = (word h : Int) by rw [IntKind.wrap_u64]; unfold word; omega]
    exact and_mask64 (word_lt h))
  go_enter Try.func18, Try.ntmps18
  go_wp2
  go_loop [5, 6] (fun x i => ∃ k : Nat, k ≤ l.length ∧ i = .int .i64 (k : Int) ∧ x = .int .u64 ((hashL (word h) (l.take k) % 4611686018427387904 : Nat) : Int)) (fun _ i => l.length + 1 - (intOf i).toNat)
  case atStart => exact ⟨0, by omega, rfl, congrArg (Value.int .u64) H0.out⟩
  case round =>
    obtain ⟨k, hk, rfl, rfl⟩ := hrel
    by_cases h15 : k < l.length
    · obtain ⟨ad, rfl, hb, hc⟩ := hv.at_ h15
      have hlt : (k : Int) < l.length := by omega
      have HS := Lib.hid (hashL_take (word h) l k h15)
      have HM := Lib.hid (hashByte_mod (hashL (word h) (l.take k)) l[k])
      generalize hashL (word h) (l.take k) = X at *
      have hX : X % 4611686018427387904 < 18446744073709551616 := by omega
      generalize X % 4611686018427387904 = Z at *
      have hbyte := xor_word Z hX l[k]
      have HV : Hid (bits .and .u64 (IntKind.u64.wrap (((Z ^^^ l[k].toNat : Nat) : Int) * 1099511628211)) 4611686018427387903 = ((((Z ^^^ l[k].toNat) * 1099511628211) % 18446744073709551616 % 4611686018427387904 : Nat) : Int)) := Lib.hid (by
        generalize Z ^^^ l[k].toNat = Y
        rw [show IntKind.u64.wrap ((Y : Int) * 1099511628211) = ((Y * 1099511628211 % 18446744073709551616 : Nat) : Int) by rw [IntKind.wrap_u64]; omega]
        exact and_mask64 (by omega))
      go_wp2
      go_round
      case rel => exact ⟨k + 1, by omega, by go_num, congrArg (Value.int .u64) (by rw [HS.out, HM.out, HV.out])⟩
      case measure => simp [intOf]; omega
    · obtain rfl : k = l.length := by omega
      go_wp2
      go_ret
      exact Ret.mk (congrArg (Value.int .i64) (by unfold moreZ; omega)) (Below.refl _ _)

theorem hash_any (l : List UInt8) (A : Option Addr) (cap : Nat) (w : World) (hv : Bytes w A l) (hl : l.length ≤ maxLen) :
    Calls Try.prog 15 #[.slice A l.length cap] w (Ret (.int .i64 (moreZ 860922984064492325 l : Int)) w) := by
  go_enter Try.func15, Try.ntmps15
  go_wp2_with fail
  refine (more_any 860922984064492325 l A cap _ hv hl).mono ?_
  rintro e w1 ⟨rfl, hb⟩
  go_wp2
  go_ret
  exact Ret.mk rfl hb
theorem rhash_any (l : List UInt8) (A : Option Addr) (cap : Nat) (w : World) (hv : Bytes w A l) (hl : l.length ≤ maxLen) :
    Calls Try.prog 16 #[.slice A l.length cap] w (Ret (.int .i64 (moreZ 860922984064492325 l : Int)) w) := by
  go_enter Try.func16, Try.ntmps16
  go_wp2_with fail
  refine (rmore_any 860922984064492325 l A cap _ hv hl).mono ?_
  rintro e w1 ⟨rfl, hb⟩
  go_wp2
  go_ret
  exact Ret.mk rfl hb
end Go.Proofs.Ytopedbkefncfnaa
