/- Contracts of Unhex. -/
import Derived.Test.YtopedbkefncfnaaSumsD
import Derived.Lib.Bytealg
namespace Go.Proofs.Ytopedbkefncfnaa
open Go.RowKit

/-- The value of a digit, or -1. -/
def digZ (c : UInt8) : Int := if 48 ≤ c.toNat ∧ c.toNat ≤ 57 then (c.toNat : Int) - 48 else if 97 ≤ c.toNat ∧ c.toNat ≤ 102 then (c.toNat : Int) - 87 else -1
theorem digZ_all : ∀ n : Fin 256, Lib.indexByte [48, 49, 50, 51, 52, 53, 54, 55, 56, 57, 97, 98, 99, 100, 101, 102] (UInt8.ofNat n.val) = digZ (UInt8.ofNat n.val) := by decide +kernel
theorem digZ_eq (c : UInt8) : Lib.indexByte [48, 49, 50, 51, 52, 53, 54, 55, 56, 57, 97, 98, 99, 100, 101, 102] c = digZ c := by
  have h := digZ_all ⟨c.toNat, c.toNat_lt⟩
  simpa using h
theorem digZ_bd (c : UInt8) : -1 ≤ digZ c ∧ digZ c ≤ 15 := by unfold digZ; split <;> (try split) <;> omega

set_option maxHeartbeats 400000 in
theorem idx_any (c : UInt8) (w : World) : Calls Try.prog 26 #[.string ⟨#[48, 49, 50, 51, 52, 53, 54, 55, 56, 57, 97, 98, 99, 100, 101, 102]⟩, .int .u8 (c.toNat : Int)] w (Ret (.int .i64 (digZ c)) w) := by
  have hd := digZ_eq c
  go_enter Try.func26, Try.ntmps26
  go_wp2
  rw [run_callFunc_extern Try.func28 (by kernel_rfl) (by kernel_rfl) (by kernel_rfl) (e := Extern.BytealgIndexByte.indexByte) (by kernel_rfl), Lib.run_indexByteString]
  simp only [Result.andThen]
  rw [Oper.upon_value]
  go_wp2
  go_ret
  exact Ret.mk (congrArg (Value.int .i64) (by simp)) (Below.refl _ _)

/-- The number of some digits. -/
def numTo (l : List UInt8) : Nat := l.foldl (fun x c => x * 16 + (digZ c).toNat) 0
def okTo (l : List UInt8) : Bool := l.all fun c => decide (0 ≤ digZ c)
theorem numTo_take (l : List UInt8) (k : Nat) (h : k < l.length) : numTo (l.take (k + 1)) = numTo (l.take k) * 16 + (digZ l[k]).toNat := by
  unfold numTo
  rw [List.take_succ_eq_append_getElem h, List.foldl_append, List.foldl_cons, List.foldl_nil]
theorem okTo_take (l : List UInt8) (k : Nat) (h : k < l.length) : okTo (l.take (k + 1)) = (okTo (l.take k) && decide (0 ≤ digZ l[k])) := by
  unfold okTo
  rw [List.take_succ_eq_append_getElem h, List.all_append]
  simp
theorem okTo_no {l : List UInt8} {k : Nat} (h : k < l.length) (hd : digZ l[k] < 0) : okTo l = false := by
  unfold okTo
  rw [List.all_eq_false]
  exact ⟨l[k], List.getElem_mem h, by simp; omega⟩
theorem numTo_lt (l : List UInt8) : ∀ k, k ≤ l.length → numTo (l.take k) < 16 ^ k
  | 0, _ => by simp [numTo]
  | k + 1, h => by
    have h1 := numTo_lt l k (by omega)
    have h2 := (digZ_bd l[k]).2
    rw [numTo_take l k (by omega), Nat.pow_succ]
    omega
def unhexB (l : List UInt8) : Bool := decide (l.length = 16) && okTo l && decide (numTo l ≤ 4611686018427387903)
def unhexZ (l : List UInt8) : Int := if unhexB l = true then (numTo l : Int) else 0
theorem pow_le {k : Nat} (h : k < 16) : 16 ^ k ≤ 1152921504606846976 := by
  have := Nat.pow_le_pow_right (n := 16) (by omega) (show k ≤ 15 by omega)
  simpa using this

set_option maxHeartbeats 1000000 in
theorem unhex_any (l : List UInt8) (w : World) : Calls Try.prog 21 #[.string ⟨l.toArray⟩] w (Ret (.tuple #[.int .i64 (unhexZ l), .bool (unhexB l)]) w) := by
  by_cases hl : l.length = 16
  · have hl' : (l.length : Int) = 16 := by omega
    have HL := Lib.hid hl
    go_enter Try.func21, Try.ntmps21
    go_wp2
    go_loopw [4, 5, 6, 12] (fun u a b i wr => ∃ k : Nat, k ≤ 16 ∧ i = .int .i64 (k : Int) ∧ u = .int .u64 ((numTo (l.take k) : Nat) : Int) ∧ Hid (okTo (l.take k) = true) ∧ Below w.heap.size w wr) (fun _ _ _ i _ => 17 - (intOf i).toNat)
    case atStart => exact ⟨0, by omega, rfl, rfl, Lib.hid rfl, Below.refl _ _⟩
    case round =>
      obtain ⟨k, hk, rfl, rfl, hok, hbw⟩ := hrel
      by_cases h16 : k < 16
      · have hkl : k < l.length := by omega
        have hlt : (k : Int) < 16 := by omega
        have HN := Lib.hid (numTo_take l k hkl)
        have HO := Lib.hid (okTo_take l k hkl)
        have hu := Nat.lt_of_lt_of_le (numTo_lt l k (by omega)) (pow_le h16)
        have hbd := digZ_bd l[k]
        generalize numTo (l.take k) = X at *
        go_wp2_with fail
        refine (idx_any l[k] _).mono ?_
        rintro e w1 ⟨rfl, hb1⟩
        by_cases hdig : 0 ≤ digZ l[k]
        · have HK : Hid (okTo (l.take (k + 1)) = true) := Lib.hid (by rw [HO.out, hok.out]; simp [hdig])
          obtain ⟨d, hd⟩ : ∃ d : Nat, digZ l[k] = d := ⟨(digZ l[k]).toNat, by omega⟩
          have hd15 : d ≤ 15 := by omega
          have HNN : Hid (numTo (l.take (k + 1)) = X * 16 + d) := Lib.hid (by rw [HN.out, hd]; simp)
          rw [hd]
          have hor : bits .or .u64 ((X : Int) * 16) (d : Int) = ((X * 16 + d : Nat) : Int) := by
            rw [show ((X : Int) * 16) = ((X * 16 : Nat) : Int) by omega, u64_or_nat _ _ (by omega) (by omega)]
            congr 1
            have := Nat.two_pow_add_eq_or_of_lt (i := 4) (b := d) (show d < 2 ^ 4 by omega) X
            rw [show (2 : Nat) ^ 4 = 16 from rfl] at this
            rw [Nat.mul_comm X 16]
            exact this.symm
          clear hd hdig hbd
          go_wp2
          go_roundw
          case rel => exact ⟨k + 1, by omega, by go_num, congrArg (Value.int .u64) (by rw [HNN.out]; omega), HK, Below.step hbw hb1⟩
          case measure => simp [intOf]; omega
        · have hneg : digZ l[k] < 0 := by omega
          have HB : Hid (unhexB l = false) := Lib.hid (by rw [unhexB, okTo_no hkl hneg]; simp)
          go_wp2
          go_ret2
          exact Ret.mk (by rw [unhexZ, HB.out]; rfl) (Below.step hbw hb1)
      · obtain rfl : k = 16 := by omega
        have HT : Hid (l.take 16 = l) := Lib.hid (List.take_of_length_le (by omega))
        have hu := numTo_lt l 16 (by omega)
        rw [show (16 : Nat) ^ 16 = 18446744073709551616 from rfl] at hu
        rw [HT.out] at hok hu ⊢
        by_cases hmask : numTo l ≤ 4611686018427387903
        · have HB : Hid (unhexB l = true) := Lib.hid (by rw [unhexB, hok.out]; simp [hmask, HL.out])
          have HZ : Hid (unhexZ l = (numTo l : Int)) := Lib.hid (by rw [unhexZ, if_pos HB.out])
          generalize numTo l = X at *
          go_wp2
          go_ret2
          exact Ret.mk (by rw [HZ.out, HB.out]; rfl) hbw
        · have HB : Hid (unhexB l = false) := Lib.hid (by rw [unhexB]; simp [hmask])
          have HZ : Hid (unhexZ l = 0) := Lib.hid (by rw [unhexZ, HB.out]; rfl)
          generalize numTo l = X at *
          have hm2 : 4611686018427387903 < (X : Int) := by omega
          go_wp2
          go_ret2
          exact Ret.mk (by rw [HZ.out, HB.out]; rfl) hbw
  · have HB : Hid (unhexB l = false) := Lib.hid (by rw [unhexB]; simp [hl])
    have hl' : ((l.length : Int) == 16) = false := by simp; omega
    go_enter Try.func21, Try.ntmps21
    go_wp2
    go_ret2
    exact Ret.mk (by rw [unhexZ, HB.out]; rfl) (Below.refl _ _)

set_option maxHeartbeats 1000000 in
theorem runhex_any (l : List UInt8) (w : World) : Calls Try.prog 22 #[.string ⟨l.toArray⟩] w (Ret (.tuple #[.int .i64 (unhexZ l), .bool (unhexB l)]) w) := by
  by_cases hl : l.length = 16
  · have hl' : (l.length : Int) = 16 := by omega
    have HL := Lib.hid hl
    go_enter Try.func22, Try.ntmps22
    go_wp2
    go_loop [4, 5, 6, 17, 30] (fun u i a b c => ∃ k : Nat, k ≤ 16 ∧ i = .int .i64 (k : Int) ∧ u = .int .u64 ((numTo (l.take k) : Nat) : Int) ∧ Hid (okTo (l.take k) = true)) (fun _ i _ _ _ => 17 - (intOf i).toNat)
    case atStart => exact ⟨0, by omega, rfl, rfl, Lib.hid rfl⟩
    case round =>
      obtain ⟨k, hk, rfl, rfl, hok⟩ := hrel
      by_cases h16 : k < 16
      · have hkl : k < l.length := by omega
        have hlt : (k : Int) < 16 := by omega
        have HN := Lib.hid (numTo_take l k hkl)
        have HO := Lib.hid (okTo_take l k hkl)
        have hu := Nat.lt_of_lt_of_le (numTo_lt l k (by omega)) (pow_le h16)
        generalize numTo (l.take k) = X at *
        have hget : (({ data := l.toArray } : ByteArray)[k]'(show k < l.toArray.size by simpa using hkl)) = l[k] := rfl
        have hc := (l[k]).toNat_lt
        by_cases c1 : 48 ≤ (l[k]).toNat ∧ (l[k]).toNat ≤ 57
        · obtain ⟨c2, c3⟩ := c1
          have hd : digZ l[k] = ((l[k]).toNat : Int) - 48 := by rw [digZ, if_pos ⟨c2, c3⟩]
          have HK : Hid (okTo (l.take (k + 1)) = true) := Lib.hid (by rw [HO.out, hok.out, hd]; simp; omega)
          have HNN : Hid ((numTo (l.take (k + 1)) : Int) = X * 16 + (((l[k]).toNat : Int) - 48)) := Lib.hid (by rw [HN.out, hd]; omega)
          clear hd
          generalize l[k] = c at *
          have i2 : (48 : Int) ≤ (c.toNat : Int) := by omega
          have i3 : (c.toNat : Int) ≤ 57 := by omega
          go_wp2
          go_round
          case rel => exact ⟨k + 1, by omega, by go_num, congrArg (Value.int .u64) (by rw [HNN.out]), HK⟩
          case measure => simp [intOf]; omega
        by_cases c4 : 97 ≤ (l[k]).toNat ∧ (l[k]).toNat ≤ 102
        · obtain ⟨c2, c3⟩ := c4
          have hd : digZ l[k] = ((l[k]).toNat : Int) - 87 := by rw [digZ, if_neg c1, if_pos ⟨c2, c3⟩]
          have HK : Hid (okTo (l.take (k + 1)) = true) := Lib.hid (by rw [HO.out, hok.out, hd]; simp; omega)
          have HNN : Hid ((numTo (l.take (k + 1)) : Int) = X * 16 + (((l[k]).toNat : Int) - 87)) := Lib.hid (by rw [HN.out, hd]; omega)
          clear hd c1
          generalize l[k] = c at *
          have i2 : (97 : Int) ≤ (c.toNat : Int) := by omega
          have i3 : (c.toNat : Int) ≤ 102 := by omega
          have i4 : (57 : Int) < (c.toNat : Int) := by omega
          go_wp2
          go_round
          case rel => exact ⟨k + 1, by omega, by go_num, congrArg (Value.int .u64) (by rw [HNN.out]; omega), HK⟩
          case measure => simp [intOf]; omega
        by_cases c5 : (l[k]).toNat < 48
        · have hneg : digZ l[k] < 0 := by rw [digZ, if_neg (by omega), if_neg (by omega)]; omega
          have HB : Hid (unhexB l = false) := Lib.hid (by rw [unhexB, okTo_no hkl hneg]; simp)
          have HZ : Hid (unhexZ l = 0) := Lib.hid (by rw [unhexZ, HB.out]; rfl)
          clear hneg
          generalize l[k] = c at *
          have i2 : (c.toNat : Int) < 48 := by omega
          clear c1 c4
          go_wp2
          go_ret2
          exact Ret.mk (by rw [HZ.out, HB.out]; rfl) (Below.refl _ _)
        by_cases c6 : (l[k]).toNat < 97
        · have hneg : digZ l[k] < 0 := by rw [digZ, if_neg (by omega), if_neg (by omega)]; omega
          have HB : Hid (unhexB l = false) := Lib.hid (by rw [unhexB, okTo_no hkl hneg]; simp)
          have HZ : Hid (unhexZ l = 0) := Lib.hid (by rw [unhexZ, HB.out]; rfl)
          clear hneg
          generalize l[k] = c at *
          have i2 : (c.toNat : Int) < 97 := by omega
          have i3 : (57 : Int) < (c.toNat : Int) := by omega
          clear c1 c4
          go_wp2
          go_ret2
          exact Ret.mk (by rw [HZ.out, HB.out]; rfl) (Below.refl _ _)
        · have hneg : digZ l[k] < 0 := by rw [digZ, if_neg (by omega), if_neg (by omega)]; omega
          have HB : Hid (unhexB l = false) := Lib.hid (by rw [unhexB, okTo_no hkl hneg]; simp)
          have HZ : Hid (unhexZ l = 0) := Lib.hid (by rw [unhexZ, HB.out]; rfl)
          clear hneg
          generalize l[k] = c at *
          have i2 : (102 : Int) < (c.toNat : Int) := by omega
          clear c1 c4
          go_wp2
          go_ret2
          exact Ret.mk (by rw [HZ.out, HB.out]; rfl) (Below.refl _ _)
      · obtain rfl : k = 16 := by omega
        have HT : Hid (l.take 16 = l) := Lib.hid (List.take_of_length_le (by omega))
        have hu := numTo_lt l 16 (by omega)
        rw [show (16 : Nat) ^ 16 = 18446744073709551616 from rfl] at hu
        rw [HT.out] at hok hu ⊢
        by_cases hmask : numTo l ≤ 4611686018427387903
        · have HB : Hid (unhexB l = true) := Lib.hid (by rw [unhexB, hok.out]; simp [hmask, HL.out])
          have HZ : Hid (unhexZ l = (numTo l : Int)) := Lib.hid (by rw [unhexZ, if_pos HB.out])
          generalize numTo l = X at *
          go_wp2
          go_ret2
          exact Ret.mk (by rw [HZ.out, HB.out]; rfl) (Below.refl _ _)
        · have HB : Hid (unhexB l = false) := Lib.hid (by rw [unhexB]; simp [hmask])
          have HZ : Hid (unhexZ l = 0) := Lib.hid (by rw [unhexZ, HB.out]; rfl)
          generalize numTo l = X at *
          have hm2 : 4611686018427387903 < (X : Int) := by omega
          go_wp2
          go_ret2
          exact Ret.mk (by rw [HZ.out, HB.out]; rfl) (Below.refl _ _)
  · have HB : Hid (unhexB l = false) := Lib.hid (by rw [unhexB]; simp [hl])
    have hl' : ((l.length : Int) == 16) = false := by simp; omega
    go_enter Try.func22, Try.ntmps22
    go_wp2
    go_ret2
    exact Ret.mk (by rw [unhexZ, HB.out]; rfl) (Below.refl _ _)
end Go.Proofs.Ytopedbkefncfnaa
