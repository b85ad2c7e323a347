/- The reference's Int. -/
import Derived.Test.YtefjjjclgcidnaaWireJ
namespace Go.Proofs.Ytefjjjclgcidnaa
open Go.RowKit

theorem val_end (l : List UInt8) (a n : Nat) (hn : n ≤ 9) (h9 : n = 9 → cB l (a + n) ≤ 1) : valL l a (n + 1) < 18446744073709551616 := by
  have h1 := valL_lt l a n
  have h2 := valL_lt l a (n + 1)
  rcases Nat.lt_or_ge n 9 with h | h
  · have : 128 ^ (n + 1) ≤ 128 ^ 9 := Nat.pow_le_pow_right (by decide) (by omega)
    rw [show (128 : Nat) ^ 9 = 9223372036854775808 from by decide] at this
    omega
  · obtain rfl : n = 9 := by omega
    have := h9 rfl
    rw [show (128 : Nat) ^ 9 = 9223372036854775808 from by decide] at h1
    rw [valL, show (128 : Nat) ^ 9 = 9223372036854775808 from by decide]
    have : cB l (a + 9) % 128 ≤ 1 := by omega
    omega

theorem back_step {l : List UInt8} {a j n U : Nat} (hj : a + j < l.length) (h : U * 128 ^ (j + 1) + valL l a (j + 1) = valL l a (n + 1)) (hV : valL l a (n + 1) < 18446744073709551616) :
    Hid ((U * 128 + l[a + j].toNat % 128) * 128 ^ j + valL l a j = valL l a (n + 1)) ∧ U * 128 + l[a + j].toNat % 128 < 18446744073709551616 := by
  rw [valL, cB_in hj, Nat.pow_succ] at h
  have e : (U * 128 + l[a + j].toNat % 128) * 128 ^ j + valL l a j = valL l a (n + 1) := by
    rw [← h, Nat.add_mul, Nat.mul_assoc U 128, Nat.mul_comm 128 (128 ^ j)]
    omega
  refine ⟨Lib.hid e, ?_⟩
  have := Nat.le_mul_of_pos_right (U * 128 + l[a + j].toNat % 128) (Nat.pow_pos (n := j) (show 0 < 128 by decide))
  omega

set_option maxHeartbeats 1000000 in
theorem rint_in (l : List UInt8) (A : Option Addr) (cap : Nat) (a : Nat) (ha : a ≤ l.length) (w : World) (hv : Bytes w A l) (hl : l.length ≤ 100000) :
    Calls Try.prog 29 #[.slice A l.length cap, .int .i64 (a : Int)] w (Ret (.tuple #[.int .i64 (intN l a), .int .i64 (intTo l a), .int .i64 (intE l a)]) w) := by
  have hla : (a : Int) ≤ l.length := by omega
  have ha0 : (0 : Int) ≤ a := by omega
  go_enter Try.func29, Try.ntmps29
  go_wp2
  go_loop [7] (fun t => ∃ n : Nat, n ≤ 10 ∧ a + n ≤ l.length ∧ t = .int .i64 (n : Int) ∧ Hid (kOf l a 0 10 = kOf l a n (10 - n))) (fun t => 11 - (intOf t).toNat)
  case atStart => exact ⟨0, by omega, by omega, rfl, Lib.hid rfl⟩
  case round =>
    obtain ⟨n, hn, han, rfl, HK⟩ := hrel
    by_cases h10 : n < 10
    · have hlt : (n : Int) < 10 := by omega
      by_cases hend : a + n = l.length
      · have hend' : (a : Int) + n = l.length := by omega
        have HR := Lib.hid (int_err (l := l) (a := a) (e := 4) ha (by
          have hk := HK.out.trans (kOf_stop h10 (by rw [cB_out (by omega)]; omega))
          unfold errAt
          simp only [hk]
          rw [if_neg (by omega), if_pos (by omega)]) (by decide))
        have h9 : ((n : Int) == 10) = false := by simp; omega
        go_wp2
        go_ret3
        exact Ret.mk (by rw [HR.out.1, HR.out.2.1, HR.out.2.2]; rfl) (Below.refl _ _)
      · have hin : a + n < l.length := by omega
        obtain ⟨ad, rfl, hb, hcell⟩ := hv.at_ hin
        have hc1 := cB_in hin
        have q3 : (a : Int) + n < l.length := by omega
        have q4 : (0 : Int) ≤ (a : Int) + n := by omega
        have hcl := l[a + n].toNat_lt
        by_cases hc : 128 ≤ l[a + n].toNat
        · have hc' : (128 : Int) ≤ (l[a + n].toNat : Int) := by omega
          have HG := Lib.hid (HK.out.trans (kOf_go h10 (by rw [hc1]; exact hc)))
          generalize l[a + n] = c at *
          go_wp2
          go_round
          case rel => exact ⟨n + 1, by omega, by omega, by go_num, HG⟩
          case measure => simp [intOf]; omega
        · have hc' : ((128 : Int) ≤ (l[a + n].toNat : Int)) = False := by simp; omega
          have h10' : ((n : Int) == 10) = false := by simp; omega
          have HKK := Lib.hid (HK.out.trans (kOf_stop h10 (by rw [hc1]; omega)))
          by_cases p : n = 0
          · have HP := Lib.hid p
            have hp : decide (0 < n) = false := by simp; omega
            have h9 : ((n : Int) == 9) = false := by simp; omega
            have HR := Lib.hid (int_ok ha HKK.out h10 hin (by rw [hc1]; omega))
            have HB := Lib.hid (val_end l a n (by omega) (by rw [hc1]; omega))
            clear hc1
            generalize l[a + n] = c at *
            clear p
            go_wp2
            go_loop [8, 9] (fun u i => ∃ (m : Nat) (z : Int), m ≤ n + 1 ∧ z = (m : Int) - 1 ∧ i = .int .i64 z ∧ ∃ U : Nat, u = .int .u64 (U : Int) ∧ Hid (U * 128 ^ m + valL l a m = valL l a (n + 1))) (fun _ i => (intOf i + 1).toNat)
            case atStart => exact ⟨n + 1, n, by omega, by omega, rfl, 0, rfl, Lib.hid (by simp)⟩
            case round =>
              obtain ⟨m, z, hm, hz2, rfl, U, rfl, HU⟩ := hrel
              by_cases m0 : 0 < m
              · obtain ⟨j, rfl⟩ : ∃ j, m = j + 1 := ⟨m - 1, by omega⟩
                obtain rfl : z = (j : Int) := by omega
                clear hz2
                have hjl : a + j < l.length := by omega
                obtain ⟨ad2, e2, hb2, hcell2⟩ := hv.at_ hjl
                injection e2 with e2
                subst e2
                obtain ⟨HS, hub⟩ := back_step hjl HU.out HB.out
                have q5 : (a : Int) + j < l.length := by omega
                have q6 : (0 : Int) ≤ (a : Int) + j := by omega
                generalize l[a + j] = d at *
                go_wp2
                go_round
                case rel => exact ⟨j, (j : Int) - 1, by omega, by omega, by go_num, U * 128 + d.toNat % 128, by go_num, HS⟩
                case measure => simp [intOf] <;> omega
              · obtain rfl : m = 0 := by omega
                obtain rfl : z = -1 := by omega
                have HU' : Hid (valL l a (n + 1) = U) := Lib.hid (by rw [← HU.out]; show U * 128 ^ 0 + 0 = U; rw [Nat.pow_zero]; omega)
                have hUb : U < 18446744073709551616 := by rw [← HU'.out]; exact HB.out
                rw [HU'.out] at HR
                clear hz2 HU HU' HB
                by_cases s : U % 2 = 1
                · have hs : ((U : Int) % 2 == 1) = true := by simp; omega
                  have HG2 : Hid (sgn U = -((U : Int) / 2) - 1) := Lib.hid (by unfold sgn; rw [if_pos s]; omega)
                  clear s
                  go_wp2
                  go_ret3
                  exact Ret.mk (by rw [HR.out.1, HR.out.2.1, HR.out.2.2, HG2.out]; (first | rfl | (rw [show ((a + n + 1 : Nat) : Int) = (a : Int) + 1 by have := HP.out; omega]; rfl))) (Below.refl _ _)
                · have hs : ((U : Int) % 2 == 1) = false := by simp; omega
                  have HG2 : Hid (sgn U = (U : Int) / 2) := Lib.hid (by unfold sgn; rw [if_neg s]; omega)
                  clear s
                  go_wp2
                  go_ret3
                  exact Ret.mk (by rw [HR.out.1, HR.out.2.1, HR.out.2.2, HG2.out]; (first | rfl | (rw [show ((a + n + 1 : Nat) : Int) = (a : Int) + 1 by have := HP.out; omega]; rfl))) (Below.refl _ _)
          · by_cases z : l[a + n].toNat = 0
            · have hp : decide (0 < n) = true := by simp; omega
              have hz : ((l[a + n].toNat : Int) == 0) = true := by simp; omega
              have HR := Lib.hid (int_err (l := l) (a := a) (e := 3) ha (by
                unfold errAt
                simp only [HKK.out]
                rw [if_neg (by omega), if_neg (by omega), if_pos (by rw [hc1]; omega)]) (by decide))
              clear hc1
              generalize l[a + n] = c at *
              clear p z
              go_wp2
              go_ret3
              exact Ret.mk (by rw [HR.out.1, HR.out.2.1, HR.out.2.2]; rfl) (Below.refl _ _)
            · by_cases q : n = 9
              · by_cases o : 1 < l[a + n].toNat
                · have hp : decide (0 < n) = true := by simp; omega
                  have hz : ((l[a + n].toNat : Int) == 0) = false := by simp; omega
                  have ho : decide ((1 : Int) < (l[a + n].toNat : Int)) = true := by simp; omega
                  have h9 : ((n : Int) == 9) = true := by simp; omega
                  have HR := Lib.hid (int_err (l := l) (a := a) (e := 3) ha (by
                    unfold errAt
                    simp only [HKK.out]
                    rw [if_neg (by omega), if_neg (by omega), if_pos (by rw [hc1]; omega)]) (by decide))
                  clear hc1
                  generalize l[a + n] = c at *
                  clear p z q
                  go_wp2
                  go_ret3
                  exact Ret.mk (by rw [HR.out.1, HR.out.2.1, HR.out.2.2]; rfl) (Below.refl _ _)
                · have HP := Lib.hid q
                  have hp : decide (0 < n) = true := by simp; omega
                  have hz : ((l[a + n].toNat : Int) == 0) = false := by simp; omega
                  have ho : decide ((1 : Int) < (l[a + n].toNat : Int)) = false := by simp; omega
                  have h9 : ((n : Int) == 9) = true := by simp; omega
                  have HR := Lib.hid (int_ok ha HKK.out h10 hin (by rw [hc1]; omega))
                  have HB := Lib.hid (val_end l a n (by omega) (by rw [hc1]; omega))
                  clear hc1
                  generalize l[a + n] = c at *
                  clear p z q
                  go_wp2
                  go_loop [8, 9] (fun u i => ∃ (m : Nat) (z : Int), m ≤ n + 1 ∧ z = (m : Int) - 1 ∧ i = .int .i64 z ∧ ∃ U : Nat, u = .int .u64 (U : Int) ∧ Hid (U * 128 ^ m + valL l a m = valL l a (n + 1))) (fun _ i => (intOf i + 1).toNat)
                  case atStart => exact ⟨n + 1, n, by omega, by omega, rfl, 0, rfl, Lib.hid (by simp)⟩
                  case round =>
                    obtain ⟨m, z, hm, hz2, rfl, U, rfl, HU⟩ := hrel
                    by_cases m0 : 0 < m
                    · obtain ⟨j, rfl⟩ : ∃ j, m = j + 1 := ⟨m - 1, by omega⟩
                      obtain rfl : z = (j : Int) := by omega
                      clear hz2
                      have hjl : a + j < l.length := by omega
                      obtain ⟨ad2, e2, hb2, hcell2⟩ := hv.at_ hjl
                      injection e2 with e2
                      subst e2
                      obtain ⟨HS, hub⟩ := back_step hjl HU.out HB.out
                      have q5 : (a : Int) + j < l.length := by omega
                      have q6 : (0 : Int) ≤ (a : Int) + j := by omega
                      generalize l[a + j] = d at *
                      go_wp2
                      go_round
                      case rel => exact ⟨j, (j : Int) - 1, by omega, by omega, by go_num, U * 128 + d.toNat % 128, by go_num, HS⟩
                      case measure => simp [intOf] <;> omega
                    · obtain rfl : m = 0 := by omega
                      obtain rfl : z = -1 := by omega
                      have HU' : Hid (valL l a (n + 1) = U) := Lib.hid (by rw [← HU.out]; show U * 128 ^ 0 + 0 = U; rw [Nat.pow_zero]; omega)
                      have hUb : U < 18446744073709551616 := by rw [← HU'.out]; exact HB.out
                      rw [HU'.out] at HR
                      clear hz2 HU HU' HB
                      by_cases s : U % 2 = 1
                      · have hs : ((U : Int) % 2 == 1) = true := by simp; omega
                        have HG2 : Hid (sgn U = -((U : Int) / 2) - 1) := Lib.hid (by unfold sgn; rw [if_pos s]; omega)
                        clear s
                        go_wp2
                        go_ret3
                        exact Ret.mk (by rw [HR.out.1, HR.out.2.1, HR.out.2.2, HG2.out]; (first | rfl | (rw [show ((a + n + 1 : Nat) : Int) = (a : Int) + 10 by have := HP.out; omega]; rfl))) (Below.refl _ _)
                      · have hs : ((U : Int) % 2 == 1) = false := by simp; omega
                        have HG2 : Hid (sgn U = (U : Int) / 2) := Lib.hid (by unfold sgn; rw [if_neg s]; omega)
                        clear s
                        go_wp2
                        go_ret3
                        exact Ret.mk (by rw [HR.out.1, HR.out.2.1, HR.out.2.2, HG2.out]; (first | rfl | (rw [show ((a + n + 1 : Nat) : Int) = (a : Int) + 10 by have := HP.out; omega]; rfl))) (Below.refl _ _)
              · have hp : decide (0 < n) = true := by simp; omega
                have hz : ((l[a + n].toNat : Int) == 0) = false := by simp; omega
                have h9 : ((n : Int) == 9) = false := by simp; omega
                have HR := Lib.hid (int_ok ha HKK.out h10 hin (by rw [hc1]; omega))
                have HB := Lib.hid (val_end l a n (by omega) (by rw [hc1]; omega))
                clear hc1
                generalize l[a + n] = c at *
                clear p z q
                go_wp2
                go_loop [8, 9] (fun u i => ∃ (m : Nat) (z : Int), m ≤ n + 1 ∧ z = (m : Int) - 1 ∧ i = .int .i64 z ∧ ∃ U : Nat, u = .int .u64 (U : Int) ∧ Hid (U * 128 ^ m + valL l a m = valL l a (n + 1))) (fun _ i => (intOf i + 1).toNat)
                case atStart => exact ⟨n + 1, n, by omega, by omega, rfl, 0, rfl, Lib.hid (by simp)⟩
                case round =>
                  obtain ⟨m, z, hm, hz2, rfl, U, rfl, HU⟩ := hrel
                  by_cases m0 : 0 < m
                  · obtain ⟨j, rfl⟩ : ∃ j, m = j + 1 := ⟨m - 1, by omega⟩
                    obtain rfl : z = (j : Int) := by omega
                    clear hz2
                    have hjl : a + j < l.length := by omega
                    obtain ⟨ad2, e2, hb2, hcell2⟩ := hv.at_ hjl
                    injection e2 with e2
                    subst e2
                    obtain ⟨HS, hub⟩ := back_step hjl HU.out HB.out
                    have q5 : (a : Int) + j < l.length := by omega
                    have q6 : (0 : Int) ≤ (a : Int) + j := by omega
                    generalize l[a + j] = d at *
                    go_wp2
                    go_round
                    case rel => exact ⟨j, (j : Int) - 1, by omega, by omega, by go_num, U * 128 + d.toNat % 128, by go_num, HS⟩
                    case measure => simp [intOf] <;> omega
                  · obtain rfl : m = 0 := by omega
                    obtain rfl : z = -1 := by omega
                    have HU' : Hid (valL l a (n + 1) = U) := Lib.hid (by rw [← HU.out]; show U * 128 ^ 0 + 0 = U; rw [Nat.pow_zero]; omega)
                    have hUb : U < 18446744073709551616 := by rw [← HU'.out]; exact HB.out
                    rw [HU'.out] at HR
                    clear hz2 HU HU' HB
                    by_cases s : U % 2 = 1
                    · have hs : ((U : Int) % 2 == 1) = true := by simp; omega
                      have HG2 : Hid (sgn U = -((U : Int) / 2) - 1) := Lib.hid (by unfold sgn; rw [if_pos s]; omega)
                      clear s
                      go_wp2
                      go_ret3
                      exact Ret.mk (by rw [HR.out.1, HR.out.2.1, HR.out.2.2, HG2.out]; rfl) (Below.refl _ _)
                    · have hs : ((U : Int) % 2 == 1) = false := by simp; omega
                      have HG2 : Hid (sgn U = (U : Int) / 2) := Lib.hid (by unfold sgn; rw [if_neg s]; omega)
                      clear s
                      go_wp2
                      go_ret3
                      exact Ret.mk (by rw [HR.out.1, HR.out.2.1, HR.out.2.2, HG2.out]; rfl) (Below.refl _ _)
    · obtain rfl : n = 10 := by omega
      have HR := Lib.hid (int_err (l := l) (a := a) (e := 3) ha (by
        have hk : kOf l a 0 10 = 10 := HK.out
        unfold errAt
        simp [hk]) (by decide))
      go_wp2
      go_ret3
      exact Ret.mk (by rw [HR.out.1, HR.out.2.1, HR.out.2.2]; rfl) (Below.refl _ _)
end Go.Proofs.Ytefjjjclgcidnaa
