/- Reading a number: wire.Int. -/
import Derived.Test.YtefjjjclgcidnaaWireS
namespace Go.Proofs.Ytefjjjclgcidnaa
open Go.RowKit

theorem step_or (l : List UInt8) (a n : Nat) (c : UInt8) (hn : n ≤ 9) (hc : cB l (a + n) = c.toNat) :
    ∃ Y : Nat, Y < 18446744073709551616 ∧ bits .or .u64 (valL l a n : Int) (IntKind.u64.wrap ((c.toNat : Int) % 128 * 2 ^ (7 * n))) = (Y : Int) ∧ Hid ((n = 9 → c.toNat % 128 ≤ 1) → Y = valL l a (n + 1)) := by
  have h1 := valL_lt l a n
  rw [← pow7] at h1
  have h2 := shift_lt (n := n) (C := c.toNat % 128) hn
  have h3 := shift_or (C := c.toNat % 128) hn h1
  exact ⟨_, by omega, by push_cast at h3 ⊢; exact h3, Lib.hid (fun h => valL_next l a n c.toNat hc hn h)⟩

set_option maxHeartbeats 1000000 in
theorem int_in (l : List UInt8) (A : Option Addr) (cap : Nat) (a : Nat) (ha : a ≤ l.length) (w : World) (hv : Bytes w A l) (hl : l.length ≤ 100000) :
    Calls Try.prog 34 #[.slice A l.length cap, .int .i64 (a : Int)] w (Ret (.tuple #[.int .i64 (intN l a), .int .i64 (intTo l a), .int .i64 (intE l a)]) w) := by
  have hla : (a : Int) ≤ l.length := by omega
  have ha0 : (0 : Int) ≤ a := by omega
  go_enter Try.func34, Try.ntmps34
  go_wp2
  go_loop [7, 8, 9, 18] (fun u i c t => ∃ n : Nat, n ≤ 10 ∧ a + n ≤ l.length ∧ t = .int .i64 (n : Int) ∧ Hid (kOf l a 0 10 = kOf l a n (10 - n)) ∧ ∃ X : Nat, X < 18446744073709551616 ∧ u = .int .u64 (X : Int) ∧ Hid (n ≤ 9 → X = valL l a n)) (fun _ _ _ t => 11 - (intOf t).toNat)
  case atStart => exact ⟨0, by omega, by omega, rfl, Lib.hid rfl, 0, by omega, rfl, Lib.hid (fun _ => rfl)⟩
  case round =>
    obtain ⟨n, hn, han, rfl, HK, X, hX, rfl, HX⟩ := hrel
    by_cases h10 : n < 10
    · have hlt : (n : Int) < 10 := by omega
      by_cases hend : a + n = l.length
      · have hend' : (a : Int) + n = l.length := by omega
        have HR := Lib.hid (int_err (l := l) (a := a) (e := 4) ha (by
          have hk := HK.out.trans (kOf_stop h10 (by rw [cB_out (by omega)]; omega))
          unfold errAt
          simp only [hk]
          rw [if_neg (by omega), if_pos (by omega)]) (by decide))
        go_wp2
        go_ret3
        exact Ret.mk (by rw [HR.out.1, HR.out.2.1, HR.out.2.2]; rfl) (Below.refl _ _)
      · have hin : a + n < l.length := by omega
        obtain ⟨ad, rfl, hb, hcell⟩ := hv.at_ hin
        have hc1 := cB_in hin
        have hand := and127 l[a + n]
        have hne : ((a : Int) + n == (l.length : Int)) = false := by simp; omega
        have q3 : (a : Int) + n < l.length := by omega
        have q4 : (0 : Int) ≤ (a : Int) + n := by omega
        have hcl := l[a + n].toNat_lt
        by_cases hc : 128 ≤ l[a + n].toNat
        · have hc' : (128 : Int) ≤ (l[a + n].toNat : Int) := by omega
          have HG := Lib.hid (HK.out.trans (kOf_go h10 (by rw [hc1]; exact hc)))
          generalize l[a + n] = c at *
          have hXl := hX
          obtain rfl := HX.out (by omega)
          have HXl := Lib.hid (valL_lt l a n)
          have HO := Lib.hid (shift_or (C := c.toNat % 128) (show n ≤ 9 by omega) (X := valL l a n) (by rw [pow7]; exact HXl.out))
          have HL := Lib.hid (shift_lt (n := n) (C := c.toNat % 128) (by omega))
          have HN := Lib.hid (valL_next l a n c.toNat hc1 (by omega))
          go_wp2
          go_round
          case rel =>
            refine ⟨n + 1, by omega, by omega, by go_num, HG, _, ?_, congrArg (Value.int .u64) (by have := HO.out; push_cast at this ⊢; exact this), Lib.hid (fun h => HN.out (by omega))⟩
            have h1 := HL.out
            have h2 := HXl.out
            rw [← pow7] at h2
            omega
          case measure => simp [intOf]; omega
        · have hc' : ((128 : Int) ≤ (l[a + n].toNat : Int)) = False := by simp; omega
          have HKK := Lib.hid (HK.out.trans (kOf_stop h10 (by rw [hc1]; omega)))
          obtain rfl := HX.out (by omega)
          obtain ⟨Y, hY, hor, HYv⟩ := step_or l a n l[a + n] (by omega) hc1
          by_cases z : l[a + n].toNat = 0
          · by_cases p : n = 0
            · have hz : ((l[a + n].toNat : Int) == 0) = true := by simp; omega
              have hp : decide (0 < n) = false := by simp; omega
              have HP := Lib.hid p
              have ho : decide ((1 : Int) < (l[a + n].toNat : Int)) = false := by simp; omega
              have HR := Lib.hid (int_ok ha HKK.out h10 hin (by rw [hc1]; omega))
              rw [← HYv.out (by omega)] at HR
              clear hc1
              clear p z
              generalize l[a + n] = c at *
              go_wp2_with fail
              refine (signed_any Y hY _).mono ?_
              rintro e w1 ⟨rfl, h1⟩
              go_wp2
              go_ret3
              exact Ret.mk (by rw [HR.out.1, HR.out.2.1, HR.out.2.2]; first | rfl | (rw [show ((a + n + 1 : Nat) : Int) = (a : Int) + 1 by have := HP.out; omega]; rfl)) h1
            · have hz : ((l[a + n].toNat : Int) == 0) = true := by simp; omega
              have hp : decide ((0 : Int) < (n : Int)) = true := by simp; omega
              have HR := Lib.hid (int_err (l := l) (a := a) (e := 3) ha (by
                unfold errAt
                simp only [HKK.out]
                rw [if_neg (by omega), if_neg (by omega), if_pos (by rw [hc1]; omega)]) (by decide))
              clear hc1
              generalize l[a + n] = c at *
              go_wp2
              go_ret3
              exact Ret.mk (by rw [HR.out.1, HR.out.2.1, HR.out.2.2]; rfl) (Below.refl _ _)
          · by_cases p : 1 < l[a + n].toNat
            · by_cases q : n = 9
              · have hz : ((l[a + n].toNat : Int) == 0) = false := by simp; omega
                have ho : decide ((1 : Int) < (l[a + n].toNat : Int)) = true := by simp; omega
                have h9 : ((n : Int) == 9) = true := by simp; omega
                have HR := Lib.hid (int_err (l := l) (a := a) (e := 3) ha (by
                  unfold errAt
                  simp only [HKK.out]
                  rw [if_neg (by omega), if_neg (by omega), if_pos (by rw [hc1]; omega)]) (by decide))
                clear hc1
                clear q
                generalize l[a + n] = c at *
                go_wp2
                go_ret3
                exact Ret.mk (by rw [HR.out.1, HR.out.2.1, HR.out.2.2]; rfl) (Below.refl _ _)
              · have hz : ((l[a + n].toNat : Int) == 0) = false := by simp; omega
                have ho : decide ((1 : Int) < (l[a + n].toNat : Int)) = true := by simp; omega
                have h9 : ((n : Int) == 9) = false := by simp; omega
                have HR := Lib.hid (int_ok ha HKK.out h10 hin (by rw [hc1]; omega))
                rw [← HYv.out (by omega)] at HR
                clear hc1
                generalize l[a + n] = c at *
                go_wp2_with fail
                refine (signed_any Y hY _).mono ?_
                rintro e w1 ⟨rfl, h1⟩
                go_wp2
                go_ret3
                exact Ret.mk (by rw [HR.out.1, HR.out.2.1, HR.out.2.2]; rfl) h1
            · have hz : ((l[a + n].toNat : Int) == 0) = false := by simp; omega
              have ho : decide ((1 : Int) < (l[a + n].toNat : Int)) = false := by simp; omega
              have HR := Lib.hid (int_ok ha HKK.out h10 hin (by rw [hc1]; omega))
              rw [← HYv.out (by omega)] at HR
              clear hc1
              generalize l[a + n] = c at *
              go_wp2_with fail
              refine (signed_any Y hY _).mono ?_
              rintro e w1 ⟨rfl, h1⟩
              go_wp2
              go_ret3
              exact Ret.mk (by rw [HR.out.1, HR.out.2.1, HR.out.2.2]; rfl) h1
    · obtain rfl : n = 10 := by omega
      have HR := Lib.hid (int_err (l := l) (a := a) (e := 3) ha (by
        have hk : kOf l a 0 10 = 10 := HK.out
        unfold errAt
        simp [hk]) (by decide))
      go_wp2
      go_ret3
      exact Ret.mk (by rw [HR.out.1, HR.out.2.1, HR.out.2.2]; rfl) (Below.refl _ _)
end Go.Proofs.Ytefjjjclgcidnaa
