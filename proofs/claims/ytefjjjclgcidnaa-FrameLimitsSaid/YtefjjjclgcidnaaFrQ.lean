/- The law FrameLimits: its walk. -/
import Derived.Test.YtefjjjclgcidnaaFrH
namespace Go.Proofs.Ytefjjjclgcidnaa
open Go.RowKit

set_option maxHeartbeats 2000000 in
theorem limits_low (w : World) (kind : Int) (y n : Nat) (hnI : (1048577 : Int) + (y : Int) = (n : Int)) (hn1 : n ≤ 1048832) (hn2 : 1048576 < n) (hy : y < 256) (h0 : kind < 1) :
    Calls Try.prog 10 #[.int .i64 kind, .int .u8 (y : Int)] w (Ret (.bool true) w) := by
  obtain ⟨i0, hi0, hz0, hz1, hz2⟩ := info_parts info_u8
  have d0 : decide (kind < 1) = true := by simpa using h0
  have hs := fun A c w' => seal_kind kind (.inl h0) A n c w'
  go_enter Try.func10, Try.ntmps10
  go_wp2_with (refine wpList_make_full w rfl _ _ 22 rfl w.heap.size 5 i0 (.int .u8 0) 1 Try.underlying22 hi0 hz0 hz1 .i64 .i64 _ _ n rfl rfl rfl rfl (by rw [hz2]; omega) (by unfold maxLen; omega) (Nat.le_refl _) ?_; intro w1 hown1 hgr1)
  have h1 : Below w.heap.size w w1 := (Below.refl _ _).grown hgr1 (Nat.le_refl _) (by intro k h; cases h)
  clear hown1 hgr1
  refine (hs _ _ _).mono ?_
  rintro e w2 ⟨rfl, h2⟩
  have H2 := Below.step h1 h2
  clear hs
  go_wp2_with fail
  refine (awake_any _).mono ?_
  rintro e w3 ⟨rfl, h3⟩
  go_wp2
  go_ret
  exact Ret.mk rfl (Below.step H2 h3)
set_option maxHeartbeats 2000000 in
theorem limits_high (w : World) (kind : Int) (y n : Nat) (hnI : (1048577 : Int) + (y : Int) = (n : Int)) (hn1 : n ≤ 1048832) (hn2 : 1048576 < n) (hy : y < 256) (h0 : ¬ kind < 1) (h1 : (255 : Int) < kind) :
    Calls Try.prog 10 #[.int .i64 kind, .int .u8 (y : Int)] w (Ret (.bool true) w) := by
  obtain ⟨i0, hi0, hz0, hz1, hz2⟩ := info_parts info_u8
  have d0 : decide (kind < 1) = false := by simpa using h0
  have d1 : decide ((255 : Int) < kind) = true := by simpa using h1
  have hs := fun A c w' => seal_kind kind (.inr h1) A n c w'
  go_enter Try.func10, Try.ntmps10
  go_wp2_with (refine wpList_make_full w rfl _ _ 22 rfl w.heap.size 5 i0 (.int .u8 0) 1 Try.underlying22 hi0 hz0 hz1 .i64 .i64 _ _ n rfl rfl rfl rfl (by rw [hz2]; omega) (by unfold maxLen; omega) (Nat.le_refl _) ?_; intro w1 hown1 hgr1)
  have h1 : Below w.heap.size w w1 := (Below.refl _ _).grown hgr1 (Nat.le_refl _) (by intro k h; cases h)
  clear hown1 hgr1
  refine (hs _ _ _).mono ?_
  rintro e w2 ⟨rfl, h2⟩
  have H2 := Below.step h1 h2
  clear hs
  go_wp2_with fail
  refine (awake_any _).mono ?_
  rintro e w3 ⟨rfl, h3⟩
  go_wp2
  go_ret
  exact Ret.mk rfl (Below.step H2 h3)
set_option maxHeartbeats 2000000 in
theorem limits_in (w : World) (kind : Int) (y n : Nat) (hnI : (1048577 : Int) + (y : Int) = (n : Int)) (hn1 : n ≤ 1048832) (hn2 : 1048576 < n) (hy : y < 256) (h0 : ¬ kind < 1) (h1 : ¬ (255 : Int) < kind) :
    Calls Try.prog 10 #[.int .i64 kind, .int .u8 (y : Int)] w (Ret (.bool true) w) := by
  obtain ⟨i0, hi0, hz0, hz1, hz2⟩ := info_parts info_u8
  have d0 : decide (kind < 1) = false := by simpa using h0
  have d1 : decide ((255 : Int) < kind) = false := by simpa using h1
  have hs := fun A c w' => seal_long kind (by omega) (by omega) A n c hn2 w'
  go_enter Try.func10, Try.ntmps10
  go_wp2_with (refine wpList_make_full w rfl _ _ 22 rfl w.heap.size 5 i0 (.int .u8 0) 1 Try.underlying22 hi0 hz0 hz1 .i64 .i64 _ _ n rfl rfl rfl rfl (by rw [hz2]; omega) (by unfold maxLen; omega) (Nat.le_refl _) ?_; intro w1 hown1 hgr1)
  have h1 : Below w.heap.size w w1 := (Below.refl _ _).grown hgr1 (Nat.le_refl _) (by intro k h; cases h)
  clear hown1 hgr1
  refine (hs _ _ _).mono ?_
  rintro e w2 ⟨rfl, h2⟩
  have H2 := Below.step h1 h2
  clear hs
  go_wp2_with fail
  refine (awake_any _).mono ?_
  rintro e w3 ⟨rfl, h3⟩
  go_wp2
  go_ret
  exact Ret.mk rfl (Below.step H2 h3)
theorem limits_walk (w : World) (kind : Int) (_ : Fits kind) (x : UInt8) : Calls Try.prog 10 #[.int .i64 kind, .int .u8 (x.toNat : Int)] w (Ret (.bool true) w) := by
  have hx := x.toNat_lt
  by_cases h0 : kind < 1
  · exact limits_low w kind x.toNat (1048577 + x.toNat) (by omega) (by omega) (by omega) hx h0
  · by_cases h1 : (255 : Int) < kind
    · exact limits_high w kind x.toNat (1048577 + x.toNat) (by omega) (by omega) (by omega) hx h0 h1
    · exact limits_in w kind x.toNat (1048577 + x.toNat) (by omega) (by omega) (by omega) hx h0 h1
end Go.Proofs.Ytefjjjclgcidnaa
