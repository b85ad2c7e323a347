/- Text of the code and of the reference. -/
import Derived.Test.YtoegkojomgellaaDoorNumF
import Derived.Test.YtoegkojomgellaaDoorNumK
import Derived.Test.YtoegkojomgellaaDoorNumT
import Derived.Test.YtoegkojomgellaaDoorBytes
namespace Go.Proofs.YtoegkojomgellaaDoor
open Go.RowKit

theorem text_any (n : Int) (hn : Fits n) (w : World) (hL : Laid w) : Calls Tryd.prog 16 #[.int .i64 n] w (Ret (.string ⟨(Lib.itoa n).toArray⟩) w) := by
  have h := Tryd.strconv_Itoa n hn.1 hn.2 w hL.pow
  generalize Lib.itoa n = t at *
  go_enter Tryd.func16, Tryd.ntmps16
  go_wp2_with fail
  refine h.mono ?_
  rintro e w1 ⟨rfl, k, os, hw⟩
  have hb : Below w.heap.size w w1 := by
    rw [hw]
    exact (Below.drewN_ (Below.refl _ _) k).trans (below_grow (w.drewN k) os)
  clear hw h
  go_wp2
  go_ret
  exact Ret.mk rfl hb

theorem rtext_zero (w : World) : Calls Tryd.prog 17 #[.int .i64 0] w (Ret (.string ⟨(Lib.itoa 0).toArray⟩) w) := by
  have h : Hid (Lib.itoa 0 = [48]) := Lib.hid (by decide +kernel)
  go_enter Tryd.func17, Tryd.ntmps17
  go_wp2
  go_ret
  exact Ret.mk (by rw [h.out]; rfl) (Below.refl _ _)

theorem u8_dig (d : Nat) : IntKind.u8.wrap (48 + (d : Int)) = ((UInt8.ofNat (48 + d)).toNat : Int) := by
  rw [IntKind.wrap_u8]
  simp

theorem one_string (w : World) (c : UInt8) : (convert 43 9 (.slice (some ⟨w.heap.size, 0, none⟩) 1 1)).run Tryd.prog (w.alloc (.cells #[.int .u8 (c.toNat : Int)] 5)) = .ok (.string ⟨#[c]⟩) (w.alloc (.cells #[.int .u8 (c.toNat : Int)] 5)) :=
  run_bytes_string (w.alloc (.cells #[.int .u8 (c.toNat : Int)] 5)) (some ⟨w.heap.size, 0, none⟩) [c] 1 (Bytes.new w [c] 5)

set_option maxRecDepth 20000 in
set_option maxHeartbeats 1000000 in
theorem rtext_pos (u : Nat) (h0 : u ≠ 0) (h1 : u ≤ 9223372036854775807) (w : World) : Calls Tryd.prog 17 #[.int .i64 (u : Int)] w (Ret (.string ⟨(Lib.itoa (u : Int)).toArray⟩) w) := by
  have hI : Hid (Lib.itoa (u : Int) = decT u) := Lib.hid (by rw [itoa_pos, decT_pos h0])
  have hne : ((u : Int) == 0) = false := by simp; omega
  have hlu : (decT u).length ≤ 21 := by
    have := itoa_length (n := (u : Int)) (by omega) (by omega)
    rwa [itoa_pos, ← decT_pos h0] at this
  generalize Lib.itoa (u : Int) = R at *
  go_enter Tryd.func17, Tryd.ntmps17
  go_wp2
  go_loopw [3, 4] (fun s k wr => ∃ (m : Nat) (t : List UInt8), m ≤ u ∧ k = .int .i64 (m : Int) ∧ s = .string ⟨t.toArray⟩ ∧ decT m ++ t = decT u ∧ Below w.heap.size w wr) (fun _ k _ => (intOf k).toNat)
  case atStart => exact ⟨u, [], Nat.le_refl _, rfl, rfl, by simp, Below.refl _ _⟩
  case round =>
    obtain ⟨m, t, hm, rfl, rfl, ht, hbw⟩ := hrel
    have hlt : t.length ≤ 21 := by
      have := congrArg List.length ht
      rw [List.length_append] at this
      omega
    have HT := Lib.hid ht
    clear ht
    by_cases hz : m = 0
    · subst hz
      go_wp2
      go_ret
      exact Ret.mk (by rw [hI.out, ← HT.out]; rfl) hbw
    · have hne' : ((m : Int) == 0) = false := by simp; omega
      obtain ⟨d, hd⟩ : ∃ d, d = m % 10 := ⟨_, rfl⟩
      obtain ⟨q, hq⟩ : ∃ q, q = m / 10 := ⟨_, rfl⟩
      have HS : Hid (decT m = decT q ++ [UInt8.ofNat (48 + d)]) := Lib.hid (by rw [hd, hq]; exact decT_step hz)
      have hd9 : d < 10 := by omega
      have hqm : q < m := by omega
      have er : (m : Int) % 10 = (d : Int) := by omega
      have eq : (m : Int) / 10 = (q : Int) := by omega
      have hu := u8_dig d
      have hc := one_string wr (UInt8.ofNat (48 + d))
      generalize UInt8.ofNat (48 + d) = c at *
      clear hd hq
      go_wp2
      go_roundw
      case rel => exact ⟨q, c :: t, by omega, rfl, by congr 1, by rw [← HT.out, HS.out, List.append_assoc]; rfl, hbw.alloc hbw.size _⟩
      case measure => simp [intOf]; omega

theorem neg_tmod (m d : Nat) (h : d = m % 10) : (-(m : Int)).tmod 10 = -(d : Int) := by
  rw [Int.neg_tmod, Int.tmod_eq_emod_of_nonneg (by omega)]; omega
theorem neg_tdiv (m q : Nat) (h : q = m / 10) : (-(m : Int)).tdiv 10 = -(q : Int) := by
  rw [Int.neg_tdiv, Int.tdiv_eq_ediv_of_nonneg (by omega)]; omega

set_option maxRecDepth 20000 in
set_option maxHeartbeats 1000000 in
theorem rtext_neg (u : Nat) (h0 : 1 ≤ u) (h1 : u ≤ 9223372036854775808) (w : World) : Calls Tryd.prog 17 #[.int .i64 (-(u : Int))] w (Ret (.string ⟨(Lib.itoa (-(u : Int))).toArray⟩) w) := by
  have hI : Hid (Lib.itoa (-(u : Int)) = 45 :: decT u) := Lib.hid (by rw [itoa_minus h0, decT_pos (by omega)])
  have hne : ((-(u : Int)) == 0) = false := by simp; omega
  have hlu : (decT u).length ≤ 21 := by
    have := itoa_length (n := -(u : Int)) (by omega) (by omega)
    rw [hI.out, List.length_cons] at this
    omega
  have hlt0 : -(u : Int) < 0 := by omega
  generalize Lib.itoa (-(u : Int)) = R at *
  go_enter Tryd.func17, Tryd.ntmps17
  go_wp2
  go_loopw [3, 4] (fun s k wr => ∃ (m : Nat) (t : List UInt8), m ≤ u ∧ k = .int .i64 (-(m : Int)) ∧ s = .string ⟨t.toArray⟩ ∧ decT m ++ t = decT u ∧ Below w.heap.size w wr) (fun _ k _ => (-(intOf k)).toNat)
  case atStart => exact ⟨u, [], Nat.le_refl _, rfl, rfl, by simp, Below.refl _ _⟩
  case round =>
    obtain ⟨m, t, hm, rfl, rfl, ht, hbw⟩ := hrel
    have hlt : t.length ≤ 21 := by
      have := congrArg List.length ht
      rw [List.length_append] at this
      omega
    have HT := Lib.hid ht
    clear ht
    by_cases hz : m = 0
    · subst hz
      go_wp2
      go_ret
      exact Ret.mk (by rw [hI.out, ← HT.out]; rfl) hbw
    · have hne' : ((-(m : Int)) == 0) = false := by simp; omega
      obtain ⟨d, hd⟩ : ∃ d, d = m % 10 := ⟨_, rfl⟩
      obtain ⟨q, hq⟩ : ∃ q, q = m / 10 := ⟨_, rfl⟩
      have HS : Hid (decT m = decT q ++ [UInt8.ofNat (48 + d)]) := Lib.hid (by rw [hd, hq]; exact decT_step hz)
      have hd9 : d < 10 := by omega
      have hqm : q < m := by omega
      have er := neg_tmod m d hd
      have eq := neg_tdiv m q hq
      have hu := u8_dig d
      have hc := one_string wr (UInt8.ofNat (48 + d))
      by_cases hd0 : d = 0
      · subst hd0
        generalize UInt8.ofNat (48 + 0) = c at *
        clear hd hq
        simp only [Int.natCast_zero, Int.neg_zero, Int.add_zero] at er hu
        go_wp2
        go_roundw
        case rel => exact ⟨q, c :: t, by omega, rfl, by congr 1, by rw [← HT.out, HS.out, List.append_assoc]; rfl, hbw.alloc hbw.size _⟩
        case measure => simp [intOf]; omega
      · have hdn : -(d : Int) < 0 := by omega
        generalize UInt8.ofNat (48 + d) = c at *
        clear hd hq
        go_wp2
        go_roundw
        case rel => exact ⟨q, c :: t, by omega, rfl, by congr 1, by rw [← HT.out, HS.out, List.append_assoc]; rfl, hbw.alloc hbw.size _⟩
        case measure => simp [intOf]; omega

theorem rtext_any (n : Int) (hn : Fits n) (w : World) : Calls Tryd.prog 17 #[.int .i64 n] w (Ret (.string ⟨(Lib.itoa n).toArray⟩) w) := by
  unfold Fits at hn
  rcases Int.lt_trichotomy n 0 with h | h | h
  · obtain ⟨u, rfl⟩ : ∃ u : Nat, n = -(u : Int) := ⟨n.natAbs, by omega⟩
    exact rtext_neg u (by omega) (by omega) w
  · subst h
    exact rtext_zero w
  · obtain ⟨u, rfl⟩ : ∃ u : Nat, n = (u : Int) := ⟨n.toNat, by omega⟩
    exact rtext_pos u (by omega) (by omega) w
end Go.Proofs.YtoegkojomgellaaDoor
