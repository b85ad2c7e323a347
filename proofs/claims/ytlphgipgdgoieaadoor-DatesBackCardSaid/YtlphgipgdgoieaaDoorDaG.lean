/- The reference's digits and Text. -/
import Derived.Test.YtlphgipgdgoieaaDoorDaE
import Derived.Test.YtlphgipgdgoieaaDoorDaT
import Derived.Test.YtlphgipgdgoieaaDoorBytes
namespace Go.Proofs.YtlphgipgdgoieaaDoor
open Go.RowKit

/-- The last k digits. -/
def dgs : Nat → Nat → List UInt8
  | 0, _ => []
  | k + 1, n => dgs k (n / 10) ++ [dg (n % 10)]
theorem dgs_2 {n : Nat} (h : n < 100) : dgs 2 n = d2 n := by
  show [] ++ [dg (n / 10 % 10)] ++ [dg (n % 10)] = _
  rw [Nat.mod_eq_of_lt (show n / 10 < 10 by omega)]; rfl
theorem dgs_4 {n : Nat} (h : n < 10000) : dgs 4 n = d4 n := by
  show [] ++ [dg (n / 10 / 10 / 10 % 10)] ++ [dg (n / 10 / 10 % 10)] ++ [dg (n / 10 % 10)] ++ [dg (n % 10)] = _
  rw [show n / 10 / 10 / 10 % 10 = n / 1000 by omega, show n / 10 / 10 % 10 = n / 100 % 10 by omega]; rfl

theorem u8_dg (d : Nat) : IntKind.u8.wrap (48 + (d : Int)) = ((dg d).toNat : Int) := by
  unfold dg
  rw [IntKind.wrap_u8]
  simp
theorem one_string (w : World) (c : UInt8) : (convert 45 9 (.slice (some ⟨w.heap.size, 0, none⟩) 1 1)).run Tryd.prog (w.alloc (.cells #[.int .u8 (c.toNat : Int)] 5)) = .ok (.string ⟨#[c]⟩) (w.alloc (.cells #[.int .u8 (c.toNat : Int)] 5)) :=
  run_bytes_string (w.alloc (.cells #[.int .u8 (c.toNat : Int)] 5)) (some ⟨w.heap.size, 0, none⟩) [c] 1 (Bytes.new w [c] 5)

set_option maxRecDepth 20000 in
set_option maxHeartbeats 2000000 in
theorem rdigits_any (N k : Nat) (hN : N ≤ 100000) (hk : k ≤ 10) (w : World) : Calls Tryd.prog 34 #[.int .i64 (N : Int), .int .i64 (k : Int)] w (Ret (.string ⟨(dgs k N).toArray⟩) w) := by
  obtain ⟨R, hRR⟩ : ∃ R, R = dgs k N := ⟨_, rfl⟩
  have hR : Hid (R = dgs (k - 0) N ++ []) := Lib.hid (by simp [hRR])
  rw [← hRR]
  clear hRR
  go_enter Tryd.func34, Tryd.ntmps34
  go_wp2
  go_loopw [0, 5, 6] (fun n s i wr => ∃ (j m : Nat) (t : List UInt8), j ≤ k ∧ n = .int .i64 (m : Int) ∧ s = .string ⟨t.toArray⟩ ∧ i = .int .i64 (j : Int) ∧ Hid (R = dgs (k - j) m ++ t) ∧ t.length ≤ j ∧ m ≤ N ∧ Below w.heap.size w wr) (fun _ _ i _ => k + 1 - (intOf i).toNat)
  case atStart => exact ⟨0, N, [], by omega, rfl, rfl, rfl, hR, by simp, Nat.le_refl _, Below.refl _ _⟩
  case round =>
    clear hR
    obtain ⟨j, m, t, hj, rfl, rfl, rfl, HT, hlt, hm, hbw⟩ := hrel
    by_cases hz : j < k
    · obtain ⟨d, hd⟩ : ∃ d, d = m % 10 := ⟨_, rfl⟩
      obtain ⟨q, hq⟩ : ∃ q, q = m / 10 := ⟨_, rfl⟩
      have HS : Hid (dgs (k - j) m = dgs (k - (j + 1)) q ++ [dg d]) := Lib.hid (by
        rw [hd, hq, show k - j = (k - (j + 1)) + 1 by omega]; rfl)
      have hd9 : d < 10 := by omega
      have hqm : q ≤ m := by omega
      have er : (m : Int) % 10 = (d : Int) := by omega
      have eq : (m : Int) / 10 = (q : Int) := by omega
      have hu := u8_dg d
      have hc := one_string wr (dg d)
      generalize dg d = c at *
      clear hd hq
      go_wp2
      go_roundw
      case rel => exact ⟨j + 1, q, c :: t, by omega, rfl, by congr 1, by go_num, Lib.hid (by rw [HT.out, HS.out, List.append_assoc]; rfl), by simp; omega, by omega, hbw.alloc hbw.size _⟩
      case measure => simp [intOf]; omega
    · obtain rfl : j = k := by omega
      have hV : Hid (R = t) := Lib.hid (by rw [HT.out]; simp [dgs])
      go_wp2
      go_ret
      exact Ret.mk (by rw [hV.out]; rfl) hbw

theorem str_text (a b c : List UInt8) : (((((⟨a.toArray⟩ : ByteArray) ++ ⟨#[45]⟩) ++ ⟨b.toArray⟩) ++ ⟨#[45]⟩) ++ ⟨c.toArray⟩) = (⟨(a ++ 45 :: (b ++ 45 :: c)).toArray⟩ : ByteArray) := by
  apply ByteArray.ext
  simp [ByteArray.data_append]

/-- A day's number as three naturals. -/
theorem civ_nat {n : Int} (h : 1 ≤ n ∧ n ≤ 109573) : ∃ Y M D : Nat, civ n = ((Y : Int), (M : Int), (D : Int)) ∧ 1900 ≤ Y ∧ Y ≤ 2199 ∧ 1 ≤ M ∧ M ≤ 12 ∧ 1 ≤ D ∧ D ≤ 31 ∧ txtN n = txt Y M D := by
  obtain ⟨⟨h1, h2, h3, h4, h5, h6⟩, _⟩ := civ_ok h.1 h.2
  have h7 := (dim_pos (civ n).1 (civ n).2.1).2
  refine ⟨(civ n).1.toNat, (civ n).2.1.toNat, (civ n).2.2.toNat, ?_, by omega, by omega, by omega, by omega, by omega, by omega, by unfold txtN; rw [if_pos h]⟩
  refine Prod.ext ?_ (Prod.ext ?_ ?_)
  · show (civ n).1 = ((civ n).1.toNat : Int); omega
  · show (civ n).2.1 = ((civ n).2.1.toNat : Int); omega
  · show (civ n).2.2 = ((civ n).2.2.toNat : Int); omega

set_option maxRecDepth 20000 in
set_option maxHeartbeats 2000000 in
theorem rtext_any (n : Int) (w : World) : Calls Tryd.prog 24 #[.int .i64 n] w (Ret (.string ⟨(txtN n).toArray⟩) w) := by
  have k := rcivil_any n w
  by_cases hr : 1 ≤ n ∧ n ≤ 109573
  · obtain ⟨Y, M, D, hc, y1, y2, m1, m2, d1, d2', ht⟩ := civ_nat hr
    rw [hc, show isB n = true from decide_eq_true hr] at k
    have hT := Lib.hid (show txtN n = dgs 4 Y ++ 45 :: (dgs 2 M ++ 45 :: dgs 2 D) by rw [ht, dgs_4 (by omega), dgs_2 (by omega), dgs_2 (by omega)]; rfl)
    have ky := fun w' => rdigits_any Y 4 (by omega) (by omega) w'
    have km := fun w' => rdigits_any M 2 (by omega) (by omega) w'
    have kd := fun w' => rdigits_any D 2 (by omega) (by omega) w'
    have l1 : (dgs 4 Y).length ≤ 4 := Nat.le_refl _
    have l2 : (dgs 2 M).length ≤ 2 := Nat.le_refl _
    have l3 : (dgs 2 D).length ≤ 2 := Nat.le_refl _
    clear hc ht hr
    generalize dgs 4 Y = a at *
    generalize dgs 2 M = b at *
    generalize dgs 2 D = c at *
    generalize txtN n = R at *
    go_enter Tryd.func24, Tryd.ntmps24
    go_wp2_with fail
    refine k.mono ?_
    rintro e w1 ⟨rfl, h1⟩
    clear k
    go_wp2_with fail
    refine (ky _).mono ?_
    rintro e w2 ⟨rfl, h2⟩
    have hb2 := Below.step h1 h2
    clear h1 h2 ky
    go_wp2_with fail
    refine (km _).mono ?_
    rintro e w3 ⟨rfl, h3⟩
    have hb3 := Below.step hb2 h3
    clear h3 km hb2
    go_wp2_with fail
    refine (kd _).mono ?_
    rintro e w4 ⟨rfl, h4⟩
    have hb4 := Below.step hb3 h4
    clear h4 kd hb3
    go_wp2
    go_ret
    exact Ret.mk (by rw [hT.out, ← str_text]; rfl) hb4
  · rw [civ_no hr, show isB n = false from decide_eq_false hr] at k
    have hV := Lib.hid (show txtN n = [] by unfold txtN; rw [if_neg hr])
    clear hr
    go_enter Tryd.func24, Tryd.ntmps24
    go_wp2_with fail
    refine k.mono ?_
    rintro e w1 ⟨rfl, h1⟩
    clear k
    go_wp2
    go_ret
    exact Ret.mk (by rw [hV.out]; rfl) h1
end Go.Proofs.YtlphgipgdgoieaaDoor
