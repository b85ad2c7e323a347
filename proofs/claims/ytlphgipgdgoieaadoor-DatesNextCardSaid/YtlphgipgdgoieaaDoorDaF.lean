/- The reference's Day. -/
import Derived.Test.YtlphgipgdgoieaaDoorDaC
namespace Go.Proofs.YtlphgipgdgoieaaDoor
open Go.RowKit

def FK (K J k : Nat) : Int := if k ≤ K then cumY k else cumY K + cumM (1900 + (K : Int)) J
def GK (K J k j : Nat) : Int := if k < K then cumY k + cumM (1900 + (k : Int)) j else cumY K + cumM (1900 + (K : Int)) (min j J)
theorem FK_small (K J k : Nat) (hJ : J ≤ 12) (hK : K ≤ 299) : 0 ≤ FK K J k ∧ FK K J k ≤ 200000 := by
  unfold FK
  have h1 := cumY_small k
  have h2 := cumY_small K
  have h3 := cumM_small (1900 + (K : Int)) J
  split <;> omega
theorem GK_small (K J k j : Nat) (hJ : J ≤ 12) (hj : j ≤ 12) (hK : K ≤ 299) : 0 ≤ GK K J k j ∧ GK K J k j ≤ 200000 := by
  unfold GK
  have h1 := cumY_small k
  have h2 := cumY_small K
  have h3 := cumM_small (1900 + (K : Int)) (min j J)
  have h4 := cumM_small (1900 + (k : Int)) j
  split <;> omega
theorem GK_zero {K J k : Nat} (hk : k ≤ K) : GK K J k 0 = FK K J k := by
  unfold GK FK
  rw [if_pos hk]
  by_cases h : k < K
  · rw [if_pos h]; simp [cumM]
  · obtain rfl : k = K := by omega
    rw [if_neg h]; simp [cumM]
theorem GK_all {K J k : Nat} (hk : k ≤ K) (hJ : J ≤ 12) : GK K J k 12 = FK K J (k + 1) := by
  unfold GK FK
  by_cases h : k < K
  · rw [if_pos h, if_pos (by omega), cumM_all]; rfl
  · obtain rfl : k = K := by omega
    rw [if_neg h, if_neg (by omega), show min 12 J = J by omega]
theorem GK_add {K J k j : Nat} (h : k < K ∨ (k = K ∧ j < J)) : GK K J k (j + 1) = GK K J k j + dim (1900 + (k : Int)) ((j : Int) + 1) := by
  unfold GK
  rcases h with h | ⟨rfl, h⟩
  · rw [if_pos h, if_pos h]
    show _ + (cumM (1900 + (k : Int)) j + dim (1900 + (k : Int)) ((j : Int) + 1)) = _
    omega
  · rw [if_neg (by omega), if_neg (by omega), show min (j + 1) J = j + 1 by omega, show min j J = j by omega]
    show _ + (cumM (1900 + (k : Int)) j + dim (1900 + (k : Int)) ((j : Int) + 1)) = _
    omega
theorem GK_skip {K J j : Nat} (h : ¬ j < J) : GK K J K (j + 1) = GK K J K j := by
  unfold GK
  rw [if_neg (by omega), if_neg (by omega), show min (j + 1) J = J by omega, show min j J = J by omega]

set_option maxRecDepth 20000 in
set_option maxHeartbeats 4000000 in
theorem rday_any (y m d : Int) (w : World) : Calls Tryd.prog 16 #[.int .i64 y, .int .i64 m, .int .i64 d] w (Ret (.tuple #[.int .i64 (dayV y m d), .bool (dayB y m d)]) w) := by
  by_cases hr : 1900 ≤ y ∧ y ≤ 2199 ∧ 1 ≤ m ∧ m ≤ 12 ∧ 1 ≤ d
  rotate_left
  · have hV := Lib.hid (day_no (y := y) (m := m) (d := d) fun h => hr ⟨h.1, h.2.1, h.2.2.1, h.2.2.2.1, h.2.2.2.2.1⟩)
    by_cases c1 : y < 1900
    · clear hr
      go_enter Tryd.func16, Tryd.ntmps16
      go_wp2
      go_ret2
      exact Ret.mk (by rw [hV.out.1, hV.out.2]; rfl) (Below.refl _ _)
    · by_cases c2 : 2199 < y
      · clear hr
        go_enter Tryd.func16, Tryd.ntmps16
        go_wp2
        go_ret2
        exact Ret.mk (by rw [hV.out.1, hV.out.2]; rfl) (Below.refl _ _)
      · by_cases c3 : m < 1
        · clear hr
          go_enter Tryd.func16, Tryd.ntmps16
          go_wp2
          go_ret2
          exact Ret.mk (by rw [hV.out.1, hV.out.2]; rfl) (Below.refl _ _)
        · by_cases c4 : 12 < m
          · clear hr
            go_enter Tryd.func16, Tryd.ntmps16
            go_wp2
            go_ret2
            exact Ret.mk (by rw [hV.out.1, hV.out.2]; rfl) (Below.refl _ _)
          · have c5 : d < 1 := by omega
            clear hr
            go_enter Tryd.func16, Tryd.ntmps16
            go_wp2
            go_ret2
            exact Ret.mk (by rw [hV.out.1, hV.out.2]; rfl) (Below.refl _ _)
  · obtain ⟨r1, r2, r3, r4, r5⟩ := hr
    have kd := fun w' => rlength_any y m w'
    by_cases c6 : dim y m < d
    · have hV := Lib.hid (day_no (y := y) (m := m) (d := d) fun h => by have := h.2.2.2.2.2; omega)
      generalize dim y m = D at *
      go_enter Tryd.func16, Tryd.ntmps16
      go_wp2_with fail
      refine (kd _).mono ?_
      rintro e w1 ⟨rfl, h⟩
      clear kd
      go_wp2
      go_ret2
      exact Ret.mk (by rw [hV.out.1, hV.out.2]; rfl) h
    · have hV := Lib.hid (day_yes (y := y) (m := m) (d := d) ⟨r1, r2, r3, r4, r5, by omega⟩)
      have hdp := dim_pos y m
      generalize dim y m = D at *
      obtain ⟨K, rfl⟩ : ∃ K : Nat, y = 1900 + (K : Int) := ⟨(y - 1900).toNat, by omega⟩
      obtain ⟨J, rfl⟩ : ∃ J : Nat, m = (J : Int) + 1 := ⟨(m - 1).toNat, by omega⟩
      have hN := Lib.hid (show dayN (1900 + (K : Int)) ((J : Int) + 1) d = d + FK K J (K + 1) by
        unfold dayN FK; rw [show ((1900 + (K : Int)) - 1900).toNat = K by omega, show ((J : Int) + 1 - 1).toNat = J by omega, if_neg (by omega)]; omega)
      generalize dayN (1900 + (K : Int)) ((J : Int) + 1) d = N at *
      go_enter Tryd.func16, Tryd.ntmps16
      go_wp2_with fail
      refine (kd _).mono ?_
      rintro e w1 ⟨rfl, h1⟩
      clear kd
      go_wp2
      go_loopw [8, 9] (fun n v wr => ∃ k : Nat, k ≤ K + 1 ∧ v = .int .i64 (1900 + (k : Int)) ∧ n = .int .i64 (d + FK K J k) ∧ Below w.heap.size w wr) (fun _ v _ => 2201 - (intOf v).toNat)
      case atStart => exact ⟨0, by omega, by simp, by simp [FK, cumY], h1⟩
      case round =>
        clear h1
        obtain ⟨k, hk, rfl, rfl, hbw⟩ := hrel
        by_cases hlt : k ≤ K
        · have hG0 := Lib.hid (GK_zero (J := J) hlt)
          have hG1 := Lib.hid (GK_all hlt (show J ≤ 12 by omega))
          have hS := Lib.hid (fun j (hj : j ≤ 12) => GK_small K J k j (by omega) hj (by omega))
          rw [← hG0.out]
          go_wp2
          go_loopw [8, 10] (fun n v wr => ∃ j : Nat, j ≤ 12 ∧ v = .int .i64 ((j : Int) + 1) ∧ n = .int .i64 (d + GK K J k j) ∧ Below w.heap.size w wr) (fun _ v _ => 14 - (intOf v).toNat)
          case atStart => exact ⟨0, by omega, by simp, rfl, hbw⟩
          case round =>
            clear hbw
            obtain ⟨j, hj, rfl, rfl, hbw⟩ := hrel
            by_cases hlt2 : j < 12
            · have kj := fun w' => rlength_any (1900 + (k : Int)) ((j : Int) + 1) w'
              have hd := dim_pos (1900 + (k : Int)) ((j : Int) + 1)
              have hs := hS.out j hj
              by_cases hy : k < K
              · have hc := Lib.hid (GK_add (J := J) (j := j) (.inl hy))
                generalize dim (1900 + (k : Int)) ((j : Int) + 1) = D2 at *
                generalize GK K J k j = g at *
                have hw : IntKind.i64.wrap (d + g + D2) = d + g + D2 := by rw [IntKind.wrap_i64] <;> omega
                go_wp2_with fail
                refine (kj _).mono ?_
                rintro e w2 ⟨rfl, h2⟩
                have hb2 := Below.step hbw h2
                clear h2 kj
                go_wp2
                go_roundw
                case rel => exact ⟨j + 1, by omega, by go_num, by rw [hc.out]; congr 1; omega, hb2⟩
                case measure => simp [intOf]; omega
              · obtain rfl : k = K := by omega
                by_cases hm : j < J
                · have hc := Lib.hid (GK_add (K := k) (J := J) (j := j) (.inr ⟨rfl, hm⟩))
                  generalize dim (1900 + (k : Int)) ((j : Int) + 1) = D2 at *
                  generalize GK k J k j = g at *
                  have hw : IntKind.i64.wrap (d + g + D2) = d + g + D2 := by rw [IntKind.wrap_i64] <;> omega
                  go_wp2_with fail
                  refine (kj _).mono ?_
                  rintro e w2 ⟨rfl, h2⟩
                  have hb2 := Below.step hbw h2
                  clear h2 kj
                  go_wp2
                  go_roundw
                  case rel => exact ⟨j + 1, by omega, by go_num, by rw [hc.out]; congr 1; omega, hb2⟩
                  case measure => simp [intOf]; omega
                · have hc := Lib.hid (GK_skip (K := k) hm)
                  generalize GK k J k j = g at *
                  go_wp2
                  go_roundw
                  case rel => exact ⟨j + 1, by omega, by go_num, by rw [hc.out], hbw⟩
                  case measure => simp [intOf]; omega
            · obtain rfl : j = 12 := by omega
              go_wp2
              go_roundw
              case rel => exact ⟨k + 1, by omega, by go_num, by rw [← hG1.out], hbw⟩
              case measure => simp [intOf]; omega
        · obtain rfl : k = K + 1 := by omega
          go_wp2
          go_ret2
          exact Ret.mk (by rw [hV.out.1, hV.out.2, hN.out]; rfl) hbw
end Go.Proofs.YtlphgipgdgoieaaDoor
