/- Civil of both sides, Weekday, the reference's Day. -/
import Derived.Test.YtlphgipgdgoieaaDoorDaA
namespace Go.Proofs.YtlphgipgdgoieaaDoor
open Go.RowKit

set_option maxRecDepth 20000 in
set_option maxHeartbeats 2000000 in
theorem isday_any (n : Int) (w : World) : Calls Tryd.prog 28 #[.int .i64 n] w (Ret (.bool (decide (1 ≤ n ∧ n ≤ 109573))) w) := by
  by_cases c1 : 1 ≤ n
  · by_cases c2 : n ≤ 109573
    ·
      go_enter Tryd.func28, Tryd.ntmps28
      go_wp2
      go_ret
      exact Ret.mk (by simp <;> omega) (Below.refl _ _)
    ·
      go_enter Tryd.func28, Tryd.ntmps28
      go_wp2
      go_ret
      exact Ret.mk (by simp <;> omega) (Below.refl _ _)
  ·
    go_enter Tryd.func28, Tryd.ntmps28
    go_wp2
    go_ret
    exact Ret.mk (by simp <;> omega) (Below.refl _ _)

set_option maxRecDepth 20000 in
set_option maxHeartbeats 2000000 in
theorem weekday_any (n : Int) (w : World) : Calls Tryd.prog 19 #[.int .i64 n] w (Ret (.int .i64 (if 1 ≤ n ∧ n ≤ 109573 then (n - 1) % 7 else -1)) w) := by
  have k := isday_any n w
  by_cases h : 1 ≤ n ∧ n ≤ 109573
  · rw [decide_eq_true h] at k
    rw [if_pos h]
    have hw : IntKind.i64.wrap (n - 1) = n - 1 := by rw [IntKind.wrap_i64] <;> omega
    go_enter Tryd.func19, Tryd.ntmps19
    go_wp2_with fail
    refine k.mono ?_
    rintro e w1 ⟨rfl, h1⟩
    clear k
    go_wp2
    go_ret
    exact Ret.mk rfl h1
  · rw [decide_eq_false h] at k
    rw [if_neg h]
    clear h
    go_enter Tryd.func19, Tryd.ntmps19
    go_wp2_with fail
    refine k.mono ?_
    rintro e w1 ⟨rfl, h1⟩
    clear k
    go_wp2
    go_ret
    exact Ret.mk rfl h1
set_option maxRecDepth 20000 in
set_option maxHeartbeats 2000000 in
theorem rweekday_any (n : Int) (w : World) : Calls Tryd.prog 20 #[.int .i64 n] w (Ret (.int .i64 (if 1 ≤ n ∧ n ≤ 109573 then (n - 1) % 7 else -1)) w) := by
  by_cases c1 : n < 1
  · rw [if_neg (by omega)]
    go_enter Tryd.func20, Tryd.ntmps20
    go_wp2
    go_ret
    exact Ret.mk rfl (Below.refl _ _)
  · by_cases c2 : 109573 < n
    · rw [if_neg (by omega)]
      go_enter Tryd.func20, Tryd.ntmps20
      go_wp2
      go_ret
      exact Ret.mk rfl (Below.refl _ _)
    · rw [if_pos (by omega)]
      have hw : IntKind.i64.wrap (n - 1) = n - 1 := by rw [IntKind.wrap_i64] <;> omega
      go_enter Tryd.func20, Tryd.ntmps20
      go_wp2
      go_ret
      exact Ret.mk rfl (Below.refl _ _)

/-- What Civil returns. -/
def isB (n : Int) : Bool := decide (1 ≤ n ∧ n ≤ 109573)
set_option maxRecDepth 20000 in
set_option maxHeartbeats 4000000 in
theorem civil_any (n : Int) (w : World) (hL : Laid w) : Calls Tryd.prog 17 #[.int .i64 n] w (Ret (.tuple #[.int .i64 (civ n).1, .int .i64 (civ n).2.1, .int .i64 (civ n).2.2, .bool (isB n)]) w) := by
  have k0 := isday_any n w
  by_cases hr : 1 ≤ n ∧ n ≤ 109573
  rotate_left
  · have hV := Lib.hid (civ_no hr)
    have hB := Lib.hid (show isB n = false from decide_eq_false hr)
    rw [decide_eq_false hr] at k0
    clear hr
    go_enter Tryd.func17, Tryd.ntmps17
    go_wp2_with fail
    refine k0.mono ?_
    rintro e w1 ⟨rfl, h1⟩
    clear k0
    go_wp2
    exact bodyPost_ret (v := .tuple #[.int .i64 0, .int .i64 0, .int .i64 0, .bool false]) (by simp [results, Tryd.results17, go_sem]) rfl (Ret.mk (by rw [hV.out, hB.out]) h1)
  · have hB := Lib.hid (show isB n = true from decide_eq_true hr)
    rw [decide_eq_true hr] at k0
    obtain ⟨n1, n2⟩ := hr
    have HE := Lib.hid (fun K J => civ_end (n := n) (K := K) (J := J))
    go_enter Tryd.func17, Tryd.ntmps17
    go_wp2_with fail
    refine k0.mono ?_
    rintro e w1 ⟨rfl, h1⟩
    clear k0
    go_wp2
    go_loopw [6, 8] (fun y v wr => ∃ k : Nat, k ≤ 299 ∧ y = .int .i64 (1900 + (k : Int)) ∧ v = .int .i64 (n - cumY k) ∧ 1 ≤ n - cumY k ∧ Below w.heap.size w wr) (fun _ v _ => (intOf v).toNat)
    case atStart => exact ⟨0, by omega, by simp, by simp [cumY], by simp [cumY]; omega, h1⟩
    case round =>
      clear h1
      obtain ⟨k, hk, rfl, rfl, hpos, hbw⟩ := hrel
      have ky := fun w' => doy_any (1900 + (k : Int)) w'
      have hd := diy_pos (1900 + (k : Int))
      have hs := cumY_small k
      by_cases hlt : diy (1900 + (k : Int)) < n - cumY k
      · have hk2 := year_more n2 hk hlt
        have hc := Lib.hid (show cumY (k + 1) = cumY k + diy (1900 + (k : Int)) from rfl)
        generalize diy (1900 + (k : Int)) = D at *
        generalize cumY k = c at *
        have hw : IntKind.i64.wrap (n - c - D) = n - c - D := by rw [IntKind.wrap_i64] <;> omega
        go_wp2_with fail
        refine (ky _).mono ?_
        rintro e w2 ⟨rfl, h2⟩
        have hb2 := Below.step hbw h2
        clear h2
        go_wp2_with fail
        refine (ky _).mono ?_
        rintro e w3 ⟨rfl, h3⟩
        have hb3 := Below.step hb2 h3
        clear h3 ky hb2
        go_wp2
        go_roundw
        case rel => exact ⟨k + 1, by omega, by go_num, by rw [hc.out]; congr 1; omega, by rw [hc.out]; omega, hb3⟩
        case measure => simp [intOf]; omega
      · have hle : n - cumY k ≤ diy (1900 + (k : Int)) := by omega
        have HM := Lib.hid (fun J (h : J ≤ 11) => month_more (J := J) h hle)
        have HD := Lib.hid (fun J (h : J ≤ 11) a b => HE.out k J hk h a b)
        generalize diy (1900 + (k : Int)) = D at *
        clear HE hle
        generalize cumY k = c at *
        go_wp2_with fail
        refine (ky _).mono ?_
        rintro e w2 ⟨rfl, h2⟩
        have hb2 := Below.step hbw h2
        clear h2 ky
        go_wp2
        go_loopw [7, 8] (fun m v wr => ∃ j : Nat, j ≤ 11 ∧ m = .int .i64 ((j : Int) + 1) ∧ v = .int .i64 (n - c - cumM (1900 + (k : Int)) j) ∧ 1 ≤ n - c - cumM (1900 + (k : Int)) j ∧ Below w.heap.size w wr) (fun _ v _ => (intOf v).toNat)
        case atStart => exact ⟨0, by omega, by simp, by simp [cumM], by simp [cumM]; omega, hb2⟩
        case round =>
          clear hb2
          obtain ⟨j, hj, rfl, rfl, hpos2, hbw2⟩ := hrel
          have kj := fun w' h => dom_any (1900 + (k : Int)) ((j : Int) + 1) (by omega) (by omega) w' (hL.below h)
          have hd2 := dim_pos (1900 + (k : Int)) ((j : Int) + 1)
          have hs2 := cumM_small (1900 + (k : Int)) j
          by_cases hlt2 : dim (1900 + (k : Int)) ((j : Int) + 1) < n - c - cumM (1900 + (k : Int)) j
          · have hj2 := HM.out j hj hlt2
            have hc := Lib.hid (show cumM (1900 + (k : Int)) (j + 1) = cumM (1900 + (k : Int)) j + dim (1900 + (k : Int)) ((j : Int) + 1) from rfl)
            generalize dim (1900 + (k : Int)) ((j : Int) + 1) = D2 at *
            generalize cumM (1900 + (k : Int)) j = c2 at *
            have hw : IntKind.i64.wrap (n - c - c2 - D2) = n - c - c2 - D2 := by rw [IntKind.wrap_i64] <;> omega
            go_wp2_with fail
            refine (kj _ hbw2).mono ?_
            rintro e w3 ⟨rfl, h3⟩
            have hb3 := Below.step hbw2 h3
            clear h3
            go_wp2_with fail
            refine (kj _ hb3).mono ?_
            rintro e w4 ⟨rfl, h4⟩
            have hb4 := Below.step hb3 h4
            clear h4 kj hb3
            go_wp2
            go_roundw
            case rel => exact ⟨j + 1, by omega, by go_num, by rw [hc.out]; congr 1; omega, by rw [hc.out]; omega, hb4⟩
            case measure => simp [intOf]; omega
          · have hE := Lib.hid (HD.out j hj hpos2 (by omega))
            generalize dim (1900 + (k : Int)) ((j : Int) + 1) = D2 at *
            generalize cumM (1900 + (k : Int)) j = c2 at *
            go_wp2_with fail
            refine (kj _ hbw2).mono ?_
            rintro e w3 ⟨rfl, h3⟩
            have hb3 := Below.step hbw2 h3
            clear h3 kj
            go_wp2
            exact bodyPost_ret (v := .tuple #[.int .i64 (1900 + (k : Int)), .int .i64 ((j : Int) + 1), .int .i64 (n - c - c2), .bool true]) (by simp [results, Tryd.results17, go_sem]) rfl (Ret.mk (by rw [hE.out, hB.out]) hb3)
end Go.Proofs.YtlphgipgdgoieaaDoor
