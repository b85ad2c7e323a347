/- The reference's Civil and Day. -/
import Derived.Test.YtlphgipgdgoieaaDoorDaC
namespace Go.Proofs.YtlphgipgdgoieaaDoor
open Go.RowKit

set_option maxRecDepth 20000 in
set_option maxHeartbeats 4000000 in
theorem rcivil_any (n : Int) (w : World) : Calls Tryd.prog 18 #[.int .i64 n] w (Ret (.tuple #[.int .i64 (civ n).1, .int .i64 (civ n).2.1, .int .i64 (civ n).2.2, .bool (isB n)]) w) := by
  by_cases hr : 1 ≤ n ∧ n ≤ 109573
  rotate_left
  · have hV := Lib.hid (civ_no hr)
    have hB := Lib.hid (show isB n = false from decide_eq_false hr)
    by_cases c1 : n < 1
    · clear hr
      go_enter Tryd.func18, Tryd.ntmps18
      go_wp2
      exact bodyPost_ret (v := .tuple #[.int .i64 0, .int .i64 0, .int .i64 0, .bool false]) (by simp [results, Tryd.results18, go_sem]) rfl (Ret.mk (by rw [hV.out, hB.out]) (Below.refl _ _))
    · have c2 : 109573 < n := by omega
      clear hr
      go_enter Tryd.func18, Tryd.ntmps18
      go_wp2
      exact bodyPost_ret (v := .tuple #[.int .i64 0, .int .i64 0, .int .i64 0, .bool false]) (by simp [results, Tryd.results18, go_sem]) rfl (Ret.mk (by rw [hV.out, hB.out]) (Below.refl _ _))
  · have hB := Lib.hid (show isB n = true from decide_eq_true hr)
    obtain ⟨n1, n2⟩ := hr
    have HE := Lib.hid (fun K J => civ_end (n := n) (K := K) (J := J))
    have HALL : Hid (∀ k : Nat, k ≤ 299 → 1 ≤ n - cumY k - cumM (1900 + (k : Int)) 12 → k + 1 ≤ 299) := Lib.hid fun k hk h => by
      rw [cumM_all] at h
      exact year_more n2 hk (by omega)
    go_enter Tryd.func18, Tryd.ntmps18
    go_wp2
    go_loopw [0, 6, 7] (fun v y m wr => ∃ k j : Nat, k ≤ 299 ∧ j ≤ 11 ∧ y = .int .i64 (1900 + (k : Int)) ∧ m = .int .i64 ((j : Int) + 1) ∧ v = .int .i64 (n - cumY k - cumM (1900 + (k : Int)) j) ∧ 1 ≤ n - cumY k - cumM (1900 + (k : Int)) j ∧ Below w.heap.size w wr) (fun v _ _ _ => (intOf v).toNat)
    case atStart => exact ⟨0, 0, by omega, by omega, by simp, by simp, by simp [cumY, cumM], by simp [cumY, cumM]; omega, Below.refl _ _⟩
    case round =>
      obtain ⟨k, j, hk, hj, rfl, rfl, rfl, hpos, hbw⟩ := hrel
      have kd := fun w' => rlength_any (1900 + (k : Int)) ((j : Int) + 1) w'
      have hd := dim_pos (1900 + (k : Int)) ((j : Int) + 1)
      have hs := cumY_small k
      have hs2 := cumM_small (1900 + (k : Int)) j
      have hc := Lib.hid (show cumM (1900 + (k : Int)) (j + 1) = cumM (1900 + (k : Int)) j + dim (1900 + (k : Int)) ((j : Int) + 1) from rfl)
      by_cases hlt : dim (1900 + (k : Int)) ((j : Int) + 1) < n - cumY k - cumM (1900 + (k : Int)) j
      · by_cases hj2 : j + 1 ≤ 11
        · generalize dim (1900 + (k : Int)) ((j : Int) + 1) = D at *
          generalize cumM (1900 + (k : Int)) j = c2 at *
          generalize hcy : cumY k = c at *
          have HCY := Lib.hid hcy
          clear hcy
          have hw : IntKind.i64.wrap (n - c - c2 - D) = n - c - c2 - D := by rw [IntKind.wrap_i64] <;> omega
          go_wp2_with fail
          refine (kd _).mono ?_
          rintro e w2 ⟨rfl, h2⟩
          have hb2 := Below.step hbw h2
          clear h2
          go_wp2_with fail
          refine (kd _).mono ?_
          rintro e w3 ⟨rfl, h3⟩
          have hb3 := Below.step hb2 h3
          clear h3 kd hb2
          go_wp2
          exact ⟨⟨k, j + 1, hk, hj2, rfl, by go_num, by rw [HCY.out, hc.out]; congr 1; omega, by rw [HCY.out, hc.out]; omega, hb3⟩, by simp [intOf]; omega⟩
        · obtain rfl : j = 11 := by omega
          have hy := HALL.out k hk (by have := hc.out; simp only [Nat.reduceAdd] at this; omega)
          have hcy : Hid (cumY (k + 1) = cumY k + (cumM (1900 + (k : Int)) 11 + dim (1900 + (k : Int)) (((11 : Nat) : Int) + 1))) := Lib.hid (by
            show cumY k + diy (1900 + (k : Int)) = _
            rw [← cumM_all]; rfl)
          generalize dim (1900 + (k : Int)) (((11 : Nat) : Int) + 1) = D at *
          generalize cumM (1900 + (k : Int)) 11 = c2 at *
          generalize cumY k = c at *
          have hw : IntKind.i64.wrap (n - c - c2 - D) = n - c - c2 - D := by rw [IntKind.wrap_i64] <;> omega
          go_wp2_with fail
          refine (kd _).mono ?_
          rintro e w2 ⟨rfl, h2⟩
          have hb2 := Below.step hbw h2
          clear h2
          go_wp2_with fail
          refine (kd _).mono ?_
          rintro e w3 ⟨rfl, h3⟩
          have hb3 := Below.step hb2 h3
          clear h3 kd hb2
          go_wp2
          exact ⟨⟨k + 1, 0, hy, by omega, by go_num, by simp, by rw [hcy.out]; simp only [cumM]; congr 1; omega, by rw [hcy.out]; simp only [cumM]; omega, hb3⟩, by simp [intOf]; omega⟩
      · have hE := Lib.hid (HE.out k j hk hj hpos (by omega))
        generalize dim (1900 + (k : Int)) ((j : Int) + 1) = D at *
        generalize cumM (1900 + (k : Int)) j = c2 at *
        generalize cumY k = c at *
        go_wp2_with fail
        refine (kd _).mono ?_
        rintro e w2 ⟨rfl, h2⟩
        have hb2 := Below.step hbw h2
        clear h2 kd
        go_wp2
        exact bodyPost_ret (v := .tuple #[.int .i64 (1900 + (k : Int)), .int .i64 ((j : Int) + 1), .int .i64 (n - c - c2), .bool true]) (by simp [results, Tryd.results18, go_sem]) rfl (Ret.mk (by rw [hE.out, hB.out]) hb2)
end Go.Proofs.YtlphgipgdgoieaaDoor
