/- Both Least. -/
import Derived.Test.YthbagggcfdgnfaaCnI
import Derived.Test.YthbagggcfdgnfaaCnR
namespace Go.Proofs.Ythbagggcfdgnfaa
open Go.RowKit

set_option maxRecDepth 20000 in
set_option maxHeartbeats 2000000 in
theorem least_any (l : List Cn) (A S : Option Addr) (cap sc : Nat) (rid ln dy d : Int) (nm : List UInt8) (sp : List Int) (w : World) (ha : Cons w A l) (hs : Ints w S sp) (hl : l.length ≤ 100000) (hsl : sp.length ≤ 100000) :
    Calls Try.prog 17 #[.slice A l.length cap, .agg #[.int .i64 rid, .string ⟨nm.toArray⟩, .int .i64 ln, .int .i64 dy, .slice S sp.length sc], .int .i64 d] w (Ret (.int .i64 (leastK l rid sp d)) w) := by
  have hat := fun p w' (h : Below w.heap.size w w') => at_any l A cap p rid d w' (ha.below h) hl
  rcases Nat.eq_zero_or_pos sp.length with h0 | h0
  · obtain rfl : sp = [] := List.eq_nil_of_length_eq_zero h0
    go_enter Try.func17, Try.ntmps17
    go_wp2
    go_ret
    exact Ret.mk rfl (by repeat (first | assumption | exact Below.refl _ _ | refine Below.alloc ?_ (by first | omega | (simp; done) | (simp; omega)) _ | refine Below.setCell ?_ (by first | omega | (simp; done) | (simp; omega)) _ | refine Below.drew ?_ | refine Below.drewN_ ?_ _ | refine Below.step ?_ (by assumption)))
  · have hall := Lib.hid (leastK_all (l := l) (rid := rid) (d := d) h0)
    obtain ⟨R, hR⟩ : ∃ R, leastK l rid sp d = R := ⟨_, rfl⟩
    rw [hR] at hall ⊢
    clear hR
    go_enter Try.func17, Try.ntmps17
    go_wp2
    go_loopw [7, 17] (fun o i wr => ∃ k : Nat, k ≤ sp.length ∧ i = .int .i64 (k : Int) ∧ o = .int .i64 (leastF l rid d (sp.take k)) ∧ wr.cell? ⟨w.heap.size, 0, none⟩ = some (.int .i64 rid) ∧ w.heap.size < wr.heap.size ∧ Below w.heap.size w wr) (fun _ i _ => sp.length + 1 - (intOf i).toNat)
    case atStart => exact ⟨0, by omega, rfl, rfl, by simp [go_sem], by simp, (by repeat (first | assumption | exact Below.refl _ _ | refine Below.alloc ?_ (by first | omega | (simp; done) | (simp; omega)) _ | refine Below.setCell ?_ (by first | omega | (simp; done) | (simp; omega)) _ | refine Below.drew ?_ | refine Below.drewN_ ?_ _ | refine Below.step ?_ (by assumption)))⟩
    case round =>
      obtain ⟨k, hk, rfl, rfl, b0, bl, hbw⟩ := hrel
      by_cases hlt : k < sp.length
      · obtain ⟨ad, rfl, _, c1⟩ := (hs.below hbw).at_ hlt
        have HS := Lib.hid (leastF_take (l := l) (rid := rid) (d := d) hlt)
        have k1 := hat sp[k] wr hbw
        generalize leastF l rid d (sp.take k) = acc at *
        generalize atK l sp[k] rid d = v at *
        generalize sp[k] = p at *
        go_wp2_with fail
        refine k1.mono ?_
        rintro e w1 ⟨rfl, hb1⟩
        clear k1
        have hb2 := Below.step hbw hb1
        have b0' := ((bcell hb1).1 _ 0 bl).trans b0
        have bl' := Nat.lt_of_lt_of_le bl hb1.size
        go_wp2
        all_goals
          go_roundw
          case rel => exact ⟨_, _, _, ⟨k + 1, by omega, rfl, rfl⟩, (by rw [HS.out]; exact congrArg _ (by omega)), rfl, by go_num⟩
          case measure => simp [intOf]; omega
      · obtain rfl : k = sp.length := by omega
        go_wp2
        go_ret
        exact Ret.mk (by first | rfl | (rw [hall.out]; rfl)) hbw
end Go.Proofs.Ythbagggcfdgnfaa
