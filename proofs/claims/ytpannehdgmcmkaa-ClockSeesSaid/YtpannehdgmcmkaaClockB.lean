/- Contracts of clock's functions on vectors. -/
import Derived.Test.YtpannehdgmcmkaaClockA
namespace Go.Proofs.Ytpannehdgmcmkaa
open Go.RowKit

set_option maxHeartbeats 400000 in
theorem of_any (i : Int) (w : World) (h : -9223372036854775808 ≤ i ∧ i ≤ 9223372036854775807) : Calls Try.prog 11 #[.int .i64 i] w
    (Ret (.tuple #[.agg #[.int .i64 (ifC (i.tdiv 16) (i.tmod 16)), .int .i64 (ifD (i.tdiv 16) (i.tmod 16))], .bool (rightB (i.tdiv 16) (i.tmod 16))]) w) := by
  go_enter Try.func11, Try.ntmps11
  go_wp2_with fail
  refine (ifRight_any _ _ _).mono ?_
  rintro e w1 ⟨rfl, hb⟩
  have hc := (bcell hb).1
  have hf := (bcell hb).2
  have hz := hb.size
  simp at hz
  go_wp2
  refine bodyPost_ret (v := .tuple #[.agg #[.int .i64 (ifC (i.tdiv 16) (i.tmod 16)), .int .i64 (ifD (i.tdiv 16) (i.tmod 16))], .bool (rightB (i.tdiv 16) (i.tmod 16))]) (by simp [results, Try.results11, go_sem, hc]) rfl (Ret.mk rfl (by repeat (first | assumption | exact Below.refl _ _ | refine Below.alloc ?_ (by first | omega | (simp; done) | (simp; omega)) _ | refine Below.setCell ?_ (by first | omega | (simp; done) | (simp; omega)) _ | refine Below.drew ?_ | refine Below.drewN_ ?_ _ | refine Below.step ?_ (by assumption))))

set_option maxHeartbeats 400000 in
theorem rof_any (i : Int) (w : World) (h : -9223372036854775808 ≤ i ∧ i ≤ 9223372036854775807) : Calls Try.prog 12 #[.int .i64 i] w
    (Ret (.tuple #[.agg #[.int .i64 (ifC (i.tdiv 16) (i.tmod 16)), .int .i64 (ifD (i.tdiv 16) (i.tmod 16))], .bool (rightB (i.tdiv 16) (i.tmod 16))]) w) := by
  rcases Bool.eq_false_or_eq_true (rightB (i.tdiv 16) (i.tmod 16)) with hr | hr
  · have Hr := Lib.hid hr
    clear hr
    go_enter Try.func12, Try.ntmps12
    go_wp2_with fail
    refine (rright_any _ _ _).mono ?_
    rw [Hr.out]
    rintro e w1 ⟨rfl, hb⟩
    have hc := (bcell hb).1
    have hf := (bcell hb).2
    have hz := hb.size
    simp at hz
    have c0 : w1.cell? ⟨w.heap.size, 0, none⟩ = some (.int .i64 0) := (hc _ _ (by simp; omega)).trans (by simp [go_sem])
    have c1 : w1.cell? ⟨w.heap.size, 1, none⟩ = some (.int .i64 0) := (hc _ _ (by simp; omega)).trans (by simp [go_sem])
    go_wp2
    refine bodyPost_ret (v := .tuple #[.agg #[.int .i64 (i.tdiv 16), .int .i64 (i.tmod 16)], .bool true]) (by simp [results, Try.results12, go_sem, c0, c1]) rfl (Ret.mk (by rw [ifC_yes Hr.out, ifD_yes Hr.out, Hr.out]) (by repeat (first | assumption | exact Below.refl _ _ | refine Below.alloc ?_ (by first | omega | (simp; done) | (simp; omega)) _ | refine Below.setCell ?_ (by first | omega | (simp; done) | (simp; omega)) _ | refine Below.drew ?_ | refine Below.drewN_ ?_ _ | refine Below.step ?_ (by assumption))))
  · have Hr := Lib.hid hr
    clear hr
    go_enter Try.func12, Try.ntmps12
    go_wp2_with fail
    refine (rright_any _ _ _).mono ?_
    rw [Hr.out]
    rintro e w1 ⟨rfl, hb⟩
    have hc := (bcell hb).1
    have hf := (bcell hb).2
    have hz := hb.size
    simp at hz
    have c0 : w1.cell? ⟨w.heap.size, 0, none⟩ = some (.int .i64 0) := (hc _ _ (by simp; omega)).trans (by simp [go_sem])
    have c1 : w1.cell? ⟨w.heap.size, 1, none⟩ = some (.int .i64 0) := (hc _ _ (by simp; omega)).trans (by simp [go_sem])
    go_wp2
    refine bodyPost_ret (v := .tuple #[.agg #[.int .i64 0, .int .i64 0], .bool false]) (by simp [results, Try.results12, go_sem, c0, c1]) rfl (Ret.mk (by rw [ifC_no Hr.out, ifD_no Hr.out, Hr.out]) (by repeat (first | assumption | exact Below.refl _ _ | refine Below.alloc ?_ (by first | omega | (simp; done) | (simp; omega)) _ | refine Below.setCell ?_ (by first | omega | (simp; done) | (simp; omega)) _ | refine Below.drew ?_ | refine Below.drewN_ ?_ _ | refine Below.step ?_ (by assumption))))

/-- The number of a device in a vector. -/
def numZ (v : List Int) (d : Int) : Int := if d < 1 ∨ d > 15 ∨ d > v.length then 0 else max 0 (v.getD (d - 1).toNat 0)
theorem numZ_in {v : List Int} {k : Nat} (h : k < v.length) (h15 : (k : Int) + 1 ≤ 15) : numZ v (k + 1) = max 0 v[k] := by
  rw [numZ, if_neg (by omega)]
  simp [h]
theorem numZ_out {v : List Int} {d : Int} (h : d < 1 ∨ d > 15 ∨ d > v.length) : numZ v d = 0 := by rw [numZ, if_pos h]
theorem numZ_nonneg (v : List Int) (d : Int) : 0 ≤ numZ v d := by unfold numZ; split <;> omega

set_option maxHeartbeats 400000 in
theorem number_any (v : List Int) (A : Option Addr) (cap : Nat) (d : Int) (w : World) (hv : Ints w A v) (h1 : 1 ≤ d) (h15 : d ≤ 15) :
    Calls Try.prog 34 #[.slice A v.length cap, .int .i64 d] w (Ret (.int .i64 (numZ v d)) w) := by
  obtain ⟨k, rfl⟩ : ∃ k : Nat, d = (k : Int) + 1 := ⟨(d - 1).toNat, by omega⟩
  by_cases hk : k < v.length
  · have hn := Lib.hid (numZ_in hk h15)
    obtain ⟨ad, rfl, hb, hc⟩ := hv.at_ hk
    go_enter Try.func34, Try.ntmps34
    go_wp2
    all_goals
      go_ret
      exact Ret.mk (congrArg (Value.int .i64) (by rw [hn.out]; omega)) (Below.refl _ _)
  · have hk' : (v.length : Int) < (k : Int) + 1 := by omega
    go_enter Try.func34, Try.ntmps34
    go_wp2
    go_ret
    exact Ret.mk (congrArg (Value.int .i64) (numZ_out (by omega)).symm) (Below.refl _ _)

set_option maxHeartbeats 400000 in
theorem at_any (v : List Int) (A : Option Addr) (cap : Nat) (d : Int) (w : World) (hv : Ints w A v) :
    Calls Try.prog 35 #[.slice A v.length cap, .int .i64 d] w (Ret (.int .i64 (numZ v d)) w) := by
  by_cases h1 : d < 1
  · go_enter Try.func35, Try.ntmps35
    go_wp2
    go_ret
    exact Ret.mk (congrArg (Value.int .i64) (numZ_out (by omega)).symm) (Below.refl _ _)
  by_cases h15 : 15 < d
  · go_enter Try.func35, Try.ntmps35
    go_wp2
    go_ret
    exact Ret.mk (congrArg (Value.int .i64) (numZ_out (by omega)).symm) (Below.refl _ _)
  obtain ⟨k, rfl⟩ : ∃ k : Nat, d = (k : Int) + 1 := ⟨(d - 1).toNat, by omega⟩
  by_cases hk : k < v.length
  · have hn := Lib.hid (numZ_in hk (by omega))
    obtain ⟨ad, rfl, hb, hc⟩ := hv.at_ hk
    go_enter Try.func35, Try.ntmps35
    go_wp2
    all_goals
      go_ret
      exact Ret.mk (congrArg (Value.int .i64) (by rw [hn.out]; omega)) (Below.refl _ _)
  · have hk' : (v.length : Int) < (k : Int) + 1 := by omega
    go_enter Try.func35, Try.ntmps35
    go_wp2
    go_ret
    exact Ret.mk (congrArg (Value.int .i64) (numZ_out (by omega)).symm) (Below.refl _ _)

/-- Leq, as far as the first k devices. -/
def leqTo (a b : List Int) : Nat → Bool
  | 0 => true
  | k + 1 => leqTo a b k && decide (numZ a (k + 1) ≤ numZ b (k + 1))
theorem leqTo_no {a b : List Int} {k : Nat} (h : ¬ numZ a (k + 1) ≤ numZ b (k + 1)) : ∀ n, k < n → leqTo a b n = false
  | n + 1, hn => by
    unfold leqTo
    by_cases e : k = n
    · subst e; simp [h]
    · rw [leqTo_no h n (by omega)]; rfl
theorem leqTo_step {a b : List Int} {k : Nat} (h : leqTo a b k = true) (h1 : numZ a (k + 1) ≤ numZ b (k + 1)) : leqTo a b (k + 1) = true := by simp [leqTo, h, h1]

set_option maxHeartbeats 400000 in
theorem leq_any (a b : List Int) (A B : Option Addr) (ca cb : Nat) (w : World) (ha : Ints w A a) (hb : Ints w B b) :
    Calls Try.prog 23 #[.slice A a.length ca, .slice B b.length cb] w (Ret (.bool (leqTo a b 15)) w) := by
  go_enter Try.func23, Try.ntmps23
  go_wp2
  go_loopw [5] (fun i wr => ∃ k : Nat, k ≤ 15 ∧ i = .int .i64 ((k : Int) + 1) ∧ Hid (leqTo a b k = true) ∧ Below w.heap.size w wr) (fun i _ => 16 - (intOf i).toNat)
  case atStart => exact ⟨0, by omega, rfl, Lib.hid rfl, Below.refl _ _⟩
  case round =>
    obtain ⟨k, hk, rfl, hy, hbw⟩ := hrel
    by_cases h15 : k = 15
    · subst h15
      go_wp2
      go_ret
      exact Ret.mk (congrArg Value.bool hy.out.symm) hbw
    · have hlt : (k : Int) + 1 ≤ 15 := by omega
      go_wp2_with fail
      refine (number_any a A ca _ _ ((ha.below hbw)) (by omega) hlt).mono ?_
      rintro e w1 ⟨rfl, h1⟩
      go_wp2_with fail
      refine (number_any b B cb _ _ ((hb.below (Below.step hbw h1))) (by omega) hlt).mono ?_
      rintro e w2 ⟨rfl, h2⟩
      by_cases hcmp : numZ a (k + 1) ≤ numZ b (k + 1)
      · have hnext := Lib.hid (leqTo_step hy.out hcmp)
        go_wp2
        go_roundw
        case rel => exact ⟨k + 1, by omega, by go_num, hnext, Below.step (Below.step hbw h1) h2⟩
        case measure => simp [intOf]; omega
      · have hno := Lib.hid (leqTo_no hcmp 15 (by omega))
        have hcmp' : numZ b (k + 1) < numZ a (k + 1) := by omega
        go_wp2
        go_ret
        exact Ret.mk (congrArg Value.bool hno.out.symm) (Below.step (Below.step hbw h1) h2)
set_option maxHeartbeats 400000 in
theorem rleq_any (a b : List Int) (A B : Option Addr) (ca cb : Nat) (w : World) (ha : Ints w A a) (hb : Ints w B b) :
    Calls Try.prog 24 #[.slice A a.length ca, .slice B b.length cb] w (Ret (.bool (leqTo a b 15)) w) := by
  go_enter Try.func24, Try.ntmps24
  go_wp2
  go_loopw [5] (fun i wr => ∃ k : Nat, k ≤ 15 ∧ i = .int .i64 ((k : Int) + 1) ∧ Hid (leqTo a b k = true) ∧ Below w.heap.size w wr) (fun i _ => 16 - (intOf i).toNat)
  case atStart => exact ⟨0, by omega, rfl, Lib.hid rfl, Below.refl _ _⟩
  case round =>
    obtain ⟨k, hk, rfl, hy, hbw⟩ := hrel
    by_cases h15 : k = 15
    · subst h15
      go_wp2
      go_ret
      exact Ret.mk (congrArg Value.bool hy.out.symm) hbw
    · have hlt : (k : Int) + 1 ≤ 15 := by omega
      go_wp2_with fail
      refine (at_any a A ca _ _ (ha.below hbw)).mono ?_
      rintro e w1 ⟨rfl, h1⟩
      go_wp2_with fail
      refine (at_any b B cb _ _ (hb.below (Below.step hbw h1))).mono ?_
      rintro e w2 ⟨rfl, h2⟩
      by_cases hcmp : numZ a (k + 1) ≤ numZ b (k + 1)
      · have hnext := Lib.hid (leqTo_step hy.out hcmp)
        go_wp2
        go_roundw
        case rel => exact ⟨k + 1, by omega, by go_num, hnext, Below.step (Below.step hbw h1) h2⟩
        case measure => simp [intOf]; omega
      · have hno := Lib.hid (leqTo_no hcmp 15 (by omega))
        have hcmp' : numZ b (k + 1) < numZ a (k + 1) := by omega
        go_wp2
        go_ret
        exact Ret.mk (congrArg Value.bool hno.out.symm) (Below.step (Below.step hbw h1) h2)
end Go.Proofs.Ytpannehdgmcmkaa
