/- Contracts of clock's functions that only compute. -/
import Derived.Test.YtpannehdgmcmkaaBase
namespace Go.Proofs.Ytpannehdgmcmkaa
open Go.RowKit

def rightB (c d : Int) : Bool := decide (1 ≤ c) && decide (c ≤ 1048576) && decide (1 ≤ d) && decide (d ≤ 15)
def lessB (ac ad bc bd : Int) : Bool := decide (ac < bc) || (ac == bc && decide (ad < bd))

/-- '==' on two stamps. -/
theorem eql_st (a b c d : Int) (w : World) : (binOp .eql 23 (.agg #[.int .i64 a, .int .i64 b]) (.agg #[.int .i64 c, .int .i64 d])).run Try.prog w = .ok (.bool (a == c && b == d)) w := by
  have hq1 : Try.prog.stoodInHeld 23 = false := by kernel_rfl
  simp [go_sem, hq1]
  by_cases h1 : a = c <;> by_cases h2 : b = d <;> simp [h1, h2]

theorem rightB_eq (c d : Int) : (c == max 1 (min c 1048576) && d == max 1 (min d 15)) = rightB c d := by
  unfold rightB
  rw [Bool.eq_iff_iff]
  simp only [Bool.and_eq_true, beq_iff_eq, decide_eq_true_eq]
  omega

set_option maxHeartbeats 400000 in
theorem less_any (ac ad bc bd : Int) (w : World) : Calls Try.prog 15 #[.agg #[.int .i64 ac, .int .i64 ad], .agg #[.int .i64 bc, .int .i64 bd]] w (Ret (.bool (lessB ac ad bc bd)) w) := by
  by_cases h : ac = bc
  · go_enter Try.func15, Try.ntmps15
    go_wp2
    go_ret
    exact Ret.mk (by simp [lessB, h]) (by repeat (first | assumption | exact Below.refl _ _ | refine Below.alloc ?_ (by first | omega | (simp; done) | (simp; omega)) _ | refine Below.setCell ?_ (by first | omega | (simp; done) | (simp; omega)) _ | refine Below.drew ?_ | refine Below.drewN_ ?_ _ | refine Below.step ?_ (by assumption)))
  · go_enter Try.func15, Try.ntmps15
    go_wp2
    go_ret
    exact Ret.mk (by simp [lessB, h]) (by repeat (first | assumption | exact Below.refl _ _ | refine Below.alloc ?_ (by first | omega | (simp; done) | (simp; omega)) _ | refine Below.setCell ?_ (by first | omega | (simp; done) | (simp; omega)) _ | refine Below.drew ?_ | refine Below.drewN_ ?_ _ | refine Below.step ?_ (by assumption)))

set_option maxHeartbeats 400000 in
theorem rless_any (ac ad bc bd : Int) (w : World) : Calls Try.prog 16 #[.agg #[.int .i64 ac, .int .i64 ad], .agg #[.int .i64 bc, .int .i64 bd]] w (Ret (.bool (lessB ac ad bc bd)) w) := by
  go_enter Try.func16, Try.ntmps16
  go_wp2
  all_goals
    go_ret
    refine Ret.mk ?_ (by repeat (first | assumption | exact Below.refl _ _ | refine Below.alloc ?_ (by first | omega | (simp; done) | (simp; omega)) _ | refine Below.setCell ?_ (by first | omega | (simp; done) | (simp; omega)) _ | refine Below.drew ?_ | refine Below.drewN_ ?_ _ | refine Below.step ?_ (by assumption)))
    simp [lessB]
    first | omega | (simp [*]; done) | grind

set_option maxHeartbeats 400000 in
theorem rright_any (c d : Int) (w : World) : Calls Try.prog 14 #[.agg #[.int .i64 c, .int .i64 d]] w (Ret (.bool (rightB c d)) w) := by
  go_enter Try.func14, Try.ntmps14
  go_wp2
  all_goals
    go_ret
    refine Ret.mk ?_ (by repeat (first | assumption | exact Below.refl _ _ | refine Below.alloc ?_ (by first | omega | (simp; done) | (simp; omega)) _ | refine Below.setCell ?_ (by first | omega | (simp; done) | (simp; omega)) _ | refine Below.drew ?_ | refine Below.drewN_ ?_ _ | refine Below.step ?_ (by assumption)))
    simp [rightB]
    try omega

set_option maxHeartbeats 400000 in
theorem nearest_any (c d : Int) (w : World) : Calls Try.prog 33 #[.agg #[.int .i64 c, .int .i64 d]] w (Ret (.agg #[.int .i64 (max 1 (min c 1048576)), .int .i64 (max 1 (min d 15))]) w) := by
  go_enter Try.func33, Try.ntmps33
  go_wp2
  all_goals
    refine bodyPost_ret (v := .agg #[.int .i64 (max 1 (min c 1048576)), .int .i64 (max 1 (min d 15))]) ?_ rfl (Ret.mk rfl (by repeat (first | assumption | exact Below.refl _ _ | refine Below.alloc ?_ (by first | omega | (simp; done) | (simp; omega)) _ | refine Below.setCell ?_ (by first | omega | (simp; done) | (simp; omega)) _ | refine Below.drew ?_ | refine Below.drewN_ ?_ _ | refine Below.step ?_ (by assumption))))
    simp [results, Try.results33, go_sem]
    try omega

set_option maxHeartbeats 400000 in
theorem right_any (c d : Int) (w : World) : Calls Try.prog 13 #[.agg #[.int .i64 c, .int .i64 d]] w (Ret (.bool (rightB c d)) w) := by
  go_enter Try.func13, Try.ntmps13
  go_wp2_with fail
  refine region_past (by kernel_rfl) (by kernel_rfl) ?_
  have hq := eql_st
  repeat (go_big_quiet_step (exact Calls.past (nearest_any _ _ _)))
  refine wpQuiet_nil ?_
  rintro _ ⟨⟨w1, hb⟩, rfl⟩
  go_wp2
  go_ret
  exact Ret.mk (congrArg Value.bool (rightB_eq c d)) (Below.step ((Below.refl _ _).alloc (Nat.le_refl _) _) hb)

theorem rightB_bd {c d : Int} (h : rightB c d = true) : 1 ≤ c ∧ c ≤ 1048576 ∧ 1 ≤ d ∧ d ≤ 15 := by
  unfold rightB at h
  simp only [Bool.and_eq_true, decide_eq_true_eq] at h
  omega
def idZ (c d : Int) : Int := if rightB c d = true then 16 * c + d else 0

set_option maxHeartbeats 400000 in
theorem id_any (c d : Int) (w : World) : Calls Try.prog 17 #[.agg #[.int .i64 c, .int .i64 d]] w (Ret (.int .i64 (idZ c d)) w) := by
  rcases Bool.eq_false_or_eq_true (rightB c d) with hr | hr
  · obtain ⟨h1, h2, h3, h4⟩ := rightB_bd hr
    have Hr := Lib.hid hr
    clear hr
    go_enter Try.func17, Try.ntmps17
    go_wp2_with fail
    refine (right_any _ _ _).mono ?_
    rw [Hr.out]
    rintro e w1 ⟨rfl, hb⟩
    have hc := (bcell hb).1
    go_wp2
    go_ret
    exact Ret.mk (by rw [idZ, if_pos Hr.out]; rfl) (by repeat (first | assumption | exact Below.refl _ _ | refine Below.alloc ?_ (by first | omega | (simp; done) | (simp; omega)) _ | refine Below.setCell ?_ (by first | omega | (simp; done) | (simp; omega)) _ | refine Below.drew ?_ | refine Below.drewN_ ?_ _ | refine Below.step ?_ (by assumption)))
  · have Hr := Lib.hid hr
    clear hr
    go_enter Try.func17, Try.ntmps17
    go_wp2_with fail
    refine (right_any _ _ _).mono ?_
    rw [Hr.out]
    rintro e w1 ⟨rfl, hb⟩
    have hc := (bcell hb).1
    go_wp2
    go_ret
    exact Ret.mk (by rw [idZ, if_neg (by rw [Hr.out]; decide)]; rfl) (by repeat (first | assumption | exact Below.refl _ _ | refine Below.alloc ?_ (by first | omega | (simp; done) | (simp; omega)) _ | refine Below.setCell ?_ (by first | omega | (simp; done) | (simp; omega)) _ | refine Below.drew ?_ | refine Below.drewN_ ?_ _ | refine Below.step ?_ (by assumption)))

set_option maxHeartbeats 400000 in
theorem rid_any (c d : Int) (w : World) : Calls Try.prog 18 #[.agg #[.int .i64 c, .int .i64 d]] w (Ret (.int .i64 (idZ c d)) w) := by
  rcases Bool.eq_false_or_eq_true (rightB c d) with hr | hr
  · obtain ⟨h1, h2, h3, h4⟩ := rightB_bd hr
    have Hr := Lib.hid hr
    clear hr
    go_enter Try.func18, Try.ntmps18
    go_wp2_with fail
    refine (rright_any _ _ _).mono ?_
    rw [Hr.out]
    rintro e w1 ⟨rfl, hb⟩
    have hc := (bcell hb).1
    go_wp2
    go_ret
    exact Ret.mk (by rw [idZ, if_pos Hr.out]; rfl) (by repeat (first | assumption | exact Below.refl _ _ | refine Below.alloc ?_ (by first | omega | (simp; done) | (simp; omega)) _ | refine Below.setCell ?_ (by first | omega | (simp; done) | (simp; omega)) _ | refine Below.drew ?_ | refine Below.drewN_ ?_ _ | refine Below.step ?_ (by assumption)))
  · have Hr := Lib.hid hr
    clear hr
    go_enter Try.func18, Try.ntmps18
    go_wp2_with fail
    refine (rright_any _ _ _).mono ?_
    rw [Hr.out]
    rintro e w1 ⟨rfl, hb⟩
    have hc := (bcell hb).1
    go_wp2
    go_ret
    exact Ret.mk (by rw [idZ, if_neg (by rw [Hr.out]; decide)]; rfl) (by repeat (first | assumption | exact Below.refl _ _ | refine Below.alloc ?_ (by first | omega | (simp; done) | (simp; omega)) _ | refine Below.setCell ?_ (by first | omega | (simp; done) | (simp; omega)) _ | refine Below.drew ?_ | refine Below.drewN_ ?_ _ | refine Below.step ?_ (by assumption)))

/-- ifRight: the stamp and true, or the zero stamp and false. -/
def ifC (c d : Int) : Int := if rightB c d = true then c else 0
def ifD (c d : Int) : Int := if rightB c d = true then d else 0
theorem ifC_yes {c d : Int} (h : rightB c d = true) : ifC c d = c := by rw [ifC, if_pos h]
theorem ifD_yes {c d : Int} (h : rightB c d = true) : ifD c d = d := by rw [ifD, if_pos h]
theorem ifC_no {c d : Int} (h : rightB c d = false) : ifC c d = 0 := by rw [ifC, if_neg (by rw [h]; decide)]
theorem ifD_no {c d : Int} (h : rightB c d = false) : ifD c d = 0 := by rw [ifD, if_neg (by rw [h]; decide)]

set_option maxHeartbeats 400000 in
theorem ifRight_any (c d : Int) (w : World) : Calls Try.prog 32 #[.agg #[.int .i64 c, .int .i64 d]] w (Ret (.tuple #[.agg #[.int .i64 (ifC c d), .int .i64 (ifD c d)], .bool (rightB c d)]) w) := by
  rcases Bool.eq_false_or_eq_true (rightB c d) with hr | hr
  · have Hr := Lib.hid hr
    clear hr
    go_enter Try.func32, Try.ntmps32
    go_wp2_with fail
    refine (right_any _ _ _).mono ?_
    rw [Hr.out]
    rintro e w1 ⟨rfl, hb⟩
    have hc := (bcell hb).1
    have hf := (bcell hb).2
    have hz := hb.size
    simp at hz
    go_wp2
    refine bodyPost_ret (v := .tuple #[.agg #[.int .i64 c, .int .i64 d], .bool true]) (by simp [results, Try.results32, go_sem, hc]) rfl (Ret.mk (by rw [ifC_yes Hr.out, ifD_yes Hr.out, Hr.out]) (by repeat (first | assumption | exact Below.refl _ _ | refine Below.alloc ?_ (by first | omega | (simp; done) | (simp; omega)) _ | refine Below.setCell ?_ (by first | omega | (simp; done) | (simp; omega)) _ | refine Below.drew ?_ | refine Below.drewN_ ?_ _ | refine Below.step ?_ (by assumption))))
  · have Hr := Lib.hid hr
    clear hr
    go_enter Try.func32, Try.ntmps32
    go_wp2_with fail
    refine (right_any _ _ _).mono ?_
    rw [Hr.out]
    rintro e w1 ⟨rfl, hb⟩
    have hc := (bcell hb).1
    have hf := (bcell hb).2
    have hz := hb.size
    simp at hz
    go_wp2
    refine bodyPost_ret (v := .tuple #[.agg #[.int .i64 0, .int .i64 0], .bool false]) (by simp [results, Try.results32, go_sem, hc]) rfl (Ret.mk (by rw [ifC_no Hr.out, ifD_no Hr.out, Hr.out]) (by repeat (first | assumption | exact Below.refl _ _ | refine Below.alloc ?_ (by first | omega | (simp; done) | (simp; omega)) _ | refine Below.setCell ?_ (by first | omega | (simp; done) | (simp; omega)) _ | refine Below.drew ?_ | refine Below.drewN_ ?_ _ | refine Below.step ?_ (by assumption))))
end Go.Proofs.Ytpannehdgmcmkaa
