/- The law ClockTotal: its walk. -/
import Derived.Test.YtpannehdgmcmkaaClockF
namespace Go.Proofs.Ytpannehdgmcmkaa
open Go.RowKit

theorem less_is {ac ad bc bd : Int} {x : Bool} (h : lessB ac ad bc bd = x) (w : World) : Calls Try.prog 15 #[.agg #[.int .i64 ac, .int .i64 ad], .agg #[.int .i64 bc, .int .i64 bd]] w (Ret (.bool x) w) := h ▸ less_any ac ad bc bd w

/-- '!=' on two stamps. -/
theorem neq_st (a b c d : Int) (w : World) : (binOp .neq 23 (.agg #[.int .i64 a, .int .i64 b]) (.agg #[.int .i64 c, .int .i64 d])).run Try.prog w = .ok (.bool (!(a == c && b == d))) w := by
  have hq1 : Try.prog.stoodInHeld 23 = false := by kernel_rfl
  simp [go_sem, hq1]
  by_cases h1 : a = c <;> by_cases h2 : b = d <;> simp [h1, h2]

theorem less_irr (ac ad : Int) : lessB ac ad ac ad = false := by simp [lessB]
theorem less_flip {ac ad bc bd : Int} (h : (ac == bc && ad == bd) = false) : lessB bc bd ac ad = !lessB ac ad bc bd := by
  unfold lessB
  rw [Bool.eq_iff_iff]
  rw [← Bool.not_eq_true] at h
  simp at h ⊢
  omega
theorem less_trans {ac ad bc bd cc cd : Int} (h : lessB ac ad bc bd = true) (k : lessB bc bd cc cd = true) : lessB ac ad cc cd = true := by
  unfold lessB at *
  simp at *
  omega

set_option maxHeartbeats 1000000 in
theorem total_walk (w : World) (ac ad : Int) (_ : Fits ac) (_ : Fits ad) (bc bd : Int) (_ : Fits bc) (_ : Fits bd) (cc cd : Int) (_ : Fits cc) (_ : Fits cd) : Calls Try.prog 7 #[.agg #[.int .i64 ac, .int .i64 ad], .agg #[.int .i64 bc, .int .i64 bd], .agg #[.int .i64 cc, .int .i64 cd]] w (Ret (.bool true) w) := by
  have hneq := neq_st
  have H1 := Lib.hid (less_irr ac ad)
  by_cases he : (ac == bc && ad == bd) = true
  · have he' : ac = bc ∧ ad = bd := by simpa using he
    obtain ⟨rfl, rfl⟩ := he'
    have H2 := H1
    have H3 := H1
    have H4 := H1
    have H5 := H1
    have H6 := H1
    go_enter Try.func7, Try.ntmps7
    go_wp2_with fail
    refine region_past (by kernel_rfl) (by kernel_rfl) ?_
    repeat (go_big_quiet_step (first | with_reducible exact Calls.past (less_is H1.out _) | with_reducible exact Calls.past (less_is H2.out _) | with_reducible exact Calls.past (less_is H3.out _)))
    refine wpQuiet_nil ?_
    rintro w1 ⟨⟨_, hb1⟩, rfl⟩
    have TA := (((Two.new w _ rfl ac ad 23).alloc _).alloc _).below hb1
    have TB := ((Two.new (w.alloc _) (w.heap.size + 1) (by simp) ac ad 23).alloc _).below hb1
    have TC := (Two.new ((w.alloc _).alloc _) (w.heap.size + 1 + 1) (by simp) cc cd 23).below hb1
    obtain ⟨hA1, hA2, hA3⟩ := TA
    obtain ⟨hB1, hB2, hB3⟩ := TB
    obtain ⟨hC1, hC2, hC3⟩ := TC
    go_wp2_with fail
    refine (less_is H4.out _).mono ?_
    rintro e w2 ⟨rfl, hb2⟩
    have TA := (show Two _ _ _ _ from ⟨hA1, hA2, hA3⟩).below hb2
    have TB := (show Two _ _ _ _ from ⟨hB1, hB2, hB3⟩).below hb2
    have TC := (show Two _ _ _ _ from ⟨hC1, hC2, hC3⟩).below hb2
    clear hA1 hA2 hA3 hB1 hB2 hB3 hC1 hC2 hC3
    obtain ⟨hA1, hA2, hA3⟩ := TA
    obtain ⟨hB1, hB2, hB3⟩ := TB
    obtain ⟨hC1, hC2, hC3⟩ := TC
    go_wp2_with fail
    refine (awake_any _).mono ?_
    rintro e w3 ⟨rfl, hb3⟩
    have TA := (show Two _ _ _ _ from ⟨hA1, hA2, hA3⟩).below hb3
    have TB := (show Two _ _ _ _ from ⟨hB1, hB2, hB3⟩).below hb3
    have TC := (show Two _ _ _ _ from ⟨hC1, hC2, hC3⟩).below hb3
    clear hA1 hA2 hA3 hB1 hB2 hB3 hC1 hC2 hC3
    obtain ⟨hA1, hA2, hA3⟩ := TA
    obtain ⟨hB1, hB2, hB3⟩ := TB
    obtain ⟨hC1, hC2, hC3⟩ := TC
    go_wp2
    go_ret
    exact Ret.mk rfl (by repeat (first | assumption | exact Below.refl _ _ | refine Below.alloc ?_ (by first | omega | (simp; done) | (simp; omega)) _ | refine Below.setCell ?_ (by first | omega | (simp; done) | (simp; omega)) _ | refine Below.drew ?_ | refine Below.drewN_ ?_ _ | refine Below.step ?_ (by assumption)))
  · have he' : (ac == bc && ad == bd) = false := by simpa using he
    have He := Lib.hid (less_flip he')
    have hne := he'
    clear he
    rcases Bool.eq_false_or_eq_true (lessB ac ad bc bd) with hx | hx
    · have H2 := Lib.hid hx
      have H3 : Hid (lessB bc bd ac ad = false) := Lib.hid (by rw [He.out, hx]; rfl)
      clear hx he'
      rcases Bool.eq_false_or_eq_true (lessB bc bd cc cd) with hy | hy
      · have H4 := Lib.hid hy
        have H5 := Lib.hid (less_trans H2.out hy)
        clear hy
        go_enter Try.func7, Try.ntmps7
        go_wp2_with fail
        refine region_past (by kernel_rfl) (by kernel_rfl) ?_
        repeat (go_big_quiet_step (first | with_reducible exact Calls.past (less_is H1.out _) | with_reducible exact Calls.past (less_is H2.out _) | with_reducible exact Calls.past (less_is H3.out _)))
        refine wpQuiet_nil ?_
        rintro w1 ⟨⟨_, hb1⟩, rfl⟩
        have TA := (((Two.new w _ rfl ac ad 23).alloc _).alloc _).below hb1
        have TB := ((Two.new (w.alloc _) (w.heap.size + 1) (by simp) bc bd 23).alloc _).below hb1
        have TC := (Two.new ((w.alloc _).alloc _) (w.heap.size + 1 + 1) (by simp) cc cd 23).below hb1
        obtain ⟨hA1, hA2, hA3⟩ := TA
        obtain ⟨hB1, hB2, hB3⟩ := TB
        obtain ⟨hC1, hC2, hC3⟩ := TC
        go_wp2_with fail
        refine (less_is H2.out _).mono ?_
        rintro e w2 ⟨rfl, hb2⟩
        have TA := (show Two _ _ _ _ from ⟨hA1, hA2, hA3⟩).below hb2
        have TB := (show Two _ _ _ _ from ⟨hB1, hB2, hB3⟩).below hb2
        have TC := (show Two _ _ _ _ from ⟨hC1, hC2, hC3⟩).below hb2
        clear hA1 hA2 hA3 hB1 hB2 hB3 hC1 hC2 hC3
        obtain ⟨hA1, hA2, hA3⟩ := TA
        obtain ⟨hB1, hB2, hB3⟩ := TB
        obtain ⟨hC1, hC2, hC3⟩ := TC
        go_wp2_with fail
        refine (less_is H4.out _).mono ?_
        rintro e w3 ⟨rfl, hb3⟩
        have TA := (show Two _ _ _ _ from ⟨hA1, hA2, hA3⟩).below hb3
        have TB := (show Two _ _ _ _ from ⟨hB1, hB2, hB3⟩).below hb3
        have TC := (show Two _ _ _ _ from ⟨hC1, hC2, hC3⟩).below hb3
        clear hA1 hA2 hA3 hB1 hB2 hB3 hC1 hC2 hC3
        obtain ⟨hA1, hA2, hA3⟩ := TA
        obtain ⟨hB1, hB2, hB3⟩ := TB
        obtain ⟨hC1, hC2, hC3⟩ := TC
        go_wp2_with fail
        refine (less_is H5.out _).mono ?_
        rintro e w4 ⟨rfl, hb4⟩
        have TA := (show Two _ _ _ _ from ⟨hA1, hA2, hA3⟩).below hb4
        have TB := (show Two _ _ _ _ from ⟨hB1, hB2, hB3⟩).below hb4
        have TC := (show Two _ _ _ _ from ⟨hC1, hC2, hC3⟩).below hb4
        clear hA1 hA2 hA3 hB1 hB2 hB3 hC1 hC2 hC3
        obtain ⟨hA1, hA2, hA3⟩ := TA
        obtain ⟨hB1, hB2, hB3⟩ := TB
        obtain ⟨hC1, hC2, hC3⟩ := TC
        go_wp2_with fail
        refine (awake_any _).mono ?_
        rintro e w5 ⟨rfl, hb5⟩
        have TA := (show Two _ _ _ _ from ⟨hA1, hA2, hA3⟩).below hb5
        have TB := (show Two _ _ _ _ from ⟨hB1, hB2, hB3⟩).below hb5
        have TC := (show Two _ _ _ _ from ⟨hC1, hC2, hC3⟩).below hb5
        clear hA1 hA2 hA3 hB1 hB2 hB3 hC1 hC2 hC3
        obtain ⟨hA1, hA2, hA3⟩ := TA
        obtain ⟨hB1, hB2, hB3⟩ := TB
        obtain ⟨hC1, hC2, hC3⟩ := TC
        go_wp2
        go_ret
        exact Ret.mk rfl (by repeat (first | assumption | exact Below.refl _ _ | refine Below.alloc ?_ (by first | omega | (simp; done) | (simp; omega)) _ | refine Below.setCell ?_ (by first | omega | (simp; done) | (simp; omega)) _ | refine Below.drew ?_ | refine Below.drewN_ ?_ _ | refine Below.step ?_ (by assumption)))
      · have H4 := Lib.hid hy
        clear hy
        go_enter Try.func7, Try.ntmps7
        go_wp2_with fail
        refine region_past (by kernel_rfl) (by kernel_rfl) ?_
        repeat (go_big_quiet_step (first | with_reducible exact Calls.past (less_is H1.out _) | with_reducible exact Calls.past (less_is H2.out _) | with_reducible exact Calls.past (less_is H3.out _)))
        refine wpQuiet_nil ?_
        rintro w1 ⟨⟨_, hb1⟩, rfl⟩
        have TA := (((Two.new w _ rfl ac ad 23).alloc _).alloc _).below hb1
        have TB := ((Two.new (w.alloc _) (w.heap.size + 1) (by simp) bc bd 23).alloc _).below hb1
        have TC := (Two.new ((w.alloc _).alloc _) (w.heap.size + 1 + 1) (by simp) cc cd 23).below hb1
        obtain ⟨hA1, hA2, hA3⟩ := TA
        obtain ⟨hB1, hB2, hB3⟩ := TB
        obtain ⟨hC1, hC2, hC3⟩ := TC
        go_wp2_with fail
        refine (less_is H2.out _).mono ?_
        rintro e w2 ⟨rfl, hb2⟩
        have TA := (show Two _ _ _ _ from ⟨hA1, hA2, hA3⟩).below hb2
        have TB := (show Two _ _ _ _ from ⟨hB1, hB2, hB3⟩).below hb2
        have TC := (show Two _ _ _ _ from ⟨hC1, hC2, hC3⟩).below hb2
        clear hA1 hA2 hA3 hB1 hB2 hB3 hC1 hC2 hC3
        obtain ⟨hA1, hA2, hA3⟩ := TA
        obtain ⟨hB1, hB2, hB3⟩ := TB
        obtain ⟨hC1, hC2, hC3⟩ := TC
        go_wp2_with fail
        refine (less_is H4.out _).mono ?_
        rintro e w3 ⟨rfl, hb3⟩
        have TA := (show Two _ _ _ _ from ⟨hA1, hA2, hA3⟩).below hb3
        have TB := (show Two _ _ _ _ from ⟨hB1, hB2, hB3⟩).below hb3
        have TC := (show Two _ _ _ _ from ⟨hC1, hC2, hC3⟩).below hb3
        clear hA1 hA2 hA3 hB1 hB2 hB3 hC1 hC2 hC3
        obtain ⟨hA1, hA2, hA3⟩ := TA
        obtain ⟨hB1, hB2, hB3⟩ := TB
        obtain ⟨hC1, hC2, hC3⟩ := TC
        go_wp2_with fail
        refine (awake_any _).mono ?_
        rintro e w5 ⟨rfl, hb5⟩
        have TA := (show Two _ _ _ _ from ⟨hA1, hA2, hA3⟩).below hb5
        have TB := (show Two _ _ _ _ from ⟨hB1, hB2, hB3⟩).below hb5
        have TC := (show Two _ _ _ _ from ⟨hC1, hC2, hC3⟩).below hb5
        clear hA1 hA2 hA3 hB1 hB2 hB3 hC1 hC2 hC3
        obtain ⟨hA1, hA2, hA3⟩ := TA
        obtain ⟨hB1, hB2, hB3⟩ := TB
        obtain ⟨hC1, hC2, hC3⟩ := TC
        go_wp2
        go_ret
        exact Ret.mk rfl (by repeat (first | assumption | exact Below.refl _ _ | refine Below.alloc ?_ (by first | omega | (simp; done) | (simp; omega)) _ | refine Below.setCell ?_ (by first | omega | (simp; done) | (simp; omega)) _ | refine Below.drew ?_ | refine Below.drewN_ ?_ _ | refine Below.step ?_ (by assumption)))
    · have H2 := Lib.hid hx
      have H3 : Hid (lessB bc bd ac ad = true) := Lib.hid (by rw [He.out, hx]; rfl)
      clear hx he'
      go_enter Try.func7, Try.ntmps7
      go_wp2_with fail
      refine region_past (by kernel_rfl) (by kernel_rfl) ?_
      repeat (go_big_quiet_step (first | with_reducible exact Calls.past (less_is H1.out _) | with_reducible exact Calls.past (less_is H2.out _) | with_reducible exact Calls.past (less_is H3.out _)))
      refine wpQuiet_nil ?_
      rintro w1 ⟨⟨_, hb1⟩, rfl⟩
      have TA := (((Two.new w _ rfl ac ad 23).alloc _).alloc _).below hb1
      have TB := ((Two.new (w.alloc _) (w.heap.size + 1) (by simp) bc bd 23).alloc _).below hb1
      have TC := (Two.new ((w.alloc _).alloc _) (w.heap.size + 1 + 1) (by simp) cc cd 23).below hb1
      obtain ⟨hA1, hA2, hA3⟩ := TA
      obtain ⟨hB1, hB2, hB3⟩ := TB
      obtain ⟨hC1, hC2, hC3⟩ := TC
      go_wp2_with fail
      refine (less_is H2.out _).mono ?_
      rintro e w2 ⟨rfl, hb2⟩
      have TA := (show Two _ _ _ _ from ⟨hA1, hA2, hA3⟩).below hb2
      have TB := (show Two _ _ _ _ from ⟨hB1, hB2, hB3⟩).below hb2
      have TC := (show Two _ _ _ _ from ⟨hC1, hC2, hC3⟩).below hb2
      clear hA1 hA2 hA3 hB1 hB2 hB3 hC1 hC2 hC3
      obtain ⟨hA1, hA2, hA3⟩ := TA
      obtain ⟨hB1, hB2, hB3⟩ := TB
      obtain ⟨hC1, hC2, hC3⟩ := TC
      go_wp2_with fail
      refine (awake_any _).mono ?_
      rintro e w5 ⟨rfl, hb5⟩
      have TA := (show Two _ _ _ _ from ⟨hA1, hA2, hA3⟩).below hb5
      have TB := (show Two _ _ _ _ from ⟨hB1, hB2, hB3⟩).below hb5
      have TC := (show Two _ _ _ _ from ⟨hC1, hC2, hC3⟩).below hb5
      clear hA1 hA2 hA3 hB1 hB2 hB3 hC1 hC2 hC3
      obtain ⟨hA1, hA2, hA3⟩ := TA
      obtain ⟨hB1, hB2, hB3⟩ := TB
      obtain ⟨hC1, hC2, hC3⟩ := TC
      go_wp2
      go_ret
      exact Ret.mk rfl (by repeat (first | assumption | exact Below.refl _ _ | refine Below.alloc ?_ (by first | omega | (simp; done) | (simp; omega)) _ | refine Below.setCell ?_ (by first | omega | (simp; done) | (simp; omega)) _ | refine Below.drew ?_ | refine Below.drewN_ ?_ _ | refine Below.step ?_ (by assumption)))
end Go.Proofs.Ytpannehdgmcmkaa
