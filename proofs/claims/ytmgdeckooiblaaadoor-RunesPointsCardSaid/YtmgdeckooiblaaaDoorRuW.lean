/- The walks of five laws. -/
import Derived.Test.YtmgdeckooiblaaaDoorRuQ
import Derived.Test.YtmgdeckooiblaaaDoorRuG
namespace Go.Proofs.YtmgdeckooiblaaaDoor
open Go.RowKit

theorem few_yes (s t : List UInt8) (hs : s.length ≤ 2000) (ht : t.length ≤ 2000) (w : World) : Calls Tryd.prog 12 #[.string ⟨s.toArray⟩, .string ⟨t.toArray⟩] w (RetW (.bool true) w) := by
  have f1 : decide ((s.length : Int) ≤ 2000) = true := decide_eq_true (by omega)
  have f2 : decide ((t.length : Int) ≤ 2000) = true := decide_eq_true (by omega)
  go_enter Tryd.func12, Tryd.ntmps12
  go_wp2
  go_ret
  exact ⟨by rfl, rfl⟩
theorem few_no (s t : List UInt8) (hs : 2000 < s.length) (w : World) : Calls Tryd.prog 12 #[.string ⟨s.toArray⟩, .string ⟨t.toArray⟩] w (RetW (.bool false) w) := by
  have f1 : decide ((s.length : Int) ≤ 2000) = false := decide_eq_false (by omega)
  go_enter Tryd.func12, Tryd.ntmps12
  go_wp2
  go_ret
  exact ⟨by rfl, rfl⟩
theorem ptV_len (s : List UInt8) : (ptV s).length ≤ s.length := by
  unfold ptV
  cases h : pts s with
  | none => simp [zs]
  | some l =>
    have := (encs_len l).1
    rw [(pts_encs h).1] at this
    simp [zs]; omega
theorem clu_len (l : List Nat) : (clu l).length ≤ l.length := by
  have : ∀ (m : List Nat) (out : List (List UInt8)), (m.foldl cstep out).length ≤ out.length + m.length := by
    intro m
    induction m with
    | nil => intro out; simp
    | cons p m ih =>
      intro out
      have h1 := ih (cstep out p)
      have h2 := cstep_len out p
      simp only [List.foldl_cons, List.length_cons]; omega
  have := this l []
  unfold clu; simpa using this
theorem clV_len (s : List UInt8) : (clV s).length ≤ s.length := by
  unfold clV
  cases h : pts s with
  | none => simp [clu]
  | some l =>
    have := (encs_len l).1
    rw [(pts_encs h).1] at this
    have := clu_len l
    simp; omega

set_option maxRecDepth 20000 in
set_option maxHeartbeats 2000000 in
theorem points_walk (w : World) (hL : Laid w) (s : List UInt8) : Calls Tryd.prog 3 #[.string ⟨s.toArray⟩] w (Ret (.bool true) w) := by
  have HLL := Lib.hid hL
  clear hL
  by_cases hs : s.length ≤ 2000
  · have kf := few_yes s [] hs (by simp) w
    have kp := points_any s (by omega) w HLL.out
    have kr := fun w' => rpoints_any s (by omega) w'
    have hv := ptV_len s
    generalize ptV s = V at *
    generalize ptB s = Bo at *
    have hbb : (Bo == Bo) = true := by simp
    go_enter Tryd.func3, Tryd.ntmps3
    go_wp2_with fail
    refine kf.mono ?_
    rintro e w1 ⟨rfl, rfl⟩
    go_wp2_with fail
    refine kp.mono ?_
    rintro e w2 ⟨A2, c2, rfl, -, hI2, h2⟩
    have H := Lib.hid h2
    have HI := Lib.hid hI2
    clear h2 hI2
    go_wp2_with fail
    refine (kr _).mono ?_
    rintro e w3 ⟨A3, c3, rfl, -, hI3, h3⟩
    replace H := Lib.hid (Below.step H.out h3)
    replace HI := Lib.hid (HI.out.below h3)
    have HJ := Lib.hid hI3
    clear h3 hI3
    go_wp2_with fail
    refine (same_yes V A2 A3 c2 c3 _ HI.out HJ.out (by unfold maxLen; omega)).mono ?_
    rintro e w4 ⟨rfl, h4⟩
    replace H := Lib.hid (Below.step H.out h4)
    clear h4
    go_wp2_with fail
    refine (awake_any _ (HLL.out.below H.out)).mono ?_
    rintro e w5 ⟨rfl, h5⟩
    replace H := Lib.hid (Below.step H.out h5)
    clear h5
    go_wp2
    go_ret
    exact Ret.mk rfl H.out
  · have kf := few_no s [] (by omega) w
    go_enter Tryd.func3, Tryd.ntmps3
    go_wp2_with fail
    refine kf.mono ?_
    rintro e w1 ⟨rfl, rfl⟩
    go_wp2_with fail
    refine (awake_any _ HLL.out).mono ?_
    rintro e w5 ⟨rfl, h5⟩
    go_wp2
    go_ret
    exact Ret.mk rfl h5

set_option maxRecDepth 20000 in
set_option maxHeartbeats 2000000 in
theorem clusters_walk (w : World) (hL : Laid w) (s : List UInt8) : Calls Tryd.prog 6 #[.string ⟨s.toArray⟩] w (Ret (.bool true) w) := by
  have HLL := Lib.hid hL
  clear hL
  by_cases hs : s.length ≤ 2000
  · have kf := few_yes s [] hs (by simp) w
    have kp := clusters_any s (by omega) w HLL.out
    have kr := fun w' => rclusters_any s (by omega) w'
    have hv := clV_len s
    generalize clV s = V at *
    go_enter Tryd.func6, Tryd.ntmps6
    go_wp2_with fail
    refine kf.mono ?_
    rintro e w1 ⟨rfl, rfl⟩
    go_wp2_with fail
    refine kp.mono ?_
    rintro e w2 ⟨A2, c2, rfl, -, hI2, h2⟩
    have H := Lib.hid h2
    have HI := Lib.hid hI2
    clear h2 hI2
    go_wp2_with fail
    refine (kr _).mono ?_
    rintro e w3 ⟨A3, c3, rfl, -, hI3, h3⟩
    replace H := Lib.hid (Below.step H.out h3)
    replace HI := Lib.hid (HI.out.below h3)
    have HJ := Lib.hid hI3
    clear h3 hI3
    go_wp2_with fail
    refine (requal_yes V A2 A3 c2 c3 _ HI.out HJ.out (by omega)).mono ?_
    rintro e w4 ⟨rfl, h4⟩
    replace H := Lib.hid (Below.step H.out h4)
    clear h4
    go_wp2_with fail
    refine (awake_any _ (HLL.out.below H.out)).mono ?_
    rintro e w5 ⟨rfl, h5⟩
    replace H := Lib.hid (Below.step H.out h5)
    clear h5
    go_wp2
    go_ret
    exact Ret.mk rfl H.out
  · have kf := few_no s [] (by omega) w
    go_enter Tryd.func6, Tryd.ntmps6
    go_wp2_with fail
    refine kf.mono ?_
    rintro e w1 ⟨rfl, rfl⟩
    go_wp2_with fail
    refine (awake_any _ HLL.out).mono ?_
    rintro e w5 ⟨rfl, h5⟩
    go_wp2
    go_ret
    exact Ret.mk rfl h5

set_option maxRecDepth 20000 in
set_option maxHeartbeats 2000000 in
theorem class_walk (w : World) (hL : Laid w) (p : Int) : Calls Tryd.prog 5 #[.int .i64 p] w (Ret (.bool true) w) := by
  have HLL := Lib.hid hL
  clear hL
  have k1 := fun w' => class_any p w'
  have k2 := fun w' => rclass_any p w'
  generalize cls p = c at *
  have hcc : (c == c) = true := by simp
  go_enter Tryd.func5, Tryd.ntmps5
  go_wp2_with fail
  refine (k1 _).mono ?_
  rintro e w1 ⟨rfl, rfl⟩
  go_wp2_with fail
  refine (k2 _).mono ?_
  rintro e w1 ⟨rfl, rfl⟩
  go_wp2_with fail
  refine (awake_any _ HLL.out).mono ?_
  rintro e w5 ⟨rfl, h5⟩
  go_wp2
  go_ret
  exact Ret.mk rfl h5

set_option maxRecDepth 20000 in
set_option maxHeartbeats 2000000 in
theorem of_walk (w : World) (hL : Laid w) (l : List Int) (A : Option Addr) (cap : Nat) (hI : Ints w A l) : Calls Tryd.prog 4 #[.slice A l.length cap] w (Ret (.bool true) w) := by
  have HLL := Lib.hid hL
  have HI := Lib.hid hI
  clear hL hI
  by_cases hs : l.length ≤ 1000
  · have f1 : decide ((1000 : Int) < (l.length : Int)) = false := decide_eq_false (by omega)
    have kp := of_any l A cap w HI.out (by omega)
    have kr := fun w' h => rof_any l A cap w' h (by omega)
    generalize ofV l = V at *
    generalize ofB l = Bo at *
    have hbb : (Bo == Bo) = true := by simp
    go_enter Tryd.func4, Tryd.ntmps4
    go_wp2_with fail
    refine kp.mono ?_
    rintro e w2 ⟨rfl, h2⟩
    have H := Lib.hid h2
    clear h2
    go_wp2_with fail
    refine (kr _ (HI.out.below H.out)).mono ?_
    rintro e w3 ⟨rfl, h3⟩
    replace H := Lib.hid (Below.step H.out h3)
    clear h3
    go_wp2_with fail
    refine (awake_any _ (HLL.out.below H.out)).mono ?_
    rintro e w5 ⟨rfl, h5⟩
    replace H := Lib.hid (Below.step H.out h5)
    clear h5
    go_wp2
    go_ret
    exact Ret.mk rfl H.out
  · have f1 : decide ((1000 : Int) < (l.length : Int)) = true := decide_eq_true (by omega)
    go_enter Tryd.func4, Tryd.ntmps4
    go_wp2_with fail
    refine (awake_any _ HLL.out).mono ?_
    rintro e w5 ⟨rfl, h5⟩
    go_wp2
    go_ret
    exact Ret.mk rfl h5
end Go.Proofs.YtmgdeckooiblaaaDoor
