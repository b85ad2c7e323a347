/- The law ClockLater: its walk. -/
import Derived.Test.YtpannehdgmcmkaaClockL4
import Derived.Deep.RegionHeld3
namespace Go.Proofs.Ytpannehdgmcmkaa
open Go.RowKit

theorem Ints.drew {w : World} {A : Option Addr} {l : List Int} (h : Ints w A l) : Ints w.drew A l := h

theorem numZ_top (v : List Int) (d : Int) : ∀ n : Nat, 1 ≤ d → d ≤ n → numZ v d ≤ topTo v n
  | 0, h1, h2 => by omega
  | n + 1, h1, h2 => by
    unfold topTo
    by_cases e : d = n + 1
    · subst e; omega
    · have := numZ_top v d n h1 (by omega)
      omega
theorem numZ_top15 (v : List Int) (d : Int) : numZ v d ≤ topTo v 15 := by
  by_cases h : 1 ≤ d ∧ d ≤ 15
  · exact numZ_top v d 15 h.1 (by omega)
  · rw [numZ_out (by omega)]
    exact topTo_nonneg v 15
theorem numZ_see (v : List Int) {c d : Int} (h : rightB c d = true) (k : Nat) (hk : k < 15) : numZ (seeL v c d) (k + 1) = if (k : Int) + 1 = d then max (numZ v d) c else numZ v (k + 1) := by
  obtain ⟨h1, h2, h3, h4⟩ := rightB_bd h
  have hl := seeL_len v c d
  rw [numZ_in (by rw [hl]; exact hk) (by omega)]
  have e : (seeL v c d)[k]? = some (if (k : Int) + 1 = d then max (numZ v d) c else numZ v (k + 1)) := by
    rw [seeL, if_pos h, List.getElem?_set]
    by_cases hd : (k : Int) + 1 = d
    · rw [if_pos (by omega), if_pos (by rw [joinL_len]; omega), if_pos hd]
    · rw [if_neg (by omega), joinL_at _ _ _ hk, if_neg hd]
      unfold mx
      have := numZ_nonneg v (k + 1)
      rw [numZ_nil]
      congr 1
      omega
  rw [List.getElem?_eq_getElem (by rw [hl]; exact hk)] at e
  rw [Option.some.inj e]
  have := numZ_nonneg v (k + 1)
  split <;> omega
theorem see_covers (v : List Int) {c d : Int} (h : rightB c d = true) : coversB (seeL v c d) c d = true := by
  obtain ⟨h1, h2, h3, h4⟩ := rightB_bd h
  obtain ⟨k, rfl⟩ : ∃ k : Nat, d = (k : Int) + 1 := ⟨(d - 1).toNat, by omega⟩
  rw [coversB, h, numZ_see v h k (by omega), if_pos rfl]
  simp
  omega
theorem covers_is {v : List Int} {c d : Int} {x : Bool} (h : coversB v c d = x) {A : Option Addr} (cap : Nat) {w : World} (hv : Ints w A v) :
    Calls Try.prog 21 #[.slice A v.length cap, .agg #[.int .i64 c, .int .i64 d]] w (Ret (.bool x) w) := h ▸ covers_any v A cap c d w hv
theorem covers_row {v : List Int} {c d : Int} {x : Bool} (h : coversB v c d = x) (hl : v.length = 15) {A : Option Addr} (cap : Nat) {w : World} (hv : Ints w A v) :
    Calls Try.prog 21 #[.slice A 15 cap, .agg #[.int .i64 c, .int .i64 d]] w (Ret (.bool x) w) := by
  have := covers_is h cap hv
  rwa [hl] at this
theorem next_is {v : List Int} {d c' d' : Int} {x : Bool} (hc : nextC v d = c') (hd : nextD v d = d') (hx : nextB v d = x) {A : Option Addr} (cap : Nat) {w : World} (hv : Ints w A v) (hf : Fit v) :
    Calls Try.prog 30 #[.slice A v.length cap, .int .i64 d] w (Ret (.tuple #[.agg #[.int .i64 c', .int .i64 d'], .bool x]) w) := by
  subst hc hd hx
  exact next_any v A cap d w hv hf

set_option maxHeartbeats 1000000 in
theorem later_yes (w : World) (v : List Int) (A : Option Addr) (cap : Nat) (hf : Fit v) (hv : Ints w A v) (d : Int) (sc sd : Int) (hfew : decide (v.length ≤ 100) = true) (hn : nextB v d = true) (hcov : coversB v sc sd = false) :
    Calls Try.prog 9 #[.slice A v.length cap, .int .i64 d, .agg #[.int .i64 sc, .int .i64 sd]] w (Ret (.bool true) w) := by
  have HF := Lib.hid hfew
  have HN := Lib.hid hn
  have hr : rightB (topTo v 15 + 1) d = true := by
    unfold nextB at hn
    simp only [Bool.and_eq_true, decide_eq_true_eq] at hn
    have := topTo_nonneg v 15
    unfold rightB
    simp only [Bool.and_eq_true, decide_eq_true_eq]
    omega
  have HC : Hid (nextC v d = topTo v 15 + 1) := Lib.hid (by rw [nextC, if_pos hn])
  have HD : Hid (nextD v d = d) := Lib.hid (by rw [nextD, if_pos hn])
  have HV : Hid (coversB v (topTo v 15 + 1) d = false) := Lib.hid (by
    have := numZ_top15 v d
    rw [coversB, hr]
    simp
    omega)
  generalize topTo v 15 + 1 = n at *
  have HR := Lib.hid hr
  have HS := Lib.hid (see_covers v hr)
  have HL := Lib.hid (seeL_len v n d)
  have HO := Lib.hid hcov
  clear hfew hn hr hcov
  have hv0 := hv.alloc (.cells #[.int .i64 sc, .int .i64 sd] 23)
  go_enter Try.func9, Try.ntmps9
  go_wp2_with fail
  refine (few_is HF.out A cap _).mono ?_
  rintro e w1 ⟨rfl, hb1⟩
  have TS := (Two.new w _ rfl sc sd 23).below hb1
  have hv1 := hv0.below hb1
  go_wp2_with fail
  refine (next_is HC.out HD.out HN.out cap hv1 hf).mono ?_
  rintro e w2 ⟨rfl, hb2⟩
  have TS := (TS.below hb2).alloc (.cells #[.int .i64 n, .int .i64 d] 23)
  have TN := Two.new w2 _ rfl n d 23
  have hv2 := (hv1.below hb2).alloc (.cells #[.int .i64 n, .int .i64 d] 23)
  obtain ⟨s0, s1, s2⟩ := TS
  obtain ⟨n0, n1, n2⟩ := TN
  go_wp2_with fail
  refine (right_is HR.out _).mono ?_
  rintro e w3 ⟨rfl, hb3⟩
  have TS := (show Two _ _ _ _ from ⟨s0, s1, s2⟩).below hb3
  have TN := (show Two _ _ _ _ from ⟨n0, n1, n2⟩).below hb3
  have hv3 := hv2.below hb3
  clear s0 s1 s2 n0 n1 n2
  obtain ⟨s0, s1, s2⟩ := TS
  obtain ⟨n0, n1, n2⟩ := TN
  go_wp2_with fail
  refine (covers_is HV.out cap hv3).mono ?_
  rintro e w4 ⟨rfl, hb4⟩
  have TS := (show Two _ _ _ _ from ⟨s0, s1, s2⟩).below hb4
  have TN := (show Two _ _ _ _ from ⟨n0, n1, n2⟩).below hb4
  have hv4 := hv3.below hb4
  clear s0 s1 s2 n0 n1 n2
  obtain ⟨s0, s1, s2⟩ := TS
  obtain ⟨n0, n1, n2⟩ := TN
  go_wp2_with fail
  refine (covers_is HO.out cap hv4).mono ?_
  rintro e w5 ⟨rfl, hb5⟩
  have TN := (show Two _ _ _ _ from ⟨n0, n1, n2⟩).below hb5
  have hv5 := hv4.below hb5
  clear n0 n1 n2
  obtain ⟨n0, n1, n2⟩ := TN
  go_wp2_with fail
  go_region_held3 (fun w' => w'.cell? ⟨w2.heap.size, 0, none⟩ = some (.int .i64 n) ∧ w'.cell? ⟨w2.heap.size, 1, none⟩ = some (.int .i64 d))
    (first | exact ⟨‹_›, ‹_›⟩)
    (first
      | (go_at_call 28; refine (see_any v A cap n d _ (by exact Ints.drew hv5)).mono ?_; rintro e w6 ⟨g, c6, rfl, hg, hown6, hb6⟩; have k1 := ((bcell hb6).1 _ _ (by exact n0)).trans n1; have k2 := ((bcell hb6).1 _ _ (by exact n0)).trans n2)
      | (go_at_call 21; refine (covers_row HS.out HL.out c6 (Ints.of_row HL.out hown6)).mono ?_; rintro e w7 ⟨rfl, hb7⟩; have n0' := Nat.lt_of_lt_of_le n0 hb6.size; have k3 := ((bcell hb7).1 _ _ n0').trans k1; have k4 := ((bcell hb7).1 _ _ n0').trans k2)
      | (go_at_call 19; refine (awake_any _).mono ?_; rintro e w8 ⟨rfl, hb8⟩; have n0'' := Nat.lt_of_lt_of_le n0' hb7.size; have k5 := ((bcell hb8).1 _ _ n0'').trans k3; have k6 := ((bcell hb8).1 _ _ n0'').trans k4))
  have z1 := hb1.size
  try simp at z1
  have z2 := hb2.size
  go_wp2
  go_ret
  exact Ret.mk rfl (by repeat (first | assumption | exact Below.refl _ _ | refine Below.alloc ?_ (by first | omega | (simp; done) | (simp; omega)) _ | refine Below.setCell ?_ (by first | omega | (simp; done) | (simp; omega)) _ | refine Below.drew ?_ | refine Below.drewN_ ?_ _ | refine Below.step ?_ (by assumption)))

set_option maxHeartbeats 1000000 in
theorem later_yes2 (w : World) (v : List Int) (A : Option Addr) (cap : Nat) (hf : Fit v) (hv : Ints w A v) (d : Int) (sc sd : Int) (hfew : decide (v.length ≤ 100) = true) (hn : nextB v d = true) (hcov : coversB v sc sd = true) :
    Calls Try.prog 9 #[.slice A v.length cap, .int .i64 d, .agg #[.int .i64 sc, .int .i64 sd]] w (Ret (.bool true) w) := by
  have HF := Lib.hid hfew
  have HN := Lib.hid hn
  have hr : rightB (topTo v 15 + 1) d = true := by
    unfold nextB at hn
    simp only [Bool.and_eq_true, decide_eq_true_eq] at hn
    have := topTo_nonneg v 15
    unfold rightB
    simp only [Bool.and_eq_true, decide_eq_true_eq]
    omega
  have HC : Hid (nextC v d = topTo v 15 + 1) := Lib.hid (by rw [nextC, if_pos hn])
  have HD : Hid (nextD v d = d) := Lib.hid (by rw [nextD, if_pos hn])
  have HV : Hid (coversB v (topTo v 15 + 1) d = false) := Lib.hid (by
    have := numZ_top15 v d
    rw [coversB, hr]
    simp
    omega)
  have hlt : lessB sc sd (topTo v 15 + 1) d = true := by
    unfold coversB at hcov
    simp only [Bool.and_eq_true, decide_eq_true_eq] at hcov
    have := numZ_top15 v sd
    unfold lessB
    simp
    omega
  generalize topTo v 15 + 1 = n at *
  have HT := Lib.hid hlt
  clear hlt
  have HR := Lib.hid hr
  have HS := Lib.hid (see_covers v hr)
  have HL := Lib.hid (seeL_len v n d)
  have HO := Lib.hid hcov
  clear hfew hn hr hcov
  have hv0 := hv.alloc (.cells #[.int .i64 sc, .int .i64 sd] 23)
  go_enter Try.func9, Try.ntmps9
  go_wp2_with fail
  refine (few_is HF.out A cap _).mono ?_
  rintro e w1 ⟨rfl, hb1⟩
  have TS := (Two.new w _ rfl sc sd 23).below hb1
  have hv1 := hv0.below hb1
  go_wp2_with fail
  refine (next_is HC.out HD.out HN.out cap hv1 hf).mono ?_
  rintro e w2 ⟨rfl, hb2⟩
  have TS := (TS.below hb2).alloc (.cells #[.int .i64 n, .int .i64 d] 23)
  have TN := Two.new w2 _ rfl n d 23
  have hv2 := (hv1.below hb2).alloc (.cells #[.int .i64 n, .int .i64 d] 23)
  obtain ⟨s0, s1, s2⟩ := TS
  obtain ⟨n0, n1, n2⟩ := TN
  go_wp2_with fail
  refine (right_is HR.out _).mono ?_
  rintro e w3 ⟨rfl, hb3⟩
  have TS := (show Two _ _ _ _ from ⟨s0, s1, s2⟩).below hb3
  have TN := (show Two _ _ _ _ from ⟨n0, n1, n2⟩).below hb3
  have hv3 := hv2.below hb3
  clear s0 s1 s2 n0 n1 n2
  obtain ⟨s0, s1, s2⟩ := TS
  obtain ⟨n0, n1, n2⟩ := TN
  go_wp2_with fail
  refine (covers_is HV.out cap hv3).mono ?_
  rintro e w4 ⟨rfl, hb4⟩
  have TS := (show Two _ _ _ _ from ⟨s0, s1, s2⟩).below hb4
  have TN := (show Two _ _ _ _ from ⟨n0, n1, n2⟩).below hb4
  have hv4 := hv3.below hb4
  clear s0 s1 s2 n0 n1 n2
  obtain ⟨s0, s1, s2⟩ := TS
  obtain ⟨n0, n1, n2⟩ := TN
  go_wp2_with fail
  refine (covers_is HO.out cap hv4).mono ?_
  rintro e u5 ⟨rfl, hu5⟩
  have TS := (show Two _ _ _ _ from ⟨s0, s1, s2⟩).below hu5
  have TN := (show Two _ _ _ _ from ⟨n0, n1, n2⟩).below hu5
  have hv4 := hv4.below hu5
  clear s0 s1 s2 n0 n1 n2
  obtain ⟨s0, s1, s2⟩ := TS
  obtain ⟨n0, n1, n2⟩ := TN
  go_wp2_with fail
  refine (less_is HT.out _).mono ?_
  rintro e w5 ⟨rfl, hb5⟩
  have TN := (show Two _ _ _ _ from ⟨n0, n1, n2⟩).below hb5
  have hv5 := hv4.below hb5
  clear n0 n1 n2
  obtain ⟨n0, n1, n2⟩ := TN
  go_wp2_with fail
  go_region_held3 (fun w' => w'.cell? ⟨w2.heap.size, 0, none⟩ = some (.int .i64 n) ∧ w'.cell? ⟨w2.heap.size, 1, none⟩ = some (.int .i64 d))
    (first | exact ⟨‹_›, ‹_›⟩)
    (first
      | (go_at_call 28; refine (see_any v A cap n d _ (by exact Ints.drew hv5)).mono ?_; rintro e w6 ⟨g, c6, rfl, hg, hown6, hb6⟩; have k1 := ((bcell hb6).1 _ _ (by exact n0)).trans n1; have k2 := ((bcell hb6).1 _ _ (by exact n0)).trans n2)
      | (go_at_call 21; refine (covers_row HS.out HL.out c6 (Ints.of_row HL.out hown6)).mono ?_; rintro e w7 ⟨rfl, hb7⟩; have n0' := Nat.lt_of_lt_of_le n0 hb6.size; have k3 := ((bcell hb7).1 _ _ n0').trans k1; have k4 := ((bcell hb7).1 _ _ n0').trans k2)
      | (go_at_call 19; refine (awake_any _).mono ?_; rintro e w8 ⟨rfl, hb8⟩; have n0'' := Nat.lt_of_lt_of_le n0' hb7.size; have k5 := ((bcell hb8).1 _ _ n0'').trans k3; have k6 := ((bcell hb8).1 _ _ n0'').trans k4))
  have z1 := hb1.size
  try simp at z1
  have z2 := hb2.size
  go_wp2
  go_ret
  exact Ret.mk rfl (by repeat (first | assumption | exact Below.refl _ _ | refine Below.alloc ?_ (by first | omega | (simp; done) | (simp; omega)) _ | refine Below.setCell ?_ (by first | omega | (simp; done) | (simp; omega)) _ | refine Below.drew ?_ | refine Below.drewN_ ?_ _ | refine Below.step ?_ (by assumption)))

set_option maxHeartbeats 1000000 in
theorem later_no (w : World) (v : List Int) (A : Option Addr) (cap : Nat) (hf : Fit v) (hv : Ints w A v) (d : Int) (sc sd : Int) (hfew : decide (v.length ≤ 100) = true) (hn : nextB v d = false) :
    Calls Try.prog 9 #[.slice A v.length cap, .int .i64 d, .agg #[.int .i64 sc, .int .i64 sd]] w (Ret (.bool true) w) := by
  have heql := eql_st
  have HF := Lib.hid hfew
  have HN := Lib.hid hn
  have HC : Hid (nextC v d = 0) := Lib.hid (by rw [nextC, if_neg (by rw [hn]; decide)])
  have HD : Hid (nextD v d = 0) := Lib.hid (by rw [nextD, if_neg (by rw [hn]; decide)])
  clear hfew hn
  have hv0 := hv.alloc (.cells #[.int .i64 sc, .int .i64 sd] 23)
  go_enter Try.func9, Try.ntmps9
  go_wp2_with fail
  refine (few_is HF.out A cap _).mono ?_
  rintro e w1 ⟨rfl, hb1⟩
  have hv1 := hv0.below hb1
  go_wp2_with fail
  refine (next_is HC.out HD.out HN.out cap hv1 hf).mono ?_
  rintro e w2 ⟨rfl, hb2⟩
  obtain ⟨n0, n1, n2⟩ := Two.new w2 _ rfl 0 0 23
  go_wp2_with fail
  refine (awake_any _).mono ?_
  rintro e w3 ⟨rfl, hb3⟩
  have z1 := hb1.size
  try simp at z1
  have z2 := hb2.size
  go_wp2
  go_ret
  exact Ret.mk rfl (by repeat (first | assumption | exact Below.refl _ _ | refine Below.alloc ?_ (by first | omega | (simp; done) | (simp; omega)) _ | refine Below.setCell ?_ (by first | omega | (simp; done) | (simp; omega)) _ | refine Below.drew ?_ | refine Below.drewN_ ?_ _ | refine Below.step ?_ (by assumption)))

set_option maxHeartbeats 1000000 in
theorem later_many (w : World) (v : List Int) (A : Option Addr) (cap : Nat) (d : Int) (sc sd : Int) (hfew : decide (v.length ≤ 100) = false) :
    Calls Try.prog 9 #[.slice A v.length cap, .int .i64 d, .agg #[.int .i64 sc, .int .i64 sd]] w (Ret (.bool true) w) := by
  have HF := Lib.hid hfew
  clear hfew
  go_enter Try.func9, Try.ntmps9
  go_wp2_with fail
  refine (few_is HF.out A cap _).mono ?_
  rintro e w1 ⟨rfl, hb1⟩
  go_wp2_with fail
  refine (awake_any _).mono ?_
  rintro e w3 ⟨rfl, hb3⟩
  go_wp2
  go_ret
  exact Ret.mk rfl (by repeat (first | assumption | exact Below.refl _ _ | refine Below.alloc ?_ (by first | omega | (simp; done) | (simp; omega)) _ | refine Below.setCell ?_ (by first | omega | (simp; done) | (simp; omega)) _ | refine Below.drew ?_ | refine Below.drewN_ ?_ _ | refine Below.step ?_ (by assumption)))

theorem later_walk (w : World) (v : List Int) (A : Option Addr) (cap : Nat) (hf : Fit v) (_ : v.length ≤ maxLen) (hv : Ints w A v) (d : Int) (_ : Fits d) (sc sd : Int) (_ : Fits sc) (_ : Fits sd) :
    Calls Try.prog 9 #[.slice A v.length cap, .int .i64 d, .agg #[.int .i64 sc, .int .i64 sd]] w (Ret (.bool true) w) := by
  rcases Bool.eq_false_or_eq_true (decide (v.length ≤ 100)) with h1 | h1
  · rcases Bool.eq_false_or_eq_true (nextB v d) with h2 | h2
    · rcases Bool.eq_false_or_eq_true (coversB v sc sd) with h3 | h3
      · exact later_yes2 w v A cap hf hv d sc sd h1 h2 h3
      · exact later_yes w v A cap hf hv d sc sd h1 h2 h3
    · exact later_no w v A cap hf hv d sc sd h1 h2
  · exact later_many w v A cap d sc sd h1
end Go.Proofs.Ytpannehdgmcmkaa
