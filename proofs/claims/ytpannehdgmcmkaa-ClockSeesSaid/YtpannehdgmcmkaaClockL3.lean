/- The laws ClockNext, ClockIds: their walks. -/
import Derived.Test.YtpannehdgmcmkaaClockL2
namespace Go.Proofs.Ytpannehdgmcmkaa
open Go.RowKit

theorem few_nil (v : List Int) (A : Option Addr) (cap : Nat) (w : World) : Calls Try.prog 20 #[.slice A v.length cap, .slice none 0 0] w (Ret (.bool (decide (v.length ≤ 100))) w) := by
  have h := few_any v [] A none cap 0 w
  simpa using h
theorem few_is {v : List Int} {x : Bool} (h : decide (v.length ≤ 100) = x) (A : Option Addr) (cap : Nat) (w : World) : Calls Try.prog 20 #[.slice A v.length cap, .slice none 0 0] w (Ret (.bool x) w) := h ▸ few_nil v A cap w

set_option maxHeartbeats 1000000 in
theorem next_walk (w : World) (v : List Int) (A : Option Addr) (cap : Nat) (hf : Fit v) (_ : v.length ≤ maxLen) (hv : Ints w A v) (d : Int) (_ : Fits d) : Calls Try.prog 5 #[.slice A v.length cap, .int .i64 d] w (Ret (.bool true) w) := by
  have heql := eql_st
  rcases Bool.eq_false_or_eq_true (decide (v.length ≤ 100)) with h | h
  · have H := Lib.hid h
    clear h
    go_enter Try.func5, Try.ntmps5
    go_wp2_with fail
    refine (few_is H.out A cap _).mono ?_
    rintro e w1 ⟨rfl, hb1⟩
    have hv1 := hv.below hb1
    go_wp2_with fail
    refine (next_any v A cap d _ hv1 hf).mono ?_
    rintro e w2 ⟨rfl, hb2⟩
    go_wp2_with fail
    refine (rnext_any v A cap d _ ((hv1.below hb2).alloc _) hf).mono ?_
    generalize nextC v d = x
    generalize nextD v d = y
    generalize nextB v d = z
    rintro e w3 ⟨rfl, hb3⟩
    have TS := ((Two.new w2 _ rfl x y 23).below hb3).alloc (.cells #[.int .i64 x, .int .i64 y] 23)
    have TT := Two.new w3 _ rfl x y 23
    obtain ⟨s0, s1, s2⟩ := TS
    obtain ⟨t0, t1, t2⟩ := TT
    go_wp2_with fail
    refine (awake_any _).mono ?_
    rintro e w4 ⟨rfl, hb4⟩
    have z1 := hb1.size
    have z2 := hb2.size
    have z3 := hb3.size
    simp at z3
    go_wp2
    go_ret
    exact Ret.mk rfl (by repeat (first | assumption | exact Below.refl _ _ | refine Below.alloc ?_ (by first | omega | (simp; done) | (simp; omega)) _ | refine Below.setCell ?_ (by first | omega | (simp; done) | (simp; omega)) _ | refine Below.drew ?_ | refine Below.drewN_ ?_ _ | refine Below.step ?_ (by assumption)))
  · have H := Lib.hid h
    clear h
    go_enter Try.func5, Try.ntmps5
    go_wp2_with fail
    refine (few_is H.out A cap _).mono ?_
    rintro e w1 ⟨rfl, hb1⟩
    go_wp2_with fail
    refine (awake_any _).mono ?_
    rintro e w4 ⟨rfl, hb4⟩
    go_wp2
    go_ret
    exact Ret.mk rfl (by repeat (first | assumption | exact Below.refl _ _ | refine Below.alloc ?_ (by first | omega | (simp; done) | (simp; omega)) _ | refine Below.setCell ?_ (by first | omega | (simp; done) | (simp; omega)) _ | refine Below.drew ?_ | refine Below.drewN_ ?_ _ | refine Below.step ?_ (by assumption)))

theorem right_is {c d : Int} {x : Bool} (h : rightB c d = x) (w : World) : Calls Try.prog 13 #[.agg #[.int .i64 c, .int .i64 d]] w (Ret (.bool x) w) := h ▸ right_any c d w
theorem id_is {c d x : Int} (h : idZ c d = x) (w : World) : Calls Try.prog 17 #[.agg #[.int .i64 c, .int .i64 d]] w (Ret (.int .i64 x) w) := h ▸ id_any c d w
theorem of_is {i c d : Int} {x : Bool} (hi : Fits i) (hc : ifC (i.tdiv 16) (i.tmod 16) = c) (hd : ifD (i.tdiv 16) (i.tmod 16) = d) (h : rightB (i.tdiv 16) (i.tmod 16) = x) (w : World) :
    Calls Try.prog 11 #[.int .i64 i] w (Ret (.tuple #[.agg #[.int .i64 c, .int .i64 d], .bool x]) w) := by
  subst hc hd h
  exact of_any i w hi
theorem idZ_yes {c d : Int} (h : rightB c d = true) : idZ c d = 16 * c + d := by rw [idZ, if_pos h]
theorem idZ_no {c d : Int} (h : rightB c d = false) : idZ c d = 0 := by rw [idZ, if_neg (by rw [h]; decide)]
theorem id_div {c d : Int} (h : rightB c d = true) : (16 * c + d).tdiv 16 = c ∧ (16 * c + d).tmod 16 = d := by
  obtain ⟨h1, h2, h3, h4⟩ := rightB_bd h
  rw [Int.tdiv_eq_ediv_of_nonneg (by omega), Int.tmod_eq_emod_of_nonneg (by omega)]
  omega
theorem of_id (i : Int) : 16 * i.tdiv 16 + i.tmod 16 = i := Int.mul_tdiv_add_tmod i 16
theorem less_id {ac ad bc bd : Int} (ha : rightB ac ad = true) (hb : rightB bc bd = true) : lessB ac ad bc bd = decide (16 * ac + ad < 16 * bc + bd) := by
  obtain ⟨h1, h2, h3, h4⟩ := rightB_bd ha
  obtain ⟨k1, k2, k3, k4⟩ := rightB_bd hb
  unfold lessB
  rw [Bool.eq_iff_iff]
  simp
  omega

/-- The second half of ClockIds, as facts on Of of the number. -/
def Nums (i sc sd : Int) (z : Bool) : Prop := ifC (i.tdiv 16) (i.tmod 16) = sc ∧ ifD (i.tdiv 16) (i.tmod 16) = sd ∧ rightB (i.tdiv 16) (i.tmod 16) = z
theorem nums_yes {i : Int} (h : rightB (i.tdiv 16) (i.tmod 16) = true) : Nums i (i.tdiv 16) (i.tmod 16) true := ⟨ifC_yes h, ifD_yes h, h⟩
theorem nums_no {i : Int} (h : rightB (i.tdiv 16) (i.tmod 16) = false) : Nums i 0 0 false := ⟨ifC_no h, ifD_no h, h⟩

set_option maxHeartbeats 1000000 in
theorem ids_no_y (w : World) (ac ad : Int) (_ : Fits ac) (_ : Fits ad) (bc bd : Int) (_ : Fits bc) (_ : Fits bd) (i : Int) (hi : Fits i) (ha : rightB ac ad = false) (sc sd : Int) (hn : Nums i sc sd true) (hr : rightB sc sd = true) (hid : idZ sc sd = i) : Calls Try.prog 6 #[.agg #[.int .i64 ac, .int .i64 ad], .agg #[.int .i64 bc, .int .i64 bd], .int .i64 i] w (Ret (.bool true) w) := by
  have heql := eql_st
  have hneq := neq_st
  have HA := Lib.hid ha
  have HA0 := Lib.hid (idZ_no ha)
  have Hi := Lib.hid hi
  clear ha hi
  have HN : Hid (Nums i sc sd true) := Lib.hid hn
  have HR : Hid (rightB sc sd = true) := Lib.hid hr
  have HI : Hid (idZ sc sd = i) := Lib.hid hid
  clear hn hr hid
  go_enter Try.func6, Try.ntmps6
  go_wp2_with fail
  refine (right_is HA.out _).mono ?_
  rintro e w1 ⟨rfl, hb1⟩
  obtain ⟨a0, a1, a2⟩ := ((Two.new w _ rfl ac ad 23).alloc _).below hb1
  go_wp2_with fail
  refine (id_is HA0.out _).mono ?_
  rintro e w2 ⟨rfl, hb2⟩
  have z1 := hb1.size
  try simp at z1
  have z2 := hb2.size
  go_wp2_with fail
  refine (of_is Hi.out HN.out.1 HN.out.2.1 HN.out.2.2 _).mono ?_
  rintro e u1 ⟨rfl, hu1⟩
  have TS := Two.new u1 _ rfl sc sd 23
  obtain ⟨s0, s1, s2⟩ := TS
  go_wp2_with fail
  refine (right_is HR.out _).mono ?_
  rintro e u2 ⟨rfl, hu2⟩
  obtain ⟨s0, s1, s2⟩ := (show Two _ _ _ _ from ⟨s0, s1, s2⟩).below hu2
  go_wp2_with fail
  refine (id_is HI.out _).mono ?_
  rintro e u3 ⟨rfl, hu3⟩
  go_wp2_with fail
  refine (awake_any _).mono ?_
  rintro e u4 ⟨rfl, hu4⟩
  have zu1 := hu1.size
  try simp at zu1
  go_wp2
  go_ret
  exact Ret.mk rfl (by repeat (first | assumption | exact Below.refl _ _ | refine Below.alloc ?_ (by first | omega | (simp; done) | (simp; omega)) _ | refine Below.setCell ?_ (by first | omega | (simp; done) | (simp; omega)) _ | refine Below.drew ?_ | refine Below.drewN_ ?_ _ | refine Below.step ?_ (by assumption)))

set_option maxHeartbeats 1000000 in
theorem ids_yes_y_y (w : World) (ac ad : Int) (_ : Fits ac) (_ : Fits ad) (bc bd : Int) (_ : Fits bc) (_ : Fits bd) (i : Int) (hi : Fits i) (ha : rightB ac ad = true) (hb : rightB bc bd = true) (sc sd : Int) (hn : Nums i sc sd true) (hr : rightB sc sd = true) (hid : idZ sc sd = i) : Calls Try.prog 6 #[.agg #[.int .i64 ac, .int .i64 ad], .agg #[.int .i64 bc, .int .i64 bd], .int .i64 i] w (Ret (.bool true) w) := by
  have heql := eql_st
  have hneq := neq_st
  have HA := Lib.hid ha
  have HB := Lib.hid hb
  have HL := Lib.hid (less_id ha hb)
  generalize hk : decide (16 * ac + ad < 16 * bc + bd) = k at HL
  have HN0 : Hid (Nums (16 * ac + ad) ac ad true) := Lib.hid (by
    have h := nums_yes (i := 16 * ac + ad) (by rw [(id_div ha).1, (id_div ha).2]; exact ha)
    rw [(id_div ha).1, (id_div ha).2] at h
    exact h)
  have HF : Hid (Fits (16 * ac + ad)) := Lib.hid (by obtain ⟨h1, h2, h3, h4⟩ := rightB_bd ha; exact ⟨by omega, by omega⟩)
  have Hi := Lib.hid hi
  clear ha hb hi
  have HN : Hid (Nums i sc sd true) := Lib.hid hn
  have HR : Hid (rightB sc sd = true) := Lib.hid hr
  have HI : Hid (idZ sc sd = i) := Lib.hid hid
  clear hn hr hid
  go_enter Try.func6, Try.ntmps6
  go_wp2_with fail
  refine (right_is HA.out _).mono ?_
  rintro e w1 ⟨rfl, hb1⟩
  have TB := (Two.new (w.alloc _) (w.heap.size + 1) (by simp) bc bd 23).below hb1
  obtain ⟨a0, a1, a2⟩ := ((Two.new w _ rfl ac ad 23).alloc _).below hb1
  go_wp2_with fail
  refine (id_is (idZ_yes HA.out) _).mono ?_
  rintro e w2 ⟨rfl, hb2⟩
  have TA := (show Two _ _ _ _ from ⟨a0, a1, a2⟩).below hb2
  have TB := TB.below hb2
  clear a0 a1 a2
  go_wp2_with fail
  refine (of_is HF.out HN0.out.1 HN0.out.2.1 HN0.out.2.2 _).mono ?_
  rintro e w3 ⟨rfl, hb3⟩
  have hza := (TA.below hb3).1
  have TA := (TA.below hb3).alloc (.cells #[.int .i64 ac, .int .i64 ad] 23)
  have TB := (TB.below hb3).alloc (.cells #[.int .i64 ac, .int .i64 ad] 23)
  have TS := Two.new w3 _ rfl ac ad 23
  obtain ⟨pa0, pa1⟩ := TA.past
  obtain ⟨pb0, pb1⟩ := TB.past
  obtain ⟨ps0, ps1⟩ := TS.past
  go_wp2_with fail
  refine region_past (by kernel_rfl) (by kernel_rfl) ?_
  repeat (go_big_quiet_step (first | with_reducible exact Calls.past (right_is HB.out _) | with_reducible exact Calls.past (less_is HL.out _) | with_reducible exact Calls.past (id_is (idZ_yes HA.out) _) | with_reducible exact Calls.past (id_is (idZ_yes HB.out) _)))
  refine wpQuiet_nil ?_
  rintro w4 ⟨⟨_, hb4⟩, rfl⟩
  have z4 := hb4.size
  try simp at z4
  go_wp2_with fail
  refine (of_is Hi.out HN.out.1 HN.out.2.1 HN.out.2.2 _).mono ?_
  rintro e u1 ⟨rfl, hu1⟩
  have TS := Two.new u1 _ rfl sc sd 23
  obtain ⟨s0, s1, s2⟩ := TS
  go_wp2_with fail
  refine (right_is HR.out _).mono ?_
  rintro e u2 ⟨rfl, hu2⟩
  obtain ⟨s0, s1, s2⟩ := (show Two _ _ _ _ from ⟨s0, s1, s2⟩).below hu2
  go_wp2_with fail
  refine (id_is HI.out _).mono ?_
  rintro e u3 ⟨rfl, hu3⟩
  go_wp2_with fail
  refine (awake_any _).mono ?_
  rintro e u4 ⟨rfl, hu4⟩
  have zu1 := hu1.size
  try simp at zu1
  go_wp2
  go_ret
  exact Ret.mk rfl (by repeat (first | assumption | exact Below.refl _ _ | refine Below.alloc ?_ (by first | omega | (simp; done) | (simp; omega)) _ | refine Below.setCell ?_ (by first | omega | (simp; done) | (simp; omega)) _ | refine Below.drew ?_ | refine Below.drewN_ ?_ _ | refine Below.step ?_ (by assumption)))

set_option maxHeartbeats 1000000 in
theorem ids_yes_y_n (w : World) (ac ad : Int) (_ : Fits ac) (_ : Fits ad) (bc bd : Int) (_ : Fits bc) (_ : Fits bd) (i : Int) (hi : Fits i) (ha : rightB ac ad = true) (hb : rightB bc bd = false) (sc sd : Int) (hn : Nums i sc sd true) (hr : rightB sc sd = true) (hid : idZ sc sd = i) : Calls Try.prog 6 #[.agg #[.int .i64 ac, .int .i64 ad], .agg #[.int .i64 bc, .int .i64 bd], .int .i64 i] w (Ret (.bool true) w) := by
  have heql := eql_st
  have hneq := neq_st
  have HA := Lib.hid ha
  have HB := Lib.hid hb
  have HN0 : Hid (Nums (16 * ac + ad) ac ad true) := Lib.hid (by
    have h := nums_yes (i := 16 * ac + ad) (by rw [(id_div ha).1, (id_div ha).2]; exact ha)
    rw [(id_div ha).1, (id_div ha).2] at h
    exact h)
  have HF : Hid (Fits (16 * ac + ad)) := Lib.hid (by obtain ⟨h1, h2, h3, h4⟩ := rightB_bd ha; exact ⟨by omega, by omega⟩)
  have Hi := Lib.hid hi
  clear ha hb hi
  have HN : Hid (Nums i sc sd true) := Lib.hid hn
  have HR : Hid (rightB sc sd = true) := Lib.hid hr
  have HI : Hid (idZ sc sd = i) := Lib.hid hid
  clear hn hr hid
  go_enter Try.func6, Try.ntmps6
  go_wp2_with fail
  refine (right_is HA.out _).mono ?_
  rintro e w1 ⟨rfl, hb1⟩
  have TB := (Two.new (w.alloc _) (w.heap.size + 1) (by simp) bc bd 23).below hb1
  obtain ⟨a0, a1, a2⟩ := ((Two.new w _ rfl ac ad 23).alloc _).below hb1
  go_wp2_with fail
  refine (id_is (idZ_yes HA.out) _).mono ?_
  rintro e w2 ⟨rfl, hb2⟩
  have TA := (show Two _ _ _ _ from ⟨a0, a1, a2⟩).below hb2
  have TB := TB.below hb2
  clear a0 a1 a2
  go_wp2_with fail
  refine (of_is HF.out HN0.out.1 HN0.out.2.1 HN0.out.2.2 _).mono ?_
  rintro e w3 ⟨rfl, hb3⟩
  have hza := (TA.below hb3).1
  have TA := (TA.below hb3).alloc (.cells #[.int .i64 ac, .int .i64 ad] 23)
  have TB := (TB.below hb3).alloc (.cells #[.int .i64 ac, .int .i64 ad] 23)
  have TS := Two.new w3 _ rfl ac ad 23
  obtain ⟨pa0, pa1⟩ := TA.past
  obtain ⟨pb0, pb1⟩ := TB.past
  obtain ⟨ps0, ps1⟩ := TS.past
  go_wp2_with fail
  refine region_past (by kernel_rfl) (by kernel_rfl) ?_
  repeat (go_big_quiet_step (first | with_reducible exact Calls.past (right_is HB.out _)))
  refine wpQuiet_nil ?_
  rintro w4 ⟨⟨_, hb4⟩, rfl⟩
  have z4 := hb4.size
  try simp at z4
  go_wp2_with fail
  refine (of_is Hi.out HN.out.1 HN.out.2.1 HN.out.2.2 _).mono ?_
  rintro e u1 ⟨rfl, hu1⟩
  have TS := Two.new u1 _ rfl sc sd 23
  obtain ⟨s0, s1, s2⟩ := TS
  go_wp2_with fail
  refine (right_is HR.out _).mono ?_
  rintro e u2 ⟨rfl, hu2⟩
  obtain ⟨s0, s1, s2⟩ := (show Two _ _ _ _ from ⟨s0, s1, s2⟩).below hu2
  go_wp2_with fail
  refine (id_is HI.out _).mono ?_
  rintro e u3 ⟨rfl, hu3⟩
  go_wp2_with fail
  refine (awake_any _).mono ?_
  rintro e u4 ⟨rfl, hu4⟩
  have zu1 := hu1.size
  try simp at zu1
  go_wp2
  go_ret
  exact Ret.mk rfl (by repeat (first | assumption | exact Below.refl _ _ | refine Below.alloc ?_ (by first | omega | (simp; done) | (simp; omega)) _ | refine Below.setCell ?_ (by first | omega | (simp; done) | (simp; omega)) _ | refine Below.drew ?_ | refine Below.drewN_ ?_ _ | refine Below.step ?_ (by assumption)))

set_option maxHeartbeats 1000000 in
theorem ids_no_n (w : World) (ac ad : Int) (_ : Fits ac) (_ : Fits ad) (bc bd : Int) (_ : Fits bc) (_ : Fits bd) (i : Int) (hi : Fits i) (ha : rightB ac ad = false) (hn : Nums i 0 0 false) : Calls Try.prog 6 #[.agg #[.int .i64 ac, .int .i64 ad], .agg #[.int .i64 bc, .int .i64 bd], .int .i64 i] w (Ret (.bool true) w) := by
  have heql := eql_st
  have hneq := neq_st
  have HA := Lib.hid ha
  have HA0 := Lib.hid (idZ_no ha)
  have Hi := Lib.hid hi
  clear ha hi
  have HN : Hid (Nums i 0 0 false) := Lib.hid hn
  clear hn
  go_enter Try.func6, Try.ntmps6
  go_wp2_with fail
  refine (right_is HA.out _).mono ?_
  rintro e w1 ⟨rfl, hb1⟩
  obtain ⟨a0, a1, a2⟩ := ((Two.new w _ rfl ac ad 23).alloc _).below hb1
  go_wp2_with fail
  refine (id_is HA0.out _).mono ?_
  rintro e w2 ⟨rfl, hb2⟩
  have z1 := hb1.size
  try simp at z1
  have z2 := hb2.size
  go_wp2_with fail
  refine (of_is Hi.out HN.out.1 HN.out.2.1 HN.out.2.2 _).mono ?_
  rintro e u1 ⟨rfl, hu1⟩
  have TS := Two.new u1 _ rfl 0 0 23
  obtain ⟨s0, s1, s2⟩ := TS
  go_wp2_with fail
  refine (awake_any _).mono ?_
  rintro e u4 ⟨rfl, hu4⟩
  have zu1 := hu1.size
  try simp at zu1
  go_wp2
  go_ret
  exact Ret.mk rfl (by repeat (first | assumption | exact Below.refl _ _ | refine Below.alloc ?_ (by first | omega | (simp; done) | (simp; omega)) _ | refine Below.setCell ?_ (by first | omega | (simp; done) | (simp; omega)) _ | refine Below.drew ?_ | refine Below.drewN_ ?_ _ | refine Below.step ?_ (by assumption)))

set_option maxHeartbeats 1000000 in
theorem ids_yes_n_y (w : World) (ac ad : Int) (_ : Fits ac) (_ : Fits ad) (bc bd : Int) (_ : Fits bc) (_ : Fits bd) (i : Int) (hi : Fits i) (ha : rightB ac ad = true) (hb : rightB bc bd = true) (hn : Nums i 0 0 false) : Calls Try.prog 6 #[.agg #[.int .i64 ac, .int .i64 ad], .agg #[.int .i64 bc, .int .i64 bd], .int .i64 i] w (Ret (.bool true) w) := by
  have heql := eql_st
  have hneq := neq_st
  have HA := Lib.hid ha
  have HB := Lib.hid hb
  have HL := Lib.hid (less_id ha hb)
  generalize hk : decide (16 * ac + ad < 16 * bc + bd) = k at HL
  have HN0 : Hid (Nums (16 * ac + ad) ac ad true) := Lib.hid (by
    have h := nums_yes (i := 16 * ac + ad) (by rw [(id_div ha).1, (id_div ha).2]; exact ha)
    rw [(id_div ha).1, (id_div ha).2] at h
    exact h)
  have HF : Hid (Fits (16 * ac + ad)) := Lib.hid (by obtain ⟨h1, h2, h3, h4⟩ := rightB_bd ha; exact ⟨by omega, by omega⟩)
  have Hi := Lib.hid hi
  clear ha hb hi
  have HN : Hid (Nums i 0 0 false) := Lib.hid hn
  clear hn
  go_enter Try.func6, Try.ntmps6
  go_wp2_with fail
  refine (right_is HA.out _).mono ?_
  rintro e w1 ⟨rfl, hb1⟩
  have TB := (Two.new (w.alloc _) (w.heap.size + 1) (by simp) bc bd 23).below hb1
  obtain ⟨a0, a1, a2⟩ := ((Two.new w _ rfl ac ad 23).alloc _).below hb1
  go_wp2_with fail
  refine (id_is (idZ_yes HA.out) _).mono ?_
  rintro e w2 ⟨rfl, hb2⟩
  have TA := (show Two _ _ _ _ from ⟨a0, a1, a2⟩).below hb2
  have TB := TB.below hb2
  clear a0 a1 a2
  go_wp2_with fail
  refine (of_is HF.out HN0.out.1 HN0.out.2.1 HN0.out.2.2 _).mono ?_
  rintro e w3 ⟨rfl, hb3⟩
  have hza := (TA.below hb3).1
  have TA := (TA.below hb3).alloc (.cells #[.int .i64 ac, .int .i64 ad] 23)
  have TB := (TB.below hb3).alloc (.cells #[.int .i64 ac, .int .i64 ad] 23)
  have TS := Two.new w3 _ rfl ac ad 23
  obtain ⟨pa0, pa1⟩ := TA.past
  obtain ⟨pb0, pb1⟩ := TB.past
  obtain ⟨ps0, ps1⟩ := TS.past
  go_wp2_with fail
  refine region_past (by kernel_rfl) (by kernel_rfl) ?_
  repeat (go_big_quiet_step (first | with_reducible exact Calls.past (right_is HB.out _) | with_reducible exact Calls.past (less_is HL.out _) | with_reducible exact Calls.past (id_is (idZ_yes HA.out) _) | with_reducible exact Calls.past (id_is (idZ_yes HB.out) _)))
  refine wpQuiet_nil ?_
  rintro w4 ⟨⟨_, hb4⟩, rfl⟩
  have z4 := hb4.size
  try simp at z4
  go_wp2_with fail
  refine (of_is Hi.out HN.out.1 HN.out.2.1 HN.out.2.2 _).mono ?_
  rintro e u1 ⟨rfl, hu1⟩
  have TS := Two.new u1 _ rfl 0 0 23
  obtain ⟨s0, s1, s2⟩ := TS
  go_wp2_with fail
  refine (awake_any _).mono ?_
  rintro e u4 ⟨rfl, hu4⟩
  have zu1 := hu1.size
  try simp at zu1
  go_wp2
  go_ret
  exact Ret.mk rfl (by repeat (first | assumption | exact Below.refl _ _ | refine Below.alloc ?_ (by first | omega | (simp; done) | (simp; omega)) _ | refine Below.setCell ?_ (by first | omega | (simp; done) | (simp; omega)) _ | refine Below.drew ?_ | refine Below.drewN_ ?_ _ | refine Below.step ?_ (by assumption)))

set_option maxHeartbeats 1000000 in
theorem ids_yes_n_n (w : World) (ac ad : Int) (_ : Fits ac) (_ : Fits ad) (bc bd : Int) (_ : Fits bc) (_ : Fits bd) (i : Int) (hi : Fits i) (ha : rightB ac ad = true) (hb : rightB bc bd = false) (hn : Nums i 0 0 false) : Calls Try.prog 6 #[.agg #[.int .i64 ac, .int .i64 ad], .agg #[.int .i64 bc, .int .i64 bd], .int .i64 i] w (Ret (.bool true) w) := by
  have heql := eql_st
  have hneq := neq_st
  have HA := Lib.hid ha
  have HB := Lib.hid hb
  have HN0 : Hid (Nums (16 * ac + ad) ac ad true) := Lib.hid (by
    have h := nums_yes (i := 16 * ac + ad) (by rw [(id_div ha).1, (id_div ha).2]; exact ha)
    rw [(id_div ha).1, (id_div ha).2] at h
    exact h)
  have HF : Hid (Fits (16 * ac + ad)) := Lib.hid (by obtain ⟨h1, h2, h3, h4⟩ := rightB_bd ha; exact ⟨by omega, by omega⟩)
  have Hi := Lib.hid hi
  clear ha hb hi
  have HN : Hid (Nums i 0 0 false) := Lib.hid hn
  clear hn
  go_enter Try.func6, Try.ntmps6
  go_wp2_with fail
  refine (right_is HA.out _).mono ?_
  rintro e w1 ⟨rfl, hb1⟩
  have TB := (Two.new (w.alloc _) (w.heap.size + 1) (by simp) bc bd 23).below hb1
  obtain ⟨a0, a1, a2⟩ := ((Two.new w _ rfl ac ad 23).alloc _).below hb1
  go_wp2_with fail
  refine (id_is (idZ_yes HA.out) _).mono ?_
  rintro e w2 ⟨rfl, hb2⟩
  have TA := (show Two _ _ _ _ from ⟨a0, a1, a2⟩).below hb2
  have TB := TB.below hb2
  clear a0 a1 a2
  go_wp2_with fail
  refine (of_is HF.out HN0.out.1 HN0.out.2.1 HN0.out.2.2 _).mono ?_
  rintro e w3 ⟨rfl, hb3⟩
  have hza := (TA.below hb3).1
  have TA := (TA.below hb3).alloc (.cells #[.int .i64 ac, .int .i64 ad] 23)
  have TB := (TB.below hb3).alloc (.cells #[.int .i64 ac, .int .i64 ad] 23)
  have TS := Two.new w3 _ rfl ac ad 23
  obtain ⟨pa0, pa1⟩ := TA.past
  obtain ⟨pb0, pb1⟩ := TB.past
  obtain ⟨ps0, ps1⟩ := TS.past
  go_wp2_with fail
  refine region_past (by kernel_rfl) (by kernel_rfl) ?_
  repeat (go_big_quiet_step (first | with_reducible exact Calls.past (right_is HB.out _)))
  refine wpQuiet_nil ?_
  rintro w4 ⟨⟨_, hb4⟩, rfl⟩
  have z4 := hb4.size
  try simp at z4
  go_wp2_with fail
  refine (of_is Hi.out HN.out.1 HN.out.2.1 HN.out.2.2 _).mono ?_
  rintro e u1 ⟨rfl, hu1⟩
  have TS := Two.new u1 _ rfl 0 0 23
  obtain ⟨s0, s1, s2⟩ := TS
  go_wp2_with fail
  refine (awake_any _).mono ?_
  rintro e u4 ⟨rfl, hu4⟩
  have zu1 := hu1.size
  try simp at zu1
  go_wp2
  go_ret
  exact Ret.mk rfl (by repeat (first | assumption | exact Below.refl _ _ | refine Below.alloc ?_ (by first | omega | (simp; done) | (simp; omega)) _ | refine Below.setCell ?_ (by first | omega | (simp; done) | (simp; omega)) _ | refine Below.drew ?_ | refine Below.drewN_ ?_ _ | refine Below.step ?_ (by assumption)))

theorem ids_walk (w : World) (ac ad : Int) (_ : Fits ac) (_ : Fits ad) (bc bd : Int) (_ : Fits bc) (_ : Fits bd) (i : Int) (hi : Fits i) : Calls Try.prog 6 #[.agg #[.int .i64 ac, .int .i64 ad], .agg #[.int .i64 bc, .int .i64 bd], .int .i64 i] w (Ret (.bool true) w) := by
  rcases Bool.eq_false_or_eq_true (rightB (i.tdiv 16) (i.tmod 16)) with hz | hz
  · have hid : idZ (i.tdiv 16) (i.tmod 16) = i := by rw [idZ_yes hz]; exact of_id i
    rcases Bool.eq_false_or_eq_true (rightB ac ad) with ha | ha
    · rcases Bool.eq_false_or_eq_true (rightB bc bd) with hb | hb
      · exact ids_yes_y_y w ac ad ‹_› ‹_› bc bd ‹_› ‹_› i hi ha hb _ _ (nums_yes hz) hz hid
      · exact ids_yes_y_n w ac ad ‹_› ‹_› bc bd ‹_› ‹_› i hi ha hb _ _ (nums_yes hz) hz hid
    · exact ids_no_y w ac ad ‹_› ‹_› bc bd ‹_› ‹_› i hi ha _ _ (nums_yes hz) hz hid
  · rcases Bool.eq_false_or_eq_true (rightB ac ad) with ha | ha
    · rcases Bool.eq_false_or_eq_true (rightB bc bd) with hb | hb
      · exact ids_yes_n_y w ac ad ‹_› ‹_› bc bd ‹_› ‹_› i hi ha hb (nums_no hz)
      · exact ids_yes_n_n w ac ad ‹_› ‹_› bc bd ‹_› ‹_› i hi ha hb (nums_no hz)
    · exact ids_no_n w ac ad ‹_› ‹_› bc bd ‹_› ‹_› i hi ha (nums_no hz)
end Go.Proofs.Ytpannehdgmcmkaa
