/- The law ClockSees: its walk. -/
import Derived.Test.YtpannehdgmcmkaaClockL5
namespace Go.Proofs.Ytpannehdgmcmkaa
open Go.RowKit

theorem rright_is {c d : Int} {x : Bool} (h : rightB c d = x) (w : World) : Calls Try.prog 14 #[.agg #[.int .i64 c, .int .i64 d]] w (Ret (.bool x) w) := h ▸ rright_any c d w
/-- Which call of the region comes next. -/
structure Stage (n : Nat) : Prop where
  ok : True
/-- What See adds. -/
def moreB (sc sd tc td : Int) : Bool := rightB sc sd && rightB tc td && (sd == td && decide (tc ≤ sc))
theorem sees_eq (v : List Int) (sc sd tc td : Int) : coversB (seeL v sc sd) tc td = (coversB v tc td || moreB sc sd tc td) := by
  unfold coversB moreB
  rcases Bool.eq_false_or_eq_true (rightB tc td) with ht | ht
  · obtain ⟨h1, h2, h3, h4⟩ := rightB_bd ht
    obtain ⟨k, rfl⟩ : ∃ k : Nat, td = (k : Int) + 1 := ⟨(td - 1).toNat, by omega⟩
    rcases Bool.eq_false_or_eq_true (rightB sc sd) with hs | hs
    · rw [numZ_see v hs k (by omega), ht, hs, Bool.eq_iff_iff]
      simp
      by_cases e : (k : Int) + 1 = sd
      · rw [if_pos e]; subst e; simp; omega
      · rw [if_neg e]; omega
    · rw [seeL, if_neg (by rw [hs]; decide), numZ_join v [] k (by omega), numZ_nil, ht, hs]
      have := numZ_nonneg v (k + 1)
      rw [Bool.eq_iff_iff]
      simp
      omega
  · rw [ht]
    simp
theorem sees_leq (v : List Int) (sc sd : Int) : leqTo v (seeL v sc sd) 15 = true := (leqTo_iff _ _ _).2 fun k hk => by
  rcases Bool.eq_false_or_eq_true (rightB sc sd) with hs | hs
  · rw [numZ_see v hs k hk]
    by_cases e : (k : Int) + 1 = sd
    · rw [if_pos e]; subst e; omega
    · rw [if_neg e]; omega
  · rw [seeL, if_neg (by rw [hs]; decide), numZ_join v [] k hk]
    omega

set_option maxHeartbeats 6000000 in
theorem sees_a_true (w : World) (v : List Int) (A : Option Addr) (cap : Nat) (hv : Ints w A v) (sc sd tc td : Int) (hfew : decide (v.length ≤ 100) = true) (hs : rightB sc sd = false) (hx : coversB v tc td = true) : Calls Try.prog 10 #[.slice A v.length cap, .agg #[.int .i64 sc, .int .i64 sd], .agg #[.int .i64 tc, .int .i64 td]] w (Ret (.bool true) w) := by
  have HF := Lib.hid hfew
  have HY : Hid (coversB (seeL v sc sd) tc td = true) := Lib.hid (by rw [sees_eq, hx]; simp [moreB, hs])
  have HX := Lib.hid hx
  have HQ := Lib.hid (sees_leq v sc sd)
  have HL := Lib.hid (seeL_len v sc sd)
  have HS := Lib.hid hs
  clear hfew hx hs
  have hv0 := (hv.alloc (.cells #[.int .i64 sc, .int .i64 sd] 23)).alloc (.cells #[.int .i64 tc, .int .i64 td] 23)
  go_enter Try.func10, Try.ntmps10
  go_wp2_with fail
  refine (few_is HF.out A cap _).mono ?_
  rintro e w1 ⟨rfl, hb1⟩
  have TS := ((Two.new w _ rfl sc sd 23).alloc _).below hb1
  have TT := (Two.new (w.alloc _) (w.heap.size + 1) (by simp) tc td 23).below hb1
  have hv1 := hv0.below hb1
  have H1 : Below w.heap.size w w1 := (by repeat (first | assumption | exact Below.refl _ _ | refine Below.alloc ?_ (by first | omega | (simp; done) | (simp; omega)) _ | refine Below.setCell ?_ (by first | omega | (simp; done) | (simp; omega)) _ | refine Below.drew ?_ | refine Below.drewN_ ?_ _ | refine Below.step ?_ (by assumption)))
  obtain ⟨s0, s1, s2⟩ := TS
  obtain ⟨t0, t1, t2⟩ := TT
  go_wp2_with fail
  refine (rright_is HS.out _).mono ?_
  rintro e w2 ⟨rfl, hb2⟩
  have TS := (show Two _ _ _ _ from ⟨s0, s1, s2⟩).below hb2
  have TT := (show Two _ _ _ _ from ⟨t0, t1, t2⟩).below hb2
  have hv2 := hv1.below hb2
  have H2 := Below.step H1 hb2
  clear s0 s1 s2 t0 t1 t2
  obtain ⟨s0, s1, s2⟩ := TS
  obtain ⟨t0, t1, t2⟩ := TT
  have p0 := s0
  have p1 := s1
  have p2 := s2
  have p9 := t0
  have p3 := t1
  have p4 := t2
  have st : Stage 1 := ⟨trivial⟩
  have HV := Lib.hid hv2
  have HW := Lib.hid H2
  clear s0 s1 s2 t0 t1 t2 hv0 hv1 hv2
  go_wp2_with fail
  refine wp_region_held_drew (S := (fun w' => w'.cell? ⟨w.heap.size, 0, none⟩ = some (.int .i64 sc) ∧ w'.cell? ⟨w.heap.size, 1, none⟩ = some (.int .i64 sd) ∧ w'.cell? ⟨w.heap.size + 1, 0, none⟩ = some (.int .i64 tc) ∧ w'.cell? ⟨w.heap.size + 1, 1, none⟩ = some (.int .i64 td))) (by kernel_rfl) ⟨‹_›, ‹_›, ‹_›, ‹_›⟩ (fun hHeld => ?_)
  refine wpAnyH_take (i := 0) (oi := _) (v := ?_) rfl (by kernel_rfl) (by kernel_rfl) (by kernel_rfl) (fun _ _ _ h => h) (Or.inl ⟨by rfl, ?_⟩) (by assumption) ?_
  rotate_left
  · (intro w hSw; (try dsimp only at hSw); go_simp)
    try with_reducible rfl
  set_option linter.unusedSimpArgs false in (try simp only [List.getElem_toArray, List.getElem_cons_succ, List.getElem_cons_zero, Act.put, List.setIfInBounds_toArray, List.set_cons_zero, List.set_cons_succ])
  refine wpAnyH_take (i := 1) (oi := _) (v := ?_) rfl (by kernel_rfl) (by kernel_rfl) (by kernel_rfl) (fun _ _ _ h => h) (Or.inl ⟨by rfl, ?_⟩) (by assumption) ?_
  rotate_left
  · (intro w hSw; (try dsimp only at hSw); go_simp)
    try with_reducible rfl
  set_option linter.unusedSimpArgs false in (try simp only [List.getElem_toArray, List.getElem_cons_succ, List.getElem_cons_zero, Act.put, List.setIfInBounds_toArray, List.set_cons_zero, List.set_cons_succ])
  refine wpAnyH_take (i := 3) (oi := _) (v := ?_) rfl (by kernel_rfl) (by kernel_rfl) (by kernel_rfl) (fun _ _ _ h => h) (Or.inl ⟨by rfl, ?_⟩) (by assumption) ?_
  rotate_left
  · (intro w hSw; (try dsimp only at hSw); go_simp)
    try with_reducible rfl
  set_option linter.unusedSimpArgs false in (try simp only [List.getElem_toArray, List.getElem_cons_succ, List.getElem_cons_zero, Act.put, List.setIfInBounds_toArray, List.set_cons_zero, List.set_cons_succ])
  refine wpAnyH_take (i := 5) (oi := _) (v := ?_) rfl (by kernel_rfl) (by kernel_rfl) (by kernel_rfl) (fun _ _ _ h => h) (Or.inl ⟨by rfl, ?_⟩) (by assumption) ?_
  rotate_left
  · (intro w hSw; (try dsimp only at hSw); go_simp)
    try with_reducible rfl
  set_option linter.unusedSimpArgs false in (try simp only [List.getElem_toArray, List.getElem_cons_succ, List.getElem_cons_zero, Act.put, List.setIfInBounds_toArray, List.set_cons_zero, List.set_cons_succ])
  refine wpAnyH_take (i := 6) (oi := _) (v := ?_) rfl (by kernel_rfl) (by kernel_rfl) (by kernel_rfl) (fun _ _ _ h => h) (Or.inl ⟨by rfl, ?_⟩) (by assumption) ?_
  rotate_left
  · (intro w hSw; (try dsimp only at hSw); go_simp)
    try with_reducible rfl
  set_option linter.unusedSimpArgs false in (try simp only [List.getElem_toArray, List.getElem_cons_succ, List.getElem_cons_zero, Act.put, List.setIfInBounds_toArray, List.set_cons_zero, List.set_cons_succ])
  refine wpAnyH_ready (rs := [2]) (by kernel_rfl) (by simp) ?_
  refine AllReadyH.cons (o := _) rfl (fun K hK => ?_) AllReadyH.nil
  simp only [List.getElem_toArray, List.getElem_cons_succ, List.getElem_cons_zero]
  go_simp
  (go_at_call 28; have _q : Stage 1 := st; clear st _q; refine (see_any v A cap sc sd _ (by exact Ints.drew HV.out)).mono ?_; rintro e x1 ⟨g, k1, rfl, hg, hown, y1⟩; have q1 := ((bcell y1).1 _ _ (by exact p0)).trans p1; have q2 := ((bcell y1).1 _ _ (by exact p0)).trans p2; have q3 := ((bcell y1).1 _ _ (by exact p9)).trans p3; have q4 := ((bcell y1).1 _ _ (by exact p9)).trans p4; have q0 := Nat.lt_of_lt_of_le p0 y1.size; have q9 := Nat.lt_of_lt_of_le p9 y1.size; have HO := Lib.hid hown; clear hown; have V1 := Lib.hid (Ints.below (Ints.drew HV.out) y1); have st : Stage 2 := ⟨trivial⟩)
  go_wp2_with fail
  refine hK.out _ _ ⟨‹_›, ‹_›, ‹_›, ‹_›⟩ (fun hHeld => ?_)
  clear hK K
  set_option linter.unusedSimpArgs false in (try simp only [List.getElem_toArray, List.getElem_cons_succ, List.getElem_cons_zero, Act.put, List.setIfInBounds_toArray, List.set_cons_zero, List.set_cons_succ])
  refine wpAnyH_ready (rs := [4]) (by kernel_rfl) (by simp) ?_
  refine AllReadyH.cons (o := _) rfl (fun K hK => ?_) AllReadyH.nil
  simp only [List.getElem_toArray, List.getElem_cons_succ, List.getElem_cons_zero]
  go_simp
  (go_at_call 21; have _q : Stage 2 := st; clear st _q; refine (covers_row HY.out HL.out k1 (Ints.of_row HL.out HO.out)).mono ?_; rintro e x2 ⟨rfl, y2⟩; have r1 := ((bcell y2).1 _ _ (by exact q0)).trans q1; have r2 := ((bcell y2).1 _ _ (by exact q0)).trans q2; have r3 := ((bcell y2).1 _ _ (by exact q9)).trans q3; have r4 := ((bcell y2).1 _ _ (by exact q9)).trans q4; have r0 := Nat.lt_of_lt_of_le q0 y2.size; have r9 := Nat.lt_of_lt_of_le q9 y2.size; have V2 := Lib.hid (V1.out.below y2); have st : Stage 3 := ⟨trivial⟩)
  go_wp2_with fail
  refine hK.out _ _ ⟨‹_›, ‹_›, ‹_›, ‹_›⟩ (fun hHeld => ?_)
  clear hK K
  set_option linter.unusedSimpArgs false in (try simp only [List.getElem_toArray, List.getElem_cons_succ, List.getElem_cons_zero, Act.put, List.setIfInBounds_toArray, List.set_cons_zero, List.set_cons_succ])
  refine wpAnyH_ready (rs := [7]) (by kernel_rfl) (by simp) ?_
  refine AllReadyH.cons (o := _) rfl (fun K hK => ?_) AllReadyH.nil
  simp only [List.getElem_toArray, List.getElem_cons_succ, List.getElem_cons_zero]
  go_simp
  (go_at_call 21; have _q : Stage 3 := st; clear st _q; refine (covers_is HX.out cap V2.out).mono ?_; rintro e x3 ⟨rfl, y3⟩; have s1 := ((bcell y3).1 _ _ (by exact r0)).trans r1; have s2 := ((bcell y3).1 _ _ (by exact r0)).trans r2; have s3 := ((bcell y3).1 _ _ (by exact r9)).trans r3; have s4 := ((bcell y3).1 _ _ (by exact r9)).trans r4; have s0 := Nat.lt_of_lt_of_le r0 y3.size; have s9 := Nat.lt_of_lt_of_le r9 y3.size; have V3 := Lib.hid (V2.out.below y3); have st : Stage 4 := ⟨trivial⟩)
  go_wp2_with fail
  refine hK.out _ _ ⟨‹_›, ‹_›, ‹_›, ‹_›⟩ (fun hHeld => ?_)
  clear hK K
  set_option linter.unusedSimpArgs false in (try simp only [List.getElem_toArray, List.getElem_cons_succ, List.getElem_cons_zero, Act.put, List.setIfInBounds_toArray, List.set_cons_zero, List.set_cons_succ])
  refine wpAnyH_take (i := 8) (oi := _) (v := ?_) rfl (by kernel_rfl) (by kernel_rfl) (by kernel_rfl) (fun _ _ _ h => h) (Or.inl ⟨by rfl, ?_⟩) (by assumption) ?_
  rotate_left
  · (intro w hSw; (try dsimp only at hSw); go_simp)
    try with_reducible rfl
  set_option linter.unusedSimpArgs false in (try simp only [List.getElem_toArray, List.getElem_cons_succ, List.getElem_cons_zero, Act.put, List.setIfInBounds_toArray, List.set_cons_zero, List.set_cons_succ])
  refine wpAnyH_take (i := 9) (oi := _) (v := _) rfl (by kernel_rfl) (by kernel_rfl) (by kernel_rfl) (fun _ _ _ h => h) (Or.inr ⟨by rfl, rfl⟩) (by assumption) ?_
  set_option linter.unusedSimpArgs false in (try simp only [List.getElem_toArray, List.getElem_cons_succ, List.getElem_cons_zero, Act.put, List.setIfInBounds_toArray, List.set_cons_zero, List.set_cons_succ])
  refine wpAnyH_take (i := 10) (oi := _) (v := ?_) rfl (by kernel_rfl) (by kernel_rfl) (by kernel_rfl) (fun _ _ _ h => h) (Or.inl ⟨by rfl, ?_⟩) (by assumption) ?_
  rotate_left
  · (intro w hSw; (try dsimp only at hSw); go_simp)
    try with_reducible rfl
  set_option linter.unusedSimpArgs false in (try simp only [List.getElem_toArray, List.getElem_cons_succ, List.getElem_cons_zero, Act.put, List.setIfInBounds_toArray, List.set_cons_zero, List.set_cons_succ])
  refine wpAnyH_take (i := 11) (oi := _) (v := ?_) rfl (by kernel_rfl) (by kernel_rfl) (by kernel_rfl) (fun _ _ _ h => h) (Or.inl ⟨by rfl, ?_⟩) (by assumption) ?_
  rotate_left
  · (intro w hSw; (try dsimp only at hSw); go_simp)
    try with_reducible rfl
  set_option linter.unusedSimpArgs false in (try simp only [List.getElem_toArray, List.getElem_cons_succ, List.getElem_cons_zero, Act.put, List.setIfInBounds_toArray, List.set_cons_zero, List.set_cons_succ])
  refine wpAnyH_take (i := 12) (oi := _) (v := ?_) rfl (by kernel_rfl) (by kernel_rfl) (by kernel_rfl) (fun _ _ _ h => h) (Or.inl ⟨by rfl, ?_⟩) (by assumption) ?_
  rotate_left
  · (intro w hSw; (try dsimp only at hSw); go_simp)
    try with_reducible rfl
  set_option linter.unusedSimpArgs false in (try simp only [List.getElem_toArray, List.getElem_cons_succ, List.getElem_cons_zero, Act.put, List.setIfInBounds_toArray, List.set_cons_zero, List.set_cons_succ])
  refine wpAnyH_take (i := 13) (oi := _) (v := ?_) rfl (by kernel_rfl) (by kernel_rfl) (by kernel_rfl) (fun _ _ _ h => h) (Or.inl ⟨by rfl, ?_⟩) (by assumption) ?_
  rotate_left
  · (intro w hSw; (try dsimp only at hSw); go_simp)
    try with_reducible rfl
  set_option linter.unusedSimpArgs false in (try simp only [List.getElem_toArray, List.getElem_cons_succ, List.getElem_cons_zero, Act.put, List.setIfInBounds_toArray, List.set_cons_zero, List.set_cons_succ])
  refine wpAnyH_take (i := 14) (oi := _) (v := ?_) rfl (by kernel_rfl) (by kernel_rfl) (by kernel_rfl) (fun _ _ _ h => h) (Or.inl ⟨by rfl, ?_⟩) (by assumption) ?_
  rotate_left
  · (intro w hSw; (try dsimp only at hSw); go_simp)
    try with_reducible rfl
  set_option linter.unusedSimpArgs false in (try simp only [List.getElem_toArray, List.getElem_cons_succ, List.getElem_cons_zero, Act.put, List.setIfInBounds_toArray, List.set_cons_zero, List.set_cons_succ])
  refine wpAnyH_take (i := 15) (oi := _) (v := ?_) rfl (by kernel_rfl) (by kernel_rfl) (by kernel_rfl) (fun _ _ _ h => h) (Or.inl ⟨by rfl, ?_⟩) (by assumption) ?_
  rotate_left
  · (intro w hSw; (try dsimp only at hSw); go_simp)
    try with_reducible rfl
  set_option linter.unusedSimpArgs false in (try simp only [List.getElem_toArray, List.getElem_cons_succ, List.getElem_cons_zero, Act.put, List.setIfInBounds_toArray, List.set_cons_zero, List.set_cons_succ])
  refine wpAnyH_ready (rs := [16]) (by kernel_rfl) (by simp) ?_
  refine AllReadyH.cons (o := _) rfl (fun K hK => ?_) AllReadyH.nil
  simp only [List.getElem_toArray, List.getElem_cons_succ, List.getElem_cons_zero]
  go_simp
  (go_at_call 28; have _q : Stage 4 := st; clear st _q; refine (see_any v A cap sc sd _ V3.out).mono ?_; rintro e x4 ⟨g4, k4, rfl, hg4, hown, y4⟩; have t1 := ((bcell y4).1 _ _ (by exact s0)).trans s1; have t2 := ((bcell y4).1 _ _ (by exact s0)).trans s2; have t3 := ((bcell y4).1 _ _ (by exact s9)).trans s3; have t4 := ((bcell y4).1 _ _ (by exact s9)).trans s4; have t0 := Nat.lt_of_lt_of_le s0 y4.size; have t9 := Nat.lt_of_lt_of_le s9 y4.size; have HO4 := Lib.hid hown; clear hown; have V4 := Lib.hid (V3.out.below y4); have st : Stage 5 := ⟨trivial⟩)
  go_wp2_with fail
  refine hK.out _ _ ⟨‹_›, ‹_›, ‹_›, ‹_›⟩ (fun hHeld => ?_)
  clear hK K
  set_option linter.unusedSimpArgs false in (try simp only [List.getElem_toArray, List.getElem_cons_succ, List.getElem_cons_zero, Act.put, List.setIfInBounds_toArray, List.set_cons_zero, List.set_cons_succ])
  refine wpAnyH_ready (rs := [17]) (by kernel_rfl) (by simp) ?_
  refine AllReadyH.cons (o := _) rfl (fun K hK => ?_) AllReadyH.nil
  simp only [List.getElem_toArray, List.getElem_cons_succ, List.getElem_cons_zero]
  go_simp
  (go_at_call 23; have _q : Stage 5 := st; clear st _q; refine (leq_row_right HQ.out HL.out cap k4 V4.out (Ints.of_row HL.out HO4.out)).mono ?_; rintro e x5 ⟨rfl, y5⟩; have u1 := ((bcell y5).1 _ _ (by exact t0)).trans t1; have u2 := ((bcell y5).1 _ _ (by exact t0)).trans t2; have u3 := ((bcell y5).1 _ _ (by exact t9)).trans t3; have u4 := ((bcell y5).1 _ _ (by exact t9)).trans t4; have u0 := Nat.lt_of_lt_of_le t0 y5.size; have u9 := Nat.lt_of_lt_of_le t9 y5.size; have st : Stage 6 := ⟨trivial⟩)
  go_wp2_with fail
  refine hK.out _ _ ⟨‹_›, ‹_›, ‹_›, ‹_›⟩ (fun hHeld => ?_)
  clear hK K
  set_option linter.unusedSimpArgs false in (try simp only [List.getElem_toArray, List.getElem_cons_succ, List.getElem_cons_zero, Act.put, List.setIfInBounds_toArray, List.set_cons_zero, List.set_cons_succ])
  refine wpAnyH_take (i := 18) (oi := _) (v := ?_) rfl (by kernel_rfl) (by kernel_rfl) (by kernel_rfl) (fun _ _ _ h => h) (Or.inl ⟨by rfl, ?_⟩) (by assumption) ?_
  rotate_left
  · (intro w hSw; (try dsimp only at hSw); go_simp)
    try with_reducible rfl
  set_option linter.unusedSimpArgs false in (try simp only [List.getElem_toArray, List.getElem_cons_succ, List.getElem_cons_zero, Act.put, List.setIfInBounds_toArray, List.set_cons_zero, List.set_cons_succ])
  refine wpAnyH_take (i := 19) (oi := _) (v := ?_) rfl (by kernel_rfl) (by kernel_rfl) (by kernel_rfl) (fun _ _ _ h => h) (Or.inl ⟨by rfl, ?_⟩) (by assumption) ?_
  rotate_left
  · (intro w hSw; (try dsimp only at hSw); go_simp)
    try with_reducible rfl
  set_option linter.unusedSimpArgs false in (try simp only [List.getElem_toArray, List.getElem_cons_succ, List.getElem_cons_zero, Act.put, List.setIfInBounds_toArray, List.set_cons_zero, List.set_cons_succ])
  refine wpAnyH_ready (rs := [20]) (by kernel_rfl) (by simp) ?_
  refine AllReadyH.cons (o := _) rfl (fun K hK => ?_) AllReadyH.nil
  simp only [List.getElem_toArray, List.getElem_cons_succ, List.getElem_cons_zero]
  go_simp
  (go_at_call 19; have _q : Stage 6 := st; clear st _q; refine (awake_any _).mono ?_; rintro e x6 ⟨rfl, y6⟩; have v1 := ((bcell y6).1 _ _ (by exact u0)).trans u1; have v2 := ((bcell y6).1 _ _ (by exact u0)).trans u2; have v3 := ((bcell y6).1 _ _ (by exact u9)).trans u3; have v4 := ((bcell y6).1 _ _ (by exact u9)).trans u4; have v0 := Nat.lt_of_lt_of_le u0 y6.size; have v9 := Nat.lt_of_lt_of_le u9 y6.size; have st : Stage 7 := ⟨trivial⟩)
  go_wp2_with fail
  refine hK.out _ _ ⟨‹_›, ‹_›, ‹_›, ‹_›⟩ (fun hHeld => ?_)
  clear hK K
  set_option linter.unusedSimpArgs false in (try simp only [List.getElem_toArray, List.getElem_cons_succ, List.getElem_cons_zero, Act.put, List.setIfInBounds_toArray, List.set_cons_zero, List.set_cons_succ])
  refine wpAnyH_take (i := 21) (oi := _) (v := ?_) rfl (by kernel_rfl) (by kernel_rfl) (by kernel_rfl) (fun _ _ _ h => h) (Or.inl ⟨by rfl, ?_⟩) (by assumption) ?_
  rotate_left
  · (intro w hSw; (try dsimp only at hSw); go_simp)
    try with_reducible rfl
  set_option linter.unusedSimpArgs false in (try simp only [List.getElem_toArray, List.getElem_cons_succ, List.getElem_cons_zero, Act.put, List.setIfInBounds_toArray, List.set_cons_zero, List.set_cons_succ])
  refine wpAnyH_take (i := 22) (oi := _) (v := ?_) rfl (by kernel_rfl) (by kernel_rfl) (by kernel_rfl) (fun _ _ _ h => h) (Or.inl ⟨by rfl, ?_⟩) (by assumption) ?_
  rotate_left
  · (intro w hSw; (try dsimp only at hSw); go_simp)
    try with_reducible rfl
  set_option linter.unusedSimpArgs false in (try simp only [List.getElem_toArray, List.getElem_cons_succ, List.getElem_cons_zero, Act.put, List.setIfInBounds_toArray, List.set_cons_zero, List.set_cons_succ])
  refine wpAnyH_done (by kernel_rfl) ?_ _
  have HW' := Below.drew HW.out
  go_wp2
  go_ret
  exact Ret.mk rfl (Below.step (Below.step (Below.step (Below.step (Below.step (Below.step HW' y1) y2) y3) y4) y5) y6)

set_option maxHeartbeats 6000000 in
theorem sees_a_false (w : World) (v : List Int) (A : Option Addr) (cap : Nat) (hv : Ints w A v) (sc sd tc td : Int) (hfew : decide (v.length ≤ 100) = true) (hs : rightB sc sd = false) (hx : coversB v tc td = false) : Calls Try.prog 10 #[.slice A v.length cap, .agg #[.int .i64 sc, .int .i64 sd], .agg #[.int .i64 tc, .int .i64 td]] w (Ret (.bool true) w) := by
  have HF := Lib.hid hfew
  have HY : Hid (coversB (seeL v sc sd) tc td = false) := Lib.hid (by rw [sees_eq, hx]; simp [moreB, hs])
  have HX := Lib.hid hx
  have HQ := Lib.hid (sees_leq v sc sd)
  have HL := Lib.hid (seeL_len v sc sd)
  have HS := Lib.hid hs
  clear hfew hx hs
  have hv0 := (hv.alloc (.cells #[.int .i64 sc, .int .i64 sd] 23)).alloc (.cells #[.int .i64 tc, .int .i64 td] 23)
  go_enter Try.func10, Try.ntmps10
  go_wp2_with fail
  refine (few_is HF.out A cap _).mono ?_
  rintro e w1 ⟨rfl, hb1⟩
  have TS := ((Two.new w _ rfl sc sd 23).alloc _).below hb1
  have TT := (Two.new (w.alloc _) (w.heap.size + 1) (by simp) tc td 23).below hb1
  have hv1 := hv0.below hb1
  have H1 : Below w.heap.size w w1 := (by repeat (first | assumption | exact Below.refl _ _ | refine Below.alloc ?_ (by first | omega | (simp; done) | (simp; omega)) _ | refine Below.setCell ?_ (by first | omega | (simp; done) | (simp; omega)) _ | refine Below.drew ?_ | refine Below.drewN_ ?_ _ | refine Below.step ?_ (by assumption)))
  obtain ⟨s0, s1, s2⟩ := TS
  obtain ⟨t0, t1, t2⟩ := TT
  go_wp2_with fail
  refine (rright_is HS.out _).mono ?_
  rintro e w2 ⟨rfl, hb2⟩
  have TS := (show Two _ _ _ _ from ⟨s0, s1, s2⟩).below hb2
  have TT := (show Two _ _ _ _ from ⟨t0, t1, t2⟩).below hb2
  have hv2 := hv1.below hb2
  have H2 := Below.step H1 hb2
  clear s0 s1 s2 t0 t1 t2
  obtain ⟨s0, s1, s2⟩ := TS
  obtain ⟨t0, t1, t2⟩ := TT
  have p0 := s0
  have p1 := s1
  have p2 := s2
  have p9 := t0
  have p3 := t1
  have p4 := t2
  have st : Stage 1 := ⟨trivial⟩
  have HV := Lib.hid hv2
  have HW := Lib.hid H2
  clear s0 s1 s2 t0 t1 t2 hv0 hv1 hv2
  go_wp2_with fail
  first | (go_region_held3 (fun w' => w'.cell? ⟨w.heap.size, 0, none⟩ = some (.int .i64 sc) ∧ w'.cell? ⟨w.heap.size, 1, none⟩ = some (.int .i64 sd) ∧ w'.cell? ⟨w.heap.size + 1, 0, none⟩ = some (.int .i64 tc) ∧ w'.cell? ⟨w.heap.size + 1, 1, none⟩ = some (.int .i64 td))
      (first | exact ⟨‹_›, ‹_›, ‹_›, ‹_›⟩)
      (first
      | (go_at_call 28; have _q : Stage 1 := st; clear st _q; refine (see_any v A cap sc sd _ (by exact Ints.drew HV.out)).mono ?_; rintro e x1 ⟨g, k1, rfl, hg, hown, y1⟩; have q1 := ((bcell y1).1 _ _ (by exact p0)).trans p1; have q2 := ((bcell y1).1 _ _ (by exact p0)).trans p2; have q3 := ((bcell y1).1 _ _ (by exact p9)).trans p3; have q4 := ((bcell y1).1 _ _ (by exact p9)).trans p4; have q0 := Nat.lt_of_lt_of_le p0 y1.size; have q9 := Nat.lt_of_lt_of_le p9 y1.size; have HO := Lib.hid hown; clear hown; have V1 := Lib.hid (Ints.below (Ints.drew HV.out) y1); have st : Stage 2 := ⟨trivial⟩)
      | (go_at_call 21; have _q : Stage 2 := st; clear st _q; refine (covers_row HY.out HL.out k1 (Ints.of_row HL.out HO.out)).mono ?_; rintro e x2 ⟨rfl, y2⟩; have r1 := ((bcell y2).1 _ _ (by exact q0)).trans q1; have r2 := ((bcell y2).1 _ _ (by exact q0)).trans q2; have r3 := ((bcell y2).1 _ _ (by exact q9)).trans q3; have r4 := ((bcell y2).1 _ _ (by exact q9)).trans q4; have r0 := Nat.lt_of_lt_of_le q0 y2.size; have r9 := Nat.lt_of_lt_of_le q9 y2.size; have V2 := Lib.hid (V1.out.below y2); have st : Stage 3 := ⟨trivial⟩)
      | (go_at_call 21; have _q : Stage 3 := st; clear st _q; refine (covers_is HX.out cap V2.out).mono ?_; rintro e x3 ⟨rfl, y3⟩; have s1 := ((bcell y3).1 _ _ (by exact r0)).trans r1; have s2 := ((bcell y3).1 _ _ (by exact r0)).trans r2; have s3 := ((bcell y3).1 _ _ (by exact r9)).trans r3; have s4 := ((bcell y3).1 _ _ (by exact r9)).trans r4; have s0 := Nat.lt_of_lt_of_le r0 y3.size; have s9 := Nat.lt_of_lt_of_le r9 y3.size; have V3 := Lib.hid (V2.out.below y3); have st : Stage 4 := ⟨trivial⟩)
      | (go_at_call 28; have _q : Stage 4 := st; clear st _q; refine (see_any v A cap sc sd _ V3.out).mono ?_; rintro e x4 ⟨g4, k4, rfl, hg4, hown, y4⟩; have t1 := ((bcell y4).1 _ _ (by exact s0)).trans s1; have t2 := ((bcell y4).1 _ _ (by exact s0)).trans s2; have t3 := ((bcell y4).1 _ _ (by exact s9)).trans s3; have t4 := ((bcell y4).1 _ _ (by exact s9)).trans s4; have t0 := Nat.lt_of_lt_of_le s0 y4.size; have t9 := Nat.lt_of_lt_of_le s9 y4.size; have HO4 := Lib.hid hown; clear hown; have V4 := Lib.hid (V3.out.below y4); have st : Stage 5 := ⟨trivial⟩)
      | (go_at_call 23; have _q : Stage 5 := st; clear st _q; refine (leq_row_right HQ.out HL.out cap k4 V4.out (Ints.of_row HL.out HO4.out)).mono ?_; rintro e x5 ⟨rfl, y5⟩; have u1 := ((bcell y5).1 _ _ (by exact t0)).trans t1; have u2 := ((bcell y5).1 _ _ (by exact t0)).trans t2; have u3 := ((bcell y5).1 _ _ (by exact t9)).trans t3; have u4 := ((bcell y5).1 _ _ (by exact t9)).trans t4; have u0 := Nat.lt_of_lt_of_le t0 y5.size; have u9 := Nat.lt_of_lt_of_le t9 y5.size; have st : Stage 6 := ⟨trivial⟩)
      | (go_at_call 19; have _q : Stage 6 := st; clear st _q; refine (awake_any _).mono ?_; rintro e x6 ⟨rfl, y6⟩; have v1 := ((bcell y6).1 _ _ (by exact u0)).trans u1; have v2 := ((bcell y6).1 _ _ (by exact u0)).trans u2; have v3 := ((bcell y6).1 _ _ (by exact u9)).trans u3; have v4 := ((bcell y6).1 _ _ (by exact u9)).trans u4; have v0 := Nat.lt_of_lt_of_le u0 y6.size; have v9 := Nat.lt_of_lt_of_le u9 y6.size; have st : Stage 7 := ⟨trivial⟩))) | fail
  have HW' := Below.drew HW.out
  go_wp2
  go_ret
  exact Ret.mk rfl (Below.step (Below.step (Below.step (Below.step (Below.step (Below.step HW' y1) y2) y3) y4) y5) y6)

set_option maxHeartbeats 6000000 in
theorem sees_b_true (w : World) (v : List Int) (A : Option Addr) (cap : Nat) (hv : Ints w A v) (sc sd tc td : Int) (hfew : decide (v.length ≤ 100) = true) (hs : rightB sc sd = true) (ht : rightB tc td = false) (hx : coversB v tc td = true) : Calls Try.prog 10 #[.slice A v.length cap, .agg #[.int .i64 sc, .int .i64 sd], .agg #[.int .i64 tc, .int .i64 td]] w (Ret (.bool true) w) := by
  have HF := Lib.hid hfew
  have HY : Hid (coversB (seeL v sc sd) tc td = true) := Lib.hid (by rw [sees_eq, hx]; simp [moreB, hs, ht])
  have HX := Lib.hid hx
  have HQ := Lib.hid (sees_leq v sc sd)
  have HL := Lib.hid (seeL_len v sc sd)
  have HS := Lib.hid hs
  have HT := Lib.hid ht
  clear hfew hx hs ht
  have hv0 := (hv.alloc (.cells #[.int .i64 sc, .int .i64 sd] 23)).alloc (.cells #[.int .i64 tc, .int .i64 td] 23)
  go_enter Try.func10, Try.ntmps10
  go_wp2_with fail
  refine (few_is HF.out A cap _).mono ?_
  rintro e w1 ⟨rfl, hb1⟩
  have TS := ((Two.new w _ rfl sc sd 23).alloc _).below hb1
  have TT := (Two.new (w.alloc _) (w.heap.size + 1) (by simp) tc td 23).below hb1
  have hv1 := hv0.below hb1
  have H1 : Below w.heap.size w w1 := (by repeat (first | assumption | exact Below.refl _ _ | refine Below.alloc ?_ (by first | omega | (simp; done) | (simp; omega)) _ | refine Below.setCell ?_ (by first | omega | (simp; done) | (simp; omega)) _ | refine Below.drew ?_ | refine Below.drewN_ ?_ _ | refine Below.step ?_ (by assumption)))
  obtain ⟨s0, s1, s2⟩ := TS
  obtain ⟨t0, t1, t2⟩ := TT
  go_wp2_with fail
  refine (rright_is HS.out _).mono ?_
  rintro e w2 ⟨rfl, hb2⟩
  have TS := (show Two _ _ _ _ from ⟨s0, s1, s2⟩).below hb2
  have TT := (show Two _ _ _ _ from ⟨t0, t1, t2⟩).below hb2
  have hv2 := hv1.below hb2
  have H2 := Below.step H1 hb2
  clear s0 s1 s2 t0 t1 t2
  obtain ⟨s0, s1, s2⟩ := TS
  obtain ⟨t0, t1, t2⟩ := TT
  go_wp2_with fail
  refine (rright_is HT.out _).mono ?_
  rintro e w3 ⟨rfl, hb3⟩
  have TS := (show Two _ _ _ _ from ⟨s0, s1, s2⟩).below hb3
  have TT := (show Two _ _ _ _ from ⟨t0, t1, t2⟩).below hb3
  have hv3 := hv2.below hb3
  have H3 := Below.step H2 hb3
  clear s0 s1 s2 t0 t1 t2
  obtain ⟨s0, s1, s2⟩ := TS
  obtain ⟨t0, t1, t2⟩ := TT
  have p0 := s0
  have p1 := s1
  have p2 := s2
  have p9 := t0
  have p3 := t1
  have p4 := t2
  have st : Stage 1 := ⟨trivial⟩
  have HV := Lib.hid hv3
  have HW := Lib.hid H3
  clear s0 s1 s2 t0 t1 t2 hv0 hv1 hv2 hv3
  go_wp2_with fail
  refine wp_region_held_drew (S := (fun w' => w'.cell? ⟨w.heap.size, 0, none⟩ = some (.int .i64 sc) ∧ w'.cell? ⟨w.heap.size, 1, none⟩ = some (.int .i64 sd) ∧ w'.cell? ⟨w.heap.size + 1, 0, none⟩ = some (.int .i64 tc) ∧ w'.cell? ⟨w.heap.size + 1, 1, none⟩ = some (.int .i64 td))) (by kernel_rfl) ⟨‹_›, ‹_›, ‹_›, ‹_›⟩ (fun hHeld => ?_)
  refine wpAnyH_take (i := 0) (oi := _) (v := ?_) rfl (by kernel_rfl) (by kernel_rfl) (by kernel_rfl) (fun _ _ _ h => h) (Or.inl ⟨by rfl, ?_⟩) (by assumption) ?_
  rotate_left
  · (intro w hSw; (try dsimp only at hSw); go_simp)
    try with_reducible rfl
  set_option linter.unusedSimpArgs false in (try simp only [List.getElem_toArray, List.getElem_cons_succ, List.getElem_cons_zero, Act.put, List.setIfInBounds_toArray, List.set_cons_zero, List.set_cons_succ])
  refine wpAnyH_take (i := 1) (oi := _) (v := ?_) rfl (by kernel_rfl) (by kernel_rfl) (by kernel_rfl) (fun _ _ _ h => h) (Or.inl ⟨by rfl, ?_⟩) (by assumption) ?_
  rotate_left
  · (intro w hSw; (try dsimp only at hSw); go_simp)
    try with_reducible rfl
  set_option linter.unusedSimpArgs false in (try simp only [List.getElem_toArray, List.getElem_cons_succ, List.getElem_cons_zero, Act.put, List.setIfInBounds_toArray, List.set_cons_zero, List.set_cons_succ])
  refine wpAnyH_take (i := 3) (oi := _) (v := ?_) rfl (by kernel_rfl) (by kernel_rfl) (by kernel_rfl) (fun _ _ _ h => h) (Or.inl ⟨by rfl, ?_⟩) (by assumption) ?_
  rotate_left
  · (intro w hSw; (try dsimp only at hSw); go_simp)
    try with_reducible rfl
  set_option linter.unusedSimpArgs false in (try simp only [List.getElem_toArray, List.getElem_cons_succ, List.getElem_cons_zero, Act.put, List.setIfInBounds_toArray, List.set_cons_zero, List.set_cons_succ])
  refine wpAnyH_take (i := 5) (oi := _) (v := ?_) rfl (by kernel_rfl) (by kernel_rfl) (by kernel_rfl) (fun _ _ _ h => h) (Or.inl ⟨by rfl, ?_⟩) (by assumption) ?_
  rotate_left
  · (intro w hSw; (try dsimp only at hSw); go_simp)
    try with_reducible rfl
  set_option linter.unusedSimpArgs false in (try simp only [List.getElem_toArray, List.getElem_cons_succ, List.getElem_cons_zero, Act.put, List.setIfInBounds_toArray, List.set_cons_zero, List.set_cons_succ])
  refine wpAnyH_take (i := 6) (oi := _) (v := ?_) rfl (by kernel_rfl) (by kernel_rfl) (by kernel_rfl) (fun _ _ _ h => h) (Or.inl ⟨by rfl, ?_⟩) (by assumption) ?_
  rotate_left
  · (intro w hSw; (try dsimp only at hSw); go_simp)
    try with_reducible rfl
  set_option linter.unusedSimpArgs false in (try simp only [List.getElem_toArray, List.getElem_cons_succ, List.getElem_cons_zero, Act.put, List.setIfInBounds_toArray, List.set_cons_zero, List.set_cons_succ])
  refine wpAnyH_ready (rs := [2]) (by kernel_rfl) (by simp) ?_
  refine AllReadyH.cons (o := _) rfl (fun K hK => ?_) AllReadyH.nil
  simp only [List.getElem_toArray, List.getElem_cons_succ, List.getElem_cons_zero]
  go_simp
  (go_at_call 28; have _q : Stage 1 := st; clear st _q; refine (see_any v A cap sc sd _ (by exact Ints.drew HV.out)).mono ?_; rintro e x1 ⟨g, k1, rfl, hg, hown, y1⟩; have q1 := ((bcell y1).1 _ _ (by exact p0)).trans p1; have q2 := ((bcell y1).1 _ _ (by exact p0)).trans p2; have q3 := ((bcell y1).1 _ _ (by exact p9)).trans p3; have q4 := ((bcell y1).1 _ _ (by exact p9)).trans p4; have q0 := Nat.lt_of_lt_of_le p0 y1.size; have q9 := Nat.lt_of_lt_of_le p9 y1.size; have HO := Lib.hid hown; clear hown; have V1 := Lib.hid (Ints.below (Ints.drew HV.out) y1); have st : Stage 2 := ⟨trivial⟩)
  go_wp2_with fail
  refine hK.out _ _ ⟨‹_›, ‹_›, ‹_›, ‹_›⟩ (fun hHeld => ?_)
  clear hK K
  set_option linter.unusedSimpArgs false in (try simp only [List.getElem_toArray, List.getElem_cons_succ, List.getElem_cons_zero, Act.put, List.setIfInBounds_toArray, List.set_cons_zero, List.set_cons_succ])
  refine wpAnyH_ready (rs := [4]) (by kernel_rfl) (by simp) ?_
  refine AllReadyH.cons (o := _) rfl (fun K hK => ?_) AllReadyH.nil
  simp only [List.getElem_toArray, List.getElem_cons_succ, List.getElem_cons_zero]
  go_simp
  (go_at_call 21; have _q : Stage 2 := st; clear st _q; refine (covers_row HY.out HL.out k1 (Ints.of_row HL.out HO.out)).mono ?_; rintro e x2 ⟨rfl, y2⟩; have r1 := ((bcell y2).1 _ _ (by exact q0)).trans q1; have r2 := ((bcell y2).1 _ _ (by exact q0)).trans q2; have r3 := ((bcell y2).1 _ _ (by exact q9)).trans q3; have r4 := ((bcell y2).1 _ _ (by exact q9)).trans q4; have r0 := Nat.lt_of_lt_of_le q0 y2.size; have r9 := Nat.lt_of_lt_of_le q9 y2.size; have V2 := Lib.hid (V1.out.below y2); have st : Stage 3 := ⟨trivial⟩)
  go_wp2_with fail
  refine hK.out _ _ ⟨‹_›, ‹_›, ‹_›, ‹_›⟩ (fun hHeld => ?_)
  clear hK K
  set_option linter.unusedSimpArgs false in (try simp only [List.getElem_toArray, List.getElem_cons_succ, List.getElem_cons_zero, Act.put, List.setIfInBounds_toArray, List.set_cons_zero, List.set_cons_succ])
  refine wpAnyH_ready (rs := [7]) (by kernel_rfl) (by simp) ?_
  refine AllReadyH.cons (o := _) rfl (fun K hK => ?_) AllReadyH.nil
  simp only [List.getElem_toArray, List.getElem_cons_succ, List.getElem_cons_zero]
  go_simp
  (go_at_call 21; have _q : Stage 3 := st; clear st _q; refine (covers_is HX.out cap V2.out).mono ?_; rintro e x3 ⟨rfl, y3⟩; have s1 := ((bcell y3).1 _ _ (by exact r0)).trans r1; have s2 := ((bcell y3).1 _ _ (by exact r0)).trans r2; have s3 := ((bcell y3).1 _ _ (by exact r9)).trans r3; have s4 := ((bcell y3).1 _ _ (by exact r9)).trans r4; have s0 := Nat.lt_of_lt_of_le r0 y3.size; have s9 := Nat.lt_of_lt_of_le r9 y3.size; have V3 := Lib.hid (V2.out.below y3); have st : Stage 4 := ⟨trivial⟩)
  go_wp2_with fail
  refine hK.out _ _ ⟨‹_›, ‹_›, ‹_›, ‹_›⟩ (fun hHeld => ?_)
  clear hK K
  set_option linter.unusedSimpArgs false in (try simp only [List.getElem_toArray, List.getElem_cons_succ, List.getElem_cons_zero, Act.put, List.setIfInBounds_toArray, List.set_cons_zero, List.set_cons_succ])
  refine wpAnyH_take (i := 8) (oi := _) (v := ?_) rfl (by kernel_rfl) (by kernel_rfl) (by kernel_rfl) (fun _ _ _ h => h) (Or.inl ⟨by rfl, ?_⟩) (by assumption) ?_
  rotate_left
  · (intro w hSw; (try dsimp only at hSw); go_simp)
    try with_reducible rfl
  set_option linter.unusedSimpArgs false in (try simp only [List.getElem_toArray, List.getElem_cons_succ, List.getElem_cons_zero, Act.put, List.setIfInBounds_toArray, List.set_cons_zero, List.set_cons_succ])
  refine wpAnyH_take (i := 9) (oi := _) (v := _) rfl (by kernel_rfl) (by kernel_rfl) (by kernel_rfl) (fun _ _ _ h => h) (Or.inr ⟨by rfl, rfl⟩) (by assumption) ?_
  set_option linter.unusedSimpArgs false in (try simp only [List.getElem_toArray, List.getElem_cons_succ, List.getElem_cons_zero, Act.put, List.setIfInBounds_toArray, List.set_cons_zero, List.set_cons_succ])
  refine wpAnyH_take (i := 10) (oi := _) (v := ?_) rfl (by kernel_rfl) (by kernel_rfl) (by kernel_rfl) (fun _ _ _ h => h) (Or.inl ⟨by rfl, ?_⟩) (by assumption) ?_
  rotate_left
  · (intro w hSw; (try dsimp only at hSw); go_simp)
    try with_reducible rfl
  set_option linter.unusedSimpArgs false in (try simp only [List.getElem_toArray, List.getElem_cons_succ, List.getElem_cons_zero, Act.put, List.setIfInBounds_toArray, List.set_cons_zero, List.set_cons_succ])
  refine wpAnyH_take (i := 11) (oi := _) (v := ?_) rfl (by kernel_rfl) (by kernel_rfl) (by kernel_rfl) (fun _ _ _ h => h) (Or.inl ⟨by rfl, ?_⟩) (by assumption) ?_
  rotate_left
  · (intro w hSw; (try dsimp only at hSw); go_simp)
    try with_reducible rfl
  set_option linter.unusedSimpArgs false in (try simp only [List.getElem_toArray, List.getElem_cons_succ, List.getElem_cons_zero, Act.put, List.setIfInBounds_toArray, List.set_cons_zero, List.set_cons_succ])
  refine wpAnyH_take (i := 12) (oi := _) (v := ?_) rfl (by kernel_rfl) (by kernel_rfl) (by kernel_rfl) (fun _ _ _ h => h) (Or.inl ⟨by rfl, ?_⟩) (by assumption) ?_
  rotate_left
  · (intro w hSw; (try dsimp only at hSw); go_simp)
    try with_reducible rfl
  set_option linter.unusedSimpArgs false in (try simp only [List.getElem_toArray, List.getElem_cons_succ, List.getElem_cons_zero, Act.put, List.setIfInBounds_toArray, List.set_cons_zero, List.set_cons_succ])
  refine wpAnyH_take (i := 13) (oi := _) (v := ?_) rfl (by kernel_rfl) (by kernel_rfl) (by kernel_rfl) (fun _ _ _ h => h) (Or.inl ⟨by rfl, ?_⟩) (by assumption) ?_
  rotate_left
  · (intro w hSw; (try dsimp only at hSw); go_simp)
    try with_reducible rfl
  set_option linter.unusedSimpArgs false in (try simp only [List.getElem_toArray, List.getElem_cons_succ, List.getElem_cons_zero, Act.put, List.setIfInBounds_toArray, List.set_cons_zero, List.set_cons_succ])
  refine wpAnyH_take (i := 14) (oi := _) (v := ?_) rfl (by kernel_rfl) (by kernel_rfl) (by kernel_rfl) (fun _ _ _ h => h) (Or.inl ⟨by rfl, ?_⟩) (by assumption) ?_
  rotate_left
  · (intro w hSw; (try dsimp only at hSw); go_simp)
    try with_reducible rfl
  set_option linter.unusedSimpArgs false in (try simp only [List.getElem_toArray, List.getElem_cons_succ, List.getElem_cons_zero, Act.put, List.setIfInBounds_toArray, List.set_cons_zero, List.set_cons_succ])
  refine wpAnyH_take (i := 15) (oi := _) (v := ?_) rfl (by kernel_rfl) (by kernel_rfl) (by kernel_rfl) (fun _ _ _ h => h) (Or.inl ⟨by rfl, ?_⟩) (by assumption) ?_
  rotate_left
  · (intro w hSw; (try dsimp only at hSw); go_simp)
    try with_reducible rfl
  set_option linter.unusedSimpArgs false in (try simp only [List.getElem_toArray, List.getElem_cons_succ, List.getElem_cons_zero, Act.put, List.setIfInBounds_toArray, List.set_cons_zero, List.set_cons_succ])
  refine wpAnyH_ready (rs := [16]) (by kernel_rfl) (by simp) ?_
  refine AllReadyH.cons (o := _) rfl (fun K hK => ?_) AllReadyH.nil
  simp only [List.getElem_toArray, List.getElem_cons_succ, List.getElem_cons_zero]
  go_simp
  (go_at_call 28; have _q : Stage 4 := st; clear st _q; refine (see_any v A cap sc sd _ V3.out).mono ?_; rintro e x4 ⟨g4, k4, rfl, hg4, hown, y4⟩; have t1 := ((bcell y4).1 _ _ (by exact s0)).trans s1; have t2 := ((bcell y4).1 _ _ (by exact s0)).trans s2; have t3 := ((bcell y4).1 _ _ (by exact s9)).trans s3; have t4 := ((bcell y4).1 _ _ (by exact s9)).trans s4; have t0 := Nat.lt_of_lt_of_le s0 y4.size; have t9 := Nat.lt_of_lt_of_le s9 y4.size; have HO4 := Lib.hid hown; clear hown; have V4 := Lib.hid (V3.out.below y4); have st : Stage 5 := ⟨trivial⟩)
  go_wp2_with fail
  refine hK.out _ _ ⟨‹_›, ‹_›, ‹_›, ‹_›⟩ (fun hHeld => ?_)
  clear hK K
  set_option linter.unusedSimpArgs false in (try simp only [List.getElem_toArray, List.getElem_cons_succ, List.getElem_cons_zero, Act.put, List.setIfInBounds_toArray, List.set_cons_zero, List.set_cons_succ])
  refine wpAnyH_ready (rs := [17]) (by kernel_rfl) (by simp) ?_
  refine AllReadyH.cons (o := _) rfl (fun K hK => ?_) AllReadyH.nil
  simp only [List.getElem_toArray, List.getElem_cons_succ, List.getElem_cons_zero]
  go_simp
  (go_at_call 23; have _q : Stage 5 := st; clear st _q; refine (leq_row_right HQ.out HL.out cap k4 V4.out (Ints.of_row HL.out HO4.out)).mono ?_; rintro e x5 ⟨rfl, y5⟩; have u1 := ((bcell y5).1 _ _ (by exact t0)).trans t1; have u2 := ((bcell y5).1 _ _ (by exact t0)).trans t2; have u3 := ((bcell y5).1 _ _ (by exact t9)).trans t3; have u4 := ((bcell y5).1 _ _ (by exact t9)).trans t4; have u0 := Nat.lt_of_lt_of_le t0 y5.size; have u9 := Nat.lt_of_lt_of_le t9 y5.size; have st : Stage 6 := ⟨trivial⟩)
  go_wp2_with fail
  refine hK.out _ _ ⟨‹_›, ‹_›, ‹_›, ‹_›⟩ (fun hHeld => ?_)
  clear hK K
  set_option linter.unusedSimpArgs false in (try simp only [List.getElem_toArray, List.getElem_cons_succ, List.getElem_cons_zero, Act.put, List.setIfInBounds_toArray, List.set_cons_zero, List.set_cons_succ])
  refine wpAnyH_take (i := 18) (oi := _) (v := ?_) rfl (by kernel_rfl) (by kernel_rfl) (by kernel_rfl) (fun _ _ _ h => h) (Or.inl ⟨by rfl, ?_⟩) (by assumption) ?_
  rotate_left
  · (intro w hSw; (try dsimp only at hSw); go_simp)
    try with_reducible rfl
  set_option linter.unusedSimpArgs false in (try simp only [List.getElem_toArray, List.getElem_cons_succ, List.getElem_cons_zero, Act.put, List.setIfInBounds_toArray, List.set_cons_zero, List.set_cons_succ])
  refine wpAnyH_take (i := 19) (oi := _) (v := ?_) rfl (by kernel_rfl) (by kernel_rfl) (by kernel_rfl) (fun _ _ _ h => h) (Or.inl ⟨by rfl, ?_⟩) (by assumption) ?_
  rotate_left
  · (intro w hSw; (try dsimp only at hSw); go_simp)
    try with_reducible rfl
  set_option linter.unusedSimpArgs false in (try simp only [List.getElem_toArray, List.getElem_cons_succ, List.getElem_cons_zero, Act.put, List.setIfInBounds_toArray, List.set_cons_zero, List.set_cons_succ])
  refine wpAnyH_ready (rs := [20]) (by kernel_rfl) (by simp) ?_
  refine AllReadyH.cons (o := _) rfl (fun K hK => ?_) AllReadyH.nil
  simp only [List.getElem_toArray, List.getElem_cons_succ, List.getElem_cons_zero]
  go_simp
  (go_at_call 19; have _q : Stage 6 := st; clear st _q; refine (awake_any _).mono ?_; rintro e x6 ⟨rfl, y6⟩; have v1 := ((bcell y6).1 _ _ (by exact u0)).trans u1; have v2 := ((bcell y6).1 _ _ (by exact u0)).trans u2; have v3 := ((bcell y6).1 _ _ (by exact u9)).trans u3; have v4 := ((bcell y6).1 _ _ (by exact u9)).trans u4; have v0 := Nat.lt_of_lt_of_le u0 y6.size; have v9 := Nat.lt_of_lt_of_le u9 y6.size; have st : Stage 7 := ⟨trivial⟩)
  go_wp2_with fail
  refine hK.out _ _ ⟨‹_›, ‹_›, ‹_›, ‹_›⟩ (fun hHeld => ?_)
  clear hK K
  set_option linter.unusedSimpArgs false in (try simp only [List.getElem_toArray, List.getElem_cons_succ, List.getElem_cons_zero, Act.put, List.setIfInBounds_toArray, List.set_cons_zero, List.set_cons_succ])
  refine wpAnyH_take (i := 21) (oi := _) (v := ?_) rfl (by kernel_rfl) (by kernel_rfl) (by kernel_rfl) (fun _ _ _ h => h) (Or.inl ⟨by rfl, ?_⟩) (by assumption) ?_
  rotate_left
  · (intro w hSw; (try dsimp only at hSw); go_simp)
    try with_reducible rfl
  set_option linter.unusedSimpArgs false in (try simp only [List.getElem_toArray, List.getElem_cons_succ, List.getElem_cons_zero, Act.put, List.setIfInBounds_toArray, List.set_cons_zero, List.set_cons_succ])
  refine wpAnyH_take (i := 22) (oi := _) (v := ?_) rfl (by kernel_rfl) (by kernel_rfl) (by kernel_rfl) (fun _ _ _ h => h) (Or.inl ⟨by rfl, ?_⟩) (by assumption) ?_
  rotate_left
  · (intro w hSw; (try dsimp only at hSw); go_simp)
    try with_reducible rfl
  set_option linter.unusedSimpArgs false in (try simp only [List.getElem_toArray, List.getElem_cons_succ, List.getElem_cons_zero, Act.put, List.setIfInBounds_toArray, List.set_cons_zero, List.set_cons_succ])
  refine wpAnyH_done (by kernel_rfl) ?_ _
  have HW' := Below.drew HW.out
  go_wp2
  go_ret
  exact Ret.mk rfl (Below.step (Below.step (Below.step (Below.step (Below.step (Below.step HW' y1) y2) y3) y4) y5) y6)

set_option maxHeartbeats 6000000 in
theorem sees_b_false (w : World) (v : List Int) (A : Option Addr) (cap : Nat) (hv : Ints w A v) (sc sd tc td : Int) (hfew : decide (v.length ≤ 100) = true) (hs : rightB sc sd = true) (ht : rightB tc td = false) (hx : coversB v tc td = false) : Calls Try.prog 10 #[.slice A v.length cap, .agg #[.int .i64 sc, .int .i64 sd], .agg #[.int .i64 tc, .int .i64 td]] w (Ret (.bool true) w) := by
  have HF := Lib.hid hfew
  have HY : Hid (coversB (seeL v sc sd) tc td = false) := Lib.hid (by rw [sees_eq, hx]; simp [moreB, hs, ht])
  have HX := Lib.hid hx
  have HQ := Lib.hid (sees_leq v sc sd)
  have HL := Lib.hid (seeL_len v sc sd)
  have HS := Lib.hid hs
  have HT := Lib.hid ht
  clear hfew hx hs ht
  have hv0 := (hv.alloc (.cells #[.int .i64 sc, .int .i64 sd] 23)).alloc (.cells #[.int .i64 tc, .int .i64 td] 23)
  go_enter Try.func10, Try.ntmps10
  go_wp2_with fail
  refine (few_is HF.out A cap _).mono ?_
  rintro e w1 ⟨rfl, hb1⟩
  have TS := ((Two.new w _ rfl sc sd 23).alloc _).below hb1
  have TT := (Two.new (w.alloc _) (w.heap.size + 1) (by simp) tc td 23).below hb1
  have hv1 := hv0.below hb1
  have H1 : Below w.heap.size w w1 := (by repeat (first | assumption | exact Below.refl _ _ | refine Below.alloc ?_ (by first | omega | (simp; done) | (simp; omega)) _ | refine Below.setCell ?_ (by first | omega | (simp; done) | (simp; omega)) _ | refine Below.drew ?_ | refine Below.drewN_ ?_ _ | refine Below.step ?_ (by assumption)))
  obtain ⟨s0, s1, s2⟩ := TS
  obtain ⟨t0, t1, t2⟩ := TT
  go_wp2_with fail
  refine (rright_is HS.out _).mono ?_
  rintro e w2 ⟨rfl, hb2⟩
  have TS := (show Two _ _ _ _ from ⟨s0, s1, s2⟩).below hb2
  have TT := (show Two _ _ _ _ from ⟨t0, t1, t2⟩).below hb2
  have hv2 := hv1.below hb2
  have H2 := Below.step H1 hb2
  clear s0 s1 s2 t0 t1 t2
  obtain ⟨s0, s1, s2⟩ := TS
  obtain ⟨t0, t1, t2⟩ := TT
  go_wp2_with fail
  refine (rright_is HT.out _).mono ?_
  rintro e w3 ⟨rfl, hb3⟩
  have TS := (show Two _ _ _ _ from ⟨s0, s1, s2⟩).below hb3
  have TT := (show Two _ _ _ _ from ⟨t0, t1, t2⟩).below hb3
  have hv3 := hv2.below hb3
  have H3 := Below.step H2 hb3
  clear s0 s1 s2 t0 t1 t2
  obtain ⟨s0, s1, s2⟩ := TS
  obtain ⟨t0, t1, t2⟩ := TT
  have p0 := s0
  have p1 := s1
  have p2 := s2
  have p9 := t0
  have p3 := t1
  have p4 := t2
  have st : Stage 1 := ⟨trivial⟩
  have HV := Lib.hid hv3
  have HW := Lib.hid H3
  clear s0 s1 s2 t0 t1 t2 hv0 hv1 hv2 hv3
  go_wp2_with fail
  first | (go_region_held3 (fun w' => w'.cell? ⟨w.heap.size, 0, none⟩ = some (.int .i64 sc) ∧ w'.cell? ⟨w.heap.size, 1, none⟩ = some (.int .i64 sd) ∧ w'.cell? ⟨w.heap.size + 1, 0, none⟩ = some (.int .i64 tc) ∧ w'.cell? ⟨w.heap.size + 1, 1, none⟩ = some (.int .i64 td))
      (first | exact ⟨‹_›, ‹_›, ‹_›, ‹_›⟩)
      (first
      | (go_at_call 28; have _q : Stage 1 := st; clear st _q; refine (see_any v A cap sc sd _ (by exact Ints.drew HV.out)).mono ?_; rintro e x1 ⟨g, k1, rfl, hg, hown, y1⟩; have q1 := ((bcell y1).1 _ _ (by exact p0)).trans p1; have q2 := ((bcell y1).1 _ _ (by exact p0)).trans p2; have q3 := ((bcell y1).1 _ _ (by exact p9)).trans p3; have q4 := ((bcell y1).1 _ _ (by exact p9)).trans p4; have q0 := Nat.lt_of_lt_of_le p0 y1.size; have q9 := Nat.lt_of_lt_of_le p9 y1.size; have HO := Lib.hid hown; clear hown; have V1 := Lib.hid (Ints.below (Ints.drew HV.out) y1); have st : Stage 2 := ⟨trivial⟩)
      | (go_at_call 21; have _q : Stage 2 := st; clear st _q; refine (covers_row HY.out HL.out k1 (Ints.of_row HL.out HO.out)).mono ?_; rintro e x2 ⟨rfl, y2⟩; have r1 := ((bcell y2).1 _ _ (by exact q0)).trans q1; have r2 := ((bcell y2).1 _ _ (by exact q0)).trans q2; have r3 := ((bcell y2).1 _ _ (by exact q9)).trans q3; have r4 := ((bcell y2).1 _ _ (by exact q9)).trans q4; have r0 := Nat.lt_of_lt_of_le q0 y2.size; have r9 := Nat.lt_of_lt_of_le q9 y2.size; have V2 := Lib.hid (V1.out.below y2); have st : Stage 3 := ⟨trivial⟩)
      | (go_at_call 21; have _q : Stage 3 := st; clear st _q; refine (covers_is HX.out cap V2.out).mono ?_; rintro e x3 ⟨rfl, y3⟩; have s1 := ((bcell y3).1 _ _ (by exact r0)).trans r1; have s2 := ((bcell y3).1 _ _ (by exact r0)).trans r2; have s3 := ((bcell y3).1 _ _ (by exact r9)).trans r3; have s4 := ((bcell y3).1 _ _ (by exact r9)).trans r4; have s0 := Nat.lt_of_lt_of_le r0 y3.size; have s9 := Nat.lt_of_lt_of_le r9 y3.size; have V3 := Lib.hid (V2.out.below y3); have st : Stage 4 := ⟨trivial⟩)
      | (go_at_call 28; have _q : Stage 4 := st; clear st _q; refine (see_any v A cap sc sd _ V3.out).mono ?_; rintro e x4 ⟨g4, k4, rfl, hg4, hown, y4⟩; have t1 := ((bcell y4).1 _ _ (by exact s0)).trans s1; have t2 := ((bcell y4).1 _ _ (by exact s0)).trans s2; have t3 := ((bcell y4).1 _ _ (by exact s9)).trans s3; have t4 := ((bcell y4).1 _ _ (by exact s9)).trans s4; have t0 := Nat.lt_of_lt_of_le s0 y4.size; have t9 := Nat.lt_of_lt_of_le s9 y4.size; have HO4 := Lib.hid hown; clear hown; have V4 := Lib.hid (V3.out.below y4); have st : Stage 5 := ⟨trivial⟩)
      | (go_at_call 23; have _q : Stage 5 := st; clear st _q; refine (leq_row_right HQ.out HL.out cap k4 V4.out (Ints.of_row HL.out HO4.out)).mono ?_; rintro e x5 ⟨rfl, y5⟩; have u1 := ((bcell y5).1 _ _ (by exact t0)).trans t1; have u2 := ((bcell y5).1 _ _ (by exact t0)).trans t2; have u3 := ((bcell y5).1 _ _ (by exact t9)).trans t3; have u4 := ((bcell y5).1 _ _ (by exact t9)).trans t4; have u0 := Nat.lt_of_lt_of_le t0 y5.size; have u9 := Nat.lt_of_lt_of_le t9 y5.size; have st : Stage 6 := ⟨trivial⟩)
      | (go_at_call 19; have _q : Stage 6 := st; clear st _q; refine (awake_any _).mono ?_; rintro e x6 ⟨rfl, y6⟩; have v1 := ((bcell y6).1 _ _ (by exact u0)).trans u1; have v2 := ((bcell y6).1 _ _ (by exact u0)).trans u2; have v3 := ((bcell y6).1 _ _ (by exact u9)).trans u3; have v4 := ((bcell y6).1 _ _ (by exact u9)).trans u4; have v0 := Nat.lt_of_lt_of_le u0 y6.size; have v9 := Nat.lt_of_lt_of_le u9 y6.size; have st : Stage 7 := ⟨trivial⟩))) | fail
  have HW' := Below.drew HW.out
  go_wp2
  go_ret
  exact Ret.mk rfl (Below.step (Below.step (Below.step (Below.step (Below.step (Below.step HW' y1) y2) y3) y4) y5) y6)

set_option maxHeartbeats 6000000 in
theorem sees_c_true (w : World) (v : List Int) (A : Option Addr) (cap : Nat) (hv : Ints w A v) (sc sd tc td : Int) (hfew : decide (v.length ≤ 100) = true) (hs : rightB sc sd = true) (ht : rightB tc td = true) (hd : (sd == td) = false) (hx : coversB v tc td = true) : Calls Try.prog 10 #[.slice A v.length cap, .agg #[.int .i64 sc, .int .i64 sd], .agg #[.int .i64 tc, .int .i64 td]] w (Ret (.bool true) w) := by
  have HF := Lib.hid hfew
  have HY : Hid (coversB (seeL v sc sd) tc td = true) := Lib.hid (by rw [sees_eq, hx]; simp [moreB, hs, ht, hd])
  have HX := Lib.hid hx
  have HQ := Lib.hid (sees_leq v sc sd)
  have HL := Lib.hid (seeL_len v sc sd)
  have HS := Lib.hid hs
  have HT := Lib.hid ht
  clear hfew hx hs ht
  have hv0 := (hv.alloc (.cells #[.int .i64 sc, .int .i64 sd] 23)).alloc (.cells #[.int .i64 tc, .int .i64 td] 23)
  go_enter Try.func10, Try.ntmps10
  go_wp2_with fail
  refine (few_is HF.out A cap _).mono ?_
  rintro e w1 ⟨rfl, hb1⟩
  have TS := ((Two.new w _ rfl sc sd 23).alloc _).below hb1
  have TT := (Two.new (w.alloc _) (w.heap.size + 1) (by simp) tc td 23).below hb1
  have hv1 := hv0.below hb1
  have H1 : Below w.heap.size w w1 := (by repeat (first | assumption | exact Below.refl _ _ | refine Below.alloc ?_ (by first | omega | (simp; done) | (simp; omega)) _ | refine Below.setCell ?_ (by first | omega | (simp; done) | (simp; omega)) _ | refine Below.drew ?_ | refine Below.drewN_ ?_ _ | refine Below.step ?_ (by assumption)))
  obtain ⟨s0, s1, s2⟩ := TS
  obtain ⟨t0, t1, t2⟩ := TT
  go_wp2_with fail
  refine (rright_is HS.out _).mono ?_
  rintro e w2 ⟨rfl, hb2⟩
  have TS := (show Two _ _ _ _ from ⟨s0, s1, s2⟩).below hb2
  have TT := (show Two _ _ _ _ from ⟨t0, t1, t2⟩).below hb2
  have hv2 := hv1.below hb2
  have H2 := Below.step H1 hb2
  clear s0 s1 s2 t0 t1 t2
  obtain ⟨s0, s1, s2⟩ := TS
  obtain ⟨t0, t1, t2⟩ := TT
  go_wp2_with fail
  refine (rright_is HT.out _).mono ?_
  rintro e w3 ⟨rfl, hb3⟩
  have TS := (show Two _ _ _ _ from ⟨s0, s1, s2⟩).below hb3
  have TT := (show Two _ _ _ _ from ⟨t0, t1, t2⟩).below hb3
  have hv3 := hv2.below hb3
  have H3 := Below.step H2 hb3
  clear s0 s1 s2 t0 t1 t2
  obtain ⟨s0, s1, s2⟩ := TS
  obtain ⟨t0, t1, t2⟩ := TT
  have p0 := s0
  have p1 := s1
  have p2 := s2
  have p9 := t0
  have p3 := t1
  have p4 := t2
  have st : Stage 1 := ⟨trivial⟩
  have HV := Lib.hid hv3
  have HW := Lib.hid H3
  clear s0 s1 s2 t0 t1 t2 hv0 hv1 hv2 hv3
  go_wp2_with fail
  refine wp_region_held_drew (S := (fun w' => w'.cell? ⟨w.heap.size, 0, none⟩ = some (.int .i64 sc) ∧ w'.cell? ⟨w.heap.size, 1, none⟩ = some (.int .i64 sd) ∧ w'.cell? ⟨w.heap.size + 1, 0, none⟩ = some (.int .i64 tc) ∧ w'.cell? ⟨w.heap.size + 1, 1, none⟩ = some (.int .i64 td))) (by kernel_rfl) ⟨‹_›, ‹_›, ‹_›, ‹_›⟩ (fun hHeld => ?_)
  refine wpAnyH_take (i := 0) (oi := _) (v := ?_) rfl (by kernel_rfl) (by kernel_rfl) (by kernel_rfl) (fun _ _ _ h => h) (Or.inl ⟨by rfl, ?_⟩) (by assumption) ?_
  rotate_left
  · (intro w hSw; (try dsimp only at hSw); go_simp)
    try with_reducible rfl
  set_option linter.unusedSimpArgs false in (try simp only [List.getElem_toArray, List.getElem_cons_succ, List.getElem_cons_zero, Act.put, List.setIfInBounds_toArray, List.set_cons_zero, List.set_cons_succ])
  refine wpAnyH_take (i := 1) (oi := _) (v := ?_) rfl (by kernel_rfl) (by kernel_rfl) (by kernel_rfl) (fun _ _ _ h => h) (Or.inl ⟨by rfl, ?_⟩) (by assumption) ?_
  rotate_left
  · (intro w hSw; (try dsimp only at hSw); go_simp)
    try with_reducible rfl
  set_option linter.unusedSimpArgs false in (try simp only [List.getElem_toArray, List.getElem_cons_succ, List.getElem_cons_zero, Act.put, List.setIfInBounds_toArray, List.set_cons_zero, List.set_cons_succ])
  refine wpAnyH_take (i := 3) (oi := _) (v := ?_) rfl (by kernel_rfl) (by kernel_rfl) (by kernel_rfl) (fun _ _ _ h => h) (Or.inl ⟨by rfl, ?_⟩) (by assumption) ?_
  rotate_left
  · (intro w hSw; (try dsimp only at hSw); go_simp)
    try with_reducible rfl
  set_option linter.unusedSimpArgs false in (try simp only [List.getElem_toArray, List.getElem_cons_succ, List.getElem_cons_zero, Act.put, List.setIfInBounds_toArray, List.set_cons_zero, List.set_cons_succ])
  refine wpAnyH_take (i := 5) (oi := _) (v := ?_) rfl (by kernel_rfl) (by kernel_rfl) (by kernel_rfl) (fun _ _ _ h => h) (Or.inl ⟨by rfl, ?_⟩) (by assumption) ?_
  rotate_left
  · (intro w hSw; (try dsimp only at hSw); go_simp)
    try with_reducible rfl
  set_option linter.unusedSimpArgs false in (try simp only [List.getElem_toArray, List.getElem_cons_succ, List.getElem_cons_zero, Act.put, List.setIfInBounds_toArray, List.set_cons_zero, List.set_cons_succ])
  refine wpAnyH_take (i := 6) (oi := _) (v := ?_) rfl (by kernel_rfl) (by kernel_rfl) (by kernel_rfl) (fun _ _ _ h => h) (Or.inl ⟨by rfl, ?_⟩) (by assumption) ?_
  rotate_left
  · (intro w hSw; (try dsimp only at hSw); go_simp)
    try with_reducible rfl
  set_option linter.unusedSimpArgs false in (try simp only [List.getElem_toArray, List.getElem_cons_succ, List.getElem_cons_zero, Act.put, List.setIfInBounds_toArray, List.set_cons_zero, List.set_cons_succ])
  refine wpAnyH_ready (rs := [2]) (by kernel_rfl) (by simp) ?_
  refine AllReadyH.cons (o := _) rfl (fun K hK => ?_) AllReadyH.nil
  simp only [List.getElem_toArray, List.getElem_cons_succ, List.getElem_cons_zero]
  go_simp
  (go_at_call 28; have _q : Stage 1 := st; clear st _q; refine (see_any v A cap sc sd _ (by exact Ints.drew HV.out)).mono ?_; rintro e x1 ⟨g, k1, rfl, hg, hown, y1⟩; have q1 := ((bcell y1).1 _ _ (by exact p0)).trans p1; have q2 := ((bcell y1).1 _ _ (by exact p0)).trans p2; have q3 := ((bcell y1).1 _ _ (by exact p9)).trans p3; have q4 := ((bcell y1).1 _ _ (by exact p9)).trans p4; have q0 := Nat.lt_of_lt_of_le p0 y1.size; have q9 := Nat.lt_of_lt_of_le p9 y1.size; have HO := Lib.hid hown; clear hown; have V1 := Lib.hid (Ints.below (Ints.drew HV.out) y1); have st : Stage 2 := ⟨trivial⟩)
  go_wp2_with fail
  refine hK.out _ _ ⟨‹_›, ‹_›, ‹_›, ‹_›⟩ (fun hHeld => ?_)
  clear hK K
  set_option linter.unusedSimpArgs false in (try simp only [List.getElem_toArray, List.getElem_cons_succ, List.getElem_cons_zero, Act.put, List.setIfInBounds_toArray, List.set_cons_zero, List.set_cons_succ])
  refine wpAnyH_ready (rs := [4]) (by kernel_rfl) (by simp) ?_
  refine AllReadyH.cons (o := _) rfl (fun K hK => ?_) AllReadyH.nil
  simp only [List.getElem_toArray, List.getElem_cons_succ, List.getElem_cons_zero]
  go_simp
  (go_at_call 21; have _q : Stage 2 := st; clear st _q; refine (covers_row HY.out HL.out k1 (Ints.of_row HL.out HO.out)).mono ?_; rintro e x2 ⟨rfl, y2⟩; have r1 := ((bcell y2).1 _ _ (by exact q0)).trans q1; have r2 := ((bcell y2).1 _ _ (by exact q0)).trans q2; have r3 := ((bcell y2).1 _ _ (by exact q9)).trans q3; have r4 := ((bcell y2).1 _ _ (by exact q9)).trans q4; have r0 := Nat.lt_of_lt_of_le q0 y2.size; have r9 := Nat.lt_of_lt_of_le q9 y2.size; have V2 := Lib.hid (V1.out.below y2); have st : Stage 3 := ⟨trivial⟩)
  go_wp2_with fail
  refine hK.out _ _ ⟨‹_›, ‹_›, ‹_›, ‹_›⟩ (fun hHeld => ?_)
  clear hK K
  set_option linter.unusedSimpArgs false in (try simp only [List.getElem_toArray, List.getElem_cons_succ, List.getElem_cons_zero, Act.put, List.setIfInBounds_toArray, List.set_cons_zero, List.set_cons_succ])
  refine wpAnyH_ready (rs := [7]) (by kernel_rfl) (by simp) ?_
  refine AllReadyH.cons (o := _) rfl (fun K hK => ?_) AllReadyH.nil
  simp only [List.getElem_toArray, List.getElem_cons_succ, List.getElem_cons_zero]
  go_simp
  (go_at_call 21; have _q : Stage 3 := st; clear st _q; refine (covers_is HX.out cap V2.out).mono ?_; rintro e x3 ⟨rfl, y3⟩; have s1 := ((bcell y3).1 _ _ (by exact r0)).trans r1; have s2 := ((bcell y3).1 _ _ (by exact r0)).trans r2; have s3 := ((bcell y3).1 _ _ (by exact r9)).trans r3; have s4 := ((bcell y3).1 _ _ (by exact r9)).trans r4; have s0 := Nat.lt_of_lt_of_le r0 y3.size; have s9 := Nat.lt_of_lt_of_le r9 y3.size; have V3 := Lib.hid (V2.out.below y3); have st : Stage 4 := ⟨trivial⟩)
  go_wp2_with fail
  refine hK.out _ _ ⟨‹_›, ‹_›, ‹_›, ‹_›⟩ (fun hHeld => ?_)
  clear hK K
  set_option linter.unusedSimpArgs false in (try simp only [List.getElem_toArray, List.getElem_cons_succ, List.getElem_cons_zero, Act.put, List.setIfInBounds_toArray, List.set_cons_zero, List.set_cons_succ])
  refine wpAnyH_take (i := 8) (oi := _) (v := ?_) rfl (by kernel_rfl) (by kernel_rfl) (by kernel_rfl) (fun _ _ _ h => h) (Or.inl ⟨by rfl, ?_⟩) (by assumption) ?_
  rotate_left
  · (intro w hSw; (try dsimp only at hSw); go_simp)
    try with_reducible rfl
  set_option linter.unusedSimpArgs false in (try simp only [List.getElem_toArray, List.getElem_cons_succ, List.getElem_cons_zero, Act.put, List.setIfInBounds_toArray, List.set_cons_zero, List.set_cons_succ])
  refine wpAnyH_take (i := 9) (oi := _) (v := _) rfl (by kernel_rfl) (by kernel_rfl) (by kernel_rfl) (fun _ _ _ h => h) (Or.inr ⟨by rfl, rfl⟩) (by assumption) ?_
  set_option linter.unusedSimpArgs false in (try simp only [List.getElem_toArray, List.getElem_cons_succ, List.getElem_cons_zero, Act.put, List.setIfInBounds_toArray, List.set_cons_zero, List.set_cons_succ])
  refine wpAnyH_take (i := 10) (oi := _) (v := ?_) rfl (by kernel_rfl) (by kernel_rfl) (by kernel_rfl) (fun _ _ _ h => h) (Or.inl ⟨by rfl, ?_⟩) (by assumption) ?_
  rotate_left
  · (intro w hSw; (try dsimp only at hSw); go_simp)
    try with_reducible rfl
  set_option linter.unusedSimpArgs false in (try simp only [List.getElem_toArray, List.getElem_cons_succ, List.getElem_cons_zero, Act.put, List.setIfInBounds_toArray, List.set_cons_zero, List.set_cons_succ])
  refine wpAnyH_take (i := 11) (oi := _) (v := ?_) rfl (by kernel_rfl) (by kernel_rfl) (by kernel_rfl) (fun _ _ _ h => h) (Or.inl ⟨by rfl, ?_⟩) (by assumption) ?_
  rotate_left
  · (intro w hSw; (try dsimp only at hSw); go_simp)
    try with_reducible rfl
  set_option linter.unusedSimpArgs false in (try simp only [List.getElem_toArray, List.getElem_cons_succ, List.getElem_cons_zero, Act.put, List.setIfInBounds_toArray, List.set_cons_zero, List.set_cons_succ])
  refine wpAnyH_take (i := 12) (oi := _) (v := ?_) rfl (by kernel_rfl) (by kernel_rfl) (by kernel_rfl) (fun _ _ _ h => h) (Or.inl ⟨by rfl, ?_⟩) (by assumption) ?_
  rotate_left
  · (intro w hSw; (try dsimp only at hSw); go_simp)
    try with_reducible rfl
  set_option linter.unusedSimpArgs false in (try simp only [List.getElem_toArray, List.getElem_cons_succ, List.getElem_cons_zero, Act.put, List.setIfInBounds_toArray, List.set_cons_zero, List.set_cons_succ])
  refine wpAnyH_take (i := 13) (oi := _) (v := ?_) rfl (by kernel_rfl) (by kernel_rfl) (by kernel_rfl) (fun _ _ _ h => h) (Or.inl ⟨by rfl, ?_⟩) (by assumption) ?_
  rotate_left
  · (intro w hSw; (try dsimp only at hSw); go_simp)
    try with_reducible rfl
  set_option linter.unusedSimpArgs false in (try simp only [List.getElem_toArray, List.getElem_cons_succ, List.getElem_cons_zero, Act.put, List.setIfInBounds_toArray, List.set_cons_zero, List.set_cons_succ])
  refine wpAnyH_take (i := 14) (oi := _) (v := ?_) rfl (by kernel_rfl) (by kernel_rfl) (by kernel_rfl) (fun _ _ _ h => h) (Or.inl ⟨by rfl, ?_⟩) (by assumption) ?_
  rotate_left
  · (intro w hSw; (try dsimp only at hSw); go_simp)
    try with_reducible rfl
  set_option linter.unusedSimpArgs false in (try simp only [List.getElem_toArray, List.getElem_cons_succ, List.getElem_cons_zero, Act.put, List.setIfInBounds_toArray, List.set_cons_zero, List.set_cons_succ])
  refine wpAnyH_take (i := 15) (oi := _) (v := ?_) rfl (by kernel_rfl) (by kernel_rfl) (by kernel_rfl) (fun _ _ _ h => h) (Or.inl ⟨by rfl, ?_⟩) (by assumption) ?_
  rotate_left
  · (intro w hSw; (try dsimp only at hSw); go_simp)
    try with_reducible rfl
  set_option linter.unusedSimpArgs false in (try simp only [List.getElem_toArray, List.getElem_cons_succ, List.getElem_cons_zero, Act.put, List.setIfInBounds_toArray, List.set_cons_zero, List.set_cons_succ])
  refine wpAnyH_ready (rs := [16]) (by kernel_rfl) (by simp) ?_
  refine AllReadyH.cons (o := _) rfl (fun K hK => ?_) AllReadyH.nil
  simp only [List.getElem_toArray, List.getElem_cons_succ, List.getElem_cons_zero]
  go_simp
  (go_at_call 28; have _q : Stage 4 := st; clear st _q; refine (see_any v A cap sc sd _ V3.out).mono ?_; rintro e x4 ⟨g4, k4, rfl, hg4, hown, y4⟩; have t1 := ((bcell y4).1 _ _ (by exact s0)).trans s1; have t2 := ((bcell y4).1 _ _ (by exact s0)).trans s2; have t3 := ((bcell y4).1 _ _ (by exact s9)).trans s3; have t4 := ((bcell y4).1 _ _ (by exact s9)).trans s4; have t0 := Nat.lt_of_lt_of_le s0 y4.size; have t9 := Nat.lt_of_lt_of_le s9 y4.size; have HO4 := Lib.hid hown; clear hown; have V4 := Lib.hid (V3.out.below y4); have st : Stage 5 := ⟨trivial⟩)
  go_wp2_with fail
  refine hK.out _ _ ⟨‹_›, ‹_›, ‹_›, ‹_›⟩ (fun hHeld => ?_)
  clear hK K
  set_option linter.unusedSimpArgs false in (try simp only [List.getElem_toArray, List.getElem_cons_succ, List.getElem_cons_zero, Act.put, List.setIfInBounds_toArray, List.set_cons_zero, List.set_cons_succ])
  refine wpAnyH_ready (rs := [17]) (by kernel_rfl) (by simp) ?_
  refine AllReadyH.cons (o := _) rfl (fun K hK => ?_) AllReadyH.nil
  simp only [List.getElem_toArray, List.getElem_cons_succ, List.getElem_cons_zero]
  go_simp
  (go_at_call 23; have _q : Stage 5 := st; clear st _q; refine (leq_row_right HQ.out HL.out cap k4 V4.out (Ints.of_row HL.out HO4.out)).mono ?_; rintro e x5 ⟨rfl, y5⟩; have u1 := ((bcell y5).1 _ _ (by exact t0)).trans t1; have u2 := ((bcell y5).1 _ _ (by exact t0)).trans t2; have u3 := ((bcell y5).1 _ _ (by exact t9)).trans t3; have u4 := ((bcell y5).1 _ _ (by exact t9)).trans t4; have u0 := Nat.lt_of_lt_of_le t0 y5.size; have u9 := Nat.lt_of_lt_of_le t9 y5.size; have st : Stage 6 := ⟨trivial⟩)
  go_wp2_with fail
  refine hK.out _ _ ⟨‹_›, ‹_›, ‹_›, ‹_›⟩ (fun hHeld => ?_)
  clear hK K
  set_option linter.unusedSimpArgs false in (try simp only [List.getElem_toArray, List.getElem_cons_succ, List.getElem_cons_zero, Act.put, List.setIfInBounds_toArray, List.set_cons_zero, List.set_cons_succ])
  refine wpAnyH_take (i := 18) (oi := _) (v := ?_) rfl (by kernel_rfl) (by kernel_rfl) (by kernel_rfl) (fun _ _ _ h => h) (Or.inl ⟨by rfl, ?_⟩) (by assumption) ?_
  rotate_left
  · (intro w hSw; (try dsimp only at hSw); go_simp)
    try with_reducible rfl
  set_option linter.unusedSimpArgs false in (try simp only [List.getElem_toArray, List.getElem_cons_succ, List.getElem_cons_zero, Act.put, List.setIfInBounds_toArray, List.set_cons_zero, List.set_cons_succ])
  refine wpAnyH_take (i := 19) (oi := _) (v := ?_) rfl (by kernel_rfl) (by kernel_rfl) (by kernel_rfl) (fun _ _ _ h => h) (Or.inl ⟨by rfl, ?_⟩) (by assumption) ?_
  rotate_left
  · (intro w hSw; (try dsimp only at hSw); go_simp)
    try with_reducible rfl
  set_option linter.unusedSimpArgs false in (try simp only [List.getElem_toArray, List.getElem_cons_succ, List.getElem_cons_zero, Act.put, List.setIfInBounds_toArray, List.set_cons_zero, List.set_cons_succ])
  refine wpAnyH_ready (rs := [20]) (by kernel_rfl) (by simp) ?_
  refine AllReadyH.cons (o := _) rfl (fun K hK => ?_) AllReadyH.nil
  simp only [List.getElem_toArray, List.getElem_cons_succ, List.getElem_cons_zero]
  go_simp
  (go_at_call 19; have _q : Stage 6 := st; clear st _q; refine (awake_any _).mono ?_; rintro e x6 ⟨rfl, y6⟩; have v1 := ((bcell y6).1 _ _ (by exact u0)).trans u1; have v2 := ((bcell y6).1 _ _ (by exact u0)).trans u2; have v3 := ((bcell y6).1 _ _ (by exact u9)).trans u3; have v4 := ((bcell y6).1 _ _ (by exact u9)).trans u4; have v0 := Nat.lt_of_lt_of_le u0 y6.size; have v9 := Nat.lt_of_lt_of_le u9 y6.size; have st : Stage 7 := ⟨trivial⟩)
  go_wp2_with fail
  refine hK.out _ _ ⟨‹_›, ‹_›, ‹_›, ‹_›⟩ (fun hHeld => ?_)
  clear hK K
  set_option linter.unusedSimpArgs false in (try simp only [List.getElem_toArray, List.getElem_cons_succ, List.getElem_cons_zero, Act.put, List.setIfInBounds_toArray, List.set_cons_zero, List.set_cons_succ])
  refine wpAnyH_take (i := 21) (oi := _) (v := ?_) rfl (by kernel_rfl) (by kernel_rfl) (by kernel_rfl) (fun _ _ _ h => h) (Or.inl ⟨by rfl, ?_⟩) (by assumption) ?_
  rotate_left
  · (intro w hSw; (try dsimp only at hSw); go_simp)
    try with_reducible rfl
  set_option linter.unusedSimpArgs false in (try simp only [List.getElem_toArray, List.getElem_cons_succ, List.getElem_cons_zero, Act.put, List.setIfInBounds_toArray, List.set_cons_zero, List.set_cons_succ])
  refine wpAnyH_take (i := 22) (oi := _) (v := ?_) rfl (by kernel_rfl) (by kernel_rfl) (by kernel_rfl) (fun _ _ _ h => h) (Or.inl ⟨by rfl, ?_⟩) (by assumption) ?_
  rotate_left
  · (intro w hSw; (try dsimp only at hSw); go_simp)
    try with_reducible rfl
  set_option linter.unusedSimpArgs false in (try simp only [List.getElem_toArray, List.getElem_cons_succ, List.getElem_cons_zero, Act.put, List.setIfInBounds_toArray, List.set_cons_zero, List.set_cons_succ])
  refine wpAnyH_done (by kernel_rfl) ?_ _
  have HW' := Below.drew HW.out
  go_wp2
  go_ret
  exact Ret.mk rfl (Below.step (Below.step (Below.step (Below.step (Below.step (Below.step HW' y1) y2) y3) y4) y5) y6)

set_option maxHeartbeats 6000000 in
theorem sees_c_false (w : World) (v : List Int) (A : Option Addr) (cap : Nat) (hv : Ints w A v) (sc sd tc td : Int) (hfew : decide (v.length ≤ 100) = true) (hs : rightB sc sd = true) (ht : rightB tc td = true) (hd : (sd == td) = false) (hx : coversB v tc td = false) : Calls Try.prog 10 #[.slice A v.length cap, .agg #[.int .i64 sc, .int .i64 sd], .agg #[.int .i64 tc, .int .i64 td]] w (Ret (.bool true) w) := by
  have HF := Lib.hid hfew
  have HY : Hid (coversB (seeL v sc sd) tc td = false) := Lib.hid (by rw [sees_eq, hx]; simp [moreB, hs, ht, hd])
  have HX := Lib.hid hx
  have HQ := Lib.hid (sees_leq v sc sd)
  have HL := Lib.hid (seeL_len v sc sd)
  have HS := Lib.hid hs
  have HT := Lib.hid ht
  clear hfew hx hs ht
  have hv0 := (hv.alloc (.cells #[.int .i64 sc, .int .i64 sd] 23)).alloc (.cells #[.int .i64 tc, .int .i64 td] 23)
  go_enter Try.func10, Try.ntmps10
  go_wp2_with fail
  refine (few_is HF.out A cap _).mono ?_
  rintro e w1 ⟨rfl, hb1⟩
  have TS := ((Two.new w _ rfl sc sd 23).alloc _).below hb1
  have TT := (Two.new (w.alloc _) (w.heap.size + 1) (by simp) tc td 23).below hb1
  have hv1 := hv0.below hb1
  have H1 : Below w.heap.size w w1 := (by repeat (first | assumption | exact Below.refl _ _ | refine Below.alloc ?_ (by first | omega | (simp; done) | (simp; omega)) _ | refine Below.setCell ?_ (by first | omega | (simp; done) | (simp; omega)) _ | refine Below.drew ?_ | refine Below.drewN_ ?_ _ | refine Below.step ?_ (by assumption)))
  obtain ⟨s0, s1, s2⟩ := TS
  obtain ⟨t0, t1, t2⟩ := TT
  go_wp2_with fail
  refine (rright_is HS.out _).mono ?_
  rintro e w2 ⟨rfl, hb2⟩
  have TS := (show Two _ _ _ _ from ⟨s0, s1, s2⟩).below hb2
  have TT := (show Two _ _ _ _ from ⟨t0, t1, t2⟩).below hb2
  have hv2 := hv1.below hb2
  have H2 := Below.step H1 hb2
  clear s0 s1 s2 t0 t1 t2
  obtain ⟨s0, s1, s2⟩ := TS
  obtain ⟨t0, t1, t2⟩ := TT
  go_wp2_with fail
  refine (rright_is HT.out _).mono ?_
  rintro e w3 ⟨rfl, hb3⟩
  have TS := (show Two _ _ _ _ from ⟨s0, s1, s2⟩).below hb3
  have TT := (show Two _ _ _ _ from ⟨t0, t1, t2⟩).below hb3
  have hv3 := hv2.below hb3
  have H3 := Below.step H2 hb3
  clear s0 s1 s2 t0 t1 t2
  obtain ⟨s0, s1, s2⟩ := TS
  obtain ⟨t0, t1, t2⟩ := TT
  have p0 := s0
  have p1 := s1
  have p2 := s2
  have p9 := t0
  have p3 := t1
  have p4 := t2
  have st : Stage 1 := ⟨trivial⟩
  have HV := Lib.hid hv3
  have HW := Lib.hid H3
  clear s0 s1 s2 t0 t1 t2 hv0 hv1 hv2 hv3
  go_wp2_with fail
  first | (go_region_held3 (fun w' => w'.cell? ⟨w.heap.size, 0, none⟩ = some (.int .i64 sc) ∧ w'.cell? ⟨w.heap.size, 1, none⟩ = some (.int .i64 sd) ∧ w'.cell? ⟨w.heap.size + 1, 0, none⟩ = some (.int .i64 tc) ∧ w'.cell? ⟨w.heap.size + 1, 1, none⟩ = some (.int .i64 td))
      (first | exact ⟨‹_›, ‹_›, ‹_›, ‹_›⟩)
      (first
      | (go_at_call 28; have _q : Stage 1 := st; clear st _q; refine (see_any v A cap sc sd _ (by exact Ints.drew HV.out)).mono ?_; rintro e x1 ⟨g, k1, rfl, hg, hown, y1⟩; have q1 := ((bcell y1).1 _ _ (by exact p0)).trans p1; have q2 := ((bcell y1).1 _ _ (by exact p0)).trans p2; have q3 := ((bcell y1).1 _ _ (by exact p9)).trans p3; have q4 := ((bcell y1).1 _ _ (by exact p9)).trans p4; have q0 := Nat.lt_of_lt_of_le p0 y1.size; have q9 := Nat.lt_of_lt_of_le p9 y1.size; have HO := Lib.hid hown; clear hown; have V1 := Lib.hid (Ints.below (Ints.drew HV.out) y1); have st : Stage 2 := ⟨trivial⟩)
      | (go_at_call 21; have _q : Stage 2 := st; clear st _q; refine (covers_row HY.out HL.out k1 (Ints.of_row HL.out HO.out)).mono ?_; rintro e x2 ⟨rfl, y2⟩; have r1 := ((bcell y2).1 _ _ (by exact q0)).trans q1; have r2 := ((bcell y2).1 _ _ (by exact q0)).trans q2; have r3 := ((bcell y2).1 _ _ (by exact q9)).trans q3; have r4 := ((bcell y2).1 _ _ (by exact q9)).trans q4; have r0 := Nat.lt_of_lt_of_le q0 y2.size; have r9 := Nat.lt_of_lt_of_le q9 y2.size; have V2 := Lib.hid (V1.out.below y2); have st : Stage 3 := ⟨trivial⟩)
      | (go_at_call 21; have _q : Stage 3 := st; clear st _q; refine (covers_is HX.out cap V2.out).mono ?_; rintro e x3 ⟨rfl, y3⟩; have s1 := ((bcell y3).1 _ _ (by exact r0)).trans r1; have s2 := ((bcell y3).1 _ _ (by exact r0)).trans r2; have s3 := ((bcell y3).1 _ _ (by exact r9)).trans r3; have s4 := ((bcell y3).1 _ _ (by exact r9)).trans r4; have s0 := Nat.lt_of_lt_of_le r0 y3.size; have s9 := Nat.lt_of_lt_of_le r9 y3.size; have V3 := Lib.hid (V2.out.below y3); have st : Stage 4 := ⟨trivial⟩)
      | (go_at_call 28; have _q : Stage 4 := st; clear st _q; refine (see_any v A cap sc sd _ V3.out).mono ?_; rintro e x4 ⟨g4, k4, rfl, hg4, hown, y4⟩; have t1 := ((bcell y4).1 _ _ (by exact s0)).trans s1; have t2 := ((bcell y4).1 _ _ (by exact s0)).trans s2; have t3 := ((bcell y4).1 _ _ (by exact s9)).trans s3; have t4 := ((bcell y4).1 _ _ (by exact s9)).trans s4; have t0 := Nat.lt_of_lt_of_le s0 y4.size; have t9 := Nat.lt_of_lt_of_le s9 y4.size; have HO4 := Lib.hid hown; clear hown; have V4 := Lib.hid (V3.out.below y4); have st : Stage 5 := ⟨trivial⟩)
      | (go_at_call 23; have _q : Stage 5 := st; clear st _q; refine (leq_row_right HQ.out HL.out cap k4 V4.out (Ints.of_row HL.out HO4.out)).mono ?_; rintro e x5 ⟨rfl, y5⟩; have u1 := ((bcell y5).1 _ _ (by exact t0)).trans t1; have u2 := ((bcell y5).1 _ _ (by exact t0)).trans t2; have u3 := ((bcell y5).1 _ _ (by exact t9)).trans t3; have u4 := ((bcell y5).1 _ _ (by exact t9)).trans t4; have u0 := Nat.lt_of_lt_of_le t0 y5.size; have u9 := Nat.lt_of_lt_of_le t9 y5.size; have st : Stage 6 := ⟨trivial⟩)
      | (go_at_call 19; have _q : Stage 6 := st; clear st _q; refine (awake_any _).mono ?_; rintro e x6 ⟨rfl, y6⟩; have v1 := ((bcell y6).1 _ _ (by exact u0)).trans u1; have v2 := ((bcell y6).1 _ _ (by exact u0)).trans u2; have v3 := ((bcell y6).1 _ _ (by exact u9)).trans u3; have v4 := ((bcell y6).1 _ _ (by exact u9)).trans u4; have v0 := Nat.lt_of_lt_of_le u0 y6.size; have v9 := Nat.lt_of_lt_of_le u9 y6.size; have st : Stage 7 := ⟨trivial⟩))) | fail
  have HW' := Below.drew HW.out
  go_wp2
  go_ret
  exact Ret.mk rfl (Below.step (Below.step (Below.step (Below.step (Below.step (Below.step HW' y1) y2) y3) y4) y5) y6)

set_option maxHeartbeats 6000000 in
theorem sees_d_true (w : World) (v : List Int) (A : Option Addr) (cap : Nat) (hv : Ints w A v) (sc sd tc td : Int) (hfew : decide (v.length ≤ 100) = true) (hs : rightB sc sd = true) (ht : rightB tc td = true) (hd : (sd == td) = true) (hc : decide (tc ≤ sc) = false) (hx : coversB v tc td = true) : Calls Try.prog 10 #[.slice A v.length cap, .agg #[.int .i64 sc, .int .i64 sd], .agg #[.int .i64 tc, .int .i64 td]] w (Ret (.bool true) w) := by
  have HF := Lib.hid hfew
  have HY : Hid (coversB (seeL v sc sd) tc td = true) := Lib.hid (by rw [sees_eq, hx]; simp [moreB, hs, ht, hd, hc])
  have HX := Lib.hid hx
  have HQ := Lib.hid (sees_leq v sc sd)
  have HL := Lib.hid (seeL_len v sc sd)
  have HS := Lib.hid hs
  have HT := Lib.hid ht
  clear hfew hx hs ht
  have hv0 := (hv.alloc (.cells #[.int .i64 sc, .int .i64 sd] 23)).alloc (.cells #[.int .i64 tc, .int .i64 td] 23)
  go_enter Try.func10, Try.ntmps10
  go_wp2_with fail
  refine (few_is HF.out A cap _).mono ?_
  rintro e w1 ⟨rfl, hb1⟩
  have TS := ((Two.new w _ rfl sc sd 23).alloc _).below hb1
  have TT := (Two.new (w.alloc _) (w.heap.size + 1) (by simp) tc td 23).below hb1
  have hv1 := hv0.below hb1
  have H1 : Below w.heap.size w w1 := (by repeat (first | assumption | exact Below.refl _ _ | refine Below.alloc ?_ (by first | omega | (simp; done) | (simp; omega)) _ | refine Below.setCell ?_ (by first | omega | (simp; done) | (simp; omega)) _ | refine Below.drew ?_ | refine Below.drewN_ ?_ _ | refine Below.step ?_ (by assumption)))
  obtain ⟨s0, s1, s2⟩ := TS
  obtain ⟨t0, t1, t2⟩ := TT
  go_wp2_with fail
  refine (rright_is HS.out _).mono ?_
  rintro e w2 ⟨rfl, hb2⟩
  have TS := (show Two _ _ _ _ from ⟨s0, s1, s2⟩).below hb2
  have TT := (show Two _ _ _ _ from ⟨t0, t1, t2⟩).below hb2
  have hv2 := hv1.below hb2
  have H2 := Below.step H1 hb2
  clear s0 s1 s2 t0 t1 t2
  obtain ⟨s0, s1, s2⟩ := TS
  obtain ⟨t0, t1, t2⟩ := TT
  go_wp2_with fail
  refine (rright_is HT.out _).mono ?_
  rintro e w3 ⟨rfl, hb3⟩
  have TS := (show Two _ _ _ _ from ⟨s0, s1, s2⟩).below hb3
  have TT := (show Two _ _ _ _ from ⟨t0, t1, t2⟩).below hb3
  have hv3 := hv2.below hb3
  have H3 := Below.step H2 hb3
  clear s0 s1 s2 t0 t1 t2
  obtain ⟨s0, s1, s2⟩ := TS
  obtain ⟨t0, t1, t2⟩ := TT
  have p0 := s0
  have p1 := s1
  have p2 := s2
  have p9 := t0
  have p3 := t1
  have p4 := t2
  have st : Stage 1 := ⟨trivial⟩
  have HV := Lib.hid hv3
  have HW := Lib.hid H3
  clear s0 s1 s2 t0 t1 t2 hv0 hv1 hv2 hv3
  go_wp2_with fail
  refine wp_region_held_drew (S := (fun w' => w'.cell? ⟨w.heap.size, 0, none⟩ = some (.int .i64 sc) ∧ w'.cell? ⟨w.heap.size, 1, none⟩ = some (.int .i64 sd) ∧ w'.cell? ⟨w.heap.size + 1, 0, none⟩ = some (.int .i64 tc) ∧ w'.cell? ⟨w.heap.size + 1, 1, none⟩ = some (.int .i64 td))) (by kernel_rfl) ⟨‹_›, ‹_›, ‹_›, ‹_›⟩ (fun hHeld => ?_)
  refine wpAnyH_take (i := 0) (oi := _) (v := ?_) rfl (by kernel_rfl) (by kernel_rfl) (by kernel_rfl) (fun _ _ _ h => h) (Or.inl ⟨by rfl, ?_⟩) (by assumption) ?_
  rotate_left
  · (intro w hSw; (try dsimp only at hSw); go_simp)
    try with_reducible rfl
  set_option linter.unusedSimpArgs false in (try simp only [List.getElem_toArray, List.getElem_cons_succ, List.getElem_cons_zero, Act.put, List.setIfInBounds_toArray, List.set_cons_zero, List.set_cons_succ])
  refine wpAnyH_take (i := 1) (oi := _) (v := ?_) rfl (by kernel_rfl) (by kernel_rfl) (by kernel_rfl) (fun _ _ _ h => h) (Or.inl ⟨by rfl, ?_⟩) (by assumption) ?_
  rotate_left
  · (intro w hSw; (try dsimp only at hSw); go_simp)
    try with_reducible rfl
  set_option linter.unusedSimpArgs false in (try simp only [List.getElem_toArray, List.getElem_cons_succ, List.getElem_cons_zero, Act.put, List.setIfInBounds_toArray, List.set_cons_zero, List.set_cons_succ])
  refine wpAnyH_take (i := 3) (oi := _) (v := ?_) rfl (by kernel_rfl) (by kernel_rfl) (by kernel_rfl) (fun _ _ _ h => h) (Or.inl ⟨by rfl, ?_⟩) (by assumption) ?_
  rotate_left
  · (intro w hSw; (try dsimp only at hSw); go_simp)
    try with_reducible rfl
  set_option linter.unusedSimpArgs false in (try simp only [List.getElem_toArray, List.getElem_cons_succ, List.getElem_cons_zero, Act.put, List.setIfInBounds_toArray, List.set_cons_zero, List.set_cons_succ])
  refine wpAnyH_take (i := 5) (oi := _) (v := ?_) rfl (by kernel_rfl) (by kernel_rfl) (by kernel_rfl) (fun _ _ _ h => h) (Or.inl ⟨by rfl, ?_⟩) (by assumption) ?_
  rotate_left
  · (intro w hSw; (try dsimp only at hSw); go_simp)
    try with_reducible rfl
  set_option linter.unusedSimpArgs false in (try simp only [List.getElem_toArray, List.getElem_cons_succ, List.getElem_cons_zero, Act.put, List.setIfInBounds_toArray, List.set_cons_zero, List.set_cons_succ])
  refine wpAnyH_take (i := 6) (oi := _) (v := ?_) rfl (by kernel_rfl) (by kernel_rfl) (by kernel_rfl) (fun _ _ _ h => h) (Or.inl ⟨by rfl, ?_⟩) (by assumption) ?_
  rotate_left
  · (intro w hSw; (try dsimp only at hSw); go_simp)
    try with_reducible rfl
  set_option linter.unusedSimpArgs false in (try simp only [List.getElem_toArray, List.getElem_cons_succ, List.getElem_cons_zero, Act.put, List.setIfInBounds_toArray, List.set_cons_zero, List.set_cons_succ])
  refine wpAnyH_ready (rs := [2]) (by kernel_rfl) (by simp) ?_
  refine AllReadyH.cons (o := _) rfl (fun K hK => ?_) AllReadyH.nil
  simp only [List.getElem_toArray, List.getElem_cons_succ, List.getElem_cons_zero]
  go_simp
  (go_at_call 28; have _q : Stage 1 := st; clear st _q; refine (see_any v A cap sc sd _ (by exact Ints.drew HV.out)).mono ?_; rintro e x1 ⟨g, k1, rfl, hg, hown, y1⟩; have q1 := ((bcell y1).1 _ _ (by exact p0)).trans p1; have q2 := ((bcell y1).1 _ _ (by exact p0)).trans p2; have q3 := ((bcell y1).1 _ _ (by exact p9)).trans p3; have q4 := ((bcell y1).1 _ _ (by exact p9)).trans p4; have q0 := Nat.lt_of_lt_of_le p0 y1.size; have q9 := Nat.lt_of_lt_of_le p9 y1.size; have HO := Lib.hid hown; clear hown; have V1 := Lib.hid (Ints.below (Ints.drew HV.out) y1); have st : Stage 2 := ⟨trivial⟩)
  go_wp2_with fail
  refine hK.out _ _ ⟨‹_›, ‹_›, ‹_›, ‹_›⟩ (fun hHeld => ?_)
  clear hK K
  set_option linter.unusedSimpArgs false in (try simp only [List.getElem_toArray, List.getElem_cons_succ, List.getElem_cons_zero, Act.put, List.setIfInBounds_toArray, List.set_cons_zero, List.set_cons_succ])
  refine wpAnyH_ready (rs := [4]) (by kernel_rfl) (by simp) ?_
  refine AllReadyH.cons (o := _) rfl (fun K hK => ?_) AllReadyH.nil
  simp only [List.getElem_toArray, List.getElem_cons_succ, List.getElem_cons_zero]
  go_simp
  (go_at_call 21; have _q : Stage 2 := st; clear st _q; refine (covers_row HY.out HL.out k1 (Ints.of_row HL.out HO.out)).mono ?_; rintro e x2 ⟨rfl, y2⟩; have r1 := ((bcell y2).1 _ _ (by exact q0)).trans q1; have r2 := ((bcell y2).1 _ _ (by exact q0)).trans q2; have r3 := ((bcell y2).1 _ _ (by exact q9)).trans q3; have r4 := ((bcell y2).1 _ _ (by exact q9)).trans q4; have r0 := Nat.lt_of_lt_of_le q0 y2.size; have r9 := Nat.lt_of_lt_of_le q9 y2.size; have V2 := Lib.hid (V1.out.below y2); have st : Stage 3 := ⟨trivial⟩)
  go_wp2_with fail
  refine hK.out _ _ ⟨‹_›, ‹_›, ‹_›, ‹_›⟩ (fun hHeld => ?_)
  clear hK K
  set_option linter.unusedSimpArgs false in (try simp only [List.getElem_toArray, List.getElem_cons_succ, List.getElem_cons_zero, Act.put, List.setIfInBounds_toArray, List.set_cons_zero, List.set_cons_succ])
  refine wpAnyH_ready (rs := [7]) (by kernel_rfl) (by simp) ?_
  refine AllReadyH.cons (o := _) rfl (fun K hK => ?_) AllReadyH.nil
  simp only [List.getElem_toArray, List.getElem_cons_succ, List.getElem_cons_zero]
  go_simp
  (go_at_call 21; have _q : Stage 3 := st; clear st _q; refine (covers_is HX.out cap V2.out).mono ?_; rintro e x3 ⟨rfl, y3⟩; have s1 := ((bcell y3).1 _ _ (by exact r0)).trans r1; have s2 := ((bcell y3).1 _ _ (by exact r0)).trans r2; have s3 := ((bcell y3).1 _ _ (by exact r9)).trans r3; have s4 := ((bcell y3).1 _ _ (by exact r9)).trans r4; have s0 := Nat.lt_of_lt_of_le r0 y3.size; have s9 := Nat.lt_of_lt_of_le r9 y3.size; have V3 := Lib.hid (V2.out.below y3); have st : Stage 4 := ⟨trivial⟩)
  go_wp2_with fail
  refine hK.out _ _ ⟨‹_›, ‹_›, ‹_›, ‹_›⟩ (fun hHeld => ?_)
  clear hK K
  set_option linter.unusedSimpArgs false in (try simp only [List.getElem_toArray, List.getElem_cons_succ, List.getElem_cons_zero, Act.put, List.setIfInBounds_toArray, List.set_cons_zero, List.set_cons_succ])
  refine wpAnyH_take (i := 8) (oi := _) (v := ?_) rfl (by kernel_rfl) (by kernel_rfl) (by kernel_rfl) (fun _ _ _ h => h) (Or.inl ⟨by rfl, ?_⟩) (by assumption) ?_
  rotate_left
  · (intro w hSw; (try dsimp only at hSw); go_simp)
    try with_reducible rfl
  set_option linter.unusedSimpArgs false in (try simp only [List.getElem_toArray, List.getElem_cons_succ, List.getElem_cons_zero, Act.put, List.setIfInBounds_toArray, List.set_cons_zero, List.set_cons_succ])
  refine wpAnyH_take (i := 9) (oi := _) (v := _) rfl (by kernel_rfl) (by kernel_rfl) (by kernel_rfl) (fun _ _ _ h => h) (Or.inr ⟨by rfl, rfl⟩) (by assumption) ?_
  set_option linter.unusedSimpArgs false in (try simp only [List.getElem_toArray, List.getElem_cons_succ, List.getElem_cons_zero, Act.put, List.setIfInBounds_toArray, List.set_cons_zero, List.set_cons_succ])
  refine wpAnyH_take (i := 10) (oi := _) (v := ?_) rfl (by kernel_rfl) (by kernel_rfl) (by kernel_rfl) (fun _ _ _ h => h) (Or.inl ⟨by rfl, ?_⟩) (by assumption) ?_
  rotate_left
  · (intro w hSw; (try dsimp only at hSw); go_simp)
    try with_reducible rfl
  set_option linter.unusedSimpArgs false in (try simp only [List.getElem_toArray, List.getElem_cons_succ, List.getElem_cons_zero, Act.put, List.setIfInBounds_toArray, List.set_cons_zero, List.set_cons_succ])
  refine wpAnyH_take (i := 11) (oi := _) (v := ?_) rfl (by kernel_rfl) (by kernel_rfl) (by kernel_rfl) (fun _ _ _ h => h) (Or.inl ⟨by rfl, ?_⟩) (by assumption) ?_
  rotate_left
  · (intro w hSw; (try dsimp only at hSw); go_simp)
    try with_reducible rfl
  set_option linter.unusedSimpArgs false in (try simp only [List.getElem_toArray, List.getElem_cons_succ, List.getElem_cons_zero, Act.put, List.setIfInBounds_toArray, List.set_cons_zero, List.set_cons_succ])
  refine wpAnyH_take (i := 12) (oi := _) (v := ?_) rfl (by kernel_rfl) (by kernel_rfl) (by kernel_rfl) (fun _ _ _ h => h) (Or.inl ⟨by rfl, ?_⟩) (by assumption) ?_
  rotate_left
  · (intro w hSw; (try dsimp only at hSw); go_simp)
    try with_reducible rfl
  set_option linter.unusedSimpArgs false in (try simp only [List.getElem_toArray, List.getElem_cons_succ, List.getElem_cons_zero, Act.put, List.setIfInBounds_toArray, List.set_cons_zero, List.set_cons_succ])
  refine wpAnyH_take (i := 13) (oi := _) (v := ?_) rfl (by kernel_rfl) (by kernel_rfl) (by kernel_rfl) (fun _ _ _ h => h) (Or.inl ⟨by rfl, ?_⟩) (by assumption) ?_
  rotate_left
  · (intro w hSw; (try dsimp only at hSw); go_simp)
    try with_reducible rfl
  set_option linter.unusedSimpArgs false in (try simp only [List.getElem_toArray, List.getElem_cons_succ, List.getElem_cons_zero, Act.put, List.setIfInBounds_toArray, List.set_cons_zero, List.set_cons_succ])
  refine wpAnyH_take (i := 14) (oi := _) (v := ?_) rfl (by kernel_rfl) (by kernel_rfl) (by kernel_rfl) (fun _ _ _ h => h) (Or.inl ⟨by rfl, ?_⟩) (by assumption) ?_
  rotate_left
  · (intro w hSw; (try dsimp only at hSw); go_simp)
    try with_reducible rfl
  set_option linter.unusedSimpArgs false in (try simp only [List.getElem_toArray, List.getElem_cons_succ, List.getElem_cons_zero, Act.put, List.setIfInBounds_toArray, List.set_cons_zero, List.set_cons_succ])
  refine wpAnyH_take (i := 15) (oi := _) (v := ?_) rfl (by kernel_rfl) (by kernel_rfl) (by kernel_rfl) (fun _ _ _ h => h) (Or.inl ⟨by rfl, ?_⟩) (by assumption) ?_
  rotate_left
  · (intro w hSw; (try dsimp only at hSw); go_simp)
    try with_reducible rfl
  set_option linter.unusedSimpArgs false in (try simp only [List.getElem_toArray, List.getElem_cons_succ, List.getElem_cons_zero, Act.put, List.setIfInBounds_toArray, List.set_cons_zero, List.set_cons_succ])
  refine wpAnyH_ready (rs := [16]) (by kernel_rfl) (by simp) ?_
  refine AllReadyH.cons (o := _) rfl (fun K hK => ?_) AllReadyH.nil
  simp only [List.getElem_toArray, List.getElem_cons_succ, List.getElem_cons_zero]
  go_simp
  (go_at_call 28; have _q : Stage 4 := st; clear st _q; refine (see_any v A cap sc sd _ V3.out).mono ?_; rintro e x4 ⟨g4, k4, rfl, hg4, hown, y4⟩; have t1 := ((bcell y4).1 _ _ (by exact s0)).trans s1; have t2 := ((bcell y4).1 _ _ (by exact s0)).trans s2; have t3 := ((bcell y4).1 _ _ (by exact s9)).trans s3; have t4 := ((bcell y4).1 _ _ (by exact s9)).trans s4; have t0 := Nat.lt_of_lt_of_le s0 y4.size; have t9 := Nat.lt_of_lt_of_le s9 y4.size; have HO4 := Lib.hid hown; clear hown; have V4 := Lib.hid (V3.out.below y4); have st : Stage 5 := ⟨trivial⟩)
  go_wp2_with fail
  refine hK.out _ _ ⟨‹_›, ‹_›, ‹_›, ‹_›⟩ (fun hHeld => ?_)
  clear hK K
  set_option linter.unusedSimpArgs false in (try simp only [List.getElem_toArray, List.getElem_cons_succ, List.getElem_cons_zero, Act.put, List.setIfInBounds_toArray, List.set_cons_zero, List.set_cons_succ])
  refine wpAnyH_ready (rs := [17]) (by kernel_rfl) (by simp) ?_
  refine AllReadyH.cons (o := _) rfl (fun K hK => ?_) AllReadyH.nil
  simp only [List.getElem_toArray, List.getElem_cons_succ, List.getElem_cons_zero]
  go_simp
  (go_at_call 23; have _q : Stage 5 := st; clear st _q; refine (leq_row_right HQ.out HL.out cap k4 V4.out (Ints.of_row HL.out HO4.out)).mono ?_; rintro e x5 ⟨rfl, y5⟩; have u1 := ((bcell y5).1 _ _ (by exact t0)).trans t1; have u2 := ((bcell y5).1 _ _ (by exact t0)).trans t2; have u3 := ((bcell y5).1 _ _ (by exact t9)).trans t3; have u4 := ((bcell y5).1 _ _ (by exact t9)).trans t4; have u0 := Nat.lt_of_lt_of_le t0 y5.size; have u9 := Nat.lt_of_lt_of_le t9 y5.size; have st : Stage 6 := ⟨trivial⟩)
  go_wp2_with fail
  refine hK.out _ _ ⟨‹_›, ‹_›, ‹_›, ‹_›⟩ (fun hHeld => ?_)
  clear hK K
  set_option linter.unusedSimpArgs false in (try simp only [List.getElem_toArray, List.getElem_cons_succ, List.getElem_cons_zero, Act.put, List.setIfInBounds_toArray, List.set_cons_zero, List.set_cons_succ])
  refine wpAnyH_take (i := 18) (oi := _) (v := ?_) rfl (by kernel_rfl) (by kernel_rfl) (by kernel_rfl) (fun _ _ _ h => h) (Or.inl ⟨by rfl, ?_⟩) (by assumption) ?_
  rotate_left
  · (intro w hSw; (try dsimp only at hSw); go_simp)
    try with_reducible rfl
  set_option linter.unusedSimpArgs false in (try simp only [List.getElem_toArray, List.getElem_cons_succ, List.getElem_cons_zero, Act.put, List.setIfInBounds_toArray, List.set_cons_zero, List.set_cons_succ])
  refine wpAnyH_take (i := 19) (oi := _) (v := ?_) rfl (by kernel_rfl) (by kernel_rfl) (by kernel_rfl) (fun _ _ _ h => h) (Or.inl ⟨by rfl, ?_⟩) (by assumption) ?_
  rotate_left
  · (intro w hSw; (try dsimp only at hSw); go_simp)
    try with_reducible rfl
  set_option linter.unusedSimpArgs false in (try simp only [List.getElem_toArray, List.getElem_cons_succ, List.getElem_cons_zero, Act.put, List.setIfInBounds_toArray, List.set_cons_zero, List.set_cons_succ])
  refine wpAnyH_ready (rs := [20]) (by kernel_rfl) (by simp) ?_
  refine AllReadyH.cons (o := _) rfl (fun K hK => ?_) AllReadyH.nil
  simp only [List.getElem_toArray, List.getElem_cons_succ, List.getElem_cons_zero]
  go_simp
  (go_at_call 19; have _q : Stage 6 := st; clear st _q; refine (awake_any _).mono ?_; rintro e x6 ⟨rfl, y6⟩; have v1 := ((bcell y6).1 _ _ (by exact u0)).trans u1; have v2 := ((bcell y6).1 _ _ (by exact u0)).trans u2; have v3 := ((bcell y6).1 _ _ (by exact u9)).trans u3; have v4 := ((bcell y6).1 _ _ (by exact u9)).trans u4; have v0 := Nat.lt_of_lt_of_le u0 y6.size; have v9 := Nat.lt_of_lt_of_le u9 y6.size; have st : Stage 7 := ⟨trivial⟩)
  go_wp2_with fail
  refine hK.out _ _ ⟨‹_›, ‹_›, ‹_›, ‹_›⟩ (fun hHeld => ?_)
  clear hK K
  set_option linter.unusedSimpArgs false in (try simp only [List.getElem_toArray, List.getElem_cons_succ, List.getElem_cons_zero, Act.put, List.setIfInBounds_toArray, List.set_cons_zero, List.set_cons_succ])
  refine wpAnyH_take (i := 21) (oi := _) (v := ?_) rfl (by kernel_rfl) (by kernel_rfl) (by kernel_rfl) (fun _ _ _ h => h) (Or.inl ⟨by rfl, ?_⟩) (by assumption) ?_
  rotate_left
  · (intro w hSw; (try dsimp only at hSw); go_simp)
    try with_reducible rfl
  set_option linter.unusedSimpArgs false in (try simp only [List.getElem_toArray, List.getElem_cons_succ, List.getElem_cons_zero, Act.put, List.setIfInBounds_toArray, List.set_cons_zero, List.set_cons_succ])
  refine wpAnyH_take (i := 22) (oi := _) (v := ?_) rfl (by kernel_rfl) (by kernel_rfl) (by kernel_rfl) (fun _ _ _ h => h) (Or.inl ⟨by rfl, ?_⟩) (by assumption) ?_
  rotate_left
  · (intro w hSw; (try dsimp only at hSw); go_simp)
    try with_reducible rfl
  set_option linter.unusedSimpArgs false in (try simp only [List.getElem_toArray, List.getElem_cons_succ, List.getElem_cons_zero, Act.put, List.setIfInBounds_toArray, List.set_cons_zero, List.set_cons_succ])
  refine wpAnyH_done (by kernel_rfl) ?_ _
  have HW' := Below.drew HW.out
  go_wp2
  go_ret
  exact Ret.mk rfl (Below.step (Below.step (Below.step (Below.step (Below.step (Below.step HW' y1) y2) y3) y4) y5) y6)

set_option maxHeartbeats 6000000 in
theorem sees_d_false (w : World) (v : List Int) (A : Option Addr) (cap : Nat) (hv : Ints w A v) (sc sd tc td : Int) (hfew : decide (v.length ≤ 100) = true) (hs : rightB sc sd = true) (ht : rightB tc td = true) (hd : (sd == td) = true) (hc : decide (tc ≤ sc) = false) (hx : coversB v tc td = false) : Calls Try.prog 10 #[.slice A v.length cap, .agg #[.int .i64 sc, .int .i64 sd], .agg #[.int .i64 tc, .int .i64 td]] w (Ret (.bool true) w) := by
  have HF := Lib.hid hfew
  have HY : Hid (coversB (seeL v sc sd) tc td = false) := Lib.hid (by rw [sees_eq, hx]; simp [moreB, hs, ht, hd, hc])
  have HX := Lib.hid hx
  have HQ := Lib.hid (sees_leq v sc sd)
  have HL := Lib.hid (seeL_len v sc sd)
  have HS := Lib.hid hs
  have HT := Lib.hid ht
  clear hfew hx hs ht
  have hv0 := (hv.alloc (.cells #[.int .i64 sc, .int .i64 sd] 23)).alloc (.cells #[.int .i64 tc, .int .i64 td] 23)
  go_enter Try.func10, Try.ntmps10
  go_wp2_with fail
  refine (few_is HF.out A cap _).mono ?_
  rintro e w1 ⟨rfl, hb1⟩
  have TS := ((Two.new w _ rfl sc sd 23).alloc _).below hb1
  have TT := (Two.new (w.alloc _) (w.heap.size + 1) (by simp) tc td 23).below hb1
  have hv1 := hv0.below hb1
  have H1 : Below w.heap.size w w1 := (by repeat (first | assumption | exact Below.refl _ _ | refine Below.alloc ?_ (by first | omega | (simp; done) | (simp; omega)) _ | refine Below.setCell ?_ (by first | omega | (simp; done) | (simp; omega)) _ | refine Below.drew ?_ | refine Below.drewN_ ?_ _ | refine Below.step ?_ (by assumption)))
  obtain ⟨s0, s1, s2⟩ := TS
  obtain ⟨t0, t1, t2⟩ := TT
  go_wp2_with fail
  refine (rright_is HS.out _).mono ?_
  rintro e w2 ⟨rfl, hb2⟩
  have TS := (show Two _ _ _ _ from ⟨s0, s1, s2⟩).below hb2
  have TT := (show Two _ _ _ _ from ⟨t0, t1, t2⟩).below hb2
  have hv2 := hv1.below hb2
  have H2 := Below.step H1 hb2
  clear s0 s1 s2 t0 t1 t2
  obtain ⟨s0, s1, s2⟩ := TS
  obtain ⟨t0, t1, t2⟩ := TT
  go_wp2_with fail
  refine (rright_is HT.out _).mono ?_
  rintro e w3 ⟨rfl, hb3⟩
  have TS := (show Two _ _ _ _ from ⟨s0, s1, s2⟩).below hb3
  have TT := (show Two _ _ _ _ from ⟨t0, t1, t2⟩).below hb3
  have hv3 := hv2.below hb3
  have H3 := Below.step H2 hb3
  clear s0 s1 s2 t0 t1 t2
  obtain ⟨s0, s1, s2⟩ := TS
  obtain ⟨t0, t1, t2⟩ := TT
  have p0 := s0
  have p1 := s1
  have p2 := s2
  have p9 := t0
  have p3 := t1
  have p4 := t2
  have st : Stage 1 := ⟨trivial⟩
  have HV := Lib.hid hv3
  have HW := Lib.hid H3
  clear s0 s1 s2 t0 t1 t2 hv0 hv1 hv2 hv3
  go_wp2_with fail
  first | (go_region_held3 (fun w' => w'.cell? ⟨w.heap.size, 0, none⟩ = some (.int .i64 sc) ∧ w'.cell? ⟨w.heap.size, 1, none⟩ = some (.int .i64 sd) ∧ w'.cell? ⟨w.heap.size + 1, 0, none⟩ = some (.int .i64 tc) ∧ w'.cell? ⟨w.heap.size + 1, 1, none⟩ = some (.int .i64 td))
      (first | exact ⟨‹_›, ‹_›, ‹_›, ‹_›⟩)
      (first
      | (go_at_call 28; have _q : Stage 1 := st; clear st _q; refine (see_any v A cap sc sd _ (by exact Ints.drew HV.out)).mono ?_; rintro e x1 ⟨g, k1, rfl, hg, hown, y1⟩; have q1 := ((bcell y1).1 _ _ (by exact p0)).trans p1; have q2 := ((bcell y1).1 _ _ (by exact p0)).trans p2; have q3 := ((bcell y1).1 _ _ (by exact p9)).trans p3; have q4 := ((bcell y1).1 _ _ (by exact p9)).trans p4; have q0 := Nat.lt_of_lt_of_le p0 y1.size; have q9 := Nat.lt_of_lt_of_le p9 y1.size; have HO := Lib.hid hown; clear hown; have V1 := Lib.hid (Ints.below (Ints.drew HV.out) y1); have st : Stage 2 := ⟨trivial⟩)
      | (go_at_call 21; have _q : Stage 2 := st; clear st _q; refine (covers_row HY.out HL.out k1 (Ints.of_row HL.out HO.out)).mono ?_; rintro e x2 ⟨rfl, y2⟩; have r1 := ((bcell y2).1 _ _ (by exact q0)).trans q1; have r2 := ((bcell y2).1 _ _ (by exact q0)).trans q2; have r3 := ((bcell y2).1 _ _ (by exact q9)).trans q3; have r4 := ((bcell y2).1 _ _ (by exact q9)).trans q4; have r0 := Nat.lt_of_lt_of_le q0 y2.size; have r9 := Nat.lt_of_lt_of_le q9 y2.size; have V2 := Lib.hid (V1.out.below y2); have st : Stage 3 := ⟨trivial⟩)
      | (go_at_call 21; have _q : Stage 3 := st; clear st _q; refine (covers_is HX.out cap V2.out).mono ?_; rintro e x3 ⟨rfl, y3⟩; have s1 := ((bcell y3).1 _ _ (by exact r0)).trans r1; have s2 := ((bcell y3).1 _ _ (by exact r0)).trans r2; have s3 := ((bcell y3).1 _ _ (by exact r9)).trans r3; have s4 := ((bcell y3).1 _ _ (by exact r9)).trans r4; have s0 := Nat.lt_of_lt_of_le r0 y3.size; have s9 := Nat.lt_of_lt_of_le r9 y3.size; have V3 := Lib.hid (V2.out.below y3); have st : Stage 4 := ⟨trivial⟩)
      | (go_at_call 28; have _q : Stage 4 := st; clear st _q; refine (see_any v A cap sc sd _ V3.out).mono ?_; rintro e x4 ⟨g4, k4, rfl, hg4, hown, y4⟩; have t1 := ((bcell y4).1 _ _ (by exact s0)).trans s1; have t2 := ((bcell y4).1 _ _ (by exact s0)).trans s2; have t3 := ((bcell y4).1 _ _ (by exact s9)).trans s3; have t4 := ((bcell y4).1 _ _ (by exact s9)).trans s4; have t0 := Nat.lt_of_lt_of_le s0 y4.size; have t9 := Nat.lt_of_lt_of_le s9 y4.size; have HO4 := Lib.hid hown; clear hown; have V4 := Lib.hid (V3.out.below y4); have st : Stage 5 := ⟨trivial⟩)
      | (go_at_call 23; have _q : Stage 5 := st; clear st _q; refine (leq_row_right HQ.out HL.out cap k4 V4.out (Ints.of_row HL.out HO4.out)).mono ?_; rintro e x5 ⟨rfl, y5⟩; have u1 := ((bcell y5).1 _ _ (by exact t0)).trans t1; have u2 := ((bcell y5).1 _ _ (by exact t0)).trans t2; have u3 := ((bcell y5).1 _ _ (by exact t9)).trans t3; have u4 := ((bcell y5).1 _ _ (by exact t9)).trans t4; have u0 := Nat.lt_of_lt_of_le t0 y5.size; have u9 := Nat.lt_of_lt_of_le t9 y5.size; have st : Stage 6 := ⟨trivial⟩)
      | (go_at_call 19; have _q : Stage 6 := st; clear st _q; refine (awake_any _).mono ?_; rintro e x6 ⟨rfl, y6⟩; have v1 := ((bcell y6).1 _ _ (by exact u0)).trans u1; have v2 := ((bcell y6).1 _ _ (by exact u0)).trans u2; have v3 := ((bcell y6).1 _ _ (by exact u9)).trans u3; have v4 := ((bcell y6).1 _ _ (by exact u9)).trans u4; have v0 := Nat.lt_of_lt_of_le u0 y6.size; have v9 := Nat.lt_of_lt_of_le u9 y6.size; have st : Stage 7 := ⟨trivial⟩))) | fail
  have HW' := Below.drew HW.out
  go_wp2
  go_ret
  exact Ret.mk rfl (Below.step (Below.step (Below.step (Below.step (Below.step (Below.step HW' y1) y2) y3) y4) y5) y6)

set_option maxHeartbeats 6000000 in
theorem sees_e_true (w : World) (v : List Int) (A : Option Addr) (cap : Nat) (hv : Ints w A v) (sc sd tc td : Int) (hfew : decide (v.length ≤ 100) = true) (hs : rightB sc sd = true) (ht : rightB tc td = true) (hd : (sd == td) = true) (hc : decide (tc ≤ sc) = true) (hx : coversB v tc td = true) : Calls Try.prog 10 #[.slice A v.length cap, .agg #[.int .i64 sc, .int .i64 sd], .agg #[.int .i64 tc, .int .i64 td]] w (Ret (.bool true) w) := by
  have HF := Lib.hid hfew
  have HY : Hid (coversB (seeL v sc sd) tc td = true) := Lib.hid (by rw [sees_eq, hx]; simp [moreB, hs, ht, hd, hc])
  have HX := Lib.hid hx
  have HQ := Lib.hid (sees_leq v sc sd)
  have HL := Lib.hid (seeL_len v sc sd)
  have HS := Lib.hid hs
  have HT := Lib.hid ht
  clear hfew hx hs ht
  have hv0 := (hv.alloc (.cells #[.int .i64 sc, .int .i64 sd] 23)).alloc (.cells #[.int .i64 tc, .int .i64 td] 23)
  go_enter Try.func10, Try.ntmps10
  go_wp2_with fail
  refine (few_is HF.out A cap _).mono ?_
  rintro e w1 ⟨rfl, hb1⟩
  have TS := ((Two.new w _ rfl sc sd 23).alloc _).below hb1
  have TT := (Two.new (w.alloc _) (w.heap.size + 1) (by simp) tc td 23).below hb1
  have hv1 := hv0.below hb1
  have H1 : Below w.heap.size w w1 := (by repeat (first | assumption | exact Below.refl _ _ | refine Below.alloc ?_ (by first | omega | (simp; done) | (simp; omega)) _ | refine Below.setCell ?_ (by first | omega | (simp; done) | (simp; omega)) _ | refine Below.drew ?_ | refine Below.drewN_ ?_ _ | refine Below.step ?_ (by assumption)))
  obtain ⟨s0, s1, s2⟩ := TS
  obtain ⟨t0, t1, t2⟩ := TT
  go_wp2_with fail
  refine (rright_is HS.out _).mono ?_
  rintro e w2 ⟨rfl, hb2⟩
  have TS := (show Two _ _ _ _ from ⟨s0, s1, s2⟩).below hb2
  have TT := (show Two _ _ _ _ from ⟨t0, t1, t2⟩).below hb2
  have hv2 := hv1.below hb2
  have H2 := Below.step H1 hb2
  clear s0 s1 s2 t0 t1 t2
  obtain ⟨s0, s1, s2⟩ := TS
  obtain ⟨t0, t1, t2⟩ := TT
  go_wp2_with fail
  refine (rright_is HT.out _).mono ?_
  rintro e w3 ⟨rfl, hb3⟩
  have TS := (show Two _ _ _ _ from ⟨s0, s1, s2⟩).below hb3
  have TT := (show Two _ _ _ _ from ⟨t0, t1, t2⟩).below hb3
  have hv3 := hv2.below hb3
  have H3 := Below.step H2 hb3
  clear s0 s1 s2 t0 t1 t2
  obtain ⟨s0, s1, s2⟩ := TS
  obtain ⟨t0, t1, t2⟩ := TT
  have p0 := s0
  have p1 := s1
  have p2 := s2
  have p9 := t0
  have p3 := t1
  have p4 := t2
  have st : Stage 1 := ⟨trivial⟩
  have HV := Lib.hid hv3
  have HW := Lib.hid H3
  clear s0 s1 s2 t0 t1 t2 hv0 hv1 hv2 hv3
  go_wp2_with fail
  refine wp_region_held_drew (S := (fun w' => w'.cell? ⟨w.heap.size, 0, none⟩ = some (.int .i64 sc) ∧ w'.cell? ⟨w.heap.size, 1, none⟩ = some (.int .i64 sd) ∧ w'.cell? ⟨w.heap.size + 1, 0, none⟩ = some (.int .i64 tc) ∧ w'.cell? ⟨w.heap.size + 1, 1, none⟩ = some (.int .i64 td))) (by kernel_rfl) ⟨‹_›, ‹_›, ‹_›, ‹_›⟩ (fun hHeld => ?_)
  refine wpAnyH_take (i := 0) (oi := _) (v := ?_) rfl (by kernel_rfl) (by kernel_rfl) (by kernel_rfl) (fun _ _ _ h => h) (Or.inl ⟨by rfl, ?_⟩) (by assumption) ?_
  rotate_left
  · (intro w hSw; (try dsimp only at hSw); go_simp)
    try with_reducible rfl
  set_option linter.unusedSimpArgs false in (try simp only [List.getElem_toArray, List.getElem_cons_succ, List.getElem_cons_zero, Act.put, List.setIfInBounds_toArray, List.set_cons_zero, List.set_cons_succ])
  refine wpAnyH_take (i := 1) (oi := _) (v := ?_) rfl (by kernel_rfl) (by kernel_rfl) (by kernel_rfl) (fun _ _ _ h => h) (Or.inl ⟨by rfl, ?_⟩) (by assumption) ?_
  rotate_left
  · (intro w hSw; (try dsimp only at hSw); go_simp)
    try with_reducible rfl
  set_option linter.unusedSimpArgs false in (try simp only [List.getElem_toArray, List.getElem_cons_succ, List.getElem_cons_zero, Act.put, List.setIfInBounds_toArray, List.set_cons_zero, List.set_cons_succ])
  refine wpAnyH_take (i := 3) (oi := _) (v := ?_) rfl (by kernel_rfl) (by kernel_rfl) (by kernel_rfl) (fun _ _ _ h => h) (Or.inl ⟨by rfl, ?_⟩) (by assumption) ?_
  rotate_left
  · (intro w hSw; (try dsimp only at hSw); go_simp)
    try with_reducible rfl
  set_option linter.unusedSimpArgs false in (try simp only [List.getElem_toArray, List.getElem_cons_succ, List.getElem_cons_zero, Act.put, List.setIfInBounds_toArray, List.set_cons_zero, List.set_cons_succ])
  refine wpAnyH_take (i := 5) (oi := _) (v := ?_) rfl (by kernel_rfl) (by kernel_rfl) (by kernel_rfl) (fun _ _ _ h => h) (Or.inl ⟨by rfl, ?_⟩) (by assumption) ?_
  rotate_left
  · (intro w hSw; (try dsimp only at hSw); go_simp)
    try with_reducible rfl
  set_option linter.unusedSimpArgs false in (try simp only [List.getElem_toArray, List.getElem_cons_succ, List.getElem_cons_zero, Act.put, List.setIfInBounds_toArray, List.set_cons_zero, List.set_cons_succ])
  refine wpAnyH_take (i := 6) (oi := _) (v := ?_) rfl (by kernel_rfl) (by kernel_rfl) (by kernel_rfl) (fun _ _ _ h => h) (Or.inl ⟨by rfl, ?_⟩) (by assumption) ?_
  rotate_left
  · (intro w hSw; (try dsimp only at hSw); go_simp)
    try with_reducible rfl
  set_option linter.unusedSimpArgs false in (try simp only [List.getElem_toArray, List.getElem_cons_succ, List.getElem_cons_zero, Act.put, List.setIfInBounds_toArray, List.set_cons_zero, List.set_cons_succ])
  refine wpAnyH_ready (rs := [2]) (by kernel_rfl) (by simp) ?_
  refine AllReadyH.cons (o := _) rfl (fun K hK => ?_) AllReadyH.nil
  simp only [List.getElem_toArray, List.getElem_cons_succ, List.getElem_cons_zero]
  go_simp
  (go_at_call 28; have _q : Stage 1 := st; clear st _q; refine (see_any v A cap sc sd _ (by exact Ints.drew HV.out)).mono ?_; rintro e x1 ⟨g, k1, rfl, hg, hown, y1⟩; have q1 := ((bcell y1).1 _ _ (by exact p0)).trans p1; have q2 := ((bcell y1).1 _ _ (by exact p0)).trans p2; have q3 := ((bcell y1).1 _ _ (by exact p9)).trans p3; have q4 := ((bcell y1).1 _ _ (by exact p9)).trans p4; have q0 := Nat.lt_of_lt_of_le p0 y1.size; have q9 := Nat.lt_of_lt_of_le p9 y1.size; have HO := Lib.hid hown; clear hown; have V1 := Lib.hid (Ints.below (Ints.drew HV.out) y1); have st : Stage 2 := ⟨trivial⟩)
  go_wp2_with fail
  refine hK.out _ _ ⟨‹_›, ‹_›, ‹_›, ‹_›⟩ (fun hHeld => ?_)
  clear hK K
  set_option linter.unusedSimpArgs false in (try simp only [List.getElem_toArray, List.getElem_cons_succ, List.getElem_cons_zero, Act.put, List.setIfInBounds_toArray, List.set_cons_zero, List.set_cons_succ])
  refine wpAnyH_ready (rs := [4]) (by kernel_rfl) (by simp) ?_
  refine AllReadyH.cons (o := _) rfl (fun K hK => ?_) AllReadyH.nil
  simp only [List.getElem_toArray, List.getElem_cons_succ, List.getElem_cons_zero]
  go_simp
  (go_at_call 21; have _q : Stage 2 := st; clear st _q; refine (covers_row HY.out HL.out k1 (Ints.of_row HL.out HO.out)).mono ?_; rintro e x2 ⟨rfl, y2⟩; have r1 := ((bcell y2).1 _ _ (by exact q0)).trans q1; have r2 := ((bcell y2).1 _ _ (by exact q0)).trans q2; have r3 := ((bcell y2).1 _ _ (by exact q9)).trans q3; have r4 := ((bcell y2).1 _ _ (by exact q9)).trans q4; have r0 := Nat.lt_of_lt_of_le q0 y2.size; have r9 := Nat.lt_of_lt_of_le q9 y2.size; have V2 := Lib.hid (V1.out.below y2); have st : Stage 3 := ⟨trivial⟩)
  go_wp2_with fail
  refine hK.out _ _ ⟨‹_›, ‹_›, ‹_›, ‹_›⟩ (fun hHeld => ?_)
  clear hK K
  set_option linter.unusedSimpArgs false in (try simp only [List.getElem_toArray, List.getElem_cons_succ, List.getElem_cons_zero, Act.put, List.setIfInBounds_toArray, List.set_cons_zero, List.set_cons_succ])
  refine wpAnyH_ready (rs := [7]) (by kernel_rfl) (by simp) ?_
  refine AllReadyH.cons (o := _) rfl (fun K hK => ?_) AllReadyH.nil
  simp only [List.getElem_toArray, List.getElem_cons_succ, List.getElem_cons_zero]
  go_simp
  (go_at_call 21; have _q : Stage 3 := st; clear st _q; refine (covers_is HX.out cap V2.out).mono ?_; rintro e x3 ⟨rfl, y3⟩; have s1 := ((bcell y3).1 _ _ (by exact r0)).trans r1; have s2 := ((bcell y3).1 _ _ (by exact r0)).trans r2; have s3 := ((bcell y3).1 _ _ (by exact r9)).trans r3; have s4 := ((bcell y3).1 _ _ (by exact r9)).trans r4; have s0 := Nat.lt_of_lt_of_le r0 y3.size; have s9 := Nat.lt_of_lt_of_le r9 y3.size; have V3 := Lib.hid (V2.out.below y3); have st : Stage 4 := ⟨trivial⟩)
  go_wp2_with fail
  refine hK.out _ _ ⟨‹_›, ‹_›, ‹_›, ‹_›⟩ (fun hHeld => ?_)
  clear hK K
  set_option linter.unusedSimpArgs false in (try simp only [List.getElem_toArray, List.getElem_cons_succ, List.getElem_cons_zero, Act.put, List.setIfInBounds_toArray, List.set_cons_zero, List.set_cons_succ])
  refine wpAnyH_take (i := 8) (oi := _) (v := ?_) rfl (by kernel_rfl) (by kernel_rfl) (by kernel_rfl) (fun _ _ _ h => h) (Or.inl ⟨by rfl, ?_⟩) (by assumption) ?_
  rotate_left
  · (intro w hSw; (try dsimp only at hSw); go_simp)
    try with_reducible rfl
  set_option linter.unusedSimpArgs false in (try simp only [List.getElem_toArray, List.getElem_cons_succ, List.getElem_cons_zero, Act.put, List.setIfInBounds_toArray, List.set_cons_zero, List.set_cons_succ])
  refine wpAnyH_take (i := 9) (oi := _) (v := _) rfl (by kernel_rfl) (by kernel_rfl) (by kernel_rfl) (fun _ _ _ h => h) (Or.inr ⟨by rfl, rfl⟩) (by assumption) ?_
  set_option linter.unusedSimpArgs false in (try simp only [List.getElem_toArray, List.getElem_cons_succ, List.getElem_cons_zero, Act.put, List.setIfInBounds_toArray, List.set_cons_zero, List.set_cons_succ])
  refine wpAnyH_take (i := 10) (oi := _) (v := ?_) rfl (by kernel_rfl) (by kernel_rfl) (by kernel_rfl) (fun _ _ _ h => h) (Or.inl ⟨by rfl, ?_⟩) (by assumption) ?_
  rotate_left
  · (intro w hSw; (try dsimp only at hSw); go_simp)
    try with_reducible rfl
  set_option linter.unusedSimpArgs false in (try simp only [List.getElem_toArray, List.getElem_cons_succ, List.getElem_cons_zero, Act.put, List.setIfInBounds_toArray, List.set_cons_zero, List.set_cons_succ])
  refine wpAnyH_take (i := 11) (oi := _) (v := ?_) rfl (by kernel_rfl) (by kernel_rfl) (by kernel_rfl) (fun _ _ _ h => h) (Or.inl ⟨by rfl, ?_⟩) (by assumption) ?_
  rotate_left
  · (intro w hSw; (try dsimp only at hSw); go_simp)
    try with_reducible rfl
  set_option linter.unusedSimpArgs false in (try simp only [List.getElem_toArray, List.getElem_cons_succ, List.getElem_cons_zero, Act.put, List.setIfInBounds_toArray, List.set_cons_zero, List.set_cons_succ])
  refine wpAnyH_take (i := 12) (oi := _) (v := ?_) rfl (by kernel_rfl) (by kernel_rfl) (by kernel_rfl) (fun _ _ _ h => h) (Or.inl ⟨by rfl, ?_⟩) (by assumption) ?_
  rotate_left
  · (intro w hSw; (try dsimp only at hSw); go_simp)
    try with_reducible rfl
  set_option linter.unusedSimpArgs false in (try simp only [List.getElem_toArray, List.getElem_cons_succ, List.getElem_cons_zero, Act.put, List.setIfInBounds_toArray, List.set_cons_zero, List.set_cons_succ])
  refine wpAnyH_take (i := 13) (oi := _) (v := ?_) rfl (by kernel_rfl) (by kernel_rfl) (by kernel_rfl) (fun _ _ _ h => h) (Or.inl ⟨by rfl, ?_⟩) (by assumption) ?_
  rotate_left
  · (intro w hSw; (try dsimp only at hSw); go_simp)
    try with_reducible rfl
  set_option linter.unusedSimpArgs false in (try simp only [List.getElem_toArray, List.getElem_cons_succ, List.getElem_cons_zero, Act.put, List.setIfInBounds_toArray, List.set_cons_zero, List.set_cons_succ])
  refine wpAnyH_take (i := 14) (oi := _) (v := ?_) rfl (by kernel_rfl) (by kernel_rfl) (by kernel_rfl) (fun _ _ _ h => h) (Or.inl ⟨by rfl, ?_⟩) (by assumption) ?_
  rotate_left
  · (intro w hSw; (try dsimp only at hSw); go_simp)
    try with_reducible rfl
  set_option linter.unusedSimpArgs false in (try simp only [List.getElem_toArray, List.getElem_cons_succ, List.getElem_cons_zero, Act.put, List.setIfInBounds_toArray, List.set_cons_zero, List.set_cons_succ])
  refine wpAnyH_take (i := 15) (oi := _) (v := ?_) rfl (by kernel_rfl) (by kernel_rfl) (by kernel_rfl) (fun _ _ _ h => h) (Or.inl ⟨by rfl, ?_⟩) (by assumption) ?_
  rotate_left
  · (intro w hSw; (try dsimp only at hSw); go_simp)
    try with_reducible rfl
  set_option linter.unusedSimpArgs false in (try simp only [List.getElem_toArray, List.getElem_cons_succ, List.getElem_cons_zero, Act.put, List.setIfInBounds_toArray, List.set_cons_zero, List.set_cons_succ])
  refine wpAnyH_ready (rs := [16]) (by kernel_rfl) (by simp) ?_
  refine AllReadyH.cons (o := _) rfl (fun K hK => ?_) AllReadyH.nil
  simp only [List.getElem_toArray, List.getElem_cons_succ, List.getElem_cons_zero]
  go_simp
  (go_at_call 28; have _q : Stage 4 := st; clear st _q; refine (see_any v A cap sc sd _ V3.out).mono ?_; rintro e x4 ⟨g4, k4, rfl, hg4, hown, y4⟩; have t1 := ((bcell y4).1 _ _ (by exact s0)).trans s1; have t2 := ((bcell y4).1 _ _ (by exact s0)).trans s2; have t3 := ((bcell y4).1 _ _ (by exact s9)).trans s3; have t4 := ((bcell y4).1 _ _ (by exact s9)).trans s4; have t0 := Nat.lt_of_lt_of_le s0 y4.size; have t9 := Nat.lt_of_lt_of_le s9 y4.size; have HO4 := Lib.hid hown; clear hown; have V4 := Lib.hid (V3.out.below y4); have st : Stage 5 := ⟨trivial⟩)
  go_wp2_with fail
  refine hK.out _ _ ⟨‹_›, ‹_›, ‹_›, ‹_›⟩ (fun hHeld => ?_)
  clear hK K
  set_option linter.unusedSimpArgs false in (try simp only [List.getElem_toArray, List.getElem_cons_succ, List.getElem_cons_zero, Act.put, List.setIfInBounds_toArray, List.set_cons_zero, List.set_cons_succ])
  refine wpAnyH_ready (rs := [17]) (by kernel_rfl) (by simp) ?_
  refine AllReadyH.cons (o := _) rfl (fun K hK => ?_) AllReadyH.nil
  simp only [List.getElem_toArray, List.getElem_cons_succ, List.getElem_cons_zero]
  go_simp
  (go_at_call 23; have _q : Stage 5 := st; clear st _q; refine (leq_row_right HQ.out HL.out cap k4 V4.out (Ints.of_row HL.out HO4.out)).mono ?_; rintro e x5 ⟨rfl, y5⟩; have u1 := ((bcell y5).1 _ _ (by exact t0)).trans t1; have u2 := ((bcell y5).1 _ _ (by exact t0)).trans t2; have u3 := ((bcell y5).1 _ _ (by exact t9)).trans t3; have u4 := ((bcell y5).1 _ _ (by exact t9)).trans t4; have u0 := Nat.lt_of_lt_of_le t0 y5.size; have u9 := Nat.lt_of_lt_of_le t9 y5.size; have st : Stage 6 := ⟨trivial⟩)
  go_wp2_with fail
  refine hK.out _ _ ⟨‹_›, ‹_›, ‹_›, ‹_›⟩ (fun hHeld => ?_)
  clear hK K
  set_option linter.unusedSimpArgs false in (try simp only [List.getElem_toArray, List.getElem_cons_succ, List.getElem_cons_zero, Act.put, List.setIfInBounds_toArray, List.set_cons_zero, List.set_cons_succ])
  refine wpAnyH_take (i := 18) (oi := _) (v := ?_) rfl (by kernel_rfl) (by kernel_rfl) (by kernel_rfl) (fun _ _ _ h => h) (Or.inl ⟨by rfl, ?_⟩) (by assumption) ?_
  rotate_left
  · (intro w hSw; (try dsimp only at hSw); go_simp)
    try with_reducible rfl
  set_option linter.unusedSimpArgs false in (try simp only [List.getElem_toArray, List.getElem_cons_succ, List.getElem_cons_zero, Act.put, List.setIfInBounds_toArray, List.set_cons_zero, List.set_cons_succ])
  refine wpAnyH_take (i := 19) (oi := _) (v := ?_) rfl (by kernel_rfl) (by kernel_rfl) (by kernel_rfl) (fun _ _ _ h => h) (Or.inl ⟨by rfl, ?_⟩) (by assumption) ?_
  rotate_left
  · (intro w hSw; (try dsimp only at hSw); go_simp)
    try with_reducible rfl
  set_option linter.unusedSimpArgs false in (try simp only [List.getElem_toArray, List.getElem_cons_succ, List.getElem_cons_zero, Act.put, List.setIfInBounds_toArray, List.set_cons_zero, List.set_cons_succ])
  refine wpAnyH_ready (rs := [20]) (by kernel_rfl) (by simp) ?_
  refine AllReadyH.cons (o := _) rfl (fun K hK => ?_) AllReadyH.nil
  simp only [List.getElem_toArray, List.getElem_cons_succ, List.getElem_cons_zero]
  go_simp
  (go_at_call 19; have _q : Stage 6 := st; clear st _q; refine (awake_any _).mono ?_; rintro e x6 ⟨rfl, y6⟩; have v1 := ((bcell y6).1 _ _ (by exact u0)).trans u1; have v2 := ((bcell y6).1 _ _ (by exact u0)).trans u2; have v3 := ((bcell y6).1 _ _ (by exact u9)).trans u3; have v4 := ((bcell y6).1 _ _ (by exact u9)).trans u4; have v0 := Nat.lt_of_lt_of_le u0 y6.size; have v9 := Nat.lt_of_lt_of_le u9 y6.size; have st : Stage 7 := ⟨trivial⟩)
  go_wp2_with fail
  refine hK.out _ _ ⟨‹_›, ‹_›, ‹_›, ‹_›⟩ (fun hHeld => ?_)
  clear hK K
  set_option linter.unusedSimpArgs false in (try simp only [List.getElem_toArray, List.getElem_cons_succ, List.getElem_cons_zero, Act.put, List.setIfInBounds_toArray, List.set_cons_zero, List.set_cons_succ])
  refine wpAnyH_take (i := 21) (oi := _) (v := ?_) rfl (by kernel_rfl) (by kernel_rfl) (by kernel_rfl) (fun _ _ _ h => h) (Or.inl ⟨by rfl, ?_⟩) (by assumption) ?_
  rotate_left
  · (intro w hSw; (try dsimp only at hSw); go_simp)
    try with_reducible rfl
  set_option linter.unusedSimpArgs false in (try simp only [List.getElem_toArray, List.getElem_cons_succ, List.getElem_cons_zero, Act.put, List.setIfInBounds_toArray, List.set_cons_zero, List.set_cons_succ])
  refine wpAnyH_take (i := 22) (oi := _) (v := ?_) rfl (by kernel_rfl) (by kernel_rfl) (by kernel_rfl) (fun _ _ _ h => h) (Or.inl ⟨by rfl, ?_⟩) (by assumption) ?_
  rotate_left
  · (intro w hSw; (try dsimp only at hSw); go_simp)
    try with_reducible rfl
  set_option linter.unusedSimpArgs false in (try simp only [List.getElem_toArray, List.getElem_cons_succ, List.getElem_cons_zero, Act.put, List.setIfInBounds_toArray, List.set_cons_zero, List.set_cons_succ])
  refine wpAnyH_done (by kernel_rfl) ?_ _
  have HW' := Below.drew HW.out
  go_wp2
  go_ret
  exact Ret.mk rfl (Below.step (Below.step (Below.step (Below.step (Below.step (Below.step HW' y1) y2) y3) y4) y5) y6)

set_option maxHeartbeats 6000000 in
theorem sees_e_false (w : World) (v : List Int) (A : Option Addr) (cap : Nat) (hv : Ints w A v) (sc sd tc td : Int) (hfew : decide (v.length ≤ 100) = true) (hs : rightB sc sd = true) (ht : rightB tc td = true) (hd : (sd == td) = true) (hc : decide (tc ≤ sc) = true) (hx : coversB v tc td = false) : Calls Try.prog 10 #[.slice A v.length cap, .agg #[.int .i64 sc, .int .i64 sd], .agg #[.int .i64 tc, .int .i64 td]] w (Ret (.bool true) w) := by
  have HF := Lib.hid hfew
  have HY : Hid (coversB (seeL v sc sd) tc td = true) := Lib.hid (by rw [sees_eq, hx]; simp [moreB, hs, ht, hd, hc])
  have HX := Lib.hid hx
  have HQ := Lib.hid (sees_leq v sc sd)
  have HL := Lib.hid (seeL_len v sc sd)
  have HS := Lib.hid hs
  have HT := Lib.hid ht
  clear hfew hx hs ht
  have hv0 := (hv.alloc (.cells #[.int .i64 sc, .int .i64 sd] 23)).alloc (.cells #[.int .i64 tc, .int .i64 td] 23)
  go_enter Try.func10, Try.ntmps10
  go_wp2_with fail
  refine (few_is HF.out A cap _).mono ?_
  rintro e w1 ⟨rfl, hb1⟩
  have TS := ((Two.new w _ rfl sc sd 23).alloc _).below hb1
  have TT := (Two.new (w.alloc _) (w.heap.size + 1) (by simp) tc td 23).below hb1
  have hv1 := hv0.below hb1
  have H1 : Below w.heap.size w w1 := (by repeat (first | assumption | exact Below.refl _ _ | refine Below.alloc ?_ (by first | omega | (simp; done) | (simp; omega)) _ | refine Below.setCell ?_ (by first | omega | (simp; done) | (simp; omega)) _ | refine Below.drew ?_ | refine Below.drewN_ ?_ _ | refine Below.step ?_ (by assumption)))
  obtain ⟨s0, s1, s2⟩ := TS
  obtain ⟨t0, t1, t2⟩ := TT
  go_wp2_with fail
  refine (rright_is HS.out _).mono ?_
  rintro e w2 ⟨rfl, hb2⟩
  have TS := (show Two _ _ _ _ from ⟨s0, s1, s2⟩).below hb2
  have TT := (show Two _ _ _ _ from ⟨t0, t1, t2⟩).below hb2
  have hv2 := hv1.below hb2
  have H2 := Below.step H1 hb2
  clear s0 s1 s2 t0 t1 t2
  obtain ⟨s0, s1, s2⟩ := TS
  obtain ⟨t0, t1, t2⟩ := TT
  go_wp2_with fail
  refine (rright_is HT.out _).mono ?_
  rintro e w3 ⟨rfl, hb3⟩
  have TS := (show Two _ _ _ _ from ⟨s0, s1, s2⟩).below hb3
  have TT := (show Two _ _ _ _ from ⟨t0, t1, t2⟩).below hb3
  have hv3 := hv2.below hb3
  have H3 := Below.step H2 hb3
  clear s0 s1 s2 t0 t1 t2
  obtain ⟨s0, s1, s2⟩ := TS
  obtain ⟨t0, t1, t2⟩ := TT
  have p0 := s0
  have p1 := s1
  have p2 := s2
  have p9 := t0
  have p3 := t1
  have p4 := t2
  have st : Stage 1 := ⟨trivial⟩
  have HV := Lib.hid hv3
  have HW := Lib.hid H3
  clear s0 s1 s2 t0 t1 t2 hv0 hv1 hv2 hv3
  go_wp2_with fail
  first | (go_region_held3 (fun w' => w'.cell? ⟨w.heap.size, 0, none⟩ = some (.int .i64 sc) ∧ w'.cell? ⟨w.heap.size, 1, none⟩ = some (.int .i64 sd) ∧ w'.cell? ⟨w.heap.size + 1, 0, none⟩ = some (.int .i64 tc) ∧ w'.cell? ⟨w.heap.size + 1, 1, none⟩ = some (.int .i64 td))
      (first | exact ⟨‹_›, ‹_›, ‹_›, ‹_›⟩)
      (first
      | (go_at_call 28; have _q : Stage 1 := st; clear st _q; refine (see_any v A cap sc sd _ (by exact Ints.drew HV.out)).mono ?_; rintro e x1 ⟨g, k1, rfl, hg, hown, y1⟩; have q1 := ((bcell y1).1 _ _ (by exact p0)).trans p1; have q2 := ((bcell y1).1 _ _ (by exact p0)).trans p2; have q3 := ((bcell y1).1 _ _ (by exact p9)).trans p3; have q4 := ((bcell y1).1 _ _ (by exact p9)).trans p4; have q0 := Nat.lt_of_lt_of_le p0 y1.size; have q9 := Nat.lt_of_lt_of_le p9 y1.size; have HO := Lib.hid hown; clear hown; have V1 := Lib.hid (Ints.below (Ints.drew HV.out) y1); have st : Stage 2 := ⟨trivial⟩)
      | (go_at_call 21; have _q : Stage 2 := st; clear st _q; refine (covers_row HY.out HL.out k1 (Ints.of_row HL.out HO.out)).mono ?_; rintro e x2 ⟨rfl, y2⟩; have r1 := ((bcell y2).1 _ _ (by exact q0)).trans q1; have r2 := ((bcell y2).1 _ _ (by exact q0)).trans q2; have r3 := ((bcell y2).1 _ _ (by exact q9)).trans q3; have r4 := ((bcell y2).1 _ _ (by exact q9)).trans q4; have r0 := Nat.lt_of_lt_of_le q0 y2.size; have r9 := Nat.lt_of_lt_of_le q9 y2.size; have V2 := Lib.hid (V1.out.below y2); have st : Stage 3 := ⟨trivial⟩)
      | (go_at_call 21; have _q : Stage 3 := st; clear st _q; refine (covers_is HX.out cap V2.out).mono ?_; rintro e x3 ⟨rfl, y3⟩; have s1 := ((bcell y3).1 _ _ (by exact r0)).trans r1; have s2 := ((bcell y3).1 _ _ (by exact r0)).trans r2; have s3 := ((bcell y3).1 _ _ (by exact r9)).trans r3; have s4 := ((bcell y3).1 _ _ (by exact r9)).trans r4; have s0 := Nat.lt_of_lt_of_le r0 y3.size; have s9 := Nat.lt_of_lt_of_le r9 y3.size; have V3 := Lib.hid (V2.out.below y3); have st : Stage 4 := ⟨trivial⟩)
      | (go_at_call 28; have _q : Stage 4 := st; clear st _q; refine (see_any v A cap sc sd _ V3.out).mono ?_; rintro e x4 ⟨g4, k4, rfl, hg4, hown, y4⟩; have t1 := ((bcell y4).1 _ _ (by exact s0)).trans s1; have t2 := ((bcell y4).1 _ _ (by exact s0)).trans s2; have t3 := ((bcell y4).1 _ _ (by exact s9)).trans s3; have t4 := ((bcell y4).1 _ _ (by exact s9)).trans s4; have t0 := Nat.lt_of_lt_of_le s0 y4.size; have t9 := Nat.lt_of_lt_of_le s9 y4.size; have HO4 := Lib.hid hown; clear hown; have V4 := Lib.hid (V3.out.below y4); have st : Stage 5 := ⟨trivial⟩)
      | (go_at_call 23; have _q : Stage 5 := st; clear st _q; refine (leq_row_right HQ.out HL.out cap k4 V4.out (Ints.of_row HL.out HO4.out)).mono ?_; rintro e x5 ⟨rfl, y5⟩; have u1 := ((bcell y5).1 _ _ (by exact t0)).trans t1; have u2 := ((bcell y5).1 _ _ (by exact t0)).trans t2; have u3 := ((bcell y5).1 _ _ (by exact t9)).trans t3; have u4 := ((bcell y5).1 _ _ (by exact t9)).trans t4; have u0 := Nat.lt_of_lt_of_le t0 y5.size; have u9 := Nat.lt_of_lt_of_le t9 y5.size; have st : Stage 6 := ⟨trivial⟩)
      | (go_at_call 19; have _q : Stage 6 := st; clear st _q; refine (awake_any _).mono ?_; rintro e x6 ⟨rfl, y6⟩; have v1 := ((bcell y6).1 _ _ (by exact u0)).trans u1; have v2 := ((bcell y6).1 _ _ (by exact u0)).trans u2; have v3 := ((bcell y6).1 _ _ (by exact u9)).trans u3; have v4 := ((bcell y6).1 _ _ (by exact u9)).trans u4; have v0 := Nat.lt_of_lt_of_le u0 y6.size; have v9 := Nat.lt_of_lt_of_le u9 y6.size; have st : Stage 7 := ⟨trivial⟩))) | fail
  have HW' := Below.drew HW.out
  go_wp2
  go_ret
  exact Ret.mk rfl (Below.step (Below.step (Below.step (Below.step (Below.step (Below.step HW' y1) y2) y3) y4) y5) y6)

set_option maxHeartbeats 6000000 in
theorem sees_many (w : World) (v : List Int) (A : Option Addr) (cap : Nat) (sc sd tc td : Int) (hfew : decide (v.length ≤ 100) = false) : Calls Try.prog 10 #[.slice A v.length cap, .agg #[.int .i64 sc, .int .i64 sd], .agg #[.int .i64 tc, .int .i64 td]] w (Ret (.bool true) w) := by
  have HF := Lib.hid hfew
  clear hfew
  go_enter Try.func10, Try.ntmps10
  go_wp2_with fail
  refine (few_is HF.out A cap _).mono ?_
  rintro e w1 ⟨rfl, hb1⟩
  go_wp2_with fail
  refine (awake_any _).mono ?_
  rintro e w3 ⟨rfl, hb3⟩
  go_wp2
  go_ret
  exact Ret.mk rfl (by repeat (first | assumption | exact Below.refl _ _ | refine Below.alloc ?_ (by first | omega | (simp; done) | (simp; omega)) _ | refine Below.setCell ?_ (by first | omega | (simp; done) | (simp; omega)) _ | refine Below.drew ?_ | refine Below.drewN_ ?_ _ | refine Below.step ?_ (by assumption)))

theorem sees_walk (w : World) (v : List Int) (A : Option Addr) (cap : Nat) (_ : Fit v) (_ : v.length ≤ maxLen) (hv : Ints w A v) (sc sd : Int) (_ : Fits sc) (_ : Fits sd) (tc td : Int) (_ : Fits tc) (_ : Fits td) : Calls Try.prog 10 #[.slice A v.length cap, .agg #[.int .i64 sc, .int .i64 sd], .agg #[.int .i64 tc, .int .i64 td]] w (Ret (.bool true) w) := by
  rcases Bool.eq_false_or_eq_true (decide (v.length ≤ 100)) with h1 | h1
  · rcases Bool.eq_false_or_eq_true (coversB v tc td) with hx | hx
    · rcases Bool.eq_false_or_eq_true (rightB sc sd) with hs | hs
      · rcases Bool.eq_false_or_eq_true (rightB tc td) with ht | ht
        · rcases Bool.eq_false_or_eq_true (sd == td) with hd | hd
          · rcases Bool.eq_false_or_eq_true (decide (tc ≤ sc)) with hc | hc
            · exact sees_e_true w v A cap hv sc sd tc td h1 hs ht hd hc hx
            · exact sees_d_true w v A cap hv sc sd tc td h1 hs ht hd hc hx
          · exact sees_c_true w v A cap hv sc sd tc td h1 hs ht hd hx
        · exact sees_b_true w v A cap hv sc sd tc td h1 hs ht hx
      · exact sees_a_true w v A cap hv sc sd tc td h1 hs hx
    · rcases Bool.eq_false_or_eq_true (rightB sc sd) with hs | hs
      · rcases Bool.eq_false_or_eq_true (rightB tc td) with ht | ht
        · rcases Bool.eq_false_or_eq_true (sd == td) with hd | hd
          · rcases Bool.eq_false_or_eq_true (decide (tc ≤ sc)) with hc | hc
            · exact sees_e_false w v A cap hv sc sd tc td h1 hs ht hd hc hx
            · exact sees_d_false w v A cap hv sc sd tc td h1 hs ht hd hc hx
          · exact sees_c_false w v A cap hv sc sd tc td h1 hs ht hd hx
        · exact sees_b_false w v A cap hv sc sd tc td h1 hs ht hx
      · exact sees_a_false w v A cap hv sc sd tc td h1 hs hx
  · exact sees_many w v A cap sc sd tc td h1
end Go.Proofs.Ytpannehdgmcmkaa
