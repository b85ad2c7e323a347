/- Contracts: Covers, Next, Join, See. -/
import Derived.Test.YtpannehdgmcmkaaClockB
namespace Go.Proofs.Ytpannehdgmcmkaa
open Go.RowKit

def coversB (v : List Int) (c d : Int) : Bool := rightB c d && decide (c ≤ numZ v d)

theorem right_yes {c d : Int} (h : rightB c d = true) (w : World) : Calls Try.prog 13 #[.agg #[.int .i64 c, .int .i64 d]] w (Ret (.bool true) w) := h ▸ right_any c d w
theorem right_no {c d : Int} (h : rightB c d = false) (w : World) : Calls Try.prog 13 #[.agg #[.int .i64 c, .int .i64 d]] w (Ret (.bool false) w) := h ▸ right_any c d w
theorem rright_yes {c d : Int} (h : rightB c d = true) (w : World) : Calls Try.prog 14 #[.agg #[.int .i64 c, .int .i64 d]] w (Ret (.bool true) w) := h ▸ rright_any c d w
theorem rright_no {c d : Int} (h : rightB c d = false) (w : World) : Calls Try.prog 14 #[.agg #[.int .i64 c, .int .i64 d]] w (Ret (.bool false) w) := h ▸ rright_any c d w

set_option maxHeartbeats 400000 in
theorem covers_any (v : List Int) (A : Option Addr) (cap : Nat) (c d : Int) (w : World) (hv : Ints w A v) :
    Calls Try.prog 21 #[.slice A v.length cap, .agg #[.int .i64 c, .int .i64 d]] w (Ret (.bool (coversB v c d)) w) := by
  have hv1 := hv.alloc (.cells #[.int .i64 c, .int .i64 d] 23)
  rcases Bool.eq_false_or_eq_true (rightB c d) with hr | hr
  · obtain ⟨h1, h2, h3, h4⟩ := rightB_bd hr
    have Hr := Lib.hid hr
    clear hr
    go_enter Try.func21, Try.ntmps21
    go_wp2_with fail
    refine region_past (by kernel_rfl) (by kernel_rfl) ?_
    repeat (go_big_quiet_step (first | exact Calls.past (right_yes Hr.out _) | exact Calls.past (number_any v A cap d _ (hv1.below (Past.below _)) h3 h4)))
    refine wpQuiet_nil ?_
    rintro _ ⟨⟨w1, hb⟩, rfl⟩
    go_wp2
    go_ret
    exact Ret.mk (congrArg Value.bool (by rw [coversB, Hr.out]; rfl)) (by repeat (first | assumption | exact Below.refl _ _ | refine Below.alloc ?_ (by first | omega | (simp; done) | (simp; omega)) _ | refine Below.setCell ?_ (by first | omega | (simp; done) | (simp; omega)) _ | refine Below.drew ?_ | refine Below.drewN_ ?_ _ | refine Below.step ?_ (by assumption)))
  · have Hr := Lib.hid hr
    clear hr
    go_enter Try.func21, Try.ntmps21
    go_wp2_with fail
    refine region_past (by kernel_rfl) (by kernel_rfl) ?_
    repeat (go_big_quiet_step (exact Calls.past (right_no Hr.out _)))
    refine wpQuiet_nil ?_
    rintro _ ⟨⟨w1, hb⟩, rfl⟩
    go_wp2
    go_ret
    exact Ret.mk (congrArg Value.bool (by rw [coversB, Hr.out]; rfl)) (by repeat (first | assumption | exact Below.refl _ _ | refine Below.alloc ?_ (by first | omega | (simp; done) | (simp; omega)) _ | refine Below.setCell ?_ (by first | omega | (simp; done) | (simp; omega)) _ | refine Below.drew ?_ | refine Below.drewN_ ?_ _ | refine Below.step ?_ (by assumption)))

set_option maxHeartbeats 400000 in
theorem rcovers_any (v : List Int) (A : Option Addr) (cap : Nat) (c d : Int) (w : World) (hv : Ints w A v) :
    Calls Try.prog 22 #[.slice A v.length cap, .agg #[.int .i64 c, .int .i64 d]] w (Ret (.bool (coversB v c d)) w) := by
  have hv1 := hv.alloc (.cells #[.int .i64 c, .int .i64 d] 23)
  rcases Bool.eq_false_or_eq_true (rightB c d) with hr | hr
  · have Hr := Lib.hid hr
    clear hr
    go_enter Try.func22, Try.ntmps22
    go_wp2_with fail
    refine region_past (by kernel_rfl) (by kernel_rfl) ?_
    repeat (go_big_quiet_step (first | exact Calls.past (rright_yes Hr.out _) | exact Calls.past (at_any v A cap d _ (hv1.below (Past.below _)))))
    refine wpQuiet_nil ?_
    rintro _ ⟨⟨w1, hb⟩, rfl⟩
    go_wp2
    go_ret
    exact Ret.mk (congrArg Value.bool (by rw [coversB, Hr.out]; rfl)) (by repeat (first | assumption | exact Below.refl _ _ | refine Below.alloc ?_ (by first | omega | (simp; done) | (simp; omega)) _ | refine Below.setCell ?_ (by first | omega | (simp; done) | (simp; omega)) _ | refine Below.drew ?_ | refine Below.drewN_ ?_ _ | refine Below.step ?_ (by assumption)))
  · have Hr := Lib.hid hr
    clear hr
    go_enter Try.func22, Try.ntmps22
    go_wp2_with fail
    refine region_past (by kernel_rfl) (by kernel_rfl) ?_
    repeat (go_big_quiet_step (exact Calls.past (rright_no Hr.out _)))
    refine wpQuiet_nil ?_
    rintro _ ⟨⟨w1, hb⟩, rfl⟩
    go_wp2
    go_ret
    exact Ret.mk (congrArg Value.bool (by rw [coversB, Hr.out]; rfl)) (by repeat (first | assumption | exact Below.refl _ _ | refine Below.alloc ?_ (by first | omega | (simp; done) | (simp; omega)) _ | refine Below.setCell ?_ (by first | omega | (simp; done) | (simp; omega)) _ | refine Below.drew ?_ | refine Below.drewN_ ?_ _ | refine Below.step ?_ (by assumption)))

/-- The greatest number of the first k devices. -/
def topTo (v : List Int) : Nat → Int
  | 0 => 0
  | k + 1 => max (topTo v k) (numZ v (k + 1))
theorem topTo_nonneg (v : List Int) : ∀ k, 0 ≤ topTo v k
  | 0 => by simp [topTo]
  | k + 1 => by have := topTo_nonneg v k; unfold topTo; omega
theorem numZ_le {v : List Int} (h : Fit v) (d : Int) : numZ v d ≤ 9223372036854775807 := by
  unfold numZ
  split
  · omega
  · rename_i hd
    have hlt : (d - 1).toNat < v.length := by omega
    have := (h _ (List.getElem_mem hlt)).2
    rw [show v.getD (d - 1).toNat 0 = v[(d - 1).toNat] by rw [List.getD_eq_getElem?_getD, List.getElem?_eq_getElem hlt]; rfl]
    omega
theorem topTo_le {v : List Int} (h : Fit v) : ∀ k, topTo v k ≤ 9223372036854775807
  | 0 => by simp [topTo]
  | k + 1 => by have := topTo_le h k; have := numZ_le h (k + 1); unfold topTo; omega

/-- Next gives a stamp. -/
def nextB (v : List Int) (d : Int) : Bool := decide (topTo v 15 < 1048576) && decide (1 ≤ d) && decide (d ≤ 15)
def nextC (v : List Int) (d : Int) : Int := if nextB v d = true then topTo v 15 + 1 else 0
def nextD (v : List Int) (d : Int) : Int := if nextB v d = true then d else 0
theorem next_right {v : List Int} (h : Fit v) (d : Int) : rightB (wrap64 (topTo v 15 + 1)) d = nextB v d := by
  have := topTo_nonneg v 15
  have := topTo_le h 15
  unfold rightB nextB wrap64
  rw [Bool.eq_iff_iff]
  simp only [Bool.and_eq_true, decide_eq_true_eq]
  omega
theorem next_wrap {v : List Int} {d : Int} (h : nextB v d = true) : wrap64 (topTo v 15 + 1) = topTo v 15 + 1 := by
  have := topTo_nonneg v 15
  unfold nextB at h
  simp only [Bool.and_eq_true, decide_eq_true_eq] at h
  unfold wrap64
  omega
theorem next_c {v : List Int} (h : Fit v) (d : Int) : ifC (wrap64 (topTo v 15 + 1)) d = nextC v d := by
  unfold ifC nextC
  rw [next_right h]
  split
  · rename_i hn; exact next_wrap hn
  · rfl
theorem next_d {v : List Int} (h : Fit v) (d : Int) : ifD (wrap64 (topTo v 15 + 1)) d = nextD v d := by
  unfold ifD nextD
  rw [next_right h]

set_option maxHeartbeats 400000 in
theorem next_any (v : List Int) (A : Option Addr) (cap : Nat) (d : Int) (w : World) (hv : Ints w A v) (hfit : Fit v) :
    Calls Try.prog 30 #[.slice A v.length cap, .int .i64 d] w (Ret (.tuple #[.agg #[.int .i64 (nextC v d), .int .i64 (nextD v d)], .bool (nextB v d)]) w) := by
  have hv1 := hv.alloc (.cells #[.int .i64 0, .int .i64 0] 23)
  have htop := topTo_le hfit 15
  have htop0 := topTo_nonneg v 15
  go_enter Try.func30, Try.ntmps30
  go_wp2
  go_loopw [6, 7] (fun t i wr => ∃ k : Nat, k ≤ 15 ∧ i = .int .i64 ((k : Int) + 1) ∧ t = .int .i64 (topTo v k) ∧ Below (w.heap.size + 1) (w.alloc (.cells #[.int .i64 0, .int .i64 0] 23)) wr) (fun _ i _ => 16 - (intOf i).toNat)
  case atStart => exact ⟨0, by omega, rfl, rfl, by simpa using Below.refl _ _⟩
  case round =>
    obtain ⟨k, hk, rfl, rfl, hbw⟩ := hrel
    have hbw' : Below (w.alloc (.cells #[.int .i64 0, .int .i64 0] 23)).heap.size (w.alloc (.cells #[.int .i64 0, .int .i64 0] 23)) wr := by simpa using hbw
    by_cases h15 : k = 15
    · subst h15
      go_wp2_with fail
      refine (ifRight_any _ _ _).mono ?_
      rw [next_right hfit, next_c hfit, next_d hfit]
      rintro e w1 ⟨rfl, h1⟩
      have hb := Below.step hbw' h1
      have hc := (bcell hb).1
      have hf := (bcell hb).2
      have hz := hb.size
      simp at hz
      have c0 : w1.cell? ⟨w.heap.size, 0, none⟩ = some (.int .i64 0) := (hc _ _ (by simp)).trans (by simp [go_sem])
      have c1 : w1.cell? ⟨w.heap.size, 1, none⟩ = some (.int .i64 0) := (hc _ _ (by simp)).trans (by simp [go_sem])
      go_wp2
      refine bodyPost_ret (v := .tuple #[.agg #[.int .i64 (nextC v d), .int .i64 (nextD v d)], .bool (nextB v d)]) (by simp [results, Try.results30, go_sem, c0, c1]) rfl (Ret.mk rfl (by repeat (first | assumption | exact Below.refl _ _ | refine Below.alloc ?_ (by first | omega | (simp; done) | (simp; omega)) _ | refine Below.setCell ?_ (by first | omega | (simp; done) | (simp; omega)) _ | refine Below.drew ?_ | refine Below.drewN_ ?_ _ | refine Below.step ?_ (by assumption))))
    · have hlt : (k : Int) + 1 ≤ 15 := by omega
      go_wp2_with fail
      refine (number_any v A cap _ _ (hv1.below hbw') (by omega) hlt).mono ?_
      rintro e w1 ⟨rfl, h1⟩
      have hstep : Hid (topTo v (k + 1) = max (topTo v k) (numZ v (k + 1))) := Lib.hid rfl
      go_wp2
      all_goals
        go_roundw
        case rel => exact ⟨k + 1, by omega, by go_num, congrArg (Value.int .i64) (by rw [hstep.out]; omega), by simpa using Below.step hbw' h1⟩
        case measure => simp [intOf]; omega

set_option maxHeartbeats 400000 in
theorem rnext_any (v : List Int) (A : Option Addr) (cap : Nat) (d : Int) (w : World) (hv : Ints w A v) (hfit : Fit v) :
    Calls Try.prog 31 #[.slice A v.length cap, .int .i64 d] w (Ret (.tuple #[.agg #[.int .i64 (nextC v d), .int .i64 (nextD v d)], .bool (nextB v d)]) w) := by
  have hv1 := hv.alloc (.cells #[.int .i64 0, .int .i64 0] 23)
  have htop := topTo_le hfit 15
  have htop0 := topTo_nonneg v 15
  go_enter Try.func31, Try.ntmps31
  go_wp2
  go_loopw [6, 7] (fun t i wr => ∃ k : Nat, k ≤ 15 ∧ i = .int .i64 ((k : Int) + 1) ∧ t = .int .i64 (topTo v k) ∧ Below (w.heap.size + 1) (w.alloc (.cells #[.int .i64 0, .int .i64 0] 23)) wr) (fun _ i _ => 16 - (intOf i).toNat)
  case atStart => exact ⟨0, by omega, rfl, rfl, by simpa using Below.refl _ _⟩
  case round =>
    obtain ⟨k, hk, rfl, rfl, hbw⟩ := hrel
    have hbw' : Below (w.alloc (.cells #[.int .i64 0, .int .i64 0] 23)).heap.size (w.alloc (.cells #[.int .i64 0, .int .i64 0] 23)) wr := by simpa using hbw
    by_cases h15 : k = 15
    · subst h15
      have hc := (bcell hbw').1
      have hf := (bcell hbw').2
      have hz := hbw'.size
      simp at hz
      have c0 : wr.cell? ⟨w.heap.size, 0, none⟩ = some (.int .i64 0) := (hc _ _ (by simp)).trans (by simp [go_sem])
      have c1 : wr.cell? ⟨w.heap.size, 1, none⟩ = some (.int .i64 0) := (hc _ _ (by simp)).trans (by simp [go_sem])
      by_cases hn : topTo v 15 < 1048576 ∧ 1 ≤ d ∧ d ≤ 15
      · obtain ⟨n1, n2, n3⟩ := hn
        have hB : Hid (nextB v d = true) := Lib.hid (by simp [nextB, n1, n2, n3])
        go_wp2
        refine bodyPost_ret (v := .tuple #[.agg #[.int .i64 (topTo v 15 + 1), .int .i64 d], .bool true]) (by simp [results, Try.results31, go_sem, c0, c1]) rfl (Ret.mk (by rw [nextC, nextD, hB.out]; rfl) (by repeat (first | assumption | exact Below.refl _ _ | refine Below.alloc ?_ (by first | omega | (simp; done) | (simp; omega)) _ | refine Below.setCell ?_ (by first | omega | (simp; done) | (simp; omega)) _ | refine Below.drew ?_ | refine Below.drewN_ ?_ _ | refine Below.step ?_ (by assumption))))
      · have hB : Hid (nextB v d = false) := Lib.hid (by unfold nextB; rw [← Bool.not_eq_true]; simp only [Bool.and_eq_true, decide_eq_true_eq]; omega)
        by_cases n1 : 1048576 ≤ topTo v 15
        · go_wp2
          refine bodyPost_ret (v := .tuple #[.agg #[.int .i64 0, .int .i64 0], .bool false]) (by simp [results, Try.results31, go_sem, c0, c1]) rfl (Ret.mk (by rw [nextC, nextD, hB.out]; rfl) (by repeat (first | assumption | exact Below.refl _ _ | refine Below.alloc ?_ (by first | omega | (simp; done) | (simp; omega)) _ | refine Below.setCell ?_ (by first | omega | (simp; done) | (simp; omega)) _ | refine Below.drew ?_ | refine Below.drewN_ ?_ _ | refine Below.step ?_ (by assumption))))
        · by_cases n2 : d < 1
          · have n1' : topTo v 15 < 1048576 := by omega
            go_wp2
            refine bodyPost_ret (v := .tuple #[.agg #[.int .i64 0, .int .i64 0], .bool false]) (by simp [results, Try.results31, go_sem, c0, c1]) rfl (Ret.mk (by rw [nextC, nextD, hB.out]; rfl) (by repeat (first | assumption | exact Below.refl _ _ | refine Below.alloc ?_ (by first | omega | (simp; done) | (simp; omega)) _ | refine Below.setCell ?_ (by first | omega | (simp; done) | (simp; omega)) _ | refine Below.drew ?_ | refine Below.drewN_ ?_ _ | refine Below.step ?_ (by assumption))))
          · have n1' : topTo v 15 < 1048576 := by omega
            have n2' : 1 ≤ d := by omega
            have n3 : 15 < d := by omega
            clear hn
            go_wp2
            refine bodyPost_ret (v := .tuple #[.agg #[.int .i64 0, .int .i64 0], .bool false]) (by simp [results, Try.results31, go_sem, c0, c1]) rfl (Ret.mk (by rw [nextC, nextD, hB.out]; rfl) (by repeat (first | assumption | exact Below.refl _ _ | refine Below.alloc ?_ (by first | omega | (simp; done) | (simp; omega)) _ | refine Below.setCell ?_ (by first | omega | (simp; done) | (simp; omega)) _ | refine Below.drew ?_ | refine Below.drewN_ ?_ _ | refine Below.step ?_ (by assumption))))
    · have hlt : (k : Int) + 1 ≤ 15 := by omega
      go_wp2_with fail
      refine (at_any v A cap _ _ (hv1.below hbw')).mono ?_
      rintro e w1 ⟨rfl, h1⟩
      have hstep : Hid (topTo v (k + 1) = max (topTo v k) (numZ v (k + 1))) := Lib.hid rfl
      go_wp2
      all_goals
        go_roundw
        case rel => exact ⟨k + 1, by omega, by go_num, congrArg (Value.int .i64) (by rw [hstep.out]; omega), by simpa using Below.step hbw' h1⟩
        case measure => simp [intOf]; omega
end Go.Proofs.Ytpannehdgmcmkaa
