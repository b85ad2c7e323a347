/- The reference's At and Least. -/
import Derived.Test.YthbagggcfdgnfaaCnM
import Derived.Test.YthbagggcfdgnfaaAppend
namespace Go.Proofs.Ythbagggcfdgnfaa
open Go.RowKit

theorem leastF_take {l : List Cn} {rid d : Int} {sp : List Int} {k : Nat} (hk : k < sp.length) : leastF l rid d (sp.take (k + 1)) = min (leastF l rid d (sp.take k)) (atK l sp[k] rid d) := by
  unfold leastF
  rw [foldl_take _ _ _ hk]
theorem leastK_all {l : List Cn} {rid d : Int} {sp : List Int} (h : 0 < sp.length) : leastF l rid d (sp.take sp.length) = leastK l rid sp d := by
  unfold leastK
  rw [if_neg (fun e => by rw [e] at h; simp at h), List.take_length]

set_option maxRecDepth 20000 in
set_option maxHeartbeats 2000000 in
theorem rat_any (l : List Cn) (A : Option Addr) (cap : Nat) (p r d : Int) (w : World) (ha : Cons w A l) (hl : l.length ≤ 100000) :
    Calls Try.prog 16 #[.slice A l.length cap, .int .i64 p, .int .i64 r, .int .i64 d] w (Ret (.int .i64 (atK l p r d)) w) := by
  have hall : Hid ((l.take l.length).foldl (stepK p r d) 0 = atK l p r d) := Lib.hid (by rw [List.take_length]; rfl)
  obtain ⟨R, hR⟩ : ∃ R, atK l p r d = R := ⟨_, rfl⟩
  rw [hR] at hall ⊢
  clear hR
  go_enter Try.func16, Try.ntmps16
  go_wp2

  go_loopw [9, 10] (fun o i wr => ∃ k : Nat, k ≤ l.length ∧ i = .int .i64 (k : Int) ∧ o = .int .i64 ((l.take k).foldl (stepK p r d) 0) ∧ Below w.heap.size w wr) (fun _ i _ => l.length + 1 - (intOf i).toNat)
  case atStart => exact ⟨0, by omega, rfl, rfl, Below.refl _ _⟩
  case round =>
    obtain ⟨k, hk, rfl, rfl, hbw⟩ := hrel
    by_cases hlt : k < l.length
    · obtain ⟨ad, rfl, _, d0, d1, d2, d3⟩ := Cons.cells (ha.below hbw) hlt
      have HS := Lib.hid (foldl_take (stepK p r d) 0 l hlt)
      generalize (l.take k).foldl (stepK p r d) 0 = acc at *
      generalize l[k] = c at *
      have fin : ∀ v, stepK p r d acc c = v → Hid (v = (l.take (k + 1)).foldl (stepK p r d) 0) := fun v h => Lib.hid (by rw [HS.out, h])
      have HF := Lib.hid fin
      clear fin
      rcases h1 : (c.p == p) with _ | _
      · have HV := HF.out acc (by unfold stepK fits; rw [h1]; rfl)
        go_wp2
        go_roundw
        case rel => exact ⟨k + 1, by omega, by go_num, by rw [HV.out], hbw⟩
        case measure => simp [intOf]; omega
      · rcases h4 : decide (c.d ≤ d) with _ | _
        · have HV := HF.out acc (by unfold stepK; rw [h4]; simp)
          have h4' : ¬ c.d ≤ d := by simpa using h4
          clear h4
          rcases h2 : (c.r == 0) with _ | _
          · rcases h3 : (c.r == r) with _ | _
            · go_wp2
              go_roundw
              case rel => exact ⟨k + 1, by omega, by go_num, by rw [HV.out], hbw⟩
              case measure => simp [intOf]; omega
            · go_wp2
              go_roundw
              case rel => exact ⟨k + 1, by omega, by go_num, by rw [HV.out], hbw⟩
              case measure => simp [intOf]; omega
          · go_wp2
            go_roundw
            case rel => exact ⟨k + 1, by omega, by go_num, by rw [HV.out], hbw⟩
            case measure => simp [intOf]; omega
        · have h4' : c.d ≤ d := by simpa using h4
          clear h4
          rcases h2 : (c.r == 0) with _ | _
          · rcases h3 : (c.r == r) with _ | _
            · have HV := HF.out acc (by unfold stepK fits; rw [h1, h2, h3]; rfl)
              go_wp2
              go_roundw
              case rel => exact ⟨k + 1, by omega, by go_num, by rw [HV.out], hbw⟩
              case measure => simp [intOf]; omega
            · have HV := HF.out c.k (by unfold stepK fits; rw [h1, h2, h3, decide_eq_true h4']; rfl)
              go_wp2
              go_roundw
              case rel => exact ⟨k + 1, by omega, by go_num, by rw [HV.out], hbw⟩
              case measure => simp [intOf]; omega
          · have HV := HF.out c.k (by unfold stepK fits; rw [h1, h2, decide_eq_true h4']; rfl)
            go_wp2
            go_roundw
            case rel => exact ⟨k + 1, by omega, by go_num, by rw [HV.out], hbw⟩
            case measure => simp [intOf]; omega
    · obtain rfl : k = l.length := by omega
      go_wp2
      go_ret
      exact Ret.mk (by first | rfl | (rw [hall.out]; rfl)) hbw
end Go.Proofs.Ythbagggcfdgnfaa
