/- same: lists of kinds and contents that are the same. -/
import Derived.Test.YtefjjjclgcidnaaFrU
import Derived.Test.YtefjjjclgcidnaaRegion
namespace Go.Proofs.Ytefjjjclgcidnaa
open Go.RowKit

set_option maxHeartbeats 4000000 in
theorem fsame_yes (kl : List Int) (cl : List (List UInt8)) (hkc : kl.length = cl.length) (hn : kl.length ≤ 100000) (K L C D : Option Addr) (ck cl' cc cd : Nat) (vs us : List Value) (w : World)
    (hK : Ints w K kl) (hL : Ints w L kl) (hC : Reads w w.heap.size 1 C kl.length vs) (hD : Reads w w.heap.size 1 D kl.length us) (hv : ContsL w [] vs cl) (hu : ContsL w [] us cl) :
    Calls Try.prog 19 #[.slice K kl.length ck, .slice C kl.length cc, .slice L kl.length cl', .slice D kl.length cd] w (Ret (.bool true) w) := by
  have HK := Lib.hid (fun w' (h : Below w.heap.size w w') => hK.below h)
  have HL := Lib.hid (fun w' (h : Below w.heap.size w w') => hL.below h)
  have HC := Lib.hid (fun w' (h : Below w.heap.size w w') => (hC.below h))
  have HD := Lib.hid (fun w' (h : Below w.heap.size w w') => (hD.below h))
  have HV := Lib.hid hv
  have HU := Lib.hid hu
  have HKC := Lib.hid hkc
  clear hK hL hC hD hv hu hkc
  go_enter Try.func19, Try.ntmps19
  go_wp2
  go_loopw [9] (fun i wr => ∃ k : Nat, k ≤ kl.length ∧ i = .int .i64 (k : Int) ∧ Below w.heap.size w wr) (fun i _ => kl.length + 1 - (intOf i).toNat)
  case atStart => exact ⟨0, by omega, rfl, Below.refl _ _⟩
  case round =>
    obtain ⟨k, hk, rfl, hbw⟩ := hrel
    by_cases hlt : k < kl.length
    · have hlt' : (k : Int) < kl.length := by omega
      have hk0 : (0 : Int) ≤ (k : Int) := by omega
      obtain ⟨a1, rfl, _, c1⟩ := (HK.out _ hbw).at_ hlt
      obtain ⟨a2, rfl, _, c2⟩ := (HL.out _ hbw).at_ hlt
      obtain ⟨v, hv1, A3, q3, rfl, y3, _⟩ := ContsL.at_ (i := k) (by rw [← HKC.out]; exact hlt) HV.out
      obtain ⟨u, hu1, A4, q4, rfl, y4, _⟩ := ContsL.at_ (i := k) (by rw [← HKC.out]; exact hlt) HU.out
      obtain ⟨ad, x, rfl, _, e1, c3⟩ := (HC.out _ hbw).at_ hlt
      obtain ⟨ae, z, rfl, _, e2, c4⟩ := (HD.out _ hbw).at_ hlt
      rw [hv1] at e1
      rw [hu1] at e2
      injection e1 with e1
      injection e2 with e2
      subst e1 e2
      have r3 := run_bytes_string wr.drew A3 _ q3 (by exact y3.below hbw.drew)
      have r4 := run_bytes_string wr.drew A4 _ q4 (by exact y4.below hbw.drew)
      clear hv1 hu1 y3 y4
      generalize cl[k] = cn at *
      generalize kl[k] = kk at *
      have c1' : wr.drew.cell? (a1.add k) = some (.int .i64 kk) := c1
      have c2' : wr.drew.cell? (a2.add k) = some (.int .i64 kk) := c2
      have c3' : wr.drew.cell? (ad.add k) = some (.slice A3 cn.length q3) := c3
      have c4' : wr.drew.cell? (ae.add k) = some (.slice A4 cn.length q4) := c4
      clear c1 c2 c3 c4
      go_wp2_with fail
      go_region_held3 (fun w' => w'.cell? (a1.add k) = some (.int .i64 kk) ∧ w'.cell? (a2.add k) = some (.int .i64 kk) ∧ w'.cell? (ad.add k) = some (.slice A3 cn.length q3) ∧ w'.cell? (ae.add k) = some (.slice A4 cn.length q4) ∧
          (convert 22 9 (.slice A3 cn.length q3)).run Try.prog w' = .ok (.string ⟨cn.toArray⟩) w' ∧ (convert 22 9 (.slice A4 cn.length q4)).run Try.prog w' = .ok (.string ⟨cn.toArray⟩) w')
        (first | exact ⟨‹_›, ‹_›, ‹_›, ‹_›, ‹_›, ‹_›⟩) (fail)
      go_wp2
      go_roundw
      case rel => exact ⟨k + 1, by omega, by go_num, hbw.drew⟩
      case measure => simp [intOf]; omega
    · have hlt' : ¬ (k : Int) < kl.length := by omega
      go_wp2
      go_ret
      exact Ret.mk rfl hbw
end Go.Proofs.Ytefjjjclgcidnaa
