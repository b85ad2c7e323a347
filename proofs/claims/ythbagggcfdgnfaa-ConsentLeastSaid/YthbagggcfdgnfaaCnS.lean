/- The reference's Same; few. -/
import Derived.Test.YthbagggcfdgnfaaCnB
namespace Go.Proofs.Ythbagggcfdgnfaa
open Go.RowKit

/-- '!=' on two consents. -/
theorem neq_cn (c e : Cn) (w : World) : (binOp .neq 40 (.agg #[.int .i64 c.p, .int .i64 c.r, .int .i64 c.d, .int .i64 c.k]) (.agg #[.int .i64 e.p, .int .i64 e.r, .int .i64 e.d, .int .i64 e.k])).run Try.prog w = .ok (.bool (!(c.p == e.p && c.r == e.r && c.d == e.d && c.k == e.k))) w := by
  have hq1 : Try.prog.stoodInHeld 40 = false := by kernel_rfl
  simp [go_sem, hq1]
  by_cases h1 : c.p = e.p <;> by_cases h2 : c.r = e.r <;> by_cases h3 : c.d = e.d <;> by_cases h4 : c.k = e.k <;> simp [h1, h2, h3, h4]
theorem neq_self (c : Cn) (w : World) : (binOp .neq 40 (.agg #[.int .i64 c.p, .int .i64 c.r, .int .i64 c.d, .int .i64 c.k]) (.agg #[.int .i64 c.p, .int .i64 c.r, .int .i64 c.d, .int .i64 c.k])).run Try.prog w = .ok (.bool false) w := by
  rw [neq_cn]; simp

set_option maxRecDepth 20000 in
set_option maxHeartbeats 2000000 in
theorem sameC_yes (l : List Cn) (A B : Option Addr) (ca cb : Nat) (w : World) (ha : Cons w A l) (hb : Cons w B l) (hl : l.length ≤ 100000) :
    Calls Try.prog 23 #[.slice A l.length ca, .slice B l.length cb] w (Ret (.bool true) w) := by
  go_enter Try.func23, Try.ntmps23
  go_wp2
  go_loopw [5] (fun i wr => ∃ k : Nat, k ≤ l.length ∧ i = .int .i64 (k : Int) ∧ Below w.heap.size w wr) (fun i _ => l.length + 1 - (intOf i).toNat)
  case atStart => exact ⟨0, by omega, rfl, Below.refl _ _⟩
  case round =>
    obtain ⟨k, hk, rfl, hbw⟩ := hrel
    by_cases hlt : k < l.length
    · obtain ⟨a1, rfl, _, d0, d1, d2, d3⟩ := Cons.cells (ha.below hbw) hlt
      obtain ⟨b1, rfl, _, e0, e1, e2, e3⟩ := Cons.cells (hb.below hbw) hlt
      have hneq := neq_self l[k]
      generalize l[k] = c at *
      go_wp2
      go_quiet (fail)
      go_wp2
      go_roundw
      case rel => exact ⟨k + 1, by omega, by go_num, Below.drewN_ hbw _⟩
      case measure => simp [intOf]; omega
    · go_wp2
      go_ret
      exact Ret.mk rfl hbw

/-- At most 50 persons with short names, at most 80 consents. -/
def fewB (ps : List Pn) (n : Nat) : Bool := decide (ps.length ≤ 50) && decide (n ≤ 80) && ps.all fun x => decide (x.nm.length ≤ 100)

set_option maxRecDepth 20000 in
set_option maxHeartbeats 2000000 in
theorem few_any (ps : List Pn) (n : Nat) (A B : Option Addr) (ca cb : Nat) (w : World) (ha : People w A ps) :
    Calls Try.prog 10 #[.slice A ps.length ca, .slice B n cb] w (Ret (.bool (fewB ps n)) w) := by
  obtain ⟨R, hR⟩ : ∃ R, fewB ps n = R := ⟨_, rfl⟩
  have HR := Lib.hid hR
  rw [hR]
  clear hR
  by_cases h1 : ps.length ≤ 50
  · by_cases h2 : n ≤ 80
    · go_enter Try.func10, Try.ntmps10
      go_wp2
      go_loopw [5] (fun i wr => ∃ k : Nat, k ≤ ps.length ∧ i = .int .i64 (k : Int) ∧ Hid (∀ j (hj : j < ps.length), j < k → ps[j].nm.length ≤ 100) ∧ Below w.heap.size w wr) (fun i _ => ps.length + 1 - (intOf i).toNat)
      case atStart => exact ⟨0, by omega, rfl, Lib.hid fun j hj h => by omega, Below.refl _ _⟩
      case round =>
        obtain ⟨k, hk, rfl, HA, hbw⟩ := hrel
        by_cases hlt : k < ps.length
        · obtain ⟨ad, rfl, _, d0, d1, d2⟩ := People.cells (ha.below hbw) hlt
          by_cases hs : ps[k].nm.length ≤ 100
          · have HN : Hid (∀ j (hj : j < ps.length), j < k + 1 → ps[j].nm.length ≤ 100) := Lib.hid fun j hj h => by
              rcases Nat.lt_or_ge j k with h' | h'
              · exact HA.out j hj h'
              · have : j = k := by omega
                subst this; exact hs
            generalize ps[k] = x at *
            go_wp2
            go_roundw
            case rel => exact ⟨k + 1, by omega, by go_num, HN, hbw⟩
            case measure => simp [intOf]; omega
          · have HN : Hid (fewB ps n = false) := Lib.hid (by
              unfold fewB
              rw [Bool.and_eq_false_iff]; right
              rw [Bool.eq_false_iff]
              intro hc
              exact hs (by simpa using List.all_eq_true.1 hc _ (List.getElem_mem hlt)))
            generalize ps[k] = x at *
            go_wp2
            go_ret
            exact Ret.mk (show Value.bool false = _ by rw [← HR.out, HN.out]) hbw
        · go_wp2
          go_ret
          refine Ret.mk (show Value.bool true = _ from ?_) hbw
          rw [← HR.out]
          unfold fewB
          rw [decide_eq_true h1, decide_eq_true h2, Bool.true_and, Bool.true_and, List.all_eq_true.2 fun x hx => by
            obtain ⟨j, hj, rfl⟩ := List.mem_iff_getElem.1 hx
            simpa using HA.out j hj (by omega)]
    · go_enter Try.func10, Try.ntmps10
      go_wp2
      go_ret
      exact Ret.mk (show Value.bool false = _ by rw [← HR.out]; unfold fewB; simp [h2]) (Below.refl _ _)
  · go_enter Try.func10, Try.ntmps10
    go_wp2
    go_ret
    exact Ret.mk (show Value.bool false = _ by rw [← HR.out]; unfold fewB; simp [h1]) (Below.refl _ _)

set_option maxRecDepth 20000 in
set_option maxHeartbeats 1000000 in
theorem right_any (ps : List Pn) (l : List Cn) (A B : Option Addr) (ca cb : Nat) (w : World) (ha : People w A ps) (hb : Cons w B l) :
    Calls Try.prog 14 #[.slice A ps.length ca, .slice B l.length cb] w (Ret (.bool (fewB ps l.length && (checkE ps l == 0))) w) := by
  have k1 := few_any ps l.length A B ca cb w ha
  rcases hf : fewB ps l.length with _ | _
  · rw [hf] at k1
    clear hf
    go_enter Try.func14, Try.ntmps14
    go_wp2_with fail
    refine k1.mono ?_
    rintro e w1 ⟨rfl, h1⟩
    clear k1
    go_wp2
    go_ret
    exact Ret.mk rfl h1
  · rw [hf] at k1
    have hlen : ps.length ≤ 50 ∧ l.length ≤ 80 := by unfold fewB at hf; simp at hf; exact ⟨hf.1.1, hf.1.2⟩
    obtain ⟨hp, hl⟩ := hlen
    clear hf
    have k2 := fun w' (h : Below w.heap.size w w') => rcheck_any ps l A B ca cb w' (ha.below h) (hb.below h) (by omega) (by omega)
    generalize checkE ps l = x at *
    go_enter Try.func14, Try.ntmps14
    go_wp2_with fail
    refine k1.mono ?_
    rintro e w1 ⟨rfl, h1⟩
    clear k1
    go_wp2_with fail
    refine (k2 w1 h1).mono ?_
    rintro e w2 ⟨rfl, h2⟩
    have H2 := Below.step h1 h2
    go_wp2
    go_ret
    exact Ret.mk rfl H2
end Go.Proofs.Ythbagggcfdgnfaa
