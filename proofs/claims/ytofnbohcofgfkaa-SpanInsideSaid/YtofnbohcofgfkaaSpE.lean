/- The reference's Same; few; copied. -/
import Derived.Test.YtofnbohcofgfkaaSpC
namespace Go.Proofs.Ytofnbohcofgfkaa
open Go.RowKit

/-- '!=' on two spans. -/
theorem neq_sp (a b c d : Int) (w : World) : (binOp .neq 23 (.agg #[.int .i64 a, .int .i64 b]) (.agg #[.int .i64 c, .int .i64 d])).run Try.prog w = .ok (.bool (!(a == c && b == d))) w := by
  have hq1 : Try.prog.stoodInHeld 23 = false := by kernel_rfl
  simp [go_sem, hq1]
  by_cases h1 : a = c <;> by_cases h2 : b = d <;> simp [h1, h2]
theorem neq_self (a b : Int) (w : World) : (binOp .neq 23 (.agg #[.int .i64 a, .int .i64 b]) (.agg #[.int .i64 a, .int .i64 b])).run Try.prog w = .ok (.bool false) w := by
  rw [neq_sp]; simp

set_option maxRecDepth 20000 in
set_option maxHeartbeats 2000000 in
theorem sameS_yes (l : List Sp) (A B : Option Addr) (ca cb : Nat) (w : World) (ha : Spans w A l) (hb : Spans w B l) (hl : l.length ≤ 100000) :
    Calls Try.prog 19 #[.slice A l.length ca, .slice B l.length cb] w (Ret (.bool true) w) := by
  go_enter Try.func19, Try.ntmps19
  go_wp2
  go_loopw [5] (fun i wr => ∃ k : Nat, k ≤ l.length ∧ i = .int .i64 (k : Int) ∧ Below w.heap.size w wr) (fun i _ => l.length + 1 - (intOf i).toNat)
  case atStart => exact ⟨0, by omega, rfl, Below.refl _ _⟩
  case round =>
    obtain ⟨k, hk, rfl, hbw⟩ := hrel
    by_cases hlt : k < l.length
    · obtain ⟨a1, rfl, _, d0, d1⟩ := Spans.cells (ha.below hbw) hlt
      obtain ⟨b1, rfl, _, e0, e1⟩ := Spans.cells (hb.below hbw) hlt
      have hneq := neq_self l[k].f l[k].t
      generalize l[k] = c at *
      go_wp2
      go_quiet (fail)
      go_wp2
      go_roundw
      case rel => exact ⟨k + 1, by omega, by go_num, Below.drewN_ hbw _⟩
      case measure => simp [intOf]; omega
    · go_wp2
      go_ret
      exact Ret.mk rfl hbw

theorem few_any (n m : Nat) (A B : Option Addr) (ca cb : Nat) (w : World) :
    Calls Try.prog 23 #[.slice A n ca, .slice B m cb] w (Ret (.bool (decide (n ≤ 60) && decide (m ≤ 60))) w) := by
  by_cases h1 : n ≤ 60
  · go_enter Try.func23, Try.ntmps23
    go_wp2
    go_ret
    exact Ret.mk (by simp only [h1, decide_true, Bool.true_and]; congr 1; simp; omega) (by repeat (first | assumption | exact Below.refl _ _ | refine Below.alloc ?_ (by first | omega | (simp; done) | (simp; omega)) _ | refine Below.setCell ?_ (by first | omega | (simp; done) | (simp; omega)) _ | refine Below.drew ?_ | refine Below.drewN_ ?_ _ | refine Below.step ?_ (by assumption)))
  · go_enter Try.func23, Try.ntmps23
    go_wp2
    go_ret
    exact Ret.mk (by simp) (by repeat (first | assumption | exact Below.refl _ _ | refine Below.alloc ?_ (by first | omega | (simp; done) | (simp; omega)) _ | refine Below.setCell ?_ (by first | omega | (simp; done) | (simp; omega)) _ | refine Below.drew ?_ | refine Below.drewN_ ?_ _ | refine Below.step ?_ (by assumption)))
end Go.Proofs.Ytofnbohcofgfkaa
