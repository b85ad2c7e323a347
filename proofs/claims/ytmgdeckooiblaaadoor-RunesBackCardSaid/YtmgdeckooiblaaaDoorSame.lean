/- langdocref01.Same of lists that are the same. -/
import Derived.Test.YtmgdeckooiblaaaDoorBase
namespace Go.Proofs.YtmgdeckooiblaaaDoor
open Go.RowKit

set_option maxHeartbeats 400000 in
/-- langdocref01.Same of two lists that are the same. -/
theorem same_yes (l : List Int) (A B : Option Addr) (ca cb : Nat) (w : World) (ha : Ints w A l) (hb : Ints w B l) (hl : l.length ≤ maxLen) :
    Calls Tryd.prog 16 #[.slice A l.length ca, .slice B l.length cb] w (Ret (.bool true) w) := by
  unfold maxLen at hl
  go_enter Tryd.func16, Tryd.ntmps16
  go_wp2
  go_loopw [5, 13] (fun _ i wr => ∃ k : Nat, k ≤ l.length ∧ i = .int .i64 (k : Int) ∧ Below w.heap.size w wr) (fun _ i _ => l.length + 1 - (intOf i).toNat)
  case atStart => exact ⟨0, by omega, rfl, Below.refl _ _⟩
  case round =>
    obtain ⟨k, hk, rfl, hbw⟩ := hrel
    by_cases h15 : k < l.length
    · obtain ⟨a1, e1, hl1, c1⟩ := (ha.below hbw).at_ h15
      obtain ⟨b1, e2, hl2, c2⟩ := (hb.below hbw).at_ h15
      subst e1 e2
      have hlt : (k : Int) < l.length := by omega
      go_wp2
      go_quiet (fail)
      go_wp2
      go_roundw
      case rel => exact ⟨k + 1, by omega, by go_num, Below.drewN_ hbw _⟩
      case measure => simp [intOf]; omega
    · have hlt : ¬ (k : Int) < l.length := by omega
      go_wp2
      go_ret
      exact Ret.mk rfl hbw
end Go.Proofs.YtmgdeckooiblaaaDoor
