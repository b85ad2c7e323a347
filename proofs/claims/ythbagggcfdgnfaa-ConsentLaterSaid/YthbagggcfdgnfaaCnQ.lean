/- The laws of the layer: their walks. -/
import Derived.Test.YthbagggcfdgnfaaCnU
namespace Go.Proofs.Ythbagggcfdgnfaa
open Go.RowKit

set_option maxRecDepth 20000 in
set_option maxHeartbeats 2000000 in
theorem check_walk (w : World) (ps : List Pn) (l : List Cn) (A B : Option Addr) (ca cb : Nat) (ha : People w A ps) (hb : Cons w B l) :
    Calls Try.prog 3 #[.slice A ps.length ca, .slice B l.length cb] w (Ret (.bool true) w) := by
  have k1 := few_any ps l.length A B ca cb w ha
  rcases hf : fewB ps l.length with _ | _
  · rw [hf] at k1
    clear hf
    go_enter Try.func3, Try.ntmps3
    go_wp2_with fail
    refine k1.mono ?_
    rintro e w1 ⟨rfl, h1⟩
    go_wp2_with fail
    refine (awake_any w1).mono ?_
    rintro e w2 ⟨rfl, h2⟩
    have H := Lib.hid (Below.step h1 h2)
    clear h1 h2
    go_wp2
    go_ret
    exact Ret.mk rfl H.out
  · have hle := few_le hf
    rw [hf] at k1
    clear hf
    have k2 := fun w' h => check_any ps l A B ca cb w' (ha.below h) (hb.below h) (by omega) (by omega)
    have k3 := fun w' h => rcheck_any ps l A B ca cb w' (ha.below h) (hb.below h) (by omega) (by omega)
    generalize checkE ps l = R at *
    go_enter Try.func3, Try.ntmps3
    go_wp2_with fail
    refine k1.mono ?_
    rintro e w1 ⟨rfl, h1⟩
    go_wp2_with fail
    refine (k2 w1 h1).mono ?_
    rintro e w2 ⟨rfl, h2⟩
    have H2 := Below.step h1 h2
    go_wp2_with fail
    refine (k3 w2 H2).mono ?_
    rintro e w3 ⟨rfl, h3⟩
    have H3 := Below.step H2 h3
    go_wp2_with fail
    refine (awake_any w3).mono ?_
    rintro e w4 ⟨rfl, h4⟩
    have H := Lib.hid (Below.step H3 h4)
    clear h1 h2 h3 h4 H2 H3 k2 k3
    go_wp2
    go_ret
    exact Ret.mk rfl H.out

end Go.Proofs.Ythbagggcfdgnfaa
