/- The law FrameAll: its walk. -/
import Derived.Test.YtefjjjclgcidnaaFrV
import Derived.Test.YtefjjjclgcidnaaFrX
import Derived.Test.YtefjjjclgcidnaaFrY
namespace Go.Proofs.Ytefjjjclgcidnaa
open Go.RowKit

theorem allF_len_le (l : List UInt8) : ∀ n a, (allF l n a).1.length ≤ n
  | 0, _ => Nat.le_refl _
  | n + 1, a => by
    rw [allF]
    split
    · simp [allF_len_le l n]
    · simp

set_option maxHeartbeats 4000000 in
theorem fall_walk (w : World) (b : List UInt8) (B : Option Addr) (cb : Nat) (_ : b.length ≤ maxLen) (hcap : b.length ≤ cb) (hb : Bytes w B b) :
    Calls Try.prog 5 #[.slice B b.length cb] w (Ret (.bool true) w) := by
  by_cases hl : b.length ≤ 3000
  rotate_left
  · have h1 : (3000 : Int) < b.length := by omega
    have h2 : decide ((3000 : Int) < b.length) = true := by simpa using h1
    go_enter Try.func5, Try.ntmps5
    go_wp2_with fail
    refine (awake_any _).mono ?_
    rintro e w1 ⟨rfl, h1⟩
    go_wp2
    go_ret
    exact Ret.mk rfl h1
  have h1 : ¬ (3000 : Int) < b.length := by omega
  have h2 : decide ((3000 : Int) < b.length) = false := by simpa using h1
  have hc := copied_any b B cb w hb (by omega)
  have ha := fun A cap w' h hv => all_any b A cap h w' hv (by omega)
  have hr := fun w' (h : Below w.heap.size w w') => rall_any b B cb hcap w' (hb.below h) (by omega)
  have hln := allF_len_le b (b.length + 1) 0
  generalize allF b (b.length + 1) 0 = X at *
  obtain ⟨kl, cl, en⟩ := X
  unfold RetAll at ha hr
  dsimp only at ha hr hln
  go_enter Try.func5, Try.ntmps5
  go_wp2_with fail
  refine hc.mono ?_
  rintro e w1 ⟨A1, c1, rfl, y1, g1, h1⟩
  go_wp2_with fail
  refine (ha _ _ _ g1 y1).mono ?_
  rintro e w2 ⟨K2, ck2, C2, cc2, vs, rfl, hkc, i2, r2, v2, h2⟩
  have H2 := Below.step h1 h2
  clear ha hc
  have HI := Lib.hid i2
  have HR := Lib.hid r2
  have HV := Lib.hid v2
  have HKC := Lib.hid hkc
  clear i2 r2 v2 hkc
  go_wp2_with fail
  refine (hr _ H2).mono ?_
  rintro e w3 ⟨K3, ck3, C3, cc3, us, rfl, hkc3, i3, r3, v3, h3⟩
  clear hkc3
  have H3 := Below.step H2 h3
  have hs := fsame_yes kl cl HKC.out (by have : kl.length ≤ b.length + 1 := hln; omega) K2 K3 C2 C3 ck2 ck3 cc2 cc3 vs us w3 (HI.out.below h3) i3 ((HR.out.below h3).more h3.size) r3 (HV.out.mono fun _ _ h => h.below h3) v3
  clear hr i3 r3 v3
  go_wp2_with fail
  refine hs.mono ?_
  rintro e w4 ⟨rfl, h4⟩
  have H4 := Below.step H3 h4
  clear hs
  go_wp2_with fail
  refine (awake_any _).mono ?_
  rintro e w5 ⟨rfl, h5⟩
  go_wp2
  go_ret
  exact Ret.mk rfl (Below.step H4 h5)
end Go.Proofs.Ytefjjjclgcidnaa
