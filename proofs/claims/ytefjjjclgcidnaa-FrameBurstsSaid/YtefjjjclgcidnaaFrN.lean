/- The laws FrameSeals, FrameOpens, FrameUnique: their walks. -/
import Derived.Test.YtefjjjclgcidnaaFrM
namespace Go.Proofs.Ytefjjjclgcidnaa
open Go.RowKit

theorem RetSeal.b {l : List UInt8} {w : World} {e : Ending} {w' : World} (h : RetSeal l w e w') : ∃ A cap, e = .returned (.tuple #[.slice A l.length cap, .int .i64 0]) ∧ Bytes w' A l ∧ Below w.heap.size w w' := by
  obtain ⟨A, cap, h1, h2, h3⟩ := h
  exact ⟨A, cap, h1, Bytes.of_own rfl h2, h3⟩

set_option maxHeartbeats 2000000 in
theorem seals_walk (w : World) (kind : Int) (_ : Fits kind) (b : List UInt8) (B : Option Addr) (cb : Nat) (_ : b.length ≤ maxLen) (hb : Bytes w B b) :
    Calls Try.prog 3 #[.int .i64 kind, .slice B b.length cb] w (Ret (.bool true) w) := by
  by_cases hl : b.length ≤ 3000
  rotate_left
  · have h1 : (3000 : Int) < b.length := by omega
    have h2 : decide ((3000 : Int) < b.length) = true := by simpa using h1
    go_enter Try.func3, Try.ntmps3
    go_wp2_with fail
    refine (awake_any _).mono ?_
    rintro e w1 ⟨rfl, h1⟩
    go_wp2
    go_ret
    exact Ret.mk rfl h1
  have h1 : ¬ (3000 : Int) < b.length := by omega
  have h2 : decide ((3000 : Int) < b.length) = false := by simpa using h1
  have hc := copied_any b B cb w hb (by omega)
  by_cases hk : 1 ≤ kind ∧ kind ≤ 255
  · obtain ⟨k, rfl⟩ : ∃ k : Nat, kind = (k : Int) := ⟨kind.toNat, by omega⟩
    have hs := fun A cap w' h => (seal_any k (by omega) b A cap w' h (by omega)).mono fun _ _ => RetSeal.b
    have hr := fun w' (h : Below w.heap.size w w') => (rseal_any k (by omega) b B cb w' (hb.below h) (by omega)).mono fun _ _ => RetSeal.b
    generalize sealL k b = s at *
    go_enter Try.func3, Try.ntmps3
    go_wp2_with fail
    refine hc.mono ?_
    rintro e w1 ⟨A1, c1, rfl, y1, _, h1⟩
    go_wp2_with fail
    refine (hs _ _ _ y1).mono ?_
    rintro e w2 ⟨A2, c2, rfl, y2, h2⟩
    have H2 := Below.step h1 h2
    go_wp2_with fail
    refine (hr _ H2).mono ?_
    rintro e w3 ⟨A3, c3, rfl, y3, h3⟩
    have H3 := Below.step H2 h3
    have r2 := run_bytes_string w3 A2 s c2 (y2.below h3)
    have r3 := run_bytes_string w3 A3 s c3 y3
    clear hs hr hc
    go_wp2_with fail
    refine (awake_any _).mono ?_
    rintro e w4 ⟨rfl, h4⟩
    go_wp2
    go_ret
    exact Ret.mk rfl (Below.step H3 h4)
  · have hk' : kind < 1 ∨ 255 < kind := by omega
    go_enter Try.func3, Try.ntmps3
    go_wp2_with fail
    refine hc.mono ?_
    rintro e w1 ⟨A1, c1, rfl, y1, _, h1⟩
    go_wp2_with fail
    refine (seal_kind kind hk' _ _ _ _).mono ?_
    rintro e w2 ⟨rfl, h2⟩
    have H2 := Below.step h1 h2
    go_wp2_with fail
    refine (rseal_kind kind hk' _ _ _ _).mono ?_
    rintro e w3 ⟨rfl, h3⟩
    have H3 := Below.step H2 h3
    have r2 : (convert 22 9 (.slice none 0 0)).run Try.prog w3 = .ok (.string ⟨#[]⟩) w3 := run_bytes_string w3 none [] 0 (Bytes.nil_ _ _)
    clear hc
    go_wp2_with fail
    refine (awake_any _).mono ?_
    rintro e w4 ⟨rfl, h4⟩
    go_wp2
    go_ret
    exact Ret.mk rfl (Below.step H3 h4)

set_option maxHeartbeats 2000000 in
theorem opens_walk (w : World) (b : List UInt8) (B : Option Addr) (cb : Nat) (_ : b.length ≤ maxLen) (hcap : b.length ≤ cb) (hb : Bytes w B b) (a : Int) (_ : Fits a) :
    Calls Try.prog 4 #[.slice B b.length cb, .int .i64 a] w (Ret (.bool true) w) := by
  by_cases hl : b.length ≤ 3000
  rotate_left
  · have h1 : (3000 : Int) < b.length := by omega
    have h2 : decide ((3000 : Int) < b.length) = true := by simpa using h1
    go_enter Try.func4, Try.ntmps4
    go_wp2_with fail
    refine (awake_any _).mono ?_
    rintro e w1 ⟨rfl, h1⟩
    go_wp2
    go_ret
    exact Ret.mk rfl h1
  have h1 : ¬ (3000 : Int) < b.length := by omega
  have h2 : decide ((3000 : Int) < b.length) = false := by simpa using h1
  have hc := copied_any b B cb w hb (by omega)
  have ho := fun A cap w' h hv => open_any b A cap h a w' hv (by omega)
  have hr := fun w' (h : Below w.heap.size w w') => ropen_any b B cb hcap a w' (hb.below h) (by omega)
  unfold RetOpen at ho hr
  generalize opK b a = K at *
  generalize opC b a = C at *
  generalize opN b a = N at *
  generalize opE b a = E at *
  go_enter Try.func4, Try.ntmps4
  go_wp2_with fail
  refine hc.mono ?_
  rintro e w1 ⟨A1, c1, rfl, y1, g1, h1⟩
  go_wp2_with fail
  refine (ho _ _ _ g1 y1).mono ?_
  rintro e w2 ⟨A2, c2, rfl, y2, h2⟩
  have H2 := Below.step h1 h2
  go_wp2_with fail
  refine (hr _ H2).mono ?_
  rintro e w3 ⟨A3, c3, rfl, y3, h3⟩
  have H3 := Below.step H2 h3
  have r2 := run_bytes_string w3 A2 C c2 (y2.below h3)
  have r3 := run_bytes_string w3 A3 C c3 y3
  clear ho hr hc
  go_wp2_with fail
  refine (awake_any _).mono ?_
  rintro e w4 ⟨rfl, h4⟩
  go_wp2
  go_ret
  exact Ret.mk rfl (Below.step H3 h4)
end Go.Proofs.Ytefjjjclgcidnaa
