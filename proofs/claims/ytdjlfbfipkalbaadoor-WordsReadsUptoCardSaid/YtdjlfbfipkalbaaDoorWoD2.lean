/- Unquote of the code. -/
import Derived.Test.YtdjlfbfipkalbaaDoorWoD
namespace Go.Proofs.YtdjlfbfipkalbaaDoor
open Go.RowKit

/-- What Unquote answers: the string (empty, if there is none), and whether there is one. -/
def unV (w : List UInt8) : List UInt8 := (unquote w).getD []
def unB (w : List UInt8) : Bool := (unquote w).isSome

set_option maxRecDepth 20000 in
set_option maxHeartbeats 2000000 in
theorem unquote_any (wd : List UInt8) (hl : wd.length ≤ 4000000) (w : World) : Calls Tryd.prog 16 #[.string ⟨wd.toArray⟩] w (Ret (.tuple #[.string ⟨(unV wd).toArray⟩, .bool (unB wd)]) w) := by
  by_cases h0 : wd = [37, 45]
  · subst h0
    go_enter Tryd.func16, Tryd.ntmps16
    go_wp2
    go_ret2
    exact Ret.mk rfl (Below.refl _ _)
  have he : (wd == [37, 45]) = false := by simpa using h0
  have k1 := decoded_any wd hl w
  have HQ : Hid (∀ d : List UInt8, (∀ s, wd = qs s → s = d) → (quote d = wd ∧ unV wd = d ∧ unB wd = true) ∨ (quote d ≠ wd ∧ unV wd = [] ∧ unB wd = false)) := Lib.hid (fun d hd => by
    unfold unV unB
    cases hu : unquote wd with
    | none => exact .inr ⟨unquote_none hu, rfl, rfl⟩
    | some s =>
      have hq := quote_unquote hu
      have e : s = d := by
        refine hd s ?_
        unfold quote at hq
        split at hq
        · exact absurd hq.symm h0
        · exact hq.symm
      exact .inl ⟨by rw [← e]; exact hq, e, rfl⟩)
  clear h0
  generalize unV wd = V at *
  generalize unB wd = B at *
  go_enter Tryd.func16, Tryd.ntmps16
  go_wp2_with fail
  refine k1.mono ?_
  rintro e w1 ⟨d, hdl, hd, rfl, h1⟩
  clear k1
  have HC := HQ.out d hd
  have k2 := fun w' => quote_any d (by omega) w'
  clear hd HQ
  rcases HC with ⟨hq, rfl, rfl⟩ | ⟨hq, rfl, rfl⟩
  · have hb : (quote V == wd) = true := by simpa using hq
    generalize quote V = Q at *
    clear hq
    go_wp2_with fail
    refine (k2 _).mono ?_
    rintro e w2 ⟨rfl, h2⟩
    have hb2 := Below.step h1 h2
    clear k2
    go_wp2
    go_ret2
    exact Ret.mk rfl hb2
  · have hb : (quote d == wd) = false := by simpa using hq
    generalize quote d = Q at *
    clear hq
    go_wp2_with fail
    refine (k2 _).mono ?_
    rintro e w2 ⟨rfl, h2⟩
    have hb2 := Below.step h1 h2
    clear k2
    go_wp2
    go_ret2
    exact Ret.mk rfl hb2
end Go.Proofs.YtdjlfbfipkalbaaDoor
