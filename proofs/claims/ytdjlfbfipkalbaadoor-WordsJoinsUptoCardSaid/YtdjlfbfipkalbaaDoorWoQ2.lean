/- The walks of WordsRejoins and WordsReads. -/
import Derived.Test.YtdjlfbfipkalbaaDoorWoQ
namespace Go.Proofs.YtdjlfbfipkalbaaDoor
open Go.RowKit

/-- Split's and Lines' answers, in parts. -/
theorem sp_parts (s : List UInt8) : (spV s = [] ∧ spB s = false) ∨ (splitL s = some (spV s) ∧ spB s = true) := by
  unfold spV spB
  cases splitL s with
  | none => exact .inl ⟨rfl, rfl⟩
  | some m => exact .inr ⟨rfl, rfl⟩
theorem ln_parts (s : List UInt8) : (lnV s = [] ∧ lnB s = false) ∨ (lns s = some (lnV s) ∧ lnB s = true) := by
  unfold lnV lnB
  cases lns s with
  | none => exact .inl ⟨rfl, rfl⟩
  | some m => exact .inr ⟨rfl, rfl⟩

set_option maxRecDepth 20000 in
set_option maxHeartbeats 4000000 in
theorem rejoins_walk (W : World) (hL : Laid W) (l : List (List UInt8)) (A : Option Addr) (cap : Nat) (hl : (textL l).length ≤ 1048576) (hr : Strs W A l) (s : List UInt8) (hs : s.length ≤ 1048576) :
    Calls Tryd.prog 9 #[.slice A l.length cap, .string ⟨s.toArray⟩] W (Ret (.bool true) W) := by
  have H := Lib.hid (Below.refl W.heap.size W)
  have HS := Lib.hid hr
  have hn := text_len l
  clear hr
  have hroom := room_le l
  have hjl := room_join l
  have k1 := fun A1 c1 w' (h : Strs w' A1 l) => join_any l A1 c1 w' h (by omega)
  have k2 := fun w' => split_any (joinL l) (by omega) w'
  rw [show spV (joinL l) = l by unfold spV; rw [split_join]; rfl, show spB (joinL l) = true by unfold spB; rw [split_join]; rfl] at k2
  have k3 := fun w' => split_any s (by omega) w'
  have HP := sp_parts s
  generalize joinL l = J at *
  rcases HP with ⟨hv, hb⟩ | ⟨hv, hb⟩
  · rw [hv, hb] at k3
    clear hv hb
    go_enter Tryd.func9, Tryd.ntmps9
    go_wp2_with fail
    refine (copied_any l A cap _ HS.out (by omega)).mono ?_
    rintro e w1 ⟨A1, c1, rfl, -, hS1, h⟩
    have HC := Lib.hid hS1
    replace H := Lib.hid (Below.step H.out h)
    replace HS := Lib.hid (HS.out.below h)
    clear h hS1
    go_wp2_with fail
    refine (k1 _ _ _ HC.out).mono ?_
    rintro e w2 ⟨rfl, h⟩
    replace H := Lib.hid (Below.step H.out h)
    replace HS := Lib.hid (HS.out.below h)
    clear h
    go_wp2_with fail
    refine (k2 _).mono ?_
    rintro e w3 ⟨A3, c3, rfl, -, hS3, h⟩
    have H3 := Lib.hid hS3
    replace H := Lib.hid (Below.step H.out h)
    replace HS := Lib.hid (HS.out.below h)
    clear h hS3
    go_wp2_with fail
    refine (rsame_yes l A3 A c3 cap _ H3.out HS.out (by omega)).mono ?_
    rintro e w4 ⟨rfl, h⟩
    replace H := Lib.hid (Below.step H.out h)
    clear h
    go_wp2_with fail
    refine (k3 _).mono ?_
    rintro e w5 ⟨A5, c5, rfl, -, hS5, h⟩
    replace H := Lib.hid (Below.step H.out h)
    clear h hS5
    go_wp2_with fail
    refine (awake_any _ (hL.below H.out)).mono ?_
    rintro e w6 ⟨rfl, h⟩
    replace H := Lib.hid (Below.step H.out h)
    clear h
    go_wp2
    go_ret
    exact Ret.mk rfl H.out
  · have hrm := room_split hv
    have k4 := fun A1 c1 w' (h : Strs w' A1 (spV s)) => join_any (spV s) A1 c1 w' h (by omega)
    rw [join_split hv] at k4
    rw [hb] at k3
    generalize spV s = V at *
    clear hv hb hrm
    go_enter Tryd.func9, Tryd.ntmps9
    go_wp2_with fail
    refine (copied_any l A cap _ HS.out (by omega)).mono ?_
    rintro e w1 ⟨A1, c1, rfl, -, hS1, h⟩
    have HC := Lib.hid hS1
    replace H := Lib.hid (Below.step H.out h)
    replace HS := Lib.hid (HS.out.below h)
    clear h hS1
    go_wp2_with fail
    refine (k1 _ _ _ HC.out).mono ?_
    rintro e w2 ⟨rfl, h⟩
    replace H := Lib.hid (Below.step H.out h)
    replace HS := Lib.hid (HS.out.below h)
    clear h
    go_wp2_with fail
    refine (k2 _).mono ?_
    rintro e w3 ⟨A3, c3, rfl, -, hS3, h⟩
    have H3 := Lib.hid hS3
    replace H := Lib.hid (Below.step H.out h)
    replace HS := Lib.hid (HS.out.below h)
    clear h hS3
    go_wp2_with fail
    refine (rsame_yes l A3 A c3 cap _ H3.out HS.out (by omega)).mono ?_
    rintro e w4 ⟨rfl, h⟩
    replace H := Lib.hid (Below.step H.out h)
    clear h
    go_wp2_with fail
    refine (k3 _).mono ?_
    rintro e w5 ⟨A5, c5, rfl, -, hS5, h⟩
    have H5 := Lib.hid hS5
    replace H := Lib.hid (Below.step H.out h)
    clear h hS5
    go_wp2_with fail
    refine (k4 _ _ _ H5.out).mono ?_
    rintro e w6 ⟨rfl, h⟩
    replace H := Lib.hid (Below.step H.out h)
    clear h
    go_wp2_with fail
    refine (awake_any _ (hL.below H.out)).mono ?_
    rintro e w7 ⟨rfl, h⟩
    replace H := Lib.hid (Below.step H.out h)
    clear h
    go_wp2
    go_ret
    exact Ret.mk rfl H.out
end Go.Proofs.YtdjlfbfipkalbaaDoor
