/- The walk of RunesBack. -/
import Derived.Test.YtmgdeckooiblaaaDoorRuW
namespace Go.Proofs.YtmgdeckooiblaaaDoor
open Go.RowKit

theorem of_points {l : List Int} (h : ofB l = true) : ptV (ofV l) = l ∧ ptB (ofV l) = true := by
  have hs : ∀ x ∈ l, scal x := fun x hx => scal_of (List.all_eq_true.1 h x hx)
  have e : ofV l = encs (l.map Int.toNat) := by unfold ofV accS; rw [h, List.take_length]; rfl
  have hp : pts (encs (l.map Int.toNat)) = some (l.map Int.toNat) := pts_of (fun p hp => by
    obtain ⟨x, hx, rfl⟩ := List.mem_map.1 hp
    have := hs x hx
    have h0 : 0 ≤ x := this.1
    rw [show ((x.toNat : Nat) : Int) = x by omega]
    exact this)
  rw [e]
  obtain ⟨a, b⟩ := pt_some hp
  refine ⟨?_, b⟩
  rw [a]
  unfold zs
  rw [List.map_map]
  conv => rhs; rw [← List.map_id l]
  apply List.map_congr_left
  intro x hx
  have := (hs x hx).1
  show ((x.toNat : Nat) : Int) = x
  omega
theorem points_of {s : List UInt8} (h : ptB s = true) : ofV (ptV s) = s ∧ ofB (ptV s) = true := by
  cases hp : pts s with
  | none => rw [(pt_none hp).2] at h; cases h
  | some l =>
    obtain ⟨a, b⟩ := pt_some hp
    obtain ⟨c, d⟩ := pts_encs hp
    have hb : ofB (ptV s) = true := by
      rw [a]
      unfold ofB zs
      rw [List.all_eq_true]
      intro x hx
      obtain ⟨p, hp, rfl⟩ := List.mem_map.1 hx
      exact scB_true (d p hp)
    refine ⟨?_, hb⟩
    unfold ofV accS
    rw [hb, List.take_length, a]
    show encs ((zs l).map Int.toNat) = s
    rw [← c]
    congr 1
    unfold zs
    rw [List.map_map]
    conv => rhs; rw [← List.map_id l]
    apply List.map_congr_left
    intro p _
    rfl
theorem ofV_len (l : List Int) : (ofV l).length ≤ 4 * l.length := by
  unfold ofV
  split
  · exact accS_len l l.length (Nat.le_refl _)
  · simp

set_option maxRecDepth 20000 in
set_option maxHeartbeats 4000000 in
theorem back_walk (w : World) (hL : Laid w) (l : List Int) (A : Option Addr) (cap : Nat) (hI : Ints w A l) (s : List UInt8) : Calls Tryd.prog 9 #[.slice A l.length cap, .string ⟨s.toArray⟩] w (Ret (.bool true) w) := by
  have HLL := Lib.hid hL
  have HI := Lib.hid hI
  clear hL hI
  by_cases hl : l.length ≤ 1000
  · have f1 : decide ((1000 : Int) < (l.length : Int)) = false := decide_eq_false (by omega)
    by_cases hs : s.length ≤ 2000
    · have kf := few_yes s [] hs (by simp) w
      have k1 := of_any l A cap w HI.out (by omega)
      have hvl := ofV_len l
      have k2 := fun w' h => points_any (ofV l) (by omega) w' h
      have k4 := fun w' h => points_any s (by omega) w' h
      have hpl := ptV_len s
      have k5 := fun A' cap' w' h => of_any (ptV s) A' cap' w' h (by omega)
      have HP : Hid (ofB l = true → ptV (ofV l) = l ∧ ptB (ofV l) = true) := Lib.hid of_points
      have HQ : Hid (ptB s = true → ofV (ptV s) = s ∧ ofB (ptV s) = true) := Lib.hid points_of
      have hpo := ptV_len (ofV l)
      generalize ptV (ofV l) = PV at *
      generalize ptB (ofV l) = PB at *
      generalize ofV (ptV s) = SV at *
      generalize ofB (ptV s) = SB at *
      generalize ofV l = V at *
      generalize ptV s = TV at *
      cases hob : ofB l with
      | true =>
        obtain ⟨rfl, rfl⟩ := HP.out hob
        rw [hob] at k1
        clear HP hob
        cases htb : ptB s with
        | true =>
          obtain ⟨rfl, rfl⟩ := HQ.out htb
          rw [htb] at k4
          have hss : (SV == SV) = true := by simp
          clear HQ htb
          go_enter Tryd.func9, Tryd.ntmps9
          go_wp2_with fail
          refine kf.mono ?_
          rintro e w1 ⟨rfl, rfl⟩
          go_wp2_with fail
          refine k1.mono ?_
          rintro e w2 ⟨rfl, h2⟩
          have H := Lib.hid h2
          replace HI := Lib.hid (HI.out.below h2)
          clear h2
          go_wp2_with fail
          refine (k2 _ (HLL.out.below H.out)).mono ?_
          rintro e w3 ⟨A3, c3, rfl, -, hI3, h3⟩
          replace H := Lib.hid (Below.step H.out h3)
          replace HI := Lib.hid (HI.out.below h3)
          have HJ := Lib.hid hI3
          clear h3 hI3
          go_wp2_with fail
          refine (same_yes _ A3 A c3 cap _ HJ.out HI.out (by unfold maxLen; omega)).mono ?_
          rintro e w4 ⟨rfl, h4⟩
          replace H := Lib.hid (Below.step H.out h4)
          clear h4
          go_wp2_with fail
          refine (k4 _ (HLL.out.below H.out)).mono ?_
          rintro e w5 ⟨A5, c5, rfl, -, hI5, h5⟩
          replace H := Lib.hid (Below.step H.out h5)
          have HK := Lib.hid hI5
          clear h5 hI5
          go_wp2_with fail
          refine (k5 _ _ _ HK.out).mono ?_
          rintro e w6 ⟨rfl, h6⟩
          replace H := Lib.hid (Below.step H.out h6)
          clear h6
          go_wp2_with fail
          refine (awake_any _ (HLL.out.below H.out)).mono ?_
          rintro e w7 ⟨rfl, h7⟩
          replace H := Lib.hid (Below.step H.out h7)
          clear h7
          go_wp2
          go_ret
          exact Ret.mk rfl H.out
        | false =>
          rw [htb] at k4
          clear HQ htb
          go_enter Tryd.func9, Tryd.ntmps9
          go_wp2_with fail
          refine kf.mono ?_
          rintro e w1 ⟨rfl, rfl⟩
          go_wp2_with fail
          refine k1.mono ?_
          rintro e w2 ⟨rfl, h2⟩
          have H := Lib.hid h2
          replace HI := Lib.hid (HI.out.below h2)
          clear h2
          go_wp2_with fail
          refine (k2 _ (HLL.out.below H.out)).mono ?_
          rintro e w3 ⟨A3, c3, rfl, -, hI3, h3⟩
          replace H := Lib.hid (Below.step H.out h3)
          replace HI := Lib.hid (HI.out.below h3)
          have HJ := Lib.hid hI3
          clear h3 hI3
          go_wp2_with fail
          refine (same_yes _ A3 A c3 cap _ HJ.out HI.out (by unfold maxLen; omega)).mono ?_
          rintro e w4 ⟨rfl, h4⟩
          replace H := Lib.hid (Below.step H.out h4)
          clear h4
          go_wp2_with fail
          refine (k4 _ (HLL.out.below H.out)).mono ?_
          rintro e w5 ⟨A5, c5, rfl, -, hI5, h5⟩
          replace H := Lib.hid (Below.step H.out h5)
          have HK := Lib.hid hI5
          clear h5 hI5
          go_wp2_with fail
          refine (k5 _ _ _ HK.out).mono ?_
          rintro e w6 ⟨rfl, h6⟩
          replace H := Lib.hid (Below.step H.out h6)
          clear h6
          go_wp2_with fail
          refine (awake_any _ (HLL.out.below H.out)).mono ?_
          rintro e w7 ⟨rfl, h7⟩
          replace H := Lib.hid (Below.step H.out h7)
          clear h7
          go_wp2
          go_ret
          exact Ret.mk rfl H.out
      | false =>
        rw [hob] at k1
        clear HP hob
        cases htb : ptB s with
        | true =>
          obtain ⟨rfl, rfl⟩ := HQ.out htb
          rw [htb] at k4
          have hss : (SV == SV) = true := by simp
          clear HQ htb
          go_enter Tryd.func9, Tryd.ntmps9
          go_wp2_with fail
          refine kf.mono ?_
          rintro e w1 ⟨rfl, rfl⟩
          go_wp2_with fail
          refine k1.mono ?_
          rintro e w2 ⟨rfl, h2⟩
          have H := Lib.hid h2
          replace HI := Lib.hid (HI.out.below h2)
          clear h2
          go_wp2_with fail
          refine (k2 _ (HLL.out.below H.out)).mono ?_
          rintro e w3 ⟨A3, c3, rfl, -, hI3, h3⟩
          replace H := Lib.hid (Below.step H.out h3)
          replace HI := Lib.hid (HI.out.below h3)
          have HJ := Lib.hid hI3
          clear h3 hI3
          go_wp2_with fail
          refine (k4 _ (HLL.out.below H.out)).mono ?_
          rintro e w5 ⟨A5, c5, rfl, -, hI5, h5⟩
          replace H := Lib.hid (Below.step H.out h5)
          have HK := Lib.hid hI5
          clear h5 hI5
          go_wp2_with fail
          refine (k5 _ _ _ HK.out).mono ?_
          rintro e w6 ⟨rfl, h6⟩
          replace H := Lib.hid (Below.step H.out h6)
          clear h6
          go_wp2_with fail
          refine (awake_any _ (HLL.out.below H.out)).mono ?_
          rintro e w7 ⟨rfl, h7⟩
          replace H := Lib.hid (Below.step H.out h7)
          clear h7
          go_wp2
          go_ret
          exact Ret.mk rfl H.out
        | false =>
          rw [htb] at k4
          clear HQ htb
          go_enter Tryd.func9, Tryd.ntmps9
          go_wp2_with fail
          refine kf.mono ?_
          rintro e w1 ⟨rfl, rfl⟩
          go_wp2_with fail
          refine k1.mono ?_
          rintro e w2 ⟨rfl, h2⟩
          have H := Lib.hid h2
          replace HI := Lib.hid (HI.out.below h2)
          clear h2
          go_wp2_with fail
          refine (k2 _ (HLL.out.below H.out)).mono ?_
          rintro e w3 ⟨A3, c3, rfl, -, hI3, h3⟩
          replace H := Lib.hid (Below.step H.out h3)
          replace HI := Lib.hid (HI.out.below h3)
          have HJ := Lib.hid hI3
          clear h3 hI3
          go_wp2_with fail
          refine (k4 _ (HLL.out.below H.out)).mono ?_
          rintro e w5 ⟨A5, c5, rfl, -, hI5, h5⟩
          replace H := Lib.hid (Below.step H.out h5)
          have HK := Lib.hid hI5
          clear h5 hI5
          go_wp2_with fail
          refine (k5 _ _ _ HK.out).mono ?_
          rintro e w6 ⟨rfl, h6⟩
          replace H := Lib.hid (Below.step H.out h6)
          clear h6
          go_wp2_with fail
          refine (awake_any _ (HLL.out.below H.out)).mono ?_
          rintro e w7 ⟨rfl, h7⟩
          replace H := Lib.hid (Below.step H.out h7)
          clear h7
          go_wp2
          go_ret
          exact Ret.mk rfl H.out
    · have kf := few_no s [] (by omega) w
      go_enter Tryd.func9, Tryd.ntmps9
      go_wp2_with fail
      refine kf.mono ?_
      rintro e w1 ⟨rfl, rfl⟩
      go_wp2_with fail
      refine (awake_any _ HLL.out).mono ?_
      rintro e w5 ⟨rfl, h5⟩
      go_wp2
      go_ret
      exact Ret.mk rfl h5
  · have f1 : decide ((1000 : Int) < (l.length : Int)) = true := decide_eq_true (by omega)
    go_enter Tryd.func9, Tryd.ntmps9
    go_wp2_with fail
    refine (awake_any _ HLL.out).mono ?_
    rintro e w5 ⟨rfl, h5⟩
    go_wp2
    go_ret
    exact Ret.mk rfl h5
end Go.Proofs.YtmgdeckooiblaaaDoor
