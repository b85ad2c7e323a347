/- The examples of the chapter. -/
import Derived.Test.YtdjlfbfipkalbaaDoorWoN
namespace Go.Proofs.YtdjlfbfipkalbaaDoor
open Go.RowKit

theorem Strs.new (w : World) (l : List (List UInt8)) (T : TypeId) : Strs (w.alloc (.cells (l.map sv).toArray T)) (some ⟨w.heap.size, 0, none⟩) l :=
  ⟨by simp, fun _ => ⟨_, rfl, by simp, fun j u hu => by
    rw [show ((⟨w.heap.size, 0, none⟩ : Addr).add j) = ⟨w.heap.size, j, none⟩ by unfold Addr.add; split <;> simp_all, World.cell?_alloc_at _ _ _ _ rfl]
    simpa using hu⟩⟩
theorem unq_ex (l v : List UInt8) (b : Bool) (hv : unV l = v) (hb : unB l = b) (hl : l.length ≤ 100) (w : World) : Calls Tryd.prog 16 #[.string ⟨l.toArray⟩] w (Ret (.tuple #[.string ⟨v.toArray⟩, .bool b]) w) := by
  subst hv hb; exact unquote_any l (by omega) w
theorem split_ex (l : List UInt8) (v : List (List UInt8)) (b : Bool) (hv : spV l = v) (hb : spB l = b) (hl : l.length ≤ 100) (w : World) : Calls Tryd.prog 22 #[.string ⟨l.toArray⟩] w (RetSB v b w) := by
  subst hv hb; exact split_any l (by omega) w
theorem lines_ex (l : List UInt8) (v : List (List UInt8)) (b : Bool) (hv : lnV l = v) (hb : lnB l = b) (hl : l.length ≤ 100) (w : World) (hL : Laid w) : Calls Tryd.prog 25 #[.string ⟨l.toArray⟩] w (RetSB v b w) := by
  subst hv hb; exact lines_any l (by omega) w hL
theorem quote_ex (l v : List UInt8) (hv : quote l = v) (hl : l.length ≤ 100) (w : World) : Calls Tryd.prog 13 #[.string ⟨l.toArray⟩] w (Ret (.string ⟨v.toArray⟩) w) := by
  subst hv; exact quote_any l (by omega) w
theorem text_ex (w : World) : Calls Tryd.prog 27 #[.slice (some ⟨w.heap.size, 0, none⟩) 2 2] (w.alloc (.cells #[.string ⟨#[97]⟩, .string ⟨#[]⟩] 9)) (Ret (.string ⟨#[97, 10, 10]⟩) (w.alloc (.cells #[.string ⟨#[97]⟩, .string ⟨#[]⟩] 9))) :=
  text_any [[97], []] (some ⟨w.heap.size, 0, none⟩) 2 _ (Strs.new w [[97], []] 9) (by decide)
theorem join_ex (w : World) : Calls Tryd.prog 19 #[.slice (some ⟨w.heap.size, 0, none⟩) 2 2] (w.alloc (.cells #[.string ⟨#[]⟩, .string ⟨#[120, 32, 121]⟩] 9)) (Ret (.string ⟨#[37, 45, 32, 120, 37, 50, 48, 121]⟩) (w.alloc (.cells #[.string ⟨#[]⟩, .string ⟨#[120, 32, 121]⟩] 9))) := by
  have h := join_any [[], [120, 32, 121]] (some ⟨w.heap.size, 0, none⟩) 2 _ (Strs.new w [[], [120, 32, 121]] 9) (by decide +kernel)
  rw [show joinL [[], [120, 32, 121]] = [37, 45, 32, 120, 37, 50, 48, 121] by decide +kernel] at h
  exact h
theorem same_ex (A : Option Addr) (cap : Nat) (w : World) (h : Strs w A [[]]) : Calls Tryd.prog 24 #[.slice A 1 cap, .slice (some ⟨w.heap.size, 0, none⟩) 1 1] (w.alloc (.cells #[.string ⟨#[]⟩] 9)) (Ret (.bool true) (w.alloc (.cells #[.string ⟨#[]⟩] 9))) :=
  rsame_yes [[]] A (some ⟨w.heap.size, 0, none⟩) cap 1 _ (h.alloc _) (Strs.new w [[]] 9) (by decide)

set_option maxRecDepth 20000 in
set_option maxHeartbeats 4000000 in
theorem awake_any (w : World) (hL : Laid w) : Calls Tryd.prog 15 #[] w (Ret (.bool true) w) := by
  have H := Lib.hid (Below.refl w.heap.size w)
  go_enter Tryd.func15, Tryd.ntmps15
  go_wp2_with fail
  refine (unq_ex [37, 52, 49] [] false (by decide +kernel) (by decide +kernel) (by decide) _).mono ?_
  rintro e w1 ⟨rfl, h⟩
  replace H := Lib.hid (Below.step H.out h)
  clear h
  go_wp2_with fail
  refine (unq_ex [97, 37, 50, 48, 98] [97, 32, 98] true (by decide +kernel) (by decide +kernel) (by decide) _).mono ?_
  rintro e w2 ⟨rfl, h⟩
  replace H := Lib.hid (Below.step H.out h)
  clear h
  go_wp2_with fail
  refine (split_ex [97, 32, 32, 98] [] false (by decide +kernel) (by decide +kernel) (by decide) _).mono ?_
  rintro e w3 ⟨A3, c3, rfl, -, -, h⟩
  replace H := Lib.hid (Below.step H.out h)
  clear h
  go_wp2_with fail
  refine (split_ex [37, 45] [[]] true (by decide +kernel) (by decide +kernel) (by decide) _).mono ?_
  rintro e w4 ⟨A4, c4, rfl, -, hS4, h⟩
  replace H := Lib.hid (Below.step H.out h)
  replace hS4 := Lib.hid hS4
  clear h
  go_wp2_with fail
  refine (lines_ex [10] [[]] true (by decide +kernel) (by decide +kernel) (by decide) _ (hL.below H.out)).mono ?_
  rintro e w5 ⟨A5, c5, rfl, -, hS5, h⟩
  replace H := Lib.hid (Below.step H.out h)
  replace hS4 := Lib.hid (hS4.out.below h)
  replace hS5 := Lib.hid hS5
  clear h
  go_wp2_with fail
  refine (lines_ex [97] [] false (by decide +kernel) (by decide +kernel) (by decide) _ (hL.below H.out)).mono ?_
  rintro e w6 ⟨A6, c6, rfl, -, -, h⟩
  replace H := Lib.hid (Below.step H.out h)
  replace hS4 := Lib.hid (hS4.out.below h)
  replace hS5 := Lib.hid (hS5.out.below h)
  clear h
  go_wp2_with fail
  refine (quote_ex [97, 32, 98] [97, 37, 50, 48, 98] (by decide +kernel) (by decide) _).mono ?_
  rintro e w7 ⟨rfl, h⟩
  replace H := Lib.hid (Below.step H.out h)
  replace hS4 := Lib.hid (hS4.out.below h)
  replace hS5 := Lib.hid (hS5.out.below h)
  clear h
  go_wp2_with fail
  refine (quote_ex [] [37, 45] (by decide +kernel) (by decide) _).mono ?_
  rintro e w8 ⟨rfl, h⟩
  replace H := Lib.hid (Below.step H.out h)
  replace hS4 := Lib.hid (hS4.out.below h)
  replace hS5 := Lib.hid (hS5.out.below h)
  clear h
  go_wp2_with fail
  refine (same_ex A4 c4 _ hS4.out).mono ?_
  rintro e w9 ⟨rfl, h⟩
  replace h := Lib.hid ((((Below.refl _ w8).alloc (Nat.le_refl _) (.cells #[.string ⟨#[]⟩] 9))).trans (h.mono (by simp)))
  replace H := Lib.hid (Below.step H.out h.out)
  replace hS5 := Lib.hid (hS5.out.below h.out)
  clear h
  go_wp2_with fail
  refine (same_ex A5 c5 _ hS5.out).mono ?_
  rintro e w10 ⟨rfl, h⟩
  replace h := Lib.hid ((((Below.refl _ w9).alloc (Nat.le_refl _) (.cells #[.string ⟨#[]⟩] 9))).trans (h.mono (by simp)))
  replace H := Lib.hid (Below.step H.out h.out)
  clear h
  go_wp2_with fail
  refine (text_ex _).mono ?_
  rintro e w11 ⟨rfl, h⟩
  replace h := Lib.hid ((((Below.refl _ w10).alloc (Nat.le_refl _) (.cells #[.string ⟨#[97]⟩, .string ⟨#[]⟩] 9))).trans (h.mono (by simp)))
  replace H := Lib.hid (Below.step H.out h.out)
  clear h
  go_wp2_with fail
  refine (join_ex _).mono ?_
  rintro e w12 ⟨rfl, h⟩
  replace h := Lib.hid ((((Below.refl _ w11).alloc (Nat.le_refl _) (.cells #[.string ⟨#[]⟩, .string ⟨#[120, 32, 121]⟩] 9))).trans (h.mono (by simp)))
  replace H := Lib.hid (Below.step H.out h.out)
  clear h
  go_wp2
  go_ret
  exact Ret.mk rfl H.out
end Go.Proofs.YtdjlfbfipkalbaaDoor
