/- The walks of the laws. -/
import Derived.Test.YtdjlfbfipkalbaaDoorWoP
namespace Go.Proofs.YtdjlfbfipkalbaaDoor
open Go.RowKit

/-- The room of a list that was split. -/
theorem text_join (c : UInt8) (ps : List (List UInt8)) (h : ps ≠ []) : (textL ps).length = (joinC c ps).length + 1 := by
  induction ps with
  | nil => exact absurd rfl h
  | cons q r ih =>
    cases r with
    | nil => show (q ++ [10] ++ textL []).length = q.length + 1; simp [textL]
    | cons a b =>
      have := ih (by simp)
      show (q ++ [10] ++ textL (a :: b)).length = (q ++ c :: joinC c (a :: b)).length + 1
      simp at this ⊢
      omega
theorem room_split {line : List UInt8} {m : List (List UInt8)} (h : splitL line = some m) : room m ≤ line.length + 1 := by
  have hj := join_split h
  unfold room
  by_cases hm : m.map quote = []
  · rw [hm]; simp [textL]
  · rw [text_join 32 _ hm]
    unfold joinL at hj
    rw [hj]; exact Nat.le_refl _
theorem room_le (l : List (List UInt8)) : room l ≤ 3 * (textL l).length := by
  unfold room
  induction l with
  | nil => simp [textL]
  | cons a l ih =>
    have := (quote_len a).2
    show (quote a ++ [10] ++ textL (l.map quote)).length ≤ 3 * (a ++ [10] ++ textL l).length
    simp at ih ⊢
    omega
theorem quote_ge (s : List UInt8) : s.length ≤ (quote s).length := by
  unfold quote
  split
  · rename_i e; rw [e]; simp
  · exact (qs_len _).1
theorem unV_len {s : List UInt8} (h : unquote s = some (unV s)) : (unV s).length ≤ s.length := by
  have h1 := quote_unquote h
  have h2 := quote_ge (unV s)
  rwa [h1] at h2
theorem spV_len (s : List UInt8) : (spV s).length ≤ s.length + 1 := by
  unfold spV
  cases h : splitL s with
  | none => simp
  | some m =>
    have h1 := room_split h
    have h2 := room_len m
    simp; omega
theorem lnV_len (s : List UInt8) : (lnV s).length ≤ s.length + 1 := by
  unfold lnV
  cases h : lns s with
  | none => simp
  | some m =>
    have h1 := text_lns s m h
    have h2 := text_len m
    rw [h1] at h2
    simp; omega

set_option maxRecDepth 20000 in
set_option maxHeartbeats 2000000 in
theorem quotes_walk (W : World) (hL : Laid W) (s : List UInt8) (hs : s.length ≤ 1048576) : Calls Tryd.prog 3 #[.string ⟨s.toArray⟩] W (Ret (.bool true) W) := by
  have H := Lib.hid (Below.refl W.heap.size W)
  have k1 := fun w' => quote_any s (by omega) w'
  have k2 := fun w' => rquote_any s (by omega) w'
  generalize quote s = R at *
  go_enter Tryd.func3, Tryd.ntmps3
  go_wp2_with fail
  refine (k1 _).mono ?_
  rintro e w1 ⟨rfl, h⟩
  replace H := Lib.hid (Below.step H.out h)
  clear h
  go_wp2_with fail
  refine (k2 _).mono ?_
  rintro e w2 ⟨rfl, h⟩
  replace H := Lib.hid (Below.step H.out h)
  clear h
  go_wp2_with fail
  refine (awake_any _ (hL.below H.out)).mono ?_
  rintro e w3 ⟨rfl, h⟩
  replace H := Lib.hid (Below.step H.out h)
  clear h
  go_wp2
  go_ret
  exact Ret.mk rfl H.out

set_option maxRecDepth 20000 in
set_option maxHeartbeats 2000000 in
theorem unquotes_walk (W : World) (hL : Laid W) (s : List UInt8) (hs : s.length ≤ 1048576) : Calls Tryd.prog 4 #[.string ⟨s.toArray⟩] W (Ret (.bool true) W) := by
  have H := Lib.hid (Below.refl W.heap.size W)
  have k1 := fun w' => unquote_any s (by omega) w'
  have k2 := fun w' => runquote_any s (by omega) w'
  generalize unV s = V at *
  generalize unB s = B at *
  have hbb : (B == B) = true := by simp
  go_enter Tryd.func4, Tryd.ntmps4
  go_wp2_with fail
  refine (k1 _).mono ?_
  rintro e w1 ⟨rfl, h⟩
  replace H := Lib.hid (Below.step H.out h)
  clear h
  go_wp2_with fail
  refine (k2 _).mono ?_
  rintro e w2 ⟨rfl, h⟩
  replace H := Lib.hid (Below.step H.out h)
  clear h
  go_wp2_with fail
  refine (awake_any _ (hL.below H.out)).mono ?_
  rintro e w3 ⟨rfl, h⟩
  replace H := Lib.hid (Below.step H.out h)
  clear h
  go_wp2
  go_ret
  exact Ret.mk rfl H.out

set_option maxRecDepth 20000 in
set_option maxHeartbeats 4000000 in
theorem back_walk (W : World) (hL : Laid W) (s : List UInt8) (hs : s.length ≤ 1048576) : Calls Tryd.prog 5 #[.string ⟨s.toArray⟩] W (Ret (.bool true) W) := by
  have H := Lib.hid (Below.refl W.heap.size W)
  have hq := quote_len s
  have k1 := fun w' => quote_any s (by omega) w'
  have k2 := fun w' => unquote_any (quote s) (by omega) w'
  have k3 := fun w' => clean_any (quote s) (quote_ne s) (quote_clean s) (by omega) w'
  rw [show unV (quote s) = s by unfold unV; rw [unquote_quote]; rfl, show unB (quote s) = true by unfold unB; rw [unquote_quote]; rfl] at k2
  have k4 := fun w' => unquote_any s (by omega) w'
  have hu := un_parts s
  rcases hu with ⟨_, hv, hb⟩ | ⟨hu, hb⟩
  · rw [hv, hb] at k4
    generalize quote s = Q at *
    clear hv hb
    go_enter Tryd.func5, Tryd.ntmps5
    go_wp2_with fail
    refine (k1 _).mono ?_
    rintro e w1 ⟨rfl, h⟩
    replace H := Lib.hid (Below.step H.out h)
    clear h
    go_wp2_with fail
    refine (k2 _).mono ?_
    rintro e w2 ⟨rfl, h⟩
    replace H := Lib.hid (Below.step H.out h)
    clear h
    go_wp2_with fail
    refine (k3 _).mono ?_
    rintro e w3 ⟨rfl, h⟩
    replace H := Lib.hid (Below.step H.out h)
    clear h
    go_wp2_with fail
    refine (k4 _).mono ?_
    rintro e w4 ⟨rfl, h⟩
    replace H := Lib.hid (Below.step H.out h)
    clear h
    go_wp2_with fail
    refine (awake_any _ (hL.below H.out)).mono ?_
    rintro e w5 ⟨rfl, h⟩
    replace H := Lib.hid (Below.step H.out h)
    clear h
    go_wp2
    go_ret
    exact Ret.mk rfl H.out
  · have k5 := fun w' => quote_any (unV s) (by have := unV_len hu; omega) w'
    rw [quote_unquote hu] at k5
    rw [hb] at k4
    generalize quote s = Q at *
    generalize unV s = V at *
    clear hu hb
    go_enter Tryd.func5, Tryd.ntmps5
    go_wp2_with fail
    refine (k1 _).mono ?_
    rintro e w1 ⟨rfl, h⟩
    replace H := Lib.hid (Below.step H.out h)
    clear h
    go_wp2_with fail
    refine (k2 _).mono ?_
    rintro e w2 ⟨rfl, h⟩
    replace H := Lib.hid (Below.step H.out h)
    clear h
    go_wp2_with fail
    refine (k3 _).mono ?_
    rintro e w3 ⟨rfl, h⟩
    replace H := Lib.hid (Below.step H.out h)
    clear h
    go_wp2_with fail
    refine (k4 _).mono ?_
    rintro e w4 ⟨rfl, h⟩
    replace H := Lib.hid (Below.step H.out h)
    clear h
    go_wp2_with fail
    refine (k5 _).mono ?_
    rintro e w5 ⟨rfl, h⟩
    replace H := Lib.hid (Below.step H.out h)
    clear h
    go_wp2_with fail
    refine (awake_any _ (hL.below H.out)).mono ?_
    rintro e w6 ⟨rfl, h⟩
    replace H := Lib.hid (Below.step H.out h)
    clear h
    go_wp2
    go_ret
    exact Ret.mk rfl H.out

set_option maxRecDepth 20000 in
set_option maxHeartbeats 2000000 in
theorem apart_walk (W : World) (hL : Laid W) (a : List UInt8) (ha : a.length ≤ 1048576) (b : List UInt8) (hb : b.length ≤ 1048576) : Calls Tryd.prog 6 #[.string ⟨a.toArray⟩, .string ⟨b.toArray⟩] W (Ret (.bool true) W) := by
  have H := Lib.hid (Below.refl W.heap.size W)
  have k1 := fun w' => quote_any a (by omega) w'
  have k2 := fun w' => quote_any b (by omega) w'
  have hq : (quote a == quote b) = (a == b) := by
    by_cases h : a = b
    · subst h; simp
    · rw [show (a == b) = false by simpa using h, beq_eq_false_iff_ne]; exact fun e => h (quote_inj e)
  generalize quote a = Q at *
  generalize quote b = R at *
  have hbb : ((a == b) == (a == b)) = true := by simp
  generalize hx : (a == b) = x at *
  go_enter Tryd.func6, Tryd.ntmps6
  go_wp2_with fail
  refine (k1 _).mono ?_
  rintro e w1 ⟨rfl, h⟩
  replace H := Lib.hid (Below.step H.out h)
  clear h
  go_wp2_with fail
  refine (k2 _).mono ?_
  rintro e w2 ⟨rfl, h⟩
  replace H := Lib.hid (Below.step H.out h)
  clear h
  go_wp2_with fail
  refine (awake_any _ (hL.below H.out)).mono ?_
  rintro e w3 ⟨rfl, h⟩
  replace H := Lib.hid (Below.step H.out h)
  clear h
  go_wp2
  go_ret
  exact Ret.mk rfl H.out

set_option maxRecDepth 20000 in
set_option maxHeartbeats 2000000 in
theorem joins_walk (W : World) (hL : Laid W) (l : List (List UInt8)) (A : Option Addr) (cap : Nat) (hl : (textL l).length ≤ 1048576) (hr : Strs W A l) : Calls Tryd.prog 7 #[.slice A l.length cap] W (Ret (.bool true) W) := by
  have H := Lib.hid (Below.refl W.heap.size W)
  have HS := Lib.hid hr
  have hn := text_len l
  clear hr
  have hroom := room_le l
  have k1 := fun A1 c1 w' (h : Strs w' A1 l) => join_any l A1 c1 w' h (by omega)
  have k2 := fun w' (h : Strs w' A l) => rjoin_any l A cap w' h (by omega)
  generalize joinL l = R at *
  go_enter Tryd.func7, Tryd.ntmps7
  go_wp2_with fail
  refine (copied_any l A cap _ HS.out (by omega)).mono ?_
  rintro e w1 ⟨A1, c1, rfl, -, hS1, h⟩
  have HC := Lib.hid hS1
  replace H := Lib.hid (Below.step H.out h)
  replace HS := Lib.hid (HS.out.below h)
  clear h hS1
  go_wp2_with fail
  refine (k1 _ _ _ HC.out).mono ?_
  rintro e w2 ⟨rfl, h⟩
  replace H := Lib.hid (Below.step H.out h)
  replace HS := Lib.hid (HS.out.below h)
  clear h
  go_wp2_with fail
  refine (k2 _ HS.out).mono ?_
  rintro e w3 ⟨rfl, h⟩
  replace H := Lib.hid (Below.step H.out h)
  clear h
  go_wp2_with fail
  refine (awake_any _ (hL.below H.out)).mono ?_
  rintro e w4 ⟨rfl, h⟩
  replace H := Lib.hid (Below.step H.out h)
  clear h
  go_wp2
  go_ret
  exact Ret.mk rfl H.out

set_option maxRecDepth 20000 in
set_option maxHeartbeats 2000000 in
theorem texts_walk (W : World) (hL : Laid W) (l : List (List UInt8)) (A : Option Addr) (cap : Nat) (hl : (textL l).length ≤ 1048576) (hr : Strs W A l) : Calls Tryd.prog 11 #[.slice A l.length cap] W (Ret (.bool true) W) := by
  have H := Lib.hid (Below.refl W.heap.size W)
  have HS := Lib.hid hr
  have hn := text_len l
  clear hr
  have k1 := fun A1 c1 w' (h : Strs w' A1 l) => text_any l A1 c1 w' h (by omega)
  have k2 := fun w' (h : Strs w' A l) => rtext_any l A cap w' h (by omega)
  have hl2 := hl
  generalize textL l = R at *
  go_enter Tryd.func11, Tryd.ntmps11
  go_wp2_with fail
  refine (copied_any l A cap _ HS.out (by omega)).mono ?_
  rintro e w1 ⟨A1, c1, rfl, -, hS1, h⟩
  have HC := Lib.hid hS1
  replace H := Lib.hid (Below.step H.out h)
  replace HS := Lib.hid (HS.out.below h)
  clear h hS1
  go_wp2_with fail
  refine (k1 _ _ _ HC.out).mono ?_
  rintro e w2 ⟨rfl, h⟩
  replace H := Lib.hid (Below.step H.out h)
  replace HS := Lib.hid (HS.out.below h)
  clear h
  go_wp2_with fail
  refine (k2 _ HS.out).mono ?_
  rintro e w3 ⟨rfl, h⟩
  replace H := Lib.hid (Below.step H.out h)
  clear h
  go_wp2_with fail
  refine (awake_any _ (hL.below H.out)).mono ?_
  rintro e w4 ⟨rfl, h⟩
  replace H := Lib.hid (Below.step H.out h)
  clear h
  go_wp2
  go_ret
  exact Ret.mk rfl H.out

set_option maxRecDepth 20000 in
set_option maxHeartbeats 2000000 in
theorem splits_walk (W : World) (hL : Laid W) (s : List UInt8) (hs : s.length ≤ 1048576) : Calls Tryd.prog 8 #[.string ⟨s.toArray⟩] W (Ret (.bool true) W) := by
  have H := Lib.hid (Below.refl W.heap.size W)
  have k1 := fun w' (hb : Below W.heap.size W w') => split_any s (by omega) w'
  have k2 := fun w' => rsplit_any s (by omega) w'
  have hV := spV_len s
  generalize spV s = V at *
  generalize spB s = B at *
  have hbb : (B == B) = true := by simp
  go_enter Tryd.func8, Tryd.ntmps8
  go_wp2_with fail
  refine (k1 _ H.out).mono ?_
  rintro e w1 ⟨A1, c1, rfl, -, hS1, h⟩
  have H1 := Lib.hid hS1
  replace H := Lib.hid (Below.step H.out h)
  clear h hS1
  go_wp2_with fail
  refine (k2 _).mono ?_
  rintro e w2 ⟨A2, c2, rfl, -, hS2, h⟩
  have H2 := Lib.hid hS2
  replace H1 := Lib.hid (H1.out.below h)
  replace H := Lib.hid (Below.step H.out h)
  clear h hS2
  go_wp2_with fail
  refine (rsame_yes V A1 A2 c1 c2 _ H1.out H2.out (by omega)).mono ?_
  rintro e w3 ⟨rfl, h⟩
  replace H := Lib.hid (Below.step H.out h)
  clear h
  go_wp2_with fail
  refine (awake_any _ (hL.below H.out)).mono ?_
  rintro e w4 ⟨rfl, h⟩
  replace H := Lib.hid (Below.step H.out h)
  clear h
  go_wp2
  go_ret
  exact Ret.mk rfl H.out

set_option maxRecDepth 20000 in
set_option maxHeartbeats 2000000 in
theorem lines_walk (W : World) (hL : Laid W) (s : List UInt8) (hs : s.length ≤ 1048576) : Calls Tryd.prog 10 #[.string ⟨s.toArray⟩] W (Ret (.bool true) W) := by
  have H := Lib.hid (Below.refl W.heap.size W)
  have k1 := fun w' (hb : Below W.heap.size W w') => lines_any s (by omega) w' (hL.below hb)
  have k2 := fun w' => rlines_any s (by omega) w'
  have hV := lnV_len s
  generalize lnV s = V at *
  generalize lnB s = B at *
  have hbb : (B == B) = true := by simp
  go_enter Tryd.func10, Tryd.ntmps10
  go_wp2_with fail
  refine (k1 _ H.out).mono ?_
  rintro e w1 ⟨A1, c1, rfl, -, hS1, h⟩
  have H1 := Lib.hid hS1
  replace H := Lib.hid (Below.step H.out h)
  clear h hS1
  go_wp2_with fail
  refine (k2 _).mono ?_
  rintro e w2 ⟨A2, c2, rfl, -, hS2, h⟩
  have H2 := Lib.hid hS2
  replace H1 := Lib.hid (H1.out.below h)
  replace H := Lib.hid (Below.step H.out h)
  clear h hS2
  go_wp2_with fail
  refine (rsame_yes V A1 A2 c1 c2 _ H1.out H2.out (by omega)).mono ?_
  rintro e w3 ⟨rfl, h⟩
  replace H := Lib.hid (Below.step H.out h)
  clear h
  go_wp2_with fail
  refine (awake_any _ (hL.below H.out)).mono ?_
  rintro e w4 ⟨rfl, h⟩
  replace H := Lib.hid (Below.step H.out h)
  clear h
  go_wp2
  go_ret
  exact Ret.mk rfl H.out

end Go.Proofs.YtdjlfbfipkalbaaDoor
