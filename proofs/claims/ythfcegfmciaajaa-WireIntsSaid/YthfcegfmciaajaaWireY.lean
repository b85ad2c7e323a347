/- awake. -/
import Derived.Test.YthfcegfmciaajaaWireX
namespace Go.Proofs.Ythfcegfmciaajaa
open Go.RowKit

set_option maxHeartbeats 1000000 in
theorem awake_any (w : World) : Calls Try.prog 11 #[] w (Ret (.bool true) w) := by
  go_enter Try.func11, Try.ntmps11
  go_wp2_with fail
  refine (int_is x1 (some ⟨w.heap.size, 0, none⟩) 2 ⟨by decide, by decide⟩ _ (by simpa using Bytes.new w [128, 0] 5) (by decide)).mono ?_
  rintro e w1 ⟨rfl, h1⟩
  have H1 : Below w.heap.size w w1 := Below.step ((Below.refl _ _).alloc (Nat.le_refl _) _) h1
  go_wp2_with fail
  refine (int_is x2 (some ⟨w1.heap.size, 0, none⟩) 1 ⟨by decide, by decide⟩ _ (by simpa using Bytes.new w1 [128] 5) (by decide)).mono ?_
  rintro e w2 ⟨rfl, h2⟩
  have H2 : Below w.heap.size w w2 := Below.step (H1.alloc H1.size _) h2
  go_wp2_with fail
  refine (int_is x3 (some ⟨w2.heap.size, 0, none⟩) 3 ⟨by decide, by decide⟩ _ (by simpa using Bytes.new w2 [7, 128, 1] 5) (by decide)).mono ?_
  rintro e w3 ⟨rfl, h3⟩
  have H3 : Below w.heap.size w w3 := Below.step (H2.alloc H2.size _) h3
  go_wp2_with fail
  refine (text_is x4 (some ⟨w3.heap.size, 0, none⟩) 3 (by decide) ⟨by decide, by decide⟩ _ (by simpa using Bytes.new w3 [4, 97, 98] 5) (by decide)).mono ?_
  rintro e w4 ⟨rfl, h4⟩
  have H4 : Below w.heap.size w w4 := Below.step (H3.alloc H3.size _) h4
  go_wp2_with fail
  refine (put_is x5 none 0 ⟨by decide, by decide⟩ _ (Bytes.nil_ _ _) (by decide)).mono ?_
  rintro e w5 ⟨A5, c5, rfl, hb5, h5⟩
  have H5 := Below.step H4 h5
  have r5 : (convert 22 9 (.slice A5 1 c5)).run Try.prog w5 = .ok (.string ⟨#[1]⟩) w5 := run_bytes_string w5 A5 _ c5 hb5
  go_wp2_with fail
  refine (put_is x6 (some ⟨w5.heap.size, 0, none⟩) 1 ⟨by decide, by decide⟩ _ (by simpa using Bytes.new w5 [9] 5) (by decide)).mono ?_
  rintro e w6 ⟨A6, c6, rfl, hb6, h6⟩
  have H6 : Below w.heap.size w w6 := Below.step (H5.alloc H5.size _) h6
  have r6 : (convert 22 9 (.slice A6 3 c6)).run Try.prog w6 = .ok (.string ⟨#[9, 128, 1]⟩) w6 := run_bytes_string w6 A6 _ c6 hb6
  go_wp2_with fail
  refine (puts_is x7 none 0 (some ⟨w6.heap.size, 0, none⟩) 2 (by intro x hx; simp at hx; rcases hx with rfl | rfl <;> exact ⟨by decide, by decide⟩) (by decide) _ (Bytes.nil_ _ _) (by simpa using Ints.new w6 [1, -1] 3) (by decide)).mono ?_
  rintro e w7 ⟨A7, c7, rfl, hb7, h7⟩
  have H7 : Below w.heap.size w w7 := Below.step (H6.alloc H6.size _) h7
  have r7 : (convert 22 9 (.slice A7 3 c7)).run Try.prog w7 = .ok (.string ⟨#[4, 2, 1]⟩) w7 := run_bytes_string w7 A7 _ c7 hb7
  go_wp2
  go_ret
  exact Ret.mk rfl H7
end Go.Proofs.Ythfcegfmciaajaa
