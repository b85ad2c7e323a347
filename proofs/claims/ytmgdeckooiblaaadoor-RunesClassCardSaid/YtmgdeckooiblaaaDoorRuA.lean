/- The classes of marks. -/
import Derived.Test.YtmgdeckooiblaaaDoorBase
namespace Go.Proofs.YtmgdeckooiblaaaDoor
open Go.RowKit

/-- The call returns v and leaves the world as it is. -/
def RetW (v : Value) (w : World) (e : Ending) (w' : World) : Prop := e = .returned v ∧ w' = w
/-- The class of a number. -/
def cls (p : Int) : Int :=
  if p < 768 ∨ 879 < p then 0
  else if p = 801 ∨ p = 802 ∨ p = 807 ∨ p = 808 then 202
  else if (790 ≤ p ∧ p ≤ 793) ∨ (796 ≤ p ∧ p ≤ 800) ∨ (803 ≤ p ∧ p ≤ 806) ∨ (809 ≤ p ∧ p ≤ 819) then 220
  else 230
/-- Is it a mark? -/
def markB (p : Int) : Bool := decide (768 ≤ p ∧ p ≤ 879)
theorem cls_mark (p : Int) : (cls p = 0) = (markB p = false) := by
  unfold cls markB
  by_cases h : 768 ≤ p ∧ p ≤ 879
  · rw [if_neg (by omega), decide_eq_true h]
    simp only [Bool.true_eq_false, eq_iff_iff, iff_false]
    split
    · decide
    · split <;> decide
  · rw [if_pos (by omega), decide_eq_false h]; simp

theorem cls_split (p : Int) : (p ≤ 767 ∧ cls p = 0 ∧ markB p = false) ∨ ((768 ≤ p ∧ p ≤ 789) ∧ cls p = 230 ∧ markB p = true) ∨ ((790 ≤ p ∧ p ≤ 793) ∧ cls p = 220 ∧ markB p = true) ∨ ((794 ≤ p ∧ p ≤ 795) ∧ cls p = 230 ∧ markB p = true) ∨ ((796 ≤ p ∧ p ≤ 800) ∧ cls p = 220 ∧ markB p = true) ∨ (p = 801 ∧ cls p = 202 ∧ markB p = true) ∨ (p = 802 ∧ cls p = 202 ∧ markB p = true) ∨ ((803 ≤ p ∧ p ≤ 806) ∧ cls p = 220 ∧ markB p = true) ∨ (p = 807 ∧ cls p = 202 ∧ markB p = true) ∨ (p = 808 ∧ cls p = 202 ∧ markB p = true) ∨ ((809 ≤ p ∧ p ≤ 819) ∧ cls p = 220 ∧ markB p = true) ∨ ((820 ≤ p ∧ p ≤ 879) ∧ cls p = 230 ∧ markB p = true) ∨ (880 ≤ p ∧ cls p = 0 ∧ markB p = false) := by
  unfold cls markB
  by_cases h0 : p ≤ 767
  · exact .inl ⟨h0, by rw [if_pos (by omega)], decide_eq_false (by omega)⟩
  by_cases h1 : (768 ≤ p ∧ p ≤ 789)
  · exact .inr (.inl ⟨h1, by rw [if_neg (by omega), if_neg (by omega), if_neg (by omega)], decide_eq_true (by omega)⟩)
  by_cases h2 : (790 ≤ p ∧ p ≤ 793)
  · exact .inr (.inr (.inl ⟨h2, by rw [if_neg (by omega), if_neg (by omega), if_pos (by omega)], decide_eq_true (by omega)⟩))
  by_cases h3 : (794 ≤ p ∧ p ≤ 795)
  · exact .inr (.inr (.inr (.inl ⟨h3, by rw [if_neg (by omega), if_neg (by omega), if_neg (by omega)], decide_eq_true (by omega)⟩)))
  by_cases h4 : (796 ≤ p ∧ p ≤ 800)
  · exact .inr (.inr (.inr (.inr (.inl ⟨h4, by rw [if_neg (by omega), if_neg (by omega), if_pos (by omega)], decide_eq_true (by omega)⟩))))
  by_cases h5 : p = 801
  · exact .inr (.inr (.inr (.inr (.inr (.inl ⟨h5, by rw [if_neg (by omega), if_pos (by omega)], decide_eq_true (by omega)⟩)))))
  by_cases h6 : p = 802
  · exact .inr (.inr (.inr (.inr (.inr (.inr (.inl ⟨h6, by rw [if_neg (by omega), if_pos (by omega)], decide_eq_true (by omega)⟩))))))
  by_cases h7 : (803 ≤ p ∧ p ≤ 806)
  · exact .inr (.inr (.inr (.inr (.inr (.inr (.inr (.inl ⟨h7, by rw [if_neg (by omega), if_neg (by omega), if_pos (by omega)], decide_eq_true (by omega)⟩)))))))
  by_cases h8 : p = 807
  · exact .inr (.inr (.inr (.inr (.inr (.inr (.inr (.inr (.inl ⟨h8, by rw [if_neg (by omega), if_pos (by omega)], decide_eq_true (by omega)⟩))))))))
  by_cases h9 : p = 808
  · exact .inr (.inr (.inr (.inr (.inr (.inr (.inr (.inr (.inr (.inl ⟨h9, by rw [if_neg (by omega), if_pos (by omega)], decide_eq_true (by omega)⟩)))))))))
  by_cases h10 : (809 ≤ p ∧ p ≤ 819)
  · exact .inr (.inr (.inr (.inr (.inr (.inr (.inr (.inr (.inr (.inr (.inl ⟨h10, by rw [if_neg (by omega), if_neg (by omega), if_pos (by omega)], decide_eq_true (by omega)⟩))))))))))
  by_cases h11 : (820 ≤ p ∧ p ≤ 879)
  · exact .inr (.inr (.inr (.inr (.inr (.inr (.inr (.inr (.inr (.inr (.inr (.inl ⟨h11, by rw [if_neg (by omega), if_neg (by omega), if_neg (by omega)], decide_eq_true (by omega)⟩)))))))))))
  have h12 : 880 ≤ p := by omega
  exact .inr (.inr (.inr (.inr (.inr (.inr (.inr (.inr (.inr (.inr (.inr (.inr (⟨h12, by rw [if_pos (by omega)], decide_eq_false (by omega)⟩))))))))))))

theorem cls_split1 (p : Int) : (p ≤ 767 ∧ cls p = 0) ∨ ((768 ≤ p ∧ p ≤ 789) ∧ cls p = 230) ∨ ((790 ≤ p ∧ p ≤ 793) ∧ cls p = 220) ∨ ((794 ≤ p ∧ p ≤ 795) ∧ cls p = 230) ∨ ((796 ≤ p ∧ p ≤ 800) ∧ cls p = 220) ∨ (p = 801 ∧ cls p = 202) ∨ (p = 802 ∧ cls p = 202) ∨ ((803 ≤ p ∧ p ≤ 806) ∧ cls p = 220) ∨ (p = 807 ∧ cls p = 202) ∨ (p = 808 ∧ cls p = 202) ∨ ((809 ≤ p ∧ p ≤ 819) ∧ cls p = 220) ∨ ((820 ≤ p ∧ p ≤ 879) ∧ cls p = 230) ∨ (880 ≤ p ∧ cls p = 0) := by
  have h := cls_split p
  rcases h with ⟨h, e, -⟩ | ⟨h, e, -⟩ | ⟨h, e, -⟩ | ⟨h, e, -⟩ | ⟨h, e, -⟩ | ⟨h, e, -⟩ | ⟨h, e, -⟩ | ⟨h, e, -⟩ | ⟨h, e, -⟩ | ⟨h, e, -⟩ | ⟨h, e, -⟩ | ⟨h, e, -⟩ | ⟨h, e, -⟩
  · exact .inl ⟨h, e⟩
  · exact .inr (.inl ⟨h, e⟩)
  · exact .inr (.inr (.inl ⟨h, e⟩))
  · exact .inr (.inr (.inr (.inl ⟨h, e⟩)))
  · exact .inr (.inr (.inr (.inr (.inl ⟨h, e⟩))))
  · exact .inr (.inr (.inr (.inr (.inr (.inl ⟨h, e⟩)))))
  · exact .inr (.inr (.inr (.inr (.inr (.inr (.inl ⟨h, e⟩))))))
  · exact .inr (.inr (.inr (.inr (.inr (.inr (.inr (.inl ⟨h, e⟩)))))))
  · exact .inr (.inr (.inr (.inr (.inr (.inr (.inr (.inr (.inl ⟨h, e⟩))))))))
  · exact .inr (.inr (.inr (.inr (.inr (.inr (.inr (.inr (.inr (.inl ⟨h, e⟩)))))))))
  · exact .inr (.inr (.inr (.inr (.inr (.inr (.inr (.inr (.inr (.inr (.inl ⟨h, e⟩))))))))))
  · exact .inr (.inr (.inr (.inr (.inr (.inr (.inr (.inr (.inr (.inr (.inr (.inl ⟨h, e⟩)))))))))))
  · exact .inr (.inr (.inr (.inr (.inr (.inr (.inr (.inr (.inr (.inr (.inr (.inr (⟨h, e⟩))))))))))))

set_option maxRecDepth 20000 in
set_option maxHeartbeats 4000000 in
theorem class_any (p : Int) (w : World) : Calls Tryd.prog 19 #[.int .i64 p] w (RetW (.int .i64 (cls p)) w) := by
  have HS := cls_split p
  generalize cls p = v at *
  generalize markB p = m at *
  rcases HS with ⟨h, rfl, rfl⟩ | ⟨⟨h, h'⟩, rfl, rfl⟩ | ⟨⟨h, h'⟩, rfl, rfl⟩ | ⟨⟨h, h'⟩, rfl, rfl⟩ | ⟨⟨h, h'⟩, rfl, rfl⟩ | ⟨rfl, rfl, rfl⟩ | ⟨rfl, rfl, rfl⟩ | ⟨⟨h, h'⟩, rfl, rfl⟩ | ⟨rfl, rfl, rfl⟩ | ⟨rfl, rfl, rfl⟩ | ⟨⟨h, h'⟩, rfl, rfl⟩ | ⟨⟨h, h'⟩, rfl, rfl⟩ | ⟨h, rfl, rfl⟩
  · have f0 : decide (p < 768) = true := decide_eq_true (by omega)
    have f1 : decide ((879 : Int) < p) = false := decide_eq_false (by omega)
    have f2 : (p == 801) = false := by simp; omega
    have f3 : (p == 802) = false := by simp; omega
    have f4 : (p == 807) = false := by simp; omega
    have f5 : (p == 808) = false := by simp; omega
    have f6 : decide ((790 : Int) ≤ p) = false := decide_eq_false (by omega)
    have f7 : decide (p ≤ 793) = true := decide_eq_true (by omega)
    have f8 : decide ((796 : Int) ≤ p) = false := decide_eq_false (by omega)
    have f9 : decide (p ≤ 800) = true := decide_eq_true (by omega)
    have f10 : decide ((803 : Int) ≤ p) = false := decide_eq_false (by omega)
    have f11 : decide (p ≤ 806) = true := decide_eq_true (by omega)
    have f12 : decide ((809 : Int) ≤ p) = false := decide_eq_false (by omega)
    have f13 : decide (p ≤ 819) = true := decide_eq_true (by omega)
    go_enter Tryd.func19, Tryd.ntmps19
    go_wp2
    go_ret
    exact ⟨by rfl, rfl⟩
  · have f0 : decide (p < 768) = false := decide_eq_false (by omega)
    have f1 : decide ((879 : Int) < p) = false := decide_eq_false (by omega)
    have f2 : (p == 801) = false := by simp; omega
    have f3 : (p == 802) = false := by simp; omega
    have f4 : (p == 807) = false := by simp; omega
    have f5 : (p == 808) = false := by simp; omega
    have f6 : decide ((790 : Int) ≤ p) = false := decide_eq_false (by omega)
    have f7 : decide (p ≤ 793) = true := decide_eq_true (by omega)
    have f8 : decide ((796 : Int) ≤ p) = false := decide_eq_false (by omega)
    have f9 : decide (p ≤ 800) = true := decide_eq_true (by omega)
    have f10 : decide ((803 : Int) ≤ p) = false := decide_eq_false (by omega)
    have f11 : decide (p ≤ 806) = true := decide_eq_true (by omega)
    have f12 : decide ((809 : Int) ≤ p) = false := decide_eq_false (by omega)
    have f13 : decide (p ≤ 819) = true := decide_eq_true (by omega)
    go_enter Tryd.func19, Tryd.ntmps19
    go_wp2
    go_ret
    exact ⟨by rfl, rfl⟩
  · have f0 : decide (p < 768) = false := decide_eq_false (by omega)
    have f1 : decide ((879 : Int) < p) = false := decide_eq_false (by omega)
    have f2 : (p == 801) = false := by simp; omega
    have f3 : (p == 802) = false := by simp; omega
    have f4 : (p == 807) = false := by simp; omega
    have f5 : (p == 808) = false := by simp; omega
    have f6 : decide ((790 : Int) ≤ p) = true := decide_eq_true (by omega)
    have f7 : decide (p ≤ 793) = true := decide_eq_true (by omega)
    have f8 : decide ((796 : Int) ≤ p) = false := decide_eq_false (by omega)
    have f9 : decide (p ≤ 800) = true := decide_eq_true (by omega)
    have f10 : decide ((803 : Int) ≤ p) = false := decide_eq_false (by omega)
    have f11 : decide (p ≤ 806) = true := decide_eq_true (by omega)
    have f12 : decide ((809 : Int) ≤ p) = false := decide_eq_false (by omega)
    have f13 : decide (p ≤ 819) = true := decide_eq_true (by omega)
    go_enter Tryd.func19, Tryd.ntmps19
    go_wp2
    go_ret
    exact ⟨by rfl, rfl⟩
  · have f0 : decide (p < 768) = false := decide_eq_false (by omega)
    have f1 : decide ((879 : Int) < p) = false := decide_eq_false (by omega)
    have f2 : (p == 801) = false := by simp; omega
    have f3 : (p == 802) = false := by simp; omega
    have f4 : (p == 807) = false := by simp; omega
    have f5 : (p == 808) = false := by simp; omega
    have f6 : decide ((790 : Int) ≤ p) = true := decide_eq_true (by omega)
    have f7 : decide (p ≤ 793) = false := decide_eq_false (by omega)
    have f8 : decide ((796 : Int) ≤ p) = false := decide_eq_false (by omega)
    have f9 : decide (p ≤ 800) = true := decide_eq_true (by omega)
    have f10 : decide ((803 : Int) ≤ p) = false := decide_eq_false (by omega)
    have f11 : decide (p ≤ 806) = true := decide_eq_true (by omega)
    have f12 : decide ((809 : Int) ≤ p) = false := decide_eq_false (by omega)
    have f13 : decide (p ≤ 819) = true := decide_eq_true (by omega)
    go_enter Tryd.func19, Tryd.ntmps19
    go_wp2
    go_ret
    exact ⟨by rfl, rfl⟩
  · have f0 : decide (p < 768) = false := decide_eq_false (by omega)
    have f1 : decide ((879 : Int) < p) = false := decide_eq_false (by omega)
    have f2 : (p == 801) = false := by simp; omega
    have f3 : (p == 802) = false := by simp; omega
    have f4 : (p == 807) = false := by simp; omega
    have f5 : (p == 808) = false := by simp; omega
    have f6 : decide ((790 : Int) ≤ p) = true := decide_eq_true (by omega)
    have f7 : decide (p ≤ 793) = false := decide_eq_false (by omega)
    have f8 : decide ((796 : Int) ≤ p) = true := decide_eq_true (by omega)
    have f9 : decide (p ≤ 800) = true := decide_eq_true (by omega)
    have f10 : decide ((803 : Int) ≤ p) = false := decide_eq_false (by omega)
    have f11 : decide (p ≤ 806) = true := decide_eq_true (by omega)
    have f12 : decide ((809 : Int) ≤ p) = false := decide_eq_false (by omega)
    have f13 : decide (p ≤ 819) = true := decide_eq_true (by omega)
    go_enter Tryd.func19, Tryd.ntmps19
    go_wp2
    go_ret
    exact ⟨by rfl, rfl⟩
  · go_enter Tryd.func19, Tryd.ntmps19
    go_wp2
    go_ret
    exact ⟨by rfl, rfl⟩
  · go_enter Tryd.func19, Tryd.ntmps19
    go_wp2
    go_ret
    exact ⟨by rfl, rfl⟩
  · have f0 : decide (p < 768) = false := decide_eq_false (by omega)
    have f1 : decide ((879 : Int) < p) = false := decide_eq_false (by omega)
    have f2 : (p == 801) = false := by simp; omega
    have f3 : (p == 802) = false := by simp; omega
    have f4 : (p == 807) = false := by simp; omega
    have f5 : (p == 808) = false := by simp; omega
    have f6 : decide ((790 : Int) ≤ p) = true := decide_eq_true (by omega)
    have f7 : decide (p ≤ 793) = false := decide_eq_false (by omega)
    have f8 : decide ((796 : Int) ≤ p) = true := decide_eq_true (by omega)
    have f9 : decide (p ≤ 800) = false := decide_eq_false (by omega)
    have f10 : decide ((803 : Int) ≤ p) = true := decide_eq_true (by omega)
    have f11 : decide (p ≤ 806) = true := decide_eq_true (by omega)
    have f12 : decide ((809 : Int) ≤ p) = false := decide_eq_false (by omega)
    have f13 : decide (p ≤ 819) = true := decide_eq_true (by omega)
    go_enter Tryd.func19, Tryd.ntmps19
    go_wp2
    go_ret
    exact ⟨by rfl, rfl⟩
  · go_enter Tryd.func19, Tryd.ntmps19
    go_wp2
    go_ret
    exact ⟨by rfl, rfl⟩
  · go_enter Tryd.func19, Tryd.ntmps19
    go_wp2
    go_ret
    exact ⟨by rfl, rfl⟩
  · have f0 : decide (p < 768) = false := decide_eq_false (by omega)
    have f1 : decide ((879 : Int) < p) = false := decide_eq_false (by omega)
    have f2 : (p == 801) = false := by simp; omega
    have f3 : (p == 802) = false := by simp; omega
    have f4 : (p == 807) = false := by simp; omega
    have f5 : (p == 808) = false := by simp; omega
    have f6 : decide ((790 : Int) ≤ p) = true := decide_eq_true (by omega)
    have f7 : decide (p ≤ 793) = false := decide_eq_false (by omega)
    have f8 : decide ((796 : Int) ≤ p) = true := decide_eq_true (by omega)
    have f9 : decide (p ≤ 800) = false := decide_eq_false (by omega)
    have f10 : decide ((803 : Int) ≤ p) = true := decide_eq_true (by omega)
    have f11 : decide (p ≤ 806) = false := decide_eq_false (by omega)
    have f12 : decide ((809 : Int) ≤ p) = true := decide_eq_true (by omega)
    have f13 : decide (p ≤ 819) = true := decide_eq_true (by omega)
    go_enter Tryd.func19, Tryd.ntmps19
    go_wp2
    go_ret
    exact ⟨by rfl, rfl⟩
  · have f0 : decide (p < 768) = false := decide_eq_false (by omega)
    have f1 : decide ((879 : Int) < p) = false := decide_eq_false (by omega)
    have f2 : (p == 801) = false := by simp; omega
    have f3 : (p == 802) = false := by simp; omega
    have f4 : (p == 807) = false := by simp; omega
    have f5 : (p == 808) = false := by simp; omega
    have f6 : decide ((790 : Int) ≤ p) = true := decide_eq_true (by omega)
    have f7 : decide (p ≤ 793) = false := decide_eq_false (by omega)
    have f8 : decide ((796 : Int) ≤ p) = true := decide_eq_true (by omega)
    have f9 : decide (p ≤ 800) = false := decide_eq_false (by omega)
    have f10 : decide ((803 : Int) ≤ p) = true := decide_eq_true (by omega)
    have f11 : decide (p ≤ 806) = false := decide_eq_false (by omega)
    have f12 : decide ((809 : Int) ≤ p) = true := decide_eq_true (by omega)
    have f13 : decide (p ≤ 819) = false := decide_eq_false (by omega)
    go_enter Tryd.func19, Tryd.ntmps19
    go_wp2
    go_ret
    exact ⟨by rfl, rfl⟩
  · have f0 : decide (p < 768) = false := decide_eq_false (by omega)
    have f1 : decide ((879 : Int) < p) = true := decide_eq_true (by omega)
    have f2 : (p == 801) = false := by simp; omega
    have f3 : (p == 802) = false := by simp; omega
    have f4 : (p == 807) = false := by simp; omega
    have f5 : (p == 808) = false := by simp; omega
    have f6 : decide ((790 : Int) ≤ p) = true := decide_eq_true (by omega)
    have f7 : decide (p ≤ 793) = false := decide_eq_false (by omega)
    have f8 : decide ((796 : Int) ≤ p) = true := decide_eq_true (by omega)
    have f9 : decide (p ≤ 800) = false := decide_eq_false (by omega)
    have f10 : decide ((803 : Int) ≤ p) = true := decide_eq_true (by omega)
    have f11 : decide (p ≤ 806) = false := decide_eq_false (by omega)
    have f12 : decide ((809 : Int) ≤ p) = true := decide_eq_true (by omega)
    have f13 : decide (p ≤ 819) = false := decide_eq_false (by omega)
    go_enter Tryd.func19, Tryd.ntmps19
    go_wp2
    go_ret
    exact ⟨by rfl, rfl⟩


/-- Is it a scalar? -/
def scB (p : Int) : Bool := decide (0 ≤ p ∧ p ≤ 1114111 ∧ (p < 55296 ∨ 57343 < p))
theorem sc_split (p : Int) : (p ≤ -1 ∧ scB p = false) ∨ ((0 ≤ p ∧ p ≤ 55295) ∧ scB p = true) ∨ ((55296 ≤ p ∧ p ≤ 57343) ∧ scB p = false) ∨ ((57344 ≤ p ∧ p ≤ 1114111) ∧ scB p = true) ∨ (1114112 ≤ p ∧ scB p = false) := by
  unfold scB
  by_cases h0 : p ≤ -1
  · exact .inl ⟨h0, decide_eq_false (by omega)⟩
  by_cases h1 : 0 ≤ p ∧ p ≤ 55295
  · exact .inr (.inl ⟨h1, decide_eq_true (by omega)⟩)
  by_cases h2 : 55296 ≤ p ∧ p ≤ 57343
  · exact .inr (.inr (.inl ⟨h2, decide_eq_false (by omega)⟩))
  by_cases h3 : 57344 ≤ p ∧ p ≤ 1114111
  · exact .inr (.inr (.inr (.inl ⟨h3, decide_eq_true (by omega)⟩)))
  · exact .inr (.inr (.inr (.inr ⟨by omega, decide_eq_false (by omega)⟩)))

set_option maxRecDepth 20000 in
set_option maxHeartbeats 4000000 in
theorem isScalar_any (p : Int) (w : World) : Calls Tryd.prog 32 #[.int .i64 p] w (RetW (.bool (scB p)) w) := by
  have HS := sc_split p
  generalize scB p = v at *
  rcases HS with ⟨h, rfl⟩ | ⟨⟨h, h'⟩, rfl⟩ | ⟨⟨h, h'⟩, rfl⟩ | ⟨⟨h, h'⟩, rfl⟩ | ⟨h, rfl⟩
  · have f0 : decide ((0 : Int) ≤ p) = false := decide_eq_false (by omega)
    have f1 : decide (p ≤ 1114111) = true := decide_eq_true (by omega)
    have f2 : decide (p < 55296) = true := decide_eq_true (by omega)
    have f3 : decide ((57343 : Int) < p) = false := decide_eq_false (by omega)
    go_enter Tryd.func32, Tryd.ntmps32
    go_wp2
    go_ret
    exact ⟨by rfl, rfl⟩
  · have f0 : decide ((0 : Int) ≤ p) = true := decide_eq_true (by omega)
    have f1 : decide (p ≤ 1114111) = true := decide_eq_true (by omega)
    have f2 : decide (p < 55296) = true := decide_eq_true (by omega)
    have f3 : decide ((57343 : Int) < p) = false := decide_eq_false (by omega)
    go_enter Tryd.func32, Tryd.ntmps32
    go_wp2
    go_ret
    exact ⟨by rfl, rfl⟩
  · have f0 : decide ((0 : Int) ≤ p) = true := decide_eq_true (by omega)
    have f1 : decide (p ≤ 1114111) = true := decide_eq_true (by omega)
    have f2 : decide (p < 55296) = false := decide_eq_false (by omega)
    have f3 : decide ((57343 : Int) < p) = false := decide_eq_false (by omega)
    go_enter Tryd.func32, Tryd.ntmps32
    go_wp2
    go_ret
    exact ⟨by rfl, rfl⟩
  · have f0 : decide ((0 : Int) ≤ p) = true := decide_eq_true (by omega)
    have f1 : decide (p ≤ 1114111) = true := decide_eq_true (by omega)
    have f2 : decide (p < 55296) = false := decide_eq_false (by omega)
    have f3 : decide ((57343 : Int) < p) = true := decide_eq_true (by omega)
    go_enter Tryd.func32, Tryd.ntmps32
    go_wp2
    go_ret
    exact ⟨by rfl, rfl⟩
  · have f0 : decide ((0 : Int) ≤ p) = true := decide_eq_true (by omega)
    have f1 : decide (p ≤ 1114111) = false := decide_eq_false (by omega)
    have f2 : decide (p < 55296) = false := decide_eq_false (by omega)
    have f3 : decide ((57343 : Int) < p) = true := decide_eq_true (by omega)
    go_enter Tryd.func32, Tryd.ntmps32
    go_wp2
    go_ret
    exact ⟨by rfl, rfl⟩

set_option maxRecDepth 20000 in
set_option maxHeartbeats 4000000 in
theorem rscalar_any (p : Int) (w : World) : Calls Tryd.prog 34 #[.int .i64 p] w (RetW (.bool (scB p)) w) := by
  have HS := sc_split p
  generalize scB p = v at *
  rcases HS with ⟨h, rfl⟩ | ⟨⟨h, h'⟩, rfl⟩ | ⟨⟨h, h'⟩, rfl⟩ | ⟨⟨h, h'⟩, rfl⟩ | ⟨h, rfl⟩
  · have f0 : decide ((0 : Int) ≤ p) = false := decide_eq_false (by omega)
    have f1 : decide (p ≤ 1114111) = true := decide_eq_true (by omega)
    have f2 : decide (p < 55296) = true := decide_eq_true (by omega)
    have f3 : decide ((57343 : Int) < p) = false := decide_eq_false (by omega)
    go_enter Tryd.func34, Tryd.ntmps34
    go_wp2
    go_ret
    exact ⟨by rfl, rfl⟩
  · have f0 : decide ((0 : Int) ≤ p) = true := decide_eq_true (by omega)
    have f1 : decide (p ≤ 1114111) = true := decide_eq_true (by omega)
    have f2 : decide (p < 55296) = true := decide_eq_true (by omega)
    have f3 : decide ((57343 : Int) < p) = false := decide_eq_false (by omega)
    go_enter Tryd.func34, Tryd.ntmps34
    go_wp2
    go_ret
    exact ⟨by rfl, rfl⟩
  · have f0 : decide ((0 : Int) ≤ p) = true := decide_eq_true (by omega)
    have f1 : decide (p ≤ 1114111) = true := decide_eq_true (by omega)
    have f2 : decide (p < 55296) = false := decide_eq_false (by omega)
    have f3 : decide ((57343 : Int) < p) = false := decide_eq_false (by omega)
    go_enter Tryd.func34, Tryd.ntmps34
    go_wp2
    go_ret
    exact ⟨by rfl, rfl⟩
  · have f0 : decide ((0 : Int) ≤ p) = true := decide_eq_true (by omega)
    have f1 : decide (p ≤ 1114111) = true := decide_eq_true (by omega)
    have f2 : decide (p < 55296) = false := decide_eq_false (by omega)
    have f3 : decide ((57343 : Int) < p) = true := decide_eq_true (by omega)
    go_enter Tryd.func34, Tryd.ntmps34
    go_wp2
    go_ret
    exact ⟨by rfl, rfl⟩
  · have f0 : decide ((0 : Int) ≤ p) = true := decide_eq_true (by omega)
    have f1 : decide (p ≤ 1114111) = false := decide_eq_false (by omega)
    have f2 : decide (p < 55296) = false := decide_eq_false (by omega)
    have f3 : decide ((57343 : Int) < p) = true := decide_eq_true (by omega)
    go_enter Tryd.func34, Tryd.ntmps34
    go_wp2
    go_ret
    exact ⟨by rfl, rfl⟩

theorem mk_split (p : Int) : (p ≤ 767 ∧ markB p = false) ∨ ((768 ≤ p ∧ p ≤ 879) ∧ markB p = true) ∨ (880 ≤ p ∧ markB p = false) := by
  unfold markB
  by_cases h0 : p ≤ 767
  · exact .inl ⟨h0, decide_eq_false (by omega)⟩
  by_cases h1 : 768 ≤ p ∧ p ≤ 879
  · exact .inr (.inl ⟨h1, decide_eq_true (by omega)⟩)
  · exact .inr (.inr ⟨by omega, decide_eq_false (by omega)⟩)

set_option maxRecDepth 20000 in
set_option maxHeartbeats 4000000 in
theorem rmark_any (p : Int) (w : World) : Calls Tryd.prog 28 #[.int .i64 p] w (RetW (.bool (markB p)) w) := by
  have HS := mk_split p
  generalize markB p = v at *
  rcases HS with ⟨h, rfl⟩ | ⟨⟨h, h'⟩, rfl⟩ | ⟨h, rfl⟩
  · have f0 : decide ((768 : Int) ≤ p) = false := decide_eq_false (by omega)
    have f1 : decide (p ≤ 879) = true := decide_eq_true (by omega)
    go_enter Tryd.func28, Tryd.ntmps28
    go_wp2
    go_ret
    exact ⟨by rfl, rfl⟩
  · have f0 : decide ((768 : Int) ≤ p) = true := decide_eq_true (by omega)
    have f1 : decide (p ≤ 879) = true := decide_eq_true (by omega)
    go_enter Tryd.func28, Tryd.ntmps28
    go_wp2
    go_ret
    exact ⟨by rfl, rfl⟩
  · have f0 : decide ((768 : Int) ≤ p) = true := decide_eq_true (by omega)
    have f1 : decide (p ≤ 879) = false := decide_eq_false (by omega)
    go_enter Tryd.func28, Tryd.ntmps28
    go_wp2
    go_ret
    exact ⟨by rfl, rfl⟩

theorem in_yes (p a b : Int) (ha : a ≤ p) (hb : p ≤ b) (w : World) : Calls Tryd.prog 36 #[.int .i64 p, .int .i64 a, .int .i64 b] w (RetW (.bool true) w) := by
  have f0 : decide (a ≤ p) = true := decide_eq_true ha
  have f1 : decide (p ≤ b) = true := decide_eq_true hb
  go_enter Tryd.func36, Tryd.ntmps36
  go_wp2
  go_ret
  exact ⟨by rfl, rfl⟩
theorem in_no (p a b : Int) (h : p < a ∨ b < p) (w : World) : Calls Tryd.prog 36 #[.int .i64 p, .int .i64 a, .int .i64 b] w (RetW (.bool false) w) := by
  by_cases ha : a ≤ p
  · have f0 : decide (a ≤ p) = true := decide_eq_true ha
    have f1 : decide (p ≤ b) = false := decide_eq_false (by omega)
    go_enter Tryd.func36, Tryd.ntmps36
    go_wp2
    go_ret
    exact ⟨by rfl, rfl⟩
  · have f0 : decide (a ≤ p) = false := decide_eq_false ha
    go_enter Tryd.func36, Tryd.ntmps36
    go_wp2
    go_ret
    exact ⟨by rfl, rfl⟩

set_option maxRecDepth 20000 in
set_option maxHeartbeats 4000000 in
theorem rclass_any (p : Int) (w : World) : Calls Tryd.prog 20 #[.int .i64 p] w (RetW (.int .i64 (cls p)) w) := by
  have HS := cls_split1 p
  generalize cls p = v at *
  rcases HS with ⟨h, rfl⟩ | ⟨⟨h, h'⟩, rfl⟩ | ⟨⟨h, h'⟩, rfl⟩ | ⟨⟨h, h'⟩, rfl⟩ | ⟨⟨h, h'⟩, rfl⟩ | ⟨rfl, rfl⟩ | ⟨rfl, rfl⟩ | ⟨⟨h, h'⟩, rfl⟩ | ⟨rfl, rfl⟩ | ⟨rfl, rfl⟩ | ⟨⟨h, h'⟩, rfl⟩ | ⟨⟨h, h'⟩, rfl⟩ | ⟨h, rfl⟩
  · go_enter Tryd.func20, Tryd.ntmps20
    go_wp2_with fail
    refine (rmark_any _ _).mono ?_
    rintro e w1 ⟨rfl, rfl⟩
    rw [show markB p = false from decide_eq_false (by omega)]
    go_wp2
    go_ret
    exact ⟨by rfl, rfl⟩
  · go_enter Tryd.func20, Tryd.ntmps20
    go_wp2_with fail
    refine (rmark_any _ _).mono ?_
    rintro e w1 ⟨rfl, rfl⟩
    rw [show markB p = true from decide_eq_true (by omega)]
    go_wp2_with fail
    refine (in_no _ 790 793 (by omega) _).mono ?_
    rintro e w1 ⟨rfl, rfl⟩
    go_wp2_with fail
    refine (in_no _ 796 800 (by omega) _).mono ?_
    rintro e w1 ⟨rfl, rfl⟩
    go_wp2_with fail
    refine (in_no _ 803 806 (by omega) _).mono ?_
    rintro e w1 ⟨rfl, rfl⟩
    go_wp2_with fail
    refine (in_no _ 809 819 (by omega) _).mono ?_
    rintro e w1 ⟨rfl, rfl⟩
    go_wp2_with fail
    refine (in_no _ 801 802 (by omega) _).mono ?_
    rintro e w1 ⟨rfl, rfl⟩
    go_wp2_with fail
    refine (in_no _ 807 808 (by omega) _).mono ?_
    rintro e w1 ⟨rfl, rfl⟩
    go_wp2
    go_ret
    exact ⟨by rfl, rfl⟩
  · go_enter Tryd.func20, Tryd.ntmps20
    go_wp2_with fail
    refine (rmark_any _ _).mono ?_
    rintro e w1 ⟨rfl, rfl⟩
    rw [show markB p = true from decide_eq_true (by omega)]
    go_wp2_with fail
    refine (in_yes _ 790 793 (by omega) (by omega) _).mono ?_
    rintro e w1 ⟨rfl, rfl⟩
    go_wp2
    go_ret
    exact ⟨by rfl, rfl⟩
  · go_enter Tryd.func20, Tryd.ntmps20
    go_wp2_with fail
    refine (rmark_any _ _).mono ?_
    rintro e w1 ⟨rfl, rfl⟩
    rw [show markB p = true from decide_eq_true (by omega)]
    go_wp2_with fail
    refine (in_no _ 790 793 (by omega) _).mono ?_
    rintro e w1 ⟨rfl, rfl⟩
    go_wp2_with fail
    refine (in_no _ 796 800 (by omega) _).mono ?_
    rintro e w1 ⟨rfl, rfl⟩
    go_wp2_with fail
    refine (in_no _ 803 806 (by omega) _).mono ?_
    rintro e w1 ⟨rfl, rfl⟩
    go_wp2_with fail
    refine (in_no _ 809 819 (by omega) _).mono ?_
    rintro e w1 ⟨rfl, rfl⟩
    go_wp2_with fail
    refine (in_no _ 801 802 (by omega) _).mono ?_
    rintro e w1 ⟨rfl, rfl⟩
    go_wp2_with fail
    refine (in_no _ 807 808 (by omega) _).mono ?_
    rintro e w1 ⟨rfl, rfl⟩
    go_wp2
    go_ret
    exact ⟨by rfl, rfl⟩
  · go_enter Tryd.func20, Tryd.ntmps20
    go_wp2_with fail
    refine (rmark_any _ _).mono ?_
    rintro e w1 ⟨rfl, rfl⟩
    rw [show markB p = true from decide_eq_true (by omega)]
    go_wp2_with fail
    refine (in_no _ 790 793 (by omega) _).mono ?_
    rintro e w1 ⟨rfl, rfl⟩
    go_wp2_with fail
    refine (in_yes _ 796 800 (by omega) (by omega) _).mono ?_
    rintro e w1 ⟨rfl, rfl⟩
    go_wp2
    go_ret
    exact ⟨by rfl, rfl⟩
  · go_enter Tryd.func20, Tryd.ntmps20
    go_wp2_with fail
    refine (rmark_any _ _).mono ?_
    rintro e w1 ⟨rfl, rfl⟩
    rw [show markB 801 = true from decide_eq_true (by omega)]
    go_wp2_with fail
    refine (in_no _ 790 793 (by omega) _).mono ?_
    rintro e w1 ⟨rfl, rfl⟩
    go_wp2_with fail
    refine (in_no _ 796 800 (by omega) _).mono ?_
    rintro e w1 ⟨rfl, rfl⟩
    go_wp2_with fail
    refine (in_no _ 803 806 (by omega) _).mono ?_
    rintro e w1 ⟨rfl, rfl⟩
    go_wp2_with fail
    refine (in_no _ 809 819 (by omega) _).mono ?_
    rintro e w1 ⟨rfl, rfl⟩
    go_wp2_with fail
    refine (in_yes _ 801 802 (by omega) (by omega) _).mono ?_
    rintro e w1 ⟨rfl, rfl⟩
    go_wp2
    go_ret
    exact ⟨by rfl, rfl⟩
  · go_enter Tryd.func20, Tryd.ntmps20
    go_wp2_with fail
    refine (rmark_any _ _).mono ?_
    rintro e w1 ⟨rfl, rfl⟩
    rw [show markB 802 = true from decide_eq_true (by omega)]
    go_wp2_with fail
    refine (in_no _ 790 793 (by omega) _).mono ?_
    rintro e w1 ⟨rfl, rfl⟩
    go_wp2_with fail
    refine (in_no _ 796 800 (by omega) _).mono ?_
    rintro e w1 ⟨rfl, rfl⟩
    go_wp2_with fail
    refine (in_no _ 803 806 (by omega) _).mono ?_
    rintro e w1 ⟨rfl, rfl⟩
    go_wp2_with fail
    refine (in_no _ 809 819 (by omega) _).mono ?_
    rintro e w1 ⟨rfl, rfl⟩
    go_wp2_with fail
    refine (in_yes _ 801 802 (by omega) (by omega) _).mono ?_
    rintro e w1 ⟨rfl, rfl⟩
    go_wp2
    go_ret
    exact ⟨by rfl, rfl⟩
  · go_enter Tryd.func20, Tryd.ntmps20
    go_wp2_with fail
    refine (rmark_any _ _).mono ?_
    rintro e w1 ⟨rfl, rfl⟩
    rw [show markB p = true from decide_eq_true (by omega)]
    go_wp2_with fail
    refine (in_no _ 790 793 (by omega) _).mono ?_
    rintro e w1 ⟨rfl, rfl⟩
    go_wp2_with fail
    refine (in_no _ 796 800 (by omega) _).mono ?_
    rintro e w1 ⟨rfl, rfl⟩
    go_wp2_with fail
    refine (in_yes _ 803 806 (by omega) (by omega) _).mono ?_
    rintro e w1 ⟨rfl, rfl⟩
    go_wp2
    go_ret
    exact ⟨by rfl, rfl⟩
  · go_enter Tryd.func20, Tryd.ntmps20
    go_wp2_with fail
    refine (rmark_any _ _).mono ?_
    rintro e w1 ⟨rfl, rfl⟩
    rw [show markB 807 = true from decide_eq_true (by omega)]
    go_wp2_with fail
    refine (in_no _ 790 793 (by omega) _).mono ?_
    rintro e w1 ⟨rfl, rfl⟩
    go_wp2_with fail
    refine (in_no _ 796 800 (by omega) _).mono ?_
    rintro e w1 ⟨rfl, rfl⟩
    go_wp2_with fail
    refine (in_no _ 803 806 (by omega) _).mono ?_
    rintro e w1 ⟨rfl, rfl⟩
    go_wp2_with fail
    refine (in_no _ 809 819 (by omega) _).mono ?_
    rintro e w1 ⟨rfl, rfl⟩
    go_wp2_with fail
    refine (in_no _ 801 802 (by omega) _).mono ?_
    rintro e w1 ⟨rfl, rfl⟩
    go_wp2_with fail
    refine (in_yes _ 807 808 (by omega) (by omega) _).mono ?_
    rintro e w1 ⟨rfl, rfl⟩
    go_wp2
    go_ret
    exact ⟨by rfl, rfl⟩
  · go_enter Tryd.func20, Tryd.ntmps20
    go_wp2_with fail
    refine (rmark_any _ _).mono ?_
    rintro e w1 ⟨rfl, rfl⟩
    rw [show markB 808 = true from decide_eq_true (by omega)]
    go_wp2_with fail
    refine (in_no _ 790 793 (by omega) _).mono ?_
    rintro e w1 ⟨rfl, rfl⟩
    go_wp2_with fail
    refine (in_no _ 796 800 (by omega) _).mono ?_
    rintro e w1 ⟨rfl, rfl⟩
    go_wp2_with fail
    refine (in_no _ 803 806 (by omega) _).mono ?_
    rintro e w1 ⟨rfl, rfl⟩
    go_wp2_with fail
    refine (in_no _ 809 819 (by omega) _).mono ?_
    rintro e w1 ⟨rfl, rfl⟩
    go_wp2_with fail
    refine (in_no _ 801 802 (by omega) _).mono ?_
    rintro e w1 ⟨rfl, rfl⟩
    go_wp2_with fail
    refine (in_yes _ 807 808 (by omega) (by omega) _).mono ?_
    rintro e w1 ⟨rfl, rfl⟩
    go_wp2
    go_ret
    exact ⟨by rfl, rfl⟩
  · go_enter Tryd.func20, Tryd.ntmps20
    go_wp2_with fail
    refine (rmark_any _ _).mono ?_
    rintro e w1 ⟨rfl, rfl⟩
    rw [show markB p = true from decide_eq_true (by omega)]
    go_wp2_with fail
    refine (in_no _ 790 793 (by omega) _).mono ?_
    rintro e w1 ⟨rfl, rfl⟩
    go_wp2_with fail
    refine (in_no _ 796 800 (by omega) _).mono ?_
    rintro e w1 ⟨rfl, rfl⟩
    go_wp2_with fail
    refine (in_no _ 803 806 (by omega) _).mono ?_
    rintro e w1 ⟨rfl, rfl⟩
    go_wp2_with fail
    refine (in_yes _ 809 819 (by omega) (by omega) _).mono ?_
    rintro e w1 ⟨rfl, rfl⟩
    go_wp2
    go_ret
    exact ⟨by rfl, rfl⟩
  · go_enter Tryd.func20, Tryd.ntmps20
    go_wp2_with fail
    refine (rmark_any _ _).mono ?_
    rintro e w1 ⟨rfl, rfl⟩
    rw [show markB p = true from decide_eq_true (by omega)]
    go_wp2_with fail
    refine (in_no _ 790 793 (by omega) _).mono ?_
    rintro e w1 ⟨rfl, rfl⟩
    go_wp2_with fail
    refine (in_no _ 796 800 (by omega) _).mono ?_
    rintro e w1 ⟨rfl, rfl⟩
    go_wp2_with fail
    refine (in_no _ 803 806 (by omega) _).mono ?_
    rintro e w1 ⟨rfl, rfl⟩
    go_wp2_with fail
    refine (in_no _ 809 819 (by omega) _).mono ?_
    rintro e w1 ⟨rfl, rfl⟩
    go_wp2_with fail
    refine (in_no _ 801 802 (by omega) _).mono ?_
    rintro e w1 ⟨rfl, rfl⟩
    go_wp2_with fail
    refine (in_no _ 807 808 (by omega) _).mono ?_
    rintro e w1 ⟨rfl, rfl⟩
    go_wp2
    go_ret
    exact ⟨by rfl, rfl⟩
  · go_enter Tryd.func20, Tryd.ntmps20
    go_wp2_with fail
    refine (rmark_any _ _).mono ?_
    rintro e w1 ⟨rfl, rfl⟩
    rw [show markB p = false from decide_eq_false (by omega)]
    go_wp2
    go_ret
    exact ⟨by rfl, rfl⟩

theorem isMark_any (p : Int) (w : World) : Calls Tryd.prog 37 #[.int .i64 p] w (RetW (.bool (markB p)) w) := by
  have HM := cls_mark p
  have hr : (cls p != 0) = markB p := by
    cases hm : markB p with
    | false => rw [bne_eq_false_iff_eq, HM]; exact hm
    | true => rw [bne_iff_ne]; intro h; rw [HM, hm] at h; cases h
  have HR := Lib.hid hr
  clear hr HM
  go_enter Tryd.func37, Tryd.ntmps37
  go_wp2_with fail
  refine (class_any _ _).mono ?_
  rintro e w1 ⟨rfl, rfl⟩
  go_wp2
  go_ret
  exact ⟨by rw [← HR.out]; rfl, rfl⟩

end Go.Proofs.YtmgdeckooiblaaaDoor
