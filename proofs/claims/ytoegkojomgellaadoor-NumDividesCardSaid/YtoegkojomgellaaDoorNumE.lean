/- The code's Minus, Both; Clip of both. -/
import Derived.Test.YtoegkojomgellaaDoorNumD
namespace Go.Proofs.YtoegkojomgellaaDoor
open Go.RowKit

/-- What filtered has collected after k numbers. -/
def filtN (b l : List Int) (c : Bool) (k : Nat) : List Int := (l.take k).filter fun x => b.contains x == c
theorem filtN_len (b l : List Int) (c : Bool) (k : Nat) : (filtN b l c k).length ≤ l.length := by
  have h2 : ((l.take k).filter fun x => b.contains x == c).length ≤ (l.take k).length := List.length_filter_le _ _
  have h3 : (l.take k).length ≤ l.length := List.length_take_le' _ _
  unfold filtN; omega
theorem filtN_yes {b l : List Int} {c : Bool} {k : Nat} (hk : k < l.length) (h : b.contains l[k] = c) : filtN b l c (k + 1) = filtN b l c k ++ [l[k]] := by
  unfold filtN
  rw [List.take_succ_eq_append_getElem hk, List.filter_append, List.filter_cons, h]
  simp
theorem filtN_no {b l : List Int} {c : Bool} {k : Nat} (hk : k < l.length) (h : b.contains l[k] = !c) : filtN b l c (k + 1) = filtN b l c k := by
  unfold filtN
  rw [List.take_succ_eq_append_getElem hk, List.filter_append, List.filter_cons, h]
  cases c <;> simp

set_option maxRecDepth 20000 in
set_option maxHeartbeats 2000000 in
theorem filtered_any (a b : List Int) (A B : Option Addr) (ca cb : Nat) (c : Bool) (w : World) (ha : Ints w A a) (hb : Ints w B b) (hla : a.length ≤ 100000) (hlb : b.length ≤ 100000) :
    Calls Tryd.prog 39 #[.slice A a.length ca, .slice B b.length cb, .bool c] w (RetInts 3 ((setOf a).filter fun x => (setOf b).contains x == c) w) := by
  obtain ⟨i0, hi, hz0, hz1, hz2⟩ := info_parts info_int
  have hsa := setOf_length_le a
  have hsb := setOf_length_le b
  have hib := inc_setOf b
  have hall : Hid (filtN (setOf b) (setOf a) c (setOf a).length = (setOf a).filter fun x => (setOf b).contains x == c) := Lib.hid (by unfold filtN; rw [List.take_length])
  have k1 := sorted_any b B cb w hb hlb
  have k2 := fun w' (h : Below w.heap.size w w') => sorted_any a A ca w' (ha.below h) hla
  generalize (setOf a).filter (fun x => (setOf b).contains x == c) = R at *
  generalize setOf a = sa at *
  generalize setOf b = sb at *
  have hnc : ((!c) == c) = false := by cases c <;> rfl
  go_enter Tryd.func39, Tryd.ntmps39
  go_wp2_with fail
  refine k1.mono ?_
  rintro e w1 ⟨B1, cb1, rfl, o1, h1⟩
  have k2' := k2 w1 h1
  clear k1 k2
  go_wp2_with fail
  refine k2'.mono ?_
  rintro e w2 ⟨A1, ca1, rfl, o2, h2⟩
  have H2 := Below.step h1 h2
  have ra : Ints w2 A1 sa := Ints.of_own o2
  have rb : Ints w2 B1 sb := (Ints.of_own o1).below h2
  clear k2' o1 o2
  go_wp2
  go_loopw [8, 18] (fun v i wr => ∃ k : Nat, k ≤ sa.length ∧ i = .int .i64 (k : Int) ∧ OwnI wr w2.heap.size (filtN sb sa c k) v ∧ Below w2.heap.size w2 wr) (fun _ i _ => sa.length + 1 - (intOf i).toNat)
  case atStart => exact ⟨0, by omega, rfl, OwnI.nil_ _ _, Below.refl _ _⟩
  case round =>
    obtain ⟨k, hk, rfl, ⟨A', c', rfl, hown⟩, hbw⟩ := hrel
    have HO := Lib.hid hown
    have hfl := filtN_len sb sa c k
    have hsz := hbw.size
    by_cases hlt : k < sa.length
    · obtain ⟨ad, rfl, _, c1⟩ := (ra.below hbw).at_ hlt
      have hs := search_any sb B1 cb1 sa[k] wr (rb.below hbw) hib (by omega)
      by_cases hc : sb.contains sa[k] = c
      · have HF : Hid (filtN sb sa c (k + 1) = filtN sb sa c k ++ [sa[k]]) := Lib.hid (filtN_yes hlt hc)
        rw [hc] at hs
        clear hc hown
        generalize filtN sb sa c k = s at *
        generalize sa[k] = x at *
        go_wp2_with fail
        refine hs.mono ?_
        rintro e w3 ⟨at_, rfl, h3⟩
        have O3 := Lib.hid (own_below HO.out h3)
        have hb3 := Below.step hbw h3
        have z3 := hb3.size
        clear hs
        go_wp2_with (at_builtin; refine wpList_append_own _ rfl _ _ 31 rfl w2.heap.size 3 i0 (.int .i64 0) 1 8 Tryd.underlying31 hi hz0 hz1 hz2 rfl (by decide) _ _ _ rfl (O3.out.alloc _) ⟨w3.heap.size, 0, none⟩ 1 1 [.int .i64 x] rfl rfl (cell_one_new _ _ _) (fun x hx => by simp at hx; subst hx; rfl) (by unfold maxLen; omega) (by omega) (by simp; omega) ?_; intro v' w4 hown4 hgrow4 _)
        have hb4 : Below w2.heap.size w2 w4 := (hb3.alloc z3 _).grown hgrow4 (by simp; omega) (fun g hg => (O3.out.lt g hg).1)
        have HO4 : Hid (OwnI w4 w2.heap.size (filtN sb sa c (k + 1)) v') := Lib.hid (by
          rw [HF.out]
          obtain ⟨A5, c5, rfl⟩ := own_form hown4
          exact ⟨A5, c5, by simp, by simpa using hown4⟩)
        clear hown4 hgrow4
        go_wp2
        go_roundw
        case rel => exact ⟨k + 1, by omega, by go_num, HO4.out, hb4⟩
        case measure => simp [intOf]; omega
      · have hc' : sb.contains sa[k] = !c := by
          cases h : sb.contains sa[k] <;> cases c <;> simp_all
        have HF : Hid (filtN sb sa c (k + 1) = filtN sb sa c k) := Lib.hid (filtN_no hlt hc')
        rw [hc'] at hs
        clear hc hc' hown
        generalize sa[k] = x at *
        go_wp2_with fail
        refine hs.mono ?_
        rintro e w3 ⟨at_, rfl, h3⟩
        have O3 : Hid (OwnI w3 w2.heap.size (filtN sb sa c (k + 1)) (.slice A' (filtN sb sa c k).length c')) := Lib.hid (by rw [HF.out]; exact ⟨A', c', rfl, own_below HO.out h3⟩)
        have hb3 := Below.step hbw h3
        clear hs
        go_wp2
        go_roundw
        case rel => exact ⟨k + 1, by omega, by go_num, O3.out, hb3⟩
        case measure => simp [intOf]; omega
    · have hk' : k = sa.length := by omega
      have hB := H2.trans (hbw.mono H2.size)
      have HR : Hid (RetInts 3 R w (.returned (.slice A' (filtN sb sa c k).length c')) wr) := Lib.hid (by
        have e : filtN sb sa c k = R := by rw [hk']; exact hall.out
        rw [e] at hown ⊢
        exact ⟨A', c', rfl, hown.mono H2.size, hB⟩)
      clear hown hk'
      go_wp2
      go_ret
      exact HR.out

theorem minus_any (a b : List Int) (A B : Option Addr) (ca cb : Nat) (w : World) (ha : Ints w A a) (hb : Ints w B b) (hla : a.length ≤ 100000) (hlb : b.length ≤ 100000) :
    Calls Tryd.prog 26 #[.slice A a.length ca, .slice B b.length cb] w (RetInts 3 (minus a b) w) := by
  have k := filtered_any a b A B ca cb false w ha hb hla hlb
  rw [filtered_minus] at k
  go_enter Tryd.func26, Tryd.ntmps26
  go_wp2_with fail
  refine k.mono ?_
  rintro e w1 ⟨A1, c1, rfl, o1, h1⟩
  have O1 := Lib.hid o1
  clear o1
  go_wp2
  go_ret
  exact ⟨A1, c1, rfl, O1.out, h1⟩
theorem both_any (a b : List Int) (A B : Option Addr) (ca cb : Nat) (w : World) (ha : Ints w A a) (hb : Ints w B b) (hla : a.length ≤ 100000) (hlb : b.length ≤ 100000) :
    Calls Tryd.prog 28 #[.slice A a.length ca, .slice B b.length cb] w (RetInts 3 (both a b) w) := by
  have k := filtered_any a b A B ca cb true w ha hb hla hlb
  rw [filtered_both] at k
  go_enter Tryd.func28, Tryd.ntmps28
  go_wp2_with fail
  refine k.mono ?_
  rintro e w1 ⟨A1, c1, rfl, o1, h1⟩
  have O1 := Lib.hid o1
  clear o1
  go_wp2
  go_ret
  exact ⟨A1, c1, rfl, O1.out, h1⟩

/-- What Clip gives. -/
def clipI (n lo hi : Int) : Int := if hi < lo then lo else if n < lo then lo else if hi < n then hi else n
theorem clip_any (n lo hi : Int) (w : World) : Calls Tryd.prog 11 #[.int .i64 n, .int .i64 lo, .int .i64 hi] w (Ret (.int .i64 (clipI n lo hi)) w) := by
  have h : Hid (clipI n lo hi = max lo (min n hi)) := Lib.hid (by unfold clipI; split <;> (try split) <;> (try split) <;> omega)
  go_enter Tryd.func11, Tryd.ntmps11
  go_wp2
  all_goals
    go_ret
    refine Ret.mk ?_ (by first | exact Below.refl _ _ | exact (Below.refl _ _).drew)
    rw [h.out]
    first | rfl | (congr 1; done) | (congr 1; omega)
theorem rclip_any (n lo hi : Int) (w : World) : Calls Tryd.prog 12 #[.int .i64 n, .int .i64 lo, .int .i64 hi] w (Ret (.int .i64 (clipI n lo hi)) w) := by
  by_cases h1 : hi < lo
  · have h : Hid (clipI n lo hi = lo) := Lib.hid (if_pos h1)
    go_enter Tryd.func12, Tryd.ntmps12
    go_wp2
    go_ret
    exact Ret.mk (by rw [h.out]; rfl) (Below.refl _ _)
  · by_cases h2 : n < lo
    · have h : Hid (clipI n lo hi = lo) := Lib.hid (by unfold clipI; rw [if_neg h1, if_pos h2])
      go_enter Tryd.func12, Tryd.ntmps12
      go_wp2
      go_ret
      exact Ret.mk (by rw [h.out]; rfl) (Below.refl _ _)
    · by_cases h3 : hi < n
      · have h : Hid (clipI n lo hi = hi) := Lib.hid (by unfold clipI; rw [if_neg h1, if_neg h2, if_pos h3])
        go_enter Tryd.func12, Tryd.ntmps12
        go_wp2
        go_ret
        exact Ret.mk (by rw [h.out]; rfl) (Below.refl _ _)
      · have h : Hid (clipI n lo hi = n) := Lib.hid (by unfold clipI; rw [if_neg h1, if_neg h2, if_neg h3])
        go_enter Tryd.func12, Tryd.ntmps12
        go_wp2
        go_ret
        exact Ret.mk (by rw [h.out]; rfl) (Below.refl _ _)
end Go.Proofs.YtoegkojomgellaaDoor
