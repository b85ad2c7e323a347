/- The reference's Put, Sorted, Union, Minus, Both. -/
import Derived.Test.YtoegkojomgellaaDoorNumA
namespace Go.Proofs.YtoegkojomgellaaDoor
open Go.RowKit

theorem take_len {l : List Int} {k : Nat} (hk : k ≤ l.length) : (l.take k).length = k := by rw [List.length_take]; omega
theorem take_map {l : List Int} {k : Nat} (hk : k < l.length) : (l.take k).map (Value.int .i64) ++ [.int .i64 l[k]] = (l.take (k + 1)).map (Value.int .i64) := by
  rw [List.take_succ_eq_append_getElem hk, List.map_append]; rfl

/-- The rest of a slice reads as the rest of the list. -/
theorem ints_drop {w : World} {ad : Addr} {l : List Int} (h : Ints w (some ad) l) {i : Nat} (hi : i < l.length) : Reads w w.heap.size 1 (some (ad.add i)) (l.length - i) ((l.drop i).map (Value.int .i64)) := by
  obtain ⟨ad', e, hb, hc⟩ := h.2 (by omega)
  injection e with e
  subst e
  refine ⟨by simp, fun _ => ⟨_, rfl, by rw [block_of_add]; exact hb, fun j u hu => ?_⟩⟩
  rw [add_of_add]
  refine hc (i + j) u ?_
  rw [← hu]
  simp [List.getElem?_drop]
theorem reads_zero (w : World) (B : Nat) (A : Option Addr) : Reads w B 1 A 0 [] := ⟨rfl, fun h => absurd h (by omega)⟩

theorem put_done {l : List Int} {x : Int} {k i : Nat} (hp : put l x = l.take k ++ [x] ++ l.drop i) (hk : k ≤ l.length) {w w5 : World} {v5 : Value} {n : Nat} (hn : n = k + 1 + (l.length - i))
    (hown : w5.ownsRow w.heap.size 3 1 v5 n (((l.take k).map (Value.int .i64) ++ [.int .i64 x]) ++ (l.drop i).map (Value.int .i64))) (hb : Below w.heap.size w w5) : RetInts 3 (put l x) w (.returned v5) w5 := by
  obtain ⟨A5, c5, rfl⟩ := own_form hown
  have hl : (put l x).length = n := by rw [hp, hn]; simp; omega
  have hm : (put l x).map (Value.int .i64) = ((l.take k).map (Value.int .i64) ++ [.int .i64 x]) ++ (l.drop i).map (Value.int .i64) := by rw [hp]; simp
  exact ⟨A5, c5, by rw [hl], by rw [hm, hl]; exact hown, hb⟩

set_option maxRecDepth 20000 in
set_option maxHeartbeats 2000000 in
theorem rput_any (l : List Int) (A : Option Addr) (cap : Nat) (hcap : l.length ≤ cap) (x : Int) (w : World) (ha : Ints w A l) (hl : l.length ≤ 100000) :
    Calls Tryd.prog 36 #[.slice A l.length cap, .int .i64 x] w (RetInts 3 (put l x) w) := by
  obtain ⟨i0, hi, hz0, hz1, hz2⟩ := info_parts info_int
  go_enter Tryd.func36, Tryd.ntmps36
  go_wp2
  go_loopw [5, 6] (fun v i wr => ∃ k : Nat, k ≤ l.length ∧ i = .int .i64 (k : Int) ∧ (∀ j (hj : j < l.length), j < k → l[j] < x) ∧ wr.ownsRow w.heap.size 3 1 v k ((l.take k).map (Value.int .i64)) ∧ Below w.heap.size w wr) (fun _ i _ => l.length + 1 - (intOf i).toNat)
  case atStart => exact ⟨0, by omega, rfl, fun j hj h => by omega, World.ownsRow_nil _ _ _ _, Below.refl _ _⟩
  case round =>
    obtain ⟨k, hk, rfl, hno, hown, hbw⟩ := hrel
    have HNO := Lib.hid hno
    have HO := Lib.hid hown
    clear hno hown
    have hsz := hbw.size
    by_cases hgo : ∃ hlt : k < l.length, l[k] < x
    · obtain ⟨hlt, hx⟩ := hgo
      obtain ⟨ad, rfl, _, c1⟩ := (ha.below hbw).at_ hlt
      have hlt' : (k : Int) < l.length := by omega
      go_wp2_with (at_builtin; refine wpList_append_own _ rfl _ _ 31 rfl w.heap.size 3 i0 (.int .i64 0) 1 8 Tryd.underlying31 hi hz0 hz1 hz2 rfl (by decide) _ _ _ rfl (HO.out.alloc _) ⟨wr.heap.size, 0, none⟩ 1 1 [.int .i64 l[k]] rfl rfl (cell_one_new _ _ _) (fun x hx => by simp at hx; subst hx; rfl) (by unfold maxLen; omega) (by omega) (by simp; omega) ?_; intro v' w4 hown4 hgrow4 _)
      have hb4 : Below w.heap.size w w4 := (hbw.alloc hsz _).grown hgrow4 (by simp; omega) (fun g hg => (HO.out.lt g hg).1)
      have HO4 : Hid (w4.ownsRow w.heap.size 3 1 v' (k + 1) ((l.take (k + 1)).map (Value.int .i64))) := Lib.hid (by rw [← take_map hlt]; exact hown4)
      have HX := Lib.hid hx
      clear hown4 hgrow4 hx
      go_wp2
      go_roundw
      case rel => exact ⟨k + 1, by omega, by go_num, fun j hj h => by
          rcases Nat.lt_or_ge j k with h' | h'
          · exact HNO.out j hj h'
          · have : j = k := by omega
            subst this; exact HX.out, HO4.out, hb4⟩
      case measure => simp [intOf]; omega
    · have hp := Lib.hid (put_at l x k hk (fun j hj h => HNO.out j hj h) (fun hk' h => hgo ⟨hk', h⟩))
      clear HNO
      by_cases hlt : k < l.length
      · have hge : ¬ l[k] < x := fun h => hgo ⟨hlt, h⟩
        obtain ⟨ad, rfl, hadb, c1⟩ := (ha.below hbw).at_ hlt
        have hlt' : (k : Int) < l.length := by omega
        have hkc : ¬ cap = k := by omega
        clear hgo
        by_cases heq : l[k] = x
        · have HP : Hid (put l x = l.take k ++ [x] ++ l.drop (k + 1)) := Lib.hid (by rw [hp.out, if_pos (by rw [List.getElem?_eq_getElem hlt, heq])])
          have heq' : (l[k] == x) = true := by simpa using heq
          clear hp heq
          by_cases hlast : k + 1 < l.length
          · have hkc1 : ¬ cap = k + 1 := by omega
            go_wp2_with (at_builtin; refine wpList_append_own _ rfl (.tmp 28) (.tmp 30) 31 rfl w.heap.size 3 i0 (.int .i64 0) 1 8 Tryd.underlying31 hi hz0 hz1 hz2 rfl (by decide) _ _ _ rfl (HO.out.alloc _) ⟨wr.heap.size, 0, none⟩ 1 1 [.int .i64 x] rfl rfl (cell_one_new _ _ _) (fun x hx => by simp at hx; subst hx; rfl) (by unfold maxLen; omega) (by omega) (by simp; omega) ?_; intro v' w4 hown4 hgrow4 _; refine Hid.out ?_)
            have hb4 : Below w.heap.size w w4 := (hbw.alloc hsz _).grown hgrow4 (by simp; omega) (fun g hg => (HO.out.lt g hg).1)
            have HO4 := Lib.hid hown4
            have hz4 := hb4.size
            have hR := ints_drop (ha.below hb4) (show k + 1 < l.length by omega)
            rw [add_succ] at hR
            have c4 := ((ha.below hb4).at_ hlt).choose_spec
            obtain ⟨e4, _, c4⟩ := c4
            injection e4 with e4
            rw [← e4] at c4
            clear e4
            clear hown4 hgrow4
            refine Lib.hid ?_
            go_wp2_with (at_builtin; refine wpList_append_any _ rfl (.tmp 46) (.tmp 49) _ rfl w.heap.size 3 i0 _ 1 8 Tryd.underlying31 hi hz0 hz1 hz2 rfl (by omega) _ (k + 1) _ rfl HO4.out w4.heap.size _ (l.length - (k + 1)) _ ((l.drop (k + 1)).map (Value.int .i64)) rfl hR (one_ints _) (by simp only [maxLen]; omega) (by omega) hz4 ?_; intro v5 w5 hown5 hg5 _)
            have hb5 : Below w.heap.size w w5 := hb4.grown hg5 hz4 (fun g hg => (HO4.out.lt g hg).1)
            have HO5 := Lib.hid hown5
            clear hown5 hg5
            go_wp2
            go_ret
            exact put_done HP.out (by omega) rfl HO5.out hb5
          · by_cases hcc : cap = k + 1
            · have hcl : l.length = k + 1 := by omega
              go_wp2_with (at_builtin; refine wpList_append_own _ rfl (.tmp 28) (.tmp 30) 31 rfl w.heap.size 3 i0 (.int .i64 0) 1 8 Tryd.underlying31 hi hz0 hz1 hz2 rfl (by decide) _ _ _ rfl (HO.out.alloc _) ⟨wr.heap.size, 0, none⟩ 1 1 [.int .i64 x] rfl rfl (cell_one_new _ _ _) (fun x hx => by simp at hx; subst hx; rfl) (by unfold maxLen; omega) (by omega) (by simp; omega) ?_; intro v' w4 hown4 hgrow4 _; refine Hid.out ?_)
              have hb4 : Below w.heap.size w w4 := (hbw.alloc hsz _).grown hgrow4 (by simp; omega) (fun g hg => (HO.out.lt g hg).1)
              have HO4 := Lib.hid hown4
              have hz4 := hb4.size
              have c4 := ((ha.below hb4).at_ hlt).choose_spec
              obtain ⟨e4, _, c4⟩ := c4
              injection e4 with e4
              rw [← e4] at c4
              clear e4
              clear hown4 hgrow4
              refine Lib.hid ?_
              go_wp2_with (at_builtin; refine wpList_append_any _ rfl (.tmp 46) (.tmp 49) _ rfl w.heap.size 3 i0 _ 1 8 Tryd.underlying31 hi hz0 hz1 hz2 rfl (by omega) _ (k + 1) _ rfl HO4.out 0 _ 0 _ [] (by first | rfl | (simp; done) | (simp; omega)) (reads_zero _ _ _) (by simp) (by simp only [maxLen]; omega) (by omega) hz4 ?_; intro v5 w5 hown5 hg5 _)
              have hb5 : Below w.heap.size w w5 := hb4.grown hg5 hz4 (fun g hg => (HO4.out.lt g hg).1)
              have HO5 := Lib.hid hown5
              clear hown5 hg5
              go_wp2
              go_ret
              exact put_done (n := k + 1 + 0) (i := k + 1) HP.out (by omega) (by omega) (by rw [List.drop_eq_nil_of_le (by omega)]; exact HO5.out) hb5
            · have hcl : l.length = k + 1 := by omega
              go_wp2_with (at_builtin; refine wpList_append_own _ rfl (.tmp 28) (.tmp 30) 31 rfl w.heap.size 3 i0 (.int .i64 0) 1 8 Tryd.underlying31 hi hz0 hz1 hz2 rfl (by decide) _ _ _ rfl (HO.out.alloc _) ⟨wr.heap.size, 0, none⟩ 1 1 [.int .i64 x] rfl rfl (cell_one_new _ _ _) (fun x hx => by simp at hx; subst hx; rfl) (by unfold maxLen; omega) (by omega) (by simp; omega) ?_; intro v' w4 hown4 hgrow4 _; refine Hid.out ?_)
              have hb4 : Below w.heap.size w w4 := (hbw.alloc hsz _).grown hgrow4 (by simp; omega) (fun g hg => (HO.out.lt g hg).1)
              have HO4 := Lib.hid hown4
              have hz4 := hb4.size
              have c4 := ((ha.below hb4).at_ hlt).choose_spec
              obtain ⟨e4, _, c4⟩ := c4
              injection e4 with e4
              rw [← e4] at c4
              clear e4
              clear hown4 hgrow4
              refine Lib.hid ?_
              go_wp2_with (at_builtin; refine wpList_append_any _ rfl (.tmp 46) (.tmp 49) _ rfl w.heap.size 3 i0 _ 1 8 Tryd.underlying31 hi hz0 hz1 hz2 rfl (by omega) _ (k + 1) _ rfl HO4.out 0 _ 0 _ [] (by first | rfl | (simp; done) | (simp; omega)) (reads_zero _ _ _) (by simp) (by simp only [maxLen]; omega) (by omega) hz4 ?_; intro v5 w5 hown5 hg5 _)
              have hb5 : Below w.heap.size w w5 := hb4.grown hg5 hz4 (fun g hg => (HO4.out.lt g hg).1)
              have HO5 := Lib.hid hown5
              clear hown5 hg5
              go_wp2
              go_ret
              exact put_done (n := k + 1 + 0) (i := k + 1) HP.out (by omega) (by omega) (by rw [List.drop_eq_nil_of_le (by omega)]; exact HO5.out) hb5
        · have HP : Hid (put l x = l.take k ++ [x] ++ l.drop k) := Lib.hid (by rw [hp.out, if_neg (by rw [List.getElem?_eq_getElem hlt]; intro h; exact heq (by injection h))])
          have heq' : (l[k] == x) = false := by simpa using heq
          clear hp heq
          go_wp2_with (at_builtin; refine wpList_append_own _ rfl (.tmp 28) (.tmp 30) 31 rfl w.heap.size 3 i0 (.int .i64 0) 1 8 Tryd.underlying31 hi hz0 hz1 hz2 rfl (by decide) _ _ _ rfl (HO.out.alloc _) ⟨wr.heap.size, 0, none⟩ 1 1 [.int .i64 x] rfl rfl (cell_one_new _ _ _) (fun x hx => by simp at hx; subst hx; rfl) (by unfold maxLen; omega) (by omega) (by simp; omega) ?_; intro v' w4 hown4 hgrow4 _; refine Hid.out ?_)
          have hb4 : Below w.heap.size w w4 := (hbw.alloc hsz _).grown hgrow4 (by simp; omega) (fun g hg => (HO.out.lt g hg).1)
          have HO4 := Lib.hid hown4
          have hz4 := hb4.size
          have hR := ints_drop (ha.below hb4) (show k < l.length by omega)
          have c4 := ((ha.below hb4).at_ hlt).choose_spec
          obtain ⟨e4, _, c4⟩ := c4
          injection e4 with e4
          rw [← e4] at c4
          clear e4
          clear hown4 hgrow4
          refine Lib.hid ?_
          go_wp2_with (at_builtin; refine wpList_append_any _ rfl (.tmp 46) (.tmp 49) _ rfl w.heap.size 3 i0 _ 1 8 Tryd.underlying31 hi hz0 hz1 hz2 rfl (by omega) _ (k + 1) _ rfl HO4.out w4.heap.size _ (l.length - (k)) _ ((l.drop (k)).map (Value.int .i64)) rfl hR (one_ints _) (by simp only [maxLen]; omega) (by omega) hz4 ?_; intro v5 w5 hown5 hg5 _)
          have hb5 : Below w.heap.size w w5 := hb4.grown hg5 hz4 (fun g hg => (HO4.out.lt g hg).1)
          have HO5 := Lib.hid hown5
          clear hown5 hg5
          go_wp2
          go_ret
          exact put_done HP.out (by omega) rfl HO5.out hb5
      · have hkl : k = l.length := by omega
        have HP : Hid (put l x = l.take k ++ [x] ++ l.drop k) := Lib.hid (by rw [hp.out, if_neg (by rw [List.getElem?_eq_none (by omega)]; intro h; cases h)])
        have hlt' : ¬ (k : Int) < l.length := by omega
        clear hp hgo
        by_cases hcc : cap = k
        · go_wp2_with (at_builtin; refine wpList_append_own _ rfl (.tmp 28) (.tmp 30) 31 rfl w.heap.size 3 i0 (.int .i64 0) 1 8 Tryd.underlying31 hi hz0 hz1 hz2 rfl (by decide) _ _ _ rfl (HO.out.alloc _) ⟨wr.heap.size, 0, none⟩ 1 1 [.int .i64 x] rfl rfl (cell_one_new _ _ _) (fun x hx => by simp at hx; subst hx; rfl) (by unfold maxLen; omega) (by omega) (by simp; omega) ?_; intro v' w4 hown4 hgrow4 _; refine Hid.out ?_)
          have hb4 : Below w.heap.size w w4 := (hbw.alloc hsz _).grown hgrow4 (by simp; omega) (fun g hg => (HO.out.lt g hg).1)
          have HO4 := Lib.hid hown4
          have hz4 := hb4.size
          clear hown4 hgrow4
          refine Lib.hid ?_
          go_wp2_with (at_builtin; refine wpList_append_any _ rfl (.tmp 46) (.tmp 49) _ rfl w.heap.size 3 i0 _ 1 8 Tryd.underlying31 hi hz0 hz1 hz2 rfl (by omega) _ (k + 1) _ rfl HO4.out 0 _ 0 _ [] (by first | rfl | (simp; done) | (simp; omega)) (reads_zero _ _ _) (by simp) (by simp only [maxLen]; omega) (by omega) hz4 ?_; intro v5 w5 hown5 hg5 _)
          have hb5 : Below w.heap.size w w5 := hb4.grown hg5 hz4 (fun g hg => (HO4.out.lt g hg).1)
          have HO5 := Lib.hid hown5
          clear hown5 hg5
          go_wp2
          go_ret
          exact put_done (n := k + 1 + 0) (i := k) HP.out (by omega) (by omega) (by rw [List.drop_eq_nil_of_le (by omega)]; exact HO5.out) hb5
        · go_wp2_with (at_builtin; refine wpList_append_own _ rfl (.tmp 28) (.tmp 30) 31 rfl w.heap.size 3 i0 (.int .i64 0) 1 8 Tryd.underlying31 hi hz0 hz1 hz2 rfl (by decide) _ _ _ rfl (HO.out.alloc _) ⟨wr.heap.size, 0, none⟩ 1 1 [.int .i64 x] rfl rfl (cell_one_new _ _ _) (fun x hx => by simp at hx; subst hx; rfl) (by unfold maxLen; omega) (by omega) (by simp; omega) ?_; intro v' w4 hown4 hgrow4 _; refine Hid.out ?_)
          have hb4 : Below w.heap.size w w4 := (hbw.alloc hsz _).grown hgrow4 (by simp; omega) (fun g hg => (HO.out.lt g hg).1)
          have HO4 := Lib.hid hown4
          have hz4 := hb4.size
          clear hown4 hgrow4
          refine Lib.hid ?_
          go_wp2_with (at_builtin; refine wpList_append_any _ rfl (.tmp 46) (.tmp 49) _ rfl w.heap.size 3 i0 _ 1 8 Tryd.underlying31 hi hz0 hz1 hz2 rfl (by omega) _ (k + 1) _ rfl HO4.out 0 _ 0 _ [] (by first | rfl | (simp; done) | (simp; omega)) (reads_zero _ _ _) (by simp) (by simp only [maxLen]; omega) (by omega) hz4 ?_; intro v5 w5 hown5 hg5 _)
          have hb5 : Below w.heap.size w w5 := hb4.grown hg5 hz4 (fun g hg => (HO4.out.lt g hg).1)
          have HO5 := Lib.hid hown5
          clear hown5 hg5
          go_wp2
          go_ret
          exact put_done (n := k + 1 + 0) (i := k) HP.out (by omega) (by omega) (by rw [List.drop_eq_nil_of_le (by omega)]; exact HO5.out) hb5
end Go.Proofs.YtoegkojomgellaaDoor
