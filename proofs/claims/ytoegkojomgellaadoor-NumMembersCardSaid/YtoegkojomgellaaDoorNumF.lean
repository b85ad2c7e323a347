/- The code's Union: slices.Grow, slices.Concat of two lists. -/
import Derived.Test.YtoegkojomgellaaDoorNumE
namespace Go.Proofs.YtoegkojomgellaaDoor
open Go.RowKit Go.Shelf

theorem zero_one (n : Nat) : (Builtin.zeroCells (Value.int .i64 0).cells n).size = n := by
  unfold Builtin.zeroCells
  simp [Value.cells]

theorem grow_any (n : Nat) (w : World) (hn : n ≤ 200000) :
    Calls Tryd.prog 46 #[.slice none 0 0, .int .i64 (n : Int)] w fun e w' => ∃ v, e = .returned v ∧ w'.ownsRow w.heap.size 3 1 v 0 [] ∧ Below w.heap.size w w' := by
  rcases Nat.eq_zero_or_pos n with h0 | h0
  · subst h0
    refine (Any8.slices_Grow_room Tryd.grow_f46 none 0 0 0 w (by omega) (by omega) (by omega) (by omega)).mono ?_
    rintro e w' ⟨rfl, rfl⟩
    exact ⟨_, rfl, World.ownsRow_nil _ _ _ _, Below.refl _ _⟩
  · obtain ⟨i0, hi, hz0, hz1, hz2⟩ := info_parts info_int
    refine (Any8.slices_Grow_grow Tryd.grow_f46 i0 (.int .i64 0) hi hz0 (by omega) none 0 0 n [] w (by omega) (by omega) (by rw [hz2]; omega) (by omega) (by simp) (fun _ => rfl) (fun a h => by cases h)).mono ?_
    rintro e w' ⟨rfl, rfl⟩
    refine ⟨_, rfl, ⟨rfl, .inr ⟨w.heap.size, _, _, rfl, Nat.le_refl _, by show (w.heap.push _)[w.heap.size]? = _; rw [Array.getElem?_push, if_pos rfl]; rfl, by omega, grownCap_le_maxLen _ _ _ _ (by unfold maxLen; omega), ?_, by simp⟩⟩, ((Below.refl _ _).drew).alloc (Nat.le_refl _) _⟩
    have hge := grownCap_ge w (0 + n) 0 (Tryd.grow_f46_ren.t 25)
    generalize grownCap w (0 + n) 0 (Tryd.grow_f46_ren.t 25) = G at *
    simp only [Array.size_append, zero_one, List.size_toArray, List.length_nil]
    omega

/-- The size that the first loop of Concat has summed. -/
def CRel (la lb : Nat) (t i : Value) : Prop := (i = .int .i64 0 ∧ t = .int .i64 0) ∨ (i = .int .i64 1 ∧ t = .int .i64 la) ∨ (i = .int .i64 2 ∧ t = .int .i64 ((la : Int) + lb))
/-- What the second loop has appended. -/
def CRel2 (B : Nat) (a b : List Int) (w w' : World) (v i : Value) : Prop := (Below B w w' ∧ ∃ s, OwnI w' B s v ∧ ((i = .int .i64 0 ∧ s = []) ∨ (i = .int .i64 1 ∧ s = a) ∨ (i = .int .i64 2 ∧ s = a ++ b)))

set_option maxRecDepth 20000 in
set_option maxHeartbeats 2000000 in
theorem concat_any (a b : List Int) (A B : Option Addr) (ca cb g : Nat) (w : World) (ha : Ints w A a) (hb : Ints w B b) (hla : a.length ≤ 40000) (hlb : b.length ≤ 40000)
    (hg : g < w.heap.size) (h0 : w.cell? ⟨g, 0, none⟩ = some (.slice A a.length ca)) (h1 : w.cell? ⟨g, 1, none⟩ = some (.slice B b.length cb)) :
    Calls Tryd.prog 38 #[.slice (some ⟨g, 0, none⟩) 2 2] w (RetInts 3 (a ++ b) w) := by
  obtain ⟨i0, hi, hz0, hz1, hz2⟩ := info_parts info_int
  have hgr := grow_any (a.length + b.length) w (by omega)
  rw [show ((a.length + b.length : Nat) : Int) = (a.length : Int) + (b.length : Int) by omega] at hgr
  go_enter Tryd.func38, Tryd.ntmps38
  go_wp2
  go_loop [3, 11] (fun t i => CRel a.length b.length t i) (fun _ i => 3 - (intOf i).toNat)
  case atStart => exact .inl ⟨rfl, rfl⟩
  case round =>
    rcases hrel with ⟨rfl, rfl⟩ | ⟨rfl, rfl⟩ | ⟨rfl, rfl⟩
    · go_wp2
      go_round
      case rel => exact .inr (.inl ⟨rfl, by go_num⟩)
      case measure => simp [intOf]
    · go_wp2
      go_round
      case rel => exact .inr (.inr ⟨rfl, by go_num⟩)
      case measure => simp [intOf]
    · go_wp2_with fail
      refine hgr.mono ?_
      rintro e w1 ⟨v1, rfl, o1, hb1⟩
      have OW : Hid (CRel2 w.heap.size a b w w1 v1 (.int .i64 0)) := Lib.hid ⟨hb1, [], (by obtain ⟨A1, c1, rfl⟩ := own_form o1; exact ⟨A1, c1, rfl, o1⟩), .inl ⟨rfl, rfl⟩⟩
      clear o1 hb1 hgr
      go_wp2
      go_loopw [6, 27] (fun v i wr => CRel2 w.heap.size a b w wr v i) (fun _ i _ => 3 - (intOf i).toNat)
      case atStart => exact OW.out
      case round =>
        clear OW
        obtain ⟨hbw, s, ⟨A', c', rfl, hown⟩, hcase⟩ := hrel
        have HO := Lib.hid hown
        have hsz := hbw.size
        have g0 := ((bcell hbw).1 g 0 hg).trans h0
        have g1 := ((bcell hbw).1 g 1 hg).trans h1
        clear hown
        rcases hcase with ⟨rfl, hs⟩ | ⟨rfl, hs⟩ | ⟨rfl, hs⟩
        · subst hs
          go_wp2_with (at_builtin; refine wpList_append_any _ rfl _ _ _ rfl w.heap.size 3 i0 _ 1 8 Tryd.underlying31 hi hz0 hz1 hz2 rfl (by omega) _ 0 _ rfl HO.out wr.heap.size A a.length ca (a.map (Value.int .i64)) rfl (ha.below hbw) (one_ints _) (by simp only [maxLen]; omega) (by omega) hsz ?_; intro v5 w5 hown5 hg5 _)
          have hb5 : Below w.heap.size w w5 := hbw.grown hg5 hsz (fun g hg => (HO.out.lt g hg).1)
          have O5 : Hid (CRel2 w.heap.size a b w w5 v5 (.int .i64 1)) := Lib.hid ⟨hb5, a, (by obtain ⟨A5, c5, rfl⟩ := own_form hown5; exact ⟨A5, c5, by simp, by simpa using hown5⟩), .inr (.inl ⟨rfl, rfl⟩)⟩
          clear hown5 hg5
          go_wp2
          go_roundw
          case rel => exact O5.out
          case measure => simp [intOf]
        · subst hs
          go_wp2_with (at_builtin; refine wpList_append_any _ rfl _ _ _ rfl w.heap.size 3 i0 _ 1 8 Tryd.underlying31 hi hz0 hz1 hz2 rfl (by omega) _ s.length _ rfl HO.out wr.heap.size B b.length cb (b.map (Value.int .i64)) rfl (hb.below hbw) (one_ints _) (by simp only [maxLen]; omega) (by omega) hsz ?_; intro v5 w5 hown5 hg5 _)
          have hb5 : Below w.heap.size w w5 := hbw.grown hg5 hsz (fun g hg => (HO.out.lt g hg).1)
          have O5 : Hid (CRel2 w.heap.size s b w w5 v5 (.int .i64 2)) := Lib.hid ⟨hb5, s ++ b, (by obtain ⟨A5, c5, rfl⟩ := own_form hown5; exact ⟨A5, c5, by simp, by simpa using hown5⟩), .inr (.inr ⟨rfl, rfl⟩)⟩
          clear hown5 hg5
          go_wp2
          go_roundw
          case rel => exact O5.out
          case measure => simp [intOf]
        · have HR : Hid (RetInts 3 (a ++ b) w (.returned (.slice A' s.length c')) wr) := Lib.hid (by rw [← hs]; exact ⟨A', c', rfl, HO.out, hbw⟩)
          clear hs
          go_wp2
          go_ret
          exact HR.out

set_option maxRecDepth 20000 in
set_option maxHeartbeats 1000000 in
theorem union_any (a b : List Int) (A B : Option Addr) (ca cb : Nat) (w : World) (ha : Ints w A a) (hb : Ints w B b) (hla : a.length ≤ 40000) (hlb : b.length ≤ 40000) :
    Calls Tryd.prog 24 #[.slice A a.length ca, .slice B b.length cb] w (RetInts 3 (union a b) w) := by
  have hc := fun t => concat_any a b A B ca cb w.heap.size (w.alloc (.cells #[.slice A a.length ca, .slice B b.length cb] t)) (ha.alloc _) (hb.alloc _) hla hlb (by simp) (by simp [go_sem]) (by simp [go_sem])
  have hs := fun w' A' c' (h : Ints w' A' (a ++ b)) => sorted_any (a ++ b) A' c' w' h (by simp; omega)
  have hU : Hid (setOf (a ++ b) = union a b) := Lib.hid rfl
  generalize union a b = U at *
  generalize a ++ b = ab at *
  go_enter Tryd.func24, Tryd.ntmps24
  go_wp2_with fail
  refine (hc _).mono ?_
  rintro e w1 ⟨A1, c1, rfl, o1, h1⟩
  have k1 := hs w1 A1 c1 (Ints.of_own o1)
  rw [hU.out] at k1
  have H1 : Below w.heap.size w w1 := ((Below.refl _ _).alloc (Nat.le_refl _) _).trans (h1.mono (by simp))
  clear o1 hc hs
  go_wp2_with fail
  refine k1.mono ?_
  rintro e w2 ⟨A2, c2, rfl, o2, h2⟩
  have O2 := Lib.hid (o2.mono H1.size)
  have H2 := Below.step H1 h2
  clear o2 k1
  go_wp2
  go_ret
  exact ⟨A2, c2, rfl, O2.out, H2⟩
end Go.Proofs.YtoegkojomgellaaDoor
