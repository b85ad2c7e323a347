/- Rows of consents; slices.Grow and slices.Concat at them. -/
import Derived.Test.YthbagggcfdgnfaaCnN
import Derived.Test.YthbagggcfdgnfaaAppend
import Derived.Test.YthbagggcfdgnfaaShelf
namespace Go.Proofs.Ythbagggcfdgnfaa
open Go.RowKit Go.Shelf

theorem flat_get (l : List Cn) : ∀ j, (l.flatMap encC)[j]? = (l[j / 4]?).bind fun x => (encC x)[j % 4]? := by
  induction l with
  | nil => intro j; simp
  | cons x l ih =>
    intro j
    rw [List.flatMap_cons]
    rcases Nat.lt_or_ge j 4 with h | h
    · rw [List.getElem?_append_left (by simpa [encC] using h), Nat.div_eq_of_lt h, Nat.mod_eq_of_lt h]; rfl
    · obtain ⟨q, rfl⟩ : ∃ q, j = q + 4 := ⟨j - 4, by omega⟩
      rw [List.getElem?_append_right (by simp [encC]), show (encC x).length = 4 from rfl, Nat.add_sub_cancel, ih, Nat.add_div_right _ (by omega), Nat.add_mod_right]
      rfl
theorem flat_len (l : List Cn) : (l.flatMap encC).length = l.length * 4 := by
  induction l with
  | nil => rfl
  | cons x l ih => rw [List.flatMap_cons, List.length_append, ih, List.length_cons, show (encC x).length = 4 from rfl]; omega
theorem one_cons (l : List Cn) : ∀ u ∈ l.flatMap encC, u.oneCell' = true := by
  intro u hu
  obtain ⟨x, _, hx⟩ := List.mem_flatMap.1 hu
  simp [encC] at hx
  rcases hx with rfl | rfl | rfl | rfl <;> rfl
theorem Cons.reads {w : World} {A : Option Addr} {l : List Cn} (h : Cons w A l) : Reads w w.heap.size 4 A l.length (l.flatMap encC) := by
  refine ⟨flat_len l, fun hn => ?_⟩
  obtain ⟨ad, rfl, hlt⟩ := Structs.addr h hn
  refine ⟨ad, rfl, hlt, fun j u hu => ?_⟩
  rw [flat_get] at hu
  obtain ⟨x, hx, hxu⟩ := Option.bind_eq_some_iff.1 hu
  obtain ⟨hi, rfl⟩ := List.getElem?_eq_some_iff.1 hx
  obtain ⟨ad', e, _, hc⟩ := h (j / 4) hi
  injection e with e
  subst e
  have := hc (j % 4) u hxu
  rwa [show j / 4 * 4 + j % 4 = j by omega] at this
theorem Cons.of_reads {w : World} {A : Option Addr} {l : List Cn} (h : Reads w w.heap.size 4 A l.length (l.flatMap encC)) : Cons w A l := fun i hi => by
  obtain ⟨ad, rfl, hlt, hc⟩ := h.2 (by omega)
  refine ⟨ad, rfl, hlt, fun j v hv => hc _ _ ?_⟩
  have hj : j < 4 := by
    rcases Nat.lt_or_ge j 4 with h1 | h1
    · exact h1
    · rw [List.getElem?_eq_none (by simpa [encC] using h1)] at hv; cases hv
  rw [flat_get, show (i * 4 + j) / 4 = i by omega, show (i * 4 + j) % 4 = j by omega, List.getElem?_eq_getElem hi]
  exact hv
/-- A slice value that is a row of the call's own, holding the consents of s. -/
def OwnC (w : World) (B : Nat) (s : List Cn) (v : Value) : Prop := ∃ A c, v = .slice A s.length c ∧ w.ownsRow B 40 4 (.slice A s.length c) s.length (s.flatMap encC)
theorem OwnC.nil_ (w : World) (B : Nat) : OwnC w B [] (.slice none 0 0) := ⟨none, 0, rfl, World.ownsRow_nil _ _ _ _⟩
/-- The call returns a slice of its own, of these consents. -/
def RetCons (l : List Cn) (w : World) (e : Ending) (w' : World) : Prop := ∃ A cap, e = .returned (.slice A l.length cap) ∧ (Cons w' A l ∧ l.length ≤ cap) ∧ Below w.heap.size w w'
theorem own_capC {w : World} {B size : Nat} {T : TypeId} {A : Option Addr} {n c : Nat} {xs : List Value} (h : w.ownsRow B T size (.slice A n c) n xs) : n ≤ c := by
  rcases h.2 with ⟨h1, h2⟩ | ⟨g, cp, cur, h1, _, _, h2, _⟩
  · omega
  · injection h1 with _ _ h3
    omega
theorem OwnC.ret {w w' : World} {s : List Cn} {v : Value} (h : OwnC w' w.heap.size s v) (hb : Below w.heap.size w w') : RetCons s w (.returned v) w' :=
  let ⟨A, c, e, ho⟩ := h; ⟨A, c, by rw [e], ⟨Cons.of_reads (Reads.of_own ho), own_capC ho⟩, hb⟩

abbrev zeroC : Value := .agg #[.int .i64 0, .int .i64 0, .int .i64 0, .int .i64 0]
theorem info_consent : (Try.prog.info? 40).map (fun i => (i.zero, i.size, i.bytes)) = some (some zeroC, 4, 32) := by kernel_rfl
theorem zero_four (n : Nat) : (Builtin.zeroCells zeroC.cells n).size = n * 4 := by
  unfold Builtin.zeroCells
  simp [Value.cells]

theorem growC_any (n : Nat) (w : World) (hn : n ≤ 200000) :
    Calls Try.prog 40 #[.slice none 0 0, .int .i64 (n : Int)] w fun e w' => ∃ v, e = .returned v ∧ w'.ownsRow w.heap.size 40 4 v 0 [] ∧ Below w.heap.size w w' := by
  rcases Nat.eq_zero_or_pos n with h0 | h0
  · subst h0
    refine (Any8.slices_Grow_room Try.grow_f40 none 0 0 0 w (by omega) (by omega) (by omega) (by omega)).mono ?_
    rintro e w' ⟨rfl, rfl⟩
    exact ⟨_, rfl, World.ownsRow_nil _ _ _ _, Below.refl _ _⟩
  · obtain ⟨i0, hi, hz0, hz1, hz2⟩ := info_parts info_consent
    refine (Any8.slices_Grow_grow Try.grow_f40 i0 zeroC hi hz0 (by omega) none 0 0 n [] w (by omega) (by omega) (by rw [hz2]; omega) (by omega) (by simp) (fun _ => rfl) (fun a h => by cases h)).mono ?_
    rintro e w' ⟨rfl, rfl⟩
    refine ⟨_, rfl, ⟨rfl, .inr ⟨w.heap.size, _, _, rfl, Nat.le_refl _, by show (w.heap.push _)[w.heap.size]? = _; rw [Array.getElem?_push, if_pos rfl]; rfl, by omega, grownCap_le_maxLen _ _ _ _ (by unfold maxLen; omega), ?_, by simp⟩⟩, ((Below.refl _ _).drew).alloc (Nat.le_refl _) _⟩
    have hge := grownCap_ge w (0 + n) 0 (Try.grow_f40_ren.t 25)
    generalize grownCap w (0 + n) 0 (Try.grow_f40_ren.t 25) = G at *
    simp only [Array.size_append, zero_four, List.size_toArray, List.length_nil]
    omega

def CRelC (la lb lc : Nat) (t i : Value) : Prop := (i = .int .i64 0 ∧ t = .int .i64 0) ∨ (i = .int .i64 1 ∧ t = .int .i64 la) ∨ (i = .int .i64 2 ∧ t = .int .i64 ((la : Int) + lb)) ∨ (i = .int .i64 3 ∧ t = .int .i64 ((la : Int) + lb + lc))
def CRelD (B : Nat) (a b c : List Cn) (w w' : World) (v i : Value) : Prop := (Below B w w' ∧ ∃ s, OwnC w' B s v ∧ ((i = .int .i64 0 ∧ s = []) ∨ (i = .int .i64 1 ∧ s = a) ∨ (i = .int .i64 2 ∧ s = a ++ b) ∨ (i = .int .i64 3 ∧ s = a ++ b ++ c)))

set_option maxRecDepth 20000 in
set_option maxHeartbeats 4000000 in
theorem concatC_any (a b c : List Cn) (A B C : Option Addr) (ca cb cc g : Nat) (w : World) (ha : Cons w A a) (hb : Cons w B b) (hc : Cons w C c) (hla : a.length ≤ 40000) (hlb : b.length ≤ 40000) (hlc : c.length ≤ 40000)
    (hg : g < w.heap.size) (h0 : w.cell? ⟨g, 0, none⟩ = some (.slice A a.length ca)) (h1 : w.cell? ⟨g, 1, none⟩ = some (.slice B b.length cb)) (h2 : w.cell? ⟨g, 2, none⟩ = some (.slice C c.length cc)) :
    Calls Try.prog 33 #[.slice (some ⟨g, 0, none⟩) 3 3] w (RetCons (a ++ b ++ c) w) := by
  obtain ⟨i0, hi, hz0, hz1, hz2⟩ := info_parts info_consent
  have hgr := growC_any (a.length + b.length + c.length) w (by omega)
  rw [show ((a.length + b.length + c.length : Nat) : Int) = (a.length : Int) + (b.length : Int) + (c.length : Int) by omega] at hgr
  go_enter Try.func33, Try.ntmps33
  go_wp2
  go_loop [3, 11] (fun t i => CRelC a.length b.length c.length t i) (fun _ i => 4 - (intOf i).toNat)
  case atStart => exact .inl ⟨rfl, rfl⟩
  case round =>
    rcases hrel with ⟨rfl, rfl⟩ | ⟨rfl, rfl⟩ | ⟨rfl, rfl⟩ | ⟨rfl, rfl⟩
    · go_wp2
      go_round
      case rel => exact .inr (.inl ⟨rfl, by go_num⟩)
      case measure => simp [intOf]
    · go_wp2
      go_round
      case rel => exact .inr (.inr (.inl ⟨rfl, by go_num⟩))
      case measure => simp [intOf]
    · go_wp2
      go_round
      case rel => exact .inr (.inr (.inr ⟨rfl, by go_num⟩))
      case measure => simp [intOf]
    · go_wp2_with fail
      refine hgr.mono ?_
      rintro e w1 ⟨v1, rfl, o1, hb1⟩
      have OW : Hid (CRelD w.heap.size a b c w w1 v1 (.int .i64 0)) := Lib.hid ⟨hb1, [], (by obtain ⟨A1, c1, rfl⟩ := own_form o1; exact ⟨A1, c1, rfl, o1⟩), .inl ⟨rfl, rfl⟩⟩
      clear o1 hb1 hgr
      go_wp2
      go_loopw [6, 27] (fun v i wr => CRelD w.heap.size a b c w wr v i) (fun _ i _ => 4 - (intOf i).toNat)
      case atStart => exact OW.out
      case round =>
        clear OW
        obtain ⟨hbw, s, ⟨A', c', rfl, hown⟩, hcase⟩ := hrel
        have HO := Lib.hid hown
        have hsz := hbw.size
        have g0 := ((bcell hbw).1 g 0 hg).trans h0
        have g1 := ((bcell hbw).1 g 1 hg).trans h1
        have g2 := ((bcell hbw).1 g 2 hg).trans h2
        clear hown
        rcases hcase with ⟨rfl, hs⟩ | ⟨rfl, hs⟩ | ⟨rfl, hs⟩ | ⟨rfl, hs⟩
        · subst hs
          go_wp2_with (at_builtin; refine wpList_append_any _ rfl _ _ _ rfl w.heap.size 40 i0 _ 4 32 Try.underlying23 hi hz0 hz1 hz2 rfl (by omega) _ 0 _ rfl HO.out wr.heap.size A a.length ca (a.flatMap encC) rfl (Cons.reads (ha.below hbw)) (one_cons _) (by simp only [maxLen]; omega) (by omega) hsz ?_; intro v5 w5 hown5 hg5 _)
          have hb5 : Below w.heap.size w w5 := hbw.grown hg5 hsz (fun g hg => (HO.out.lt g hg).1)
          have O5 : Hid (CRelD w.heap.size a b c w w5 v5 (.int .i64 1)) := Lib.hid ⟨hb5, a, (by obtain ⟨A5, c5, rfl⟩ := own_form hown5; exact ⟨A5, c5, by simp, by simpa using hown5⟩), .inr (.inl ⟨rfl, rfl⟩)⟩
          clear hown5 hg5
          go_wp2
          go_roundw
          case rel => exact O5.out
          case measure => simp [intOf]
        · subst hs
          go_wp2_with (at_builtin; refine wpList_append_any _ rfl _ _ _ rfl w.heap.size 40 i0 _ 4 32 Try.underlying23 hi hz0 hz1 hz2 rfl (by omega) _ s.length _ rfl HO.out wr.heap.size B b.length cb (b.flatMap encC) rfl (Cons.reads (hb.below hbw)) (one_cons _) (by simp only [maxLen]; omega) (by omega) hsz ?_; intro v5 w5 hown5 hg5 _)
          have hb5 : Below w.heap.size w w5 := hbw.grown hg5 hsz (fun g hg => (HO.out.lt g hg).1)
          have O5 : Hid (CRelD w.heap.size s b c w w5 v5 (.int .i64 2)) := Lib.hid ⟨hb5, s ++ b, (by obtain ⟨A5, c5, rfl⟩ := own_form hown5; exact ⟨A5, c5, by simp, by simpa using hown5⟩), .inr (.inr (.inl ⟨rfl, rfl⟩))⟩
          clear hown5 hg5
          go_wp2
          go_roundw
          case rel => exact O5.out
          case measure => simp [intOf]
        · have hsl : s.length ≤ 80000 := by rw [hs, List.length_append]; omega
          have HS := Lib.hid hs
          clear hs
          go_wp2_with (at_builtin; refine wpList_append_any _ rfl _ _ _ rfl w.heap.size 40 i0 _ 4 32 Try.underlying23 hi hz0 hz1 hz2 rfl (by omega) _ s.length _ rfl HO.out wr.heap.size C c.length cc (c.flatMap encC) rfl (Cons.reads (hc.below hbw)) (one_cons _) (by simp only [maxLen]; omega) (by omega) hsz ?_; intro v5 w5 hown5 hg5 _)
          have hb5 : Below w.heap.size w w5 := hbw.grown hg5 hsz (fun g hg => (HO.out.lt g hg).1)
          have O5 : Hid (CRelD w.heap.size a b c w w5 v5 (.int .i64 3)) := Lib.hid ⟨hb5, s ++ c, (by obtain ⟨A5, c5, rfl⟩ := own_form hown5; exact ⟨A5, c5, by simp, by simpa using hown5⟩), .inr (.inr (.inr ⟨rfl, by rw [HS.out]⟩))⟩
          clear hown5 hg5
          go_wp2
          go_roundw
          case rel => exact O5.out
          case measure => simp [intOf]
        · have HR : Hid (RetCons (a ++ b ++ c) w (.returned (.slice A' s.length c')) wr) := Lib.hid (by rw [← hs]; exact OwnC.ret ⟨A', c', rfl, HO.out⟩ hbw)
          clear hs
          go_wp2
          go_ret
          exact HR.out
end Go.Proofs.Ythbagggcfdgnfaa
