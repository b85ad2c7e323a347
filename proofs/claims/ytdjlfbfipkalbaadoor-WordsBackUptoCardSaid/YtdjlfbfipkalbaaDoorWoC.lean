/- Quote of the code. -/
import Derived.Test.YtdjlfbfipkalbaaDoorWoB
import Derived.Test.YtdjlfbfipkalbaaDoorWoS
namespace Go.Proofs.YtdjlfbfipkalbaaDoor
open Go.RowKit

theorem Bld.below {B b : Nat} {l : List UInt8} {w w' : World} (h : Bld B b l w) (hk : Below w.heap.size w w') : Bld B b l w' := by
  have key : ∀ p, Lib.BuilderAt 39 5 B b p (Lib.byteCells l) w → Lib.BuilderAt 39 5 B b p (Lib.byteCells l) w' := by
    intro p hp
    have hlt := hp.lt
    obtain ⟨h1, v, h2, h3, h4⟩ := hp
    exact ⟨h1, v, (hk.block b hlt).trans h2, own_below h3 hk, h4⟩
  rcases h with h | h
  · exact .inl (key _ h)
  · exact .inr (key _ h)
theorem Bld.new (w : World) : Bld w.heap.size w.heap.size [] (w.alloc (.cells #[.pointer none, .slice none 0 0] 39)) :=
  .inl ⟨Nat.le_refl _, .slice none 0 0, heap_alloc_new w _, World.ownsRow_nil _ _ _ _, by simp [Value.ownBlock]⟩
theorem bld_string (B b : Nat) (l : List UInt8) (w : World) (h : Bld B b l w) (hB : B ≤ w.heap.size) :
    Calls Tryd.prog 31 #[.pointer (some ⟨b, 0, none⟩)] w fun e w' => e = .returned (.string ⟨l.toArray⟩) ∧ Below B w w' := Tryd.Builder_String_any B b l w h hB
theorem put_lit (B b : Nat) (l : List UInt8) (c : UInt8) (z : Int) (hz : z = (c.toNat : Int)) (w : World) (h : Bld B b l w) (hl : l.length + 1 ≤ 140737488355328) (hB : B ≤ w.heap.size) :
    Calls Tryd.prog 30 #[.pointer (some ⟨b, 0, none⟩), .int .u8 z] w fun e w' => e = .returned .nilIface ∧ Bld B b (l ++ [c]) w' ∧ Below B w w' := by
  subst hz; exact put_byte B b l c w h hl hB

set_option maxRecDepth 20000 in
set_option maxHeartbeats 2000000 in
theorem quote_any (s : List UInt8) (hl : s.length ≤ 4000000) (w : World) : Calls Tryd.prog 13 #[.string ⟨s.toArray⟩] w (Ret (.string ⟨(quote s).toArray⟩) w) := by
  by_cases h0 : s = []
  · subst h0
    go_enter Tryd.func13, Tryd.ntmps13
    go_wp2
    go_ret
    exact Ret.mk rfl (Below.refl _ _)
  have HR : Hid (quote s = qs (s.take s.length)) := Lib.hid (by unfold quote; rw [if_neg h0, List.take_length])
  generalize quote s = R at *
  have he : s.isEmpty = false := by simpa using h0
  clear h0
  go_enter Tryd.func13, Tryd.ntmps13
  go_wp2
  go_loopw [10] (fun i wr => ∃ k : Nat, k ≤ s.length ∧ i = .int .i64 (k : Int) ∧ Bld w.heap.size w.heap.size (qs (s.take k)) wr ∧ Below w.heap.size w wr) (fun i _ => s.length + 1 - (intOf i).toNat)
  case atStart => exact ⟨0, by omega, rfl, Bld.new w, (Below.refl _ _).alloc (Nat.le_refl _) _⟩
  case round =>
    obtain ⟨k, hk, rfl, HO, hbw⟩ := hrel
    replace HO := Lib.hid HO
    have hb0 := hbw.size
    by_cases hlt : k < s.length
    · have hget : (({ data := s.toArray } : ByteArray)[k]'(show k < s.toArray.size by simpa using hlt)) = s[k] := rfl
      have HT := Lib.hid (take_qs hlt)
      have hlen := take_qs_len s k
      generalize s[k] = c at *
      generalize qs (s.take k) = acc at *
      go_wp2_with fail
      refine (isPlain_any c _).mono ?_
      rintro e w1 ⟨rfl, h1⟩
      have hb1 := Below.step hbw h1
      have HO1 := Lib.hid (HO.out.below h1)
      have hs1 := h1.size
      clear h1
      cases hp : plainB c with
      | true =>
        have HQ := Lib.hid (q1_plain hp)
        clear hp
        go_wp2_with fail
        refine (put_byte _ _ acc c _ HO1.out (by omega) (by omega)).mono ?_
        rintro e w2 ⟨rfl, O2, h2⟩
        replace O2 := Lib.hid O2
        have hb2 := hb1.trans h2
        clear h2
        go_wp2
        go_roundw
        case rel => exact ⟨k + 1, by omega, by go_num, by rw [HT.out, HQ.out]; exact O2.out, hb2⟩
        case measure => simp [intOf]; omega
      | false =>
        have HQ := Lib.hid (q1_not hp)
        have hc8 := c.toNat_lt
        have x1 := hex_idx (c.toNat / 16) (by omega)
        have x2 := hex_idx (c.toNat % 16) (by omega)
        clear hp
        go_wp2_with fail
        refine (put_lit _ _ acc 37 _ rfl _ HO1.out (by omega) (by omega)).mono ?_
        rintro e w2 ⟨rfl, O2, h2⟩
        replace O2 := Lib.hid O2
        have hb2 := hb1.trans h2
        clear h2
        go_wp2_with fail
        refine (put_byte _ _ (acc ++ [37]) (hx (c.toNat / 16)) _ O2.out (by simp; omega) hb2.size).mono ?_
        rintro e w3 ⟨rfl, O3, h3⟩
        replace O3 := Lib.hid O3
        have hb3 := hb2.trans h3
        clear h3
        go_wp2_with fail
        refine (put_byte _ _ (acc ++ [37] ++ [hx (c.toNat / 16)]) (hx (c.toNat % 16)) _ O3.out (by simp; omega) hb3.size).mono ?_
        rintro e w4 ⟨rfl, O4, h4⟩
        replace O4 := Lib.hid O4
        have hb4 := hb3.trans h4
        clear h4
        go_wp2
        go_roundw
        case rel => exact ⟨k + 1, by omega, by go_num, by rw [HT.out, HQ.out]; have := O4.out; simpa using this, hb4⟩
        case measure => simp [intOf]; omega
    · obtain rfl : k = s.length := by omega
      generalize qs (s.take s.length) = acc at *
      go_wp2_with fail
      refine (bld_string _ _ acc _ HO.out (by omega)).mono ?_
      rintro e w2 ⟨rfl, h2⟩
      have hb2 := hbw.trans h2
      go_wp2
      go_ret
      exact Ret.mk (by rw [HR.out]; rfl) hb2
end Go.Proofs.YtdjlfbfipkalbaaDoor
