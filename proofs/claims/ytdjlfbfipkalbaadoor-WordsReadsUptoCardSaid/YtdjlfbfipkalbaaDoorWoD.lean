/- decoded and Unquote of the code. -/
import Derived.Test.YtdjlfbfipkalbaaDoorWoC
import Derived.Laws.Bits
namespace Go.Proofs.YtdjlfbfipkalbaaDoor
open Go.RowKit

/-- A digit's value as the code reckons it. -/
def dB (c : UInt8) : Nat := (ix c % 256).toNat
theorem dB_lt (c : UInt8) : dB c < 256 := by unfold dB; omega
theorem dB_hx (n : Nat) (h : n < 16) : dB (hx n) = n := by unfold dB; rw [ix_hx n h]; omega
theorem digit_any (c : UInt8) (w : World) : Calls Tryd.prog 41 #[.int .u8 (c.toNat : Int)] w (Ret (.int .u8 (dB c : Int)) w) := by
  have k := Tryd.strings_IndexByte ⟨#[48, 49, 50, 51, 52, 53, 54, 55, 56, 57, 97, 98, 99, 100, 101, 102]⟩ (c.toNat : Int) w
  have e : Lib.indexByte (ByteArray.mk #[48, 49, 50, 51, 52, 53, 54, 55, 56, 57, 97, 98, 99, 100, 101, 102]).data.toList (c.toNat : Int).toNat.toUInt8 = ix c := by
    rw [Int.toNat_natCast, show c.toNat.toUInt8 = c by simp]; rfl
  rw [e] at k
  have HV : Hid (IntKind.u8.wrap (ix c) = (dB c : Int)) := Lib.hid (by rw [IntKind.wrap_u8]; unfold dB; omega)
  have hr := ix_range c
  generalize dB c = d at *
  generalize ix c = z at *
  go_enter Tryd.func41, Tryd.ntmps41
  go_wp2_with fail
  refine k.mono ?_
  rintro e w1 ⟨rfl, rfl⟩
  go_wp2
  go_ret
  exact Ret.mk (by rw [← HV.out, IntKind.wrap_u8]; rfl) (Below.refl _ _)

/-- How far a word has been decoded. -/
def DecOK (wd acc : List UInt8) (i : Nat) : Prop := ∀ s, wd = qs s → ∃ s2, s = acc ++ s2 ∧ wd.drop i = qs s2
theorem dec_start (wd : List UInt8) : DecOK wd [] 0 := fun s h => ⟨s, rfl, by simpa using h⟩
theorem drop_at {wd : List UInt8} {i : Nat} (h : i < wd.length) : wd.drop i = wd[i] :: wd.drop (i + 1) := List.drop_eq_getElem_cons h
theorem dec_plain {wd acc : List UInt8} {i : Nat} (h : DecOK wd acc i) (hi : i < wd.length) (hc : wd[i] ≠ 37) : DecOK wd (acc ++ [wd[i]]) (i + 1) := fun s hs => by
  obtain ⟨s2, e1, e2⟩ := h s hs
  rw [drop_at hi] at e2
  cases s2 with
  | nil => cases e2
  | cons x t =>
    rw [qs_cons] at e2
    cases hp : plainB x with
    | true =>
      rw [q1_plain hp] at e2
      injection e2 with a b
      exact ⟨t, by rw [e1, a]; simp, b⟩
    | false =>
      rw [q1_not hp] at e2
      injection e2 with a b
      exact absurd a hc
theorem dec_esc {wd acc : List UInt8} {i : Nat} (h : DecOK wd acc i) (hi : i + 2 < wd.length) (hc : wd[i] = 37) (b : UInt8) (hb : ∀ x : UInt8, wd[i + 1] = hx (x.toNat / 16) → wd[i + 2] = hx (x.toNat % 16) → b = x) : DecOK wd (acc ++ [b]) (i + 3) := fun s hs => by
  obtain ⟨s2, e1, e2⟩ := h s hs
  rw [drop_at (by omega), drop_at (by omega), drop_at (by omega)] at e2
  cases s2 with
  | nil => cases e2
  | cons x t =>
    rw [qs_cons] at e2
    cases hp : plainB x with
    | true =>
      rw [q1_plain hp] at e2
      injection e2 with a _
      rw [hc] at a
      exact absurd a.symm (plain_ne hp).1
    | false =>
      rw [q1_not hp] at e2
      injection e2 with _ e2
      injection e2 with a e2
      injection e2 with a' e2
      exact ⟨t, by rw [e1, hb x a a']; simp, e2⟩
theorem dec_bad {wd acc : List UInt8} {i : Nat} (h : DecOK wd acc i) (hi : i < wd.length) (h2 : ¬ i + 2 < wd.length) (hc : wd[i] = 37) (b : UInt8) : DecOK wd (acc ++ [b]) (i + 1) := fun s hs => by
  obtain ⟨s2, e1, e2⟩ := h s hs
  have hl := congrArg List.length e2
  rw [List.length_drop] at hl
  rw [drop_at hi] at e2
  cases s2 with
  | nil => cases e2
  | cons x t =>
    rw [qs_cons] at e2 hl
    cases hp : plainB x with
    | true =>
      rw [q1_plain hp] at e2
      injection e2 with a _
      rw [hc] at a
      exact absurd a.symm (plain_ne hp).1
    | false =>
      rw [q1_not hp, List.length_append] at hl
      simp at hl
      omega
theorem dec_end {wd acc : List UInt8} {i : Nat} (h : DecOK wd acc i) (hi : wd.length ≤ i) : ∀ s, wd = qs s → s = acc := fun s hs => by
  obtain ⟨s2, e1, e2⟩ := h s hs
  rw [List.drop_eq_nil_of_le hi] at e2
  cases s2 with
  | nil => simpa using e1
  | cons x t => exact absurd e2.symm (qs_ne (by simp))

theorem or_byte (a b : Nat) (ha : a < 256) (hb : b < 256) : ∃ c : UInt8, bits .or .u8 ((a : Int) * 16 % 256) (b : Int) = (c.toNat : Int) ∧ (a < 16 → b < 16 → c.toNat = 16 * a + b) := by
  have e : ((a : Int) * 16 % 256) = ((a * 16 % 256 : Nat) : Int) := by omega
  have hlt : (a * 16 % 256) ||| b < 256 := Nat.or_lt_two_pow (n := 8) (by omega) (by omega)
  refine ⟨UInt8.ofNat ((a * 16 % 256) ||| b), ?_, fun h1 h2 => ?_⟩
  · rw [e, u8_or_nat _ _ (by omega) hb, UInt8.toNat_ofNat', Nat.mod_eq_of_lt hlt]
  · rw [UInt8.toNat_ofNat', Nat.mod_eq_of_lt hlt, Nat.mod_eq_of_lt (by omega)]
    have := Nat.two_pow_add_eq_or_of_lt (i := 4) (b := b) (show b < 2 ^ 4 by omega) a
    rw [show (2 : Nat) ^ 4 = 16 from rfl] at this
    rw [Nat.mul_comm a 16]
    exact this.symm
theorem u8_ex (z : Int) (h : 0 ≤ z ∧ z < 256) : ∃ b : UInt8, z = (b.toNat : Int) := ⟨UInt8.ofNat z.toNat, by rw [UInt8.toNat_ofNat']; omega⟩

set_option maxRecDepth 20000 in
set_option maxHeartbeats 2000000 in
theorem decoded_any (wd : List UInt8) (hl : wd.length ≤ 4000000) (w : World) : Calls Tryd.prog 33 #[.string ⟨wd.toArray⟩] w fun e w' => ∃ d : List UInt8, d.length ≤ wd.length ∧ (∀ s, wd = qs s → s = d) ∧ Ret (.string ⟨d.toArray⟩) w e w' := by
  go_enter Tryd.func33, Tryd.ntmps33
  go_wp2
  go_loopw [4] (fun i wr => ∃ (k : Nat) (acc : List UInt8), k ≤ wd.length ∧ acc.length ≤ k ∧ i = .int .i64 (k : Int) ∧ Hid (DecOK wd acc k) ∧ Bld w.heap.size w.heap.size acc wr ∧ Below w.heap.size w wr) (fun i _ => wd.length + 1 - (intOf i).toNat)
  case atStart => exact ⟨0, [], by omega, by simp, rfl, Lib.hid (dec_start wd), Bld.new w, (Below.refl _ _).alloc (Nat.le_refl _) _⟩
  case round =>
    obtain ⟨k, acc, hk, hacc, rfl, HD, HO, hbw⟩ := hrel
    replace HO := Lib.hid HO
    have hb0 := hbw.size
    by_cases hlt : k < wd.length
    · have hget : (({ data := wd.toArray } : ByteArray)[k]'(show k < wd.toArray.size by simpa using hlt)) = wd[k] := rfl
      by_cases h37 : wd[k] = 37
      · by_cases h2 : k + 2 < wd.length
        · have hget1 : (({ data := wd.toArray } : ByteArray)[k + 1]'(show k + 1 < wd.toArray.size by simp; omega)) = wd[k + 1] := rfl
          have hget2 : (({ data := wd.toArray } : ByteArray)[k + 2]'(show k + 2 < wd.toArray.size by simpa using h2)) = wd[k + 2] := rfl
          have HE := Lib.hid (fun b hb => dec_esc HD.out h2 h37 b hb)
          rw [h37] at hget
          have h10 : (0 : Int) ≤ (k : Int) + 1 := by omega
          have h20 : (0 : Int) ≤ (k : Int) + 2 := by omega
          have h2' : (k : Int) + 2 < (wd.length : Int) := by omega
          have k1 := fun w' => digit_any wd[k + 1] w'
          have k2 := fun w' => digit_any wd[k + 2] w'
          have d1 := dB_lt wd[k + 1]
          have d2 := dB_lt wd[k + 2]
          obtain ⟨b, hor, hb16⟩ := or_byte _ _ d1 d2
          have HB := Lib.hid (HE.out b (fun x e1 e2 => by
            have hx8 := x.toNat_lt
            rw [e1, e2, dB_hx _ (by omega), dB_hx _ (by omega)] at hb16
            have := hb16 (by omega) (by omega)
            exact UInt8.toNat_inj.1 (by omega)))
          generalize dB wd[k + 1] = D1 at *
          generalize dB wd[k + 2] = D2 at *
          clear h37 HE hb16
          go_wp2_with fail
          refine region_past (by kernel_rfl) (by kernel_rfl) ?_
          repeat (go_big_quiet_step (first | with_reducible exact Calls.past (k1 _) | with_reducible exact Calls.past (k2 _)))
          refine wpQuiet_nil ?_
          rintro w1 ⟨⟨_, hb1⟩, rfl⟩
          have HO1 := Lib.hid (HO.out.below hb1)
          have hbw1 := Below.step hbw hb1
          go_wp2_with fail
          refine (put_byte _ _ acc b _ HO1.out (by omega) hbw1.size).mono ?_
          rintro e w2 ⟨rfl, O2, h2⟩
          replace O2 := Lib.hid O2
          have hb2 := hbw1.trans h2
          clear h2
          go_wp2
          go_roundw
          case rel => exact ⟨k + 3, acc ++ [b], by omega, by simp; omega, by go_num, HB, O2.out, hb2⟩
          case measure => simp [intOf]; omega
        · have HE := Lib.hid (dec_bad HD.out hlt h2 h37 37)
          rw [h37] at hget
          have h2' : ¬ (k : Int) + 2 < (wd.length : Int) := by omega
          clear h37
          go_wp2_with fail
          refine (put_lit _ _ acc 37 _ rfl _ HO.out (by omega) hb0).mono ?_
          rintro e w2 ⟨rfl, O2, h3⟩
          replace O2 := Lib.hid O2
          have hb2 := hbw.trans h3
          clear h3
          go_wp2
          go_roundw
          case rel => exact ⟨k + 1, acc ++ [37], by omega, by simp; omega, by go_num, HE, O2.out, hb2⟩
          case measure => simp [intOf]; omega
      · have HE := Lib.hid (dec_plain HD.out hlt h37)
        have hne : ((wd[k].toNat : Int) == 37) = false := by
          rw [beq_eq_false_iff_ne]; exact fun e => h37 (UInt8.toNat_inj.1 (by show _ = 37; omega))
        generalize wd[k] = c at *
        clear h37
        go_wp2_with fail
        refine (put_byte _ _ acc c _ HO.out (by omega) hb0).mono ?_
        rintro e w2 ⟨rfl, O2, h3⟩
        replace O2 := Lib.hid O2
        have hb2 := hbw.trans h3
        clear h3
        go_wp2
        go_roundw
        case rel => exact ⟨k + 1, acc ++ [c], by omega, by simp; omega, by go_num, HE, O2.out, hb2⟩
        case measure => simp [intOf]; omega
    · obtain rfl : k = wd.length := by omega
      have HE := Lib.hid (dec_end HD.out (Nat.le_refl _))
      go_wp2_with fail
      refine (bld_string _ _ acc _ HO.out hb0).mono ?_
      rintro e w2 ⟨rfl, h2⟩
      have hb2 := hbw.trans h2
      go_wp2
      go_ret
      exact ⟨acc, hacc, HE.out, Ret.mk rfl hb2⟩
end Go.Proofs.YtdjlfbfipkalbaaDoor
