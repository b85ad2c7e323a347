/- Ints. -/
import Derived.Test.YthfcegfmciaajaaWireZ
namespace Go.Proofs.Ythfcegfmciaajaa
open Go.RowKit

theorem int_up {l : List UInt8} {at_ : Int} (h : intE l at_ = 0) : at_ + 1 ≤ intTo l at_ := by
  unfold intTo
  rw [if_pos h]
  omega
/-- Reading n numbers: the error, the numbers, the end. -/
def insE (l : List UInt8) : Nat → Int → Int
  | 0, _ => 0
  | n + 1, t => if intE l t = 0 then insE l n (intTo l t) else intE l t
def insL (l : List UInt8) : Nat → Int → List Int
  | 0, _ => []
  | n + 1, t => intN l t :: insL l n (intTo l t)
def insT (l : List UInt8) : Nat → Int → Int
  | 0, t => t
  | n + 1, t => insT l n (intTo l t)
def insE' (l : List UInt8) (at_ : Int) : Int := if lenE l at_ = 0 then insE l (lenN l at_).toNat (lenTo l at_) else lenE l at_
def insL' (l : List UInt8) (at_ : Int) : List Int := if insE' l at_ = 0 then insL l (lenN l at_).toNat (lenTo l at_) else []
def insT' (l : List UInt8) (at_ : Int) : Int := if insE' l at_ = 0 then insT l (lenN l at_).toNat (lenTo l at_) else 0
theorem ins_bad {l : List UInt8} {at_ e : Int} (h : insE' l at_ = e) (he : e ≠ 0) : insE' l at_ = e ∧ insL' l at_ = [] ∧ insT' l at_ = 0 :=
  ⟨h, by unfold insL'; rw [if_neg (by rw [h]; exact he)], by unfold insT'; rw [if_neg (by rw [h]; exact he)]⟩
/-- The call returns numbers, an end and no error; or none, and an error. -/
def RetIns (l : List UInt8) (at_ : Int) (w : World) (e : Ending) (w' : World) : Prop :=
  ∃ A cap, e = .returned (.tuple #[.slice A (insL' l at_).length cap, .int .i64 (insT' l at_), .int .i64 (insE' l at_)]) ∧ Ints w' A (insL' l at_) ∧ Below w.heap.size w w'
theorem info_int : (Try.prog.info? 3).map (fun i => (i.zero, i.size, i.bytes)) = some (some (.int .i64 0), 1, 8) := by kernel_rfl

set_option maxRecDepth 20000 in
set_option maxHeartbeats 1000000 in
theorem rins_any (l : List UInt8) (A : Option Addr) (cap : Nat) (at_ : Int) (hat : Fits at_) (w : World) (hv : Bytes w A l) (hl : l.length ≤ 100000) :
    Calls Try.prog 23 #[.slice A l.length cap, .int .i64 at_] w (RetIns l at_ w) := by
  obtain ⟨i0, hi0, hz0, hz1, hz2⟩ := info_parts info_int
  have hL := rlength_any l A cap at_ hat w hv hl
  by_cases h : lenE l at_ = 0
  · obtain ⟨b1, b2, b3, b4, b5⟩ := len_bd h
    rw [h] at hL
    obtain ⟨N, hN⟩ : ∃ N : Nat, lenN l at_ = N := ⟨(lenN l at_).toNat, by omega⟩
    have HE : Hid (insE' l at_ = insE l N (lenTo l at_)) := Lib.hid (by unfold insE'; rw [if_pos h, hN]; rfl)
    have HI : Hid (insE' l at_ = 0 → insL' l at_ = insL l N (lenTo l at_) ∧ insT' l at_ = insT l N (lenTo l at_)) := Lib.hid (fun h0 => ⟨by unfold insL'; rw [if_pos h0, hN]; rfl, by unfold insT'; rw [if_pos h0, hN]; rfl⟩)
    rw [hN] at b3 b4 b5 hL
    generalize lenTo l at_ = T0 at *
    clear h hN
    go_enter Try.func23, Try.ntmps23
    go_wp2_with fail
    refine hL.mono ?_
    rintro e w1 ⟨rfl, h1⟩
    clear hL
    go_wp2
    go_loopw [8, 10, 11, 12, 13, 14] (fun t o i _ _ _ wr => ∃ (k : Nat) (acc : List Int) (T : Int) (Ar : Option Addr) (cr : Nat), k ≤ N ∧ acc.length = k ∧ (k : Int) ≤ T ∧ T ≤ l.length ∧ i = .int .i64 (k : Int) ∧ t = .int .i64 T ∧ o = .slice Ar k cr ∧ wr.ownsRow w.heap.size 3 1 (.slice Ar k cr) k (acc.map (Value.int .i64)) ∧
      Hid (insE l N T0 = insE l (N - k) T) ∧ Hid (insL l N T0 = acc ++ insL l (N - k) T) ∧ Hid (insT l N T0 = insT l (N - k) T) ∧ Below w.heap.size w wr) (fun _ _ i _ _ _ _ => N + 1 - (intOf i).toNat)
    case atStart => exact ⟨0, [], T0, none, 0, by omega, rfl, by omega, b2, rfl, rfl, rfl, World.ownsRow_nil _ _ _ _, Lib.hid rfl, Lib.hid rfl, Lib.hid rfl, h1⟩
    case round =>
      obtain ⟨k, acc, T, Ar, cr, hk, hacc, hkT, hTl, rfl, rfl, rfl, hown, HE2, HL2, HT2, hbw⟩ := hrel
      have Hown := Lib.hid hown
      have Hacc := Lib.hid hacc
      clear hown hacc
      have hsz := hbw.size
      by_cases hlt : k < N
      · have hlt' : (k : Int) < N := by omega
        have hI := rint_any l A cap T ⟨by omega, by omega⟩ wr (hv.below hbw) hl
        have hNk : N - k = (N - (k + 1)) + 1 := by omega
        by_cases hz : intE l T = 0
        · obtain ⟨c1, c2, c3, c4⟩ := int_bd hz
          have hup := int_up hz
          have HEn : Hid (insE l N T0 = insE l (N - (k + 1)) (intTo l T)) := Lib.hid (by rw [HE2.out, hNk, insE, if_pos hz])
          have HLn : Hid (insL l N T0 = (acc ++ [intN l T]) ++ insL l (N - (k + 1)) (intTo l T)) := Lib.hid (by rw [HL2.out, hNk, insL]; simp)
          have HTn : Hid (insT l N T0 = insT l (N - (k + 1)) (intTo l T)) := Lib.hid (by rw [HT2.out, hNk, insT])
          rw [hz] at hI
          clear hz hNk
          generalize intN l T = z at *
          generalize intTo l T = T2 at *
          go_wp2_with fail
          refine hI.mono ?_
          rintro e w3 ⟨rfl, h3⟩
          clear hI
          have Hown3 := Lib.hid (own_below Hown.out h3)
          have hb3 := Below.step hbw h3
          go_wp2_with (at_builtin; refine wpList_append_own _ rfl _ _ 23 rfl w.heap.size 3 i0 (.int .i64 0) 1 8 Try.underlying23 hi0 hz0 hz1 hz2 rfl (by decide) _ _ _ rfl (Hown3.out.alloc _) ⟨w3.heap.size, 0, none⟩ 1 1 [.int .i64 z] rfl rfl (cell_one_new _ _ _) (fun x hx => by simp at hx; subst hx; rfl) (by unfold maxLen; omega) (by omega) (by have := hb3.size; simp; omega) ?_; intro v' w4 hown4 hgrow4 hat4)
          have hb4 : Below w.heap.size w w4 := (hb3.alloc hb3.size _).grown hgrow4 (by have := hb3.size; simp; omega) (fun g hg => (Hown3.out.lt g hg).1)
          obtain ⟨A4, c4', rfl⟩ := own_form hown4
          have Hown4 : Hid (w4.ownsRow w.heap.size 3 1 (.slice A4 (k + 1) c4') (k + 1) ((acc ++ [z]).map (Value.int .i64))) := Lib.hid (by rw [List.map_append]; exact hown4)
          clear hown4 hgrow4 hat4
          go_wp2
          go_roundw
          case rel => exact ⟨k + 1, acc ++ [z], T2, A4, c4', by omega, by simp [Hacc.out], by omega, by omega, by go_num, rfl, rfl, Hown4.out, HEn, HLn, HTn, hb4⟩
          case measure => simp [intOf]; omega
        · have HR := Lib.hid (ins_bad (l := l) (at_ := at_) (e := intE l T) (by rw [HE.out, HE2.out, hNk, insE, if_neg hz]) hz)
          have he : (intE l T == 0) = false := by simp; exact hz
          clear hz hNk
          generalize intN l T = z at *
          generalize intTo l T = T2 at *
          generalize intE l T = E at *
          go_wp2_with fail
          refine hI.mono ?_
          rintro e w3 ⟨rfl, h3⟩
          clear hI
          go_wp2
          go_ret3
          exact ⟨none, 0, by rw [HR.out.1, HR.out.2.1, HR.out.2.2]; rfl, by rw [HR.out.2.1]; exact Ints.nil_ _ _, Below.step hbw h3⟩
      · obtain rfl : k = N := by omega
        have hE0 : insE' l at_ = 0 := by rw [HE.out, HE2.out, Nat.sub_self, insE]
        have HR : Hid (insE' l at_ = 0 ∧ insL' l at_ = acc ∧ insT' l at_ = T) := Lib.hid ⟨hE0, by rw [(HI.out hE0).1, HL2.out, Nat.sub_self, insL, List.append_nil], by rw [(HI.out hE0).2, HT2.out, Nat.sub_self, insT]⟩
        clear hE0
        go_wp2
        go_ret3
        refine ⟨Ar, cr, by rw [HR.out.1, HR.out.2.1, HR.out.2.2, Hacc.out]; rfl, ?_, hbw⟩
        rw [HR.out.2.1]
        have := Hown.out
        rw [← Hacc.out] at this
        exact Ints.of_own this
  · have HR := Lib.hid (ins_bad (l := l) (at_ := at_) (e := lenE l at_) (by unfold insE'; rw [if_neg h]) h)
    have he : (lenE l at_ == 0) = false := by simp; exact h
    generalize lenN l at_ = N at *
    generalize lenTo l at_ = T at *
    generalize lenE l at_ = E at *
    clear h
    go_enter Try.func23, Try.ntmps23
    go_wp2_with fail
    refine hL.mono ?_
    rintro e w1 ⟨rfl, h1⟩
    clear hL
    go_wp2
    go_ret3
    exact ⟨none, 0, by rw [HR.out.1, HR.out.2.1, HR.out.2.2]; rfl, by rw [HR.out.2.1]; exact Ints.nil_ _ _, h1⟩
end Go.Proofs.Ythfcegfmciaajaa
