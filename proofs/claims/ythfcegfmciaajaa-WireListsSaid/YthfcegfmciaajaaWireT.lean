/- PutInt; the length of a list. -/
import Derived.Test.YthfcegfmciaajaaWireQ
namespace Go.Proofs.Ythfcegfmciaajaa
open Go.RowKit

set_option maxHeartbeats 1000000 in
theorem put_any (l : List UInt8) (A : Option Addr) (cap : Nat) (n : Int) (hn : Fits n) (w : World) (hv : Bytes w A l) (hl : l.length ≤ 100000) :
    Calls Try.prog 12 #[.slice A l.length cap, .int .i64 n] w (RetOwn w.heap.size (l ++ encI n) w) := by
  go_enter Try.func12, Try.ntmps12
  go_wp2_with fail
  refine (clone_any l A cap w hv hl).mono ?_
  rintro e w1 ⟨A1, c1, rfl, hown1, hB1⟩
  have hs := hB1.size
  go_wp2_with fail
  refine (appint_any w.heap.size l A1 c1 n hn w1 hown1 hs hl).mono ?_
  rintro e w2 ⟨A2, c2, rfl, hown2, hB2⟩
  generalize l ++ encI n = r at *
  have HO := Lib.hid hown2
  clear hown1 hown2
  go_wp2
  go_ret
  exact ⟨A2, c2, rfl, HO.out, hB1.trans hB2⟩

/-- The length of a list. -/
def lenE (l : List UInt8) (at_ : Int) : Int := if intE l at_ = 0 then (if intN l at_ < 0 then 3 else 0) else intE l at_
def lenN (l : List UInt8) (at_ : Int) : Int := if lenE l at_ = 0 then intN l at_ else 0
def lenTo (l : List UInt8) (at_ : Int) : Int := if lenE l at_ = 0 then intTo l at_ else 0
theorem len_bad {l : List UInt8} {at_ e : Int} (h : intE l at_ = e) (he : e ≠ 0) : lenE l at_ = e ∧ lenN l at_ = 0 ∧ lenTo l at_ = 0 := by
  have h1 : lenE l at_ = e := by unfold lenE; rw [if_neg (by rw [h]; exact he), h]
  exact ⟨h1, by unfold lenN; rw [if_neg (by rw [h1]; exact he)], by unfold lenTo; rw [if_neg (by rw [h1]; exact he)]⟩
theorem len_neg {l : List UInt8} {at_ : Int} (h : intE l at_ = 0) (hn : intN l at_ < 0) : lenE l at_ = 3 ∧ lenN l at_ = 0 ∧ lenTo l at_ = 0 := by
  have h1 : lenE l at_ = 3 := by unfold lenE; rw [if_pos h, if_pos hn]
  exact ⟨h1, by unfold lenN; rw [if_neg (by rw [h1]; decide)], by unfold lenTo; rw [if_neg (by rw [h1]; decide)]⟩
theorem len_ok {l : List UInt8} {at_ : Int} (h : intE l at_ = 0) (hn : ¬ intN l at_ < 0) : lenE l at_ = 0 ∧ lenN l at_ = intN l at_ ∧ lenTo l at_ = intTo l at_ := by
  have h1 : lenE l at_ = 0 := by unfold lenE; rw [if_pos h, if_neg hn]
  exact ⟨h1, by unfold lenN; rw [if_pos h1], by unfold lenTo; rw [if_pos h1]⟩

set_option maxHeartbeats 1000000 in
theorem length_any (l : List UInt8) (A : Option Addr) (cap : Nat) (at_ : Int) (hat : Fits at_) (w : World) (hv : Bytes w A l) (hl : l.length ≤ 100000) :
    Calls Try.prog 31 #[.slice A l.length cap, .int .i64 at_] w (Ret (.tuple #[.int .i64 (lenN l at_), .int .i64 (lenTo l at_), .int .i64 (lenE l at_)]) w) := by
  by_cases h : intE l at_ = 0
  · by_cases hn : intN l at_ < 0
    · have HR := Lib.hid (len_neg h hn)
      have hI := int_any l A cap at_ hat w hv hl
      rw [h] at hI
      generalize intN l at_ = N at *
      generalize intTo l at_ = T at *
      clear h
      go_enter Try.func31, Try.ntmps31
      go_wp2_with fail
      refine hI.mono ?_
      rintro e w1 ⟨rfl, h1⟩
      clear hI
      go_wp2
      go_ret3
      exact Ret.mk (by rw [HR.out.1, HR.out.2.1, HR.out.2.2]; rfl) h1
    · have HR := Lib.hid (len_ok h hn)
      have hI := int_any l A cap at_ hat w hv hl
      rw [h] at hI
      generalize intN l at_ = N at *
      generalize intTo l at_ = T at *
      clear h
      go_enter Try.func31, Try.ntmps31
      go_wp2_with fail
      refine hI.mono ?_
      rintro e w1 ⟨rfl, h1⟩
      clear hI
      go_wp2
      go_ret3
      exact Ret.mk (by rw [HR.out.1, HR.out.2.1, HR.out.2.2]; rfl) h1
  · have HR := Lib.hid (len_bad (l := l) (at_ := at_) rfl h)
    have hI := int_any l A cap at_ hat w hv hl
    have he : (intE l at_ == 0) = false := by simp; exact h
    generalize intN l at_ = N at *
    generalize intTo l at_ = T at *
    generalize intE l at_ = E at *
    clear h
    go_enter Try.func31, Try.ntmps31
    go_wp2_with fail
    refine hI.mono ?_
    rintro e w1 ⟨rfl, h1⟩
    clear hI
    go_wp2
    go_ret3
    exact Ret.mk (by rw [HR.out.1, HR.out.2.1, HR.out.2.2]; rfl) h1
end Go.Proofs.Ythfcegfmciaajaa
