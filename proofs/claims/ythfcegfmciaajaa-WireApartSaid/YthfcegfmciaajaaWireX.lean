/- PutInts; awake. -/
import Derived.Test.YthfcegfmciaajaaWireV
namespace Go.Proofs.Ythfcegfmciaajaa
open Go.RowKit

set_option maxHeartbeats 1000000 in
theorem puts_any (l : List UInt8) (A : Option Addr) (cap : Nat) (L : List Int) (B : Option Addr) (cb : Nat) (hL : Fit L) (hLl : L.length ≤ 1000) (w : World) (hv : Bytes w A l) (hB : Ints w B L) (hl : l.length ≤ 80000) :
    Calls Try.prog 16 #[.slice A l.length cap, .slice B L.length cb] w (RetOwn w.heap.size (l ++ encI L.length ++ encs L) w) := by
  go_enter Try.func16, Try.ntmps16
  go_wp2_with fail
  refine (clone_any l A cap w hv (by omega)).mono ?_
  rintro e w1 ⟨A1, c1, rfl, hown1, hB1⟩
  have hs := hB1.size
  have hLs := list_any w.heap.size l A1 c1 L B cb hL hLl w1 hown1 (Reads.below hB hB1) hs hl
  generalize l ++ encI L.length ++ encs L = r at *
  go_wp2_with fail
  refine hLs.mono ?_
  rintro e w2 ⟨A2, c2, rfl, hown2, hB2⟩
  have HO := Lib.hid hown2
  clear hown1 hown2 hLs
  go_wp2
  go_ret
  exact ⟨A2, c2, rfl, HO.out, hB1.trans hB2⟩
/-- The call returns bytes that read as l. -/
def RetB (l : List UInt8) (w : World) (e : Ending) (w' : World) : Prop := ∃ A cap, e = .returned (.slice A l.length cap) ∧ Bytes w' A l ∧ Below w.heap.size w w'
theorem RetOwn.bytes {l : List UInt8} {w : World} {e : Ending} {w' : World} (h : RetOwn w.heap.size l w e w') : RetB l w e w' := by
  obtain ⟨A, cap, rfl, ho, hb⟩ := h
  exact ⟨A, cap, rfl, Bytes.of_own rfl ho, hb⟩
theorem int_is {l : List UInt8} {at_ N T E : Int} (h : intN l at_ = N ∧ intTo l at_ = T ∧ intE l at_ = E) (A : Option Addr) (cap : Nat) (hat : Fits at_) (w : World) (hv : Bytes w A l) (hl : l.length ≤ 100000) :
    Calls Try.prog 18 #[.slice A l.length cap, .int .i64 at_] w (Ret (.tuple #[.int .i64 N, .int .i64 T, .int .i64 E]) w) := by
  have := int_any l A cap at_ hat w hv hl
  rw [h.1, h.2.1, h.2.2] at this
  exact this
theorem text_is {l : List UInt8} {at_ T E : Int} {S : List UInt8} (h : textS l at_ = S ∧ textTo l at_ = T ∧ textE l at_ = E) (A : Option Addr) (cap : Nat) (hcap : l.length ≤ cap) (hat : Fits at_) (w : World) (hv : Bytes w A l) (hl : l.length ≤ 100000) :
    Calls Try.prog 20 #[.slice A l.length cap, .int .i64 at_] w (Ret (.tuple #[.string ⟨S.toArray⟩, .int .i64 T, .int .i64 E]) w) := by
  have := text_any l A cap hcap at_ hat w hv hl
  rw [h.1, h.2.1, h.2.2] at this
  exact this
theorem put_is {l r : List UInt8} {n : Int} (h : l ++ encI n = r) (A : Option Addr) (cap : Nat) (hn : Fits n) (w : World) (hv : Bytes w A l) (hl : l.length ≤ 100000) :
    Calls Try.prog 12 #[.slice A l.length cap, .int .i64 n] w (RetB r w) := (h ▸ put_any l A cap n hn w hv hl).mono fun _ _ => RetOwn.bytes
theorem puts_is {l r : List UInt8} {L : List Int} (h : l ++ encI L.length ++ encs L = r) (A : Option Addr) (cap : Nat) (B : Option Addr) (cb : Nat) (hL : Fit L) (hLl : L.length ≤ 1000) (w : World) (hv : Bytes w A l) (hB : Ints w B L) (hl : l.length ≤ 80000) :
    Calls Try.prog 16 #[.slice A l.length cap, .slice B L.length cb] w (RetB r w) := (h ▸ puts_any l A cap L B cb hL hLl w hv hB hl).mono fun _ _ => RetOwn.bytes
theorem x1 : intN [128, 0] 0 = 0 ∧ intTo [128, 0] 0 = 0 ∧ intE [128, 0] 0 = 3 := by decide +kernel
theorem x2 : intN [128] 0 = 0 ∧ intTo [128] 0 = 0 ∧ intE [128] 0 = 4 := by decide +kernel
theorem x3 : intN [7, 128, 1] 1 = 64 ∧ intTo [7, 128, 1] 1 = 3 ∧ intE [7, 128, 1] 1 = 0 := by decide +kernel
theorem x4 : textS [4, 97, 98] 0 = [97, 98] ∧ textTo [4, 97, 98] 0 = 3 ∧ textE [4, 97, 98] 0 = 0 := by decide +kernel
theorem x5 : [] ++ encI (-1) = [1] := by decide +kernel
theorem x6 : [9] ++ encI 64 = [9, 128, 1] := by decide +kernel
theorem x7 : [] ++ encI ([1, -1] : List Int).length ++ encs [1, -1] = [4, 2, 1] := by decide +kernel
end Go.Proofs.Ythfcegfmciaajaa
