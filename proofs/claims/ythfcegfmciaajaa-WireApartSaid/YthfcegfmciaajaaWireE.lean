/- PutText. -/
import Derived.Test.YthfcegfmciaajaaWireB
namespace Go.Proofs.Ythfcegfmciaajaa
open Go.RowKit

set_option maxRecDepth 20000 in
set_option maxHeartbeats 1000000 in
theorem ptext_any (l : List UInt8) (A : Option Addr) (cap : Nat) (s : List UInt8) (hs : s.length ≤ 1000) (w : World) (hv : Bytes w A l) (hl : l.length ≤ 60000) :
    Calls Try.prog 14 #[.slice A l.length cap, .string ⟨s.toArray⟩] w (RetOwn w.heap.size (l ++ encI s.length ++ s) w) := by
  have kc := fun (w : World) => Lib.run_convert_string_bytes (P := Try.prog) w 9 22 5 ⟨s.toArray⟩ Try.underlying9 Try.underlying22 Try.underlying5
  go_enter Try.func14, Try.ntmps14
  go_wp2_with fail
  refine (clone_any l A cap w hv (by omega)).mono ?_
  rintro e w1 ⟨A1, c1, rfl, hown1, hB1⟩
  have hsz := hB1.size
  have hbw := bytesWorld_below w1 5 ⟨s.toArray⟩
  have hby := bytesWorld_bytes w1 5 s
  have hB2 : Below w.heap.size w (Lib.bytesWorld w1 5 ⟨s.toArray⟩) := hB1.trans (hbw.mono hsz)
  have hss : w1.heap.size ≤ (Lib.bytesWorld w1 5 ⟨s.toArray⟩).heap.size := hbw.size
  have hne : ∀ ad : Addr, (some (⟨w1.heap.size, 0, none⟩ : Addr)) = some ad → some ad.block ≠ (Value.slice A1 l.length c1).ownBlock := by
    intro ad h he
    injection h with h
    subst h
    have := (hown1.lt _ he.symm).2
    exact absurd this (by show ¬ w1.heap.size < w1.heap.size; omega)
  have hL := fun cb => blist_any w.heap.size l A1 c1 s (some ⟨w1.heap.size, 0, none⟩) cb hs (Lib.bytesWorld w1 5 ⟨s.toArray⟩) (own_below hown1 hbw) hby hne (by omega) (by omega)
  clear hne hby hown1
  generalize l ++ encI s.length ++ s = r at *
  go_wp2_with fail
  refine (hL _).mono ?_
  rintro e w2 ⟨A2, c2, rfl, hown3, hB3⟩
  have HO := Lib.hid hown3
  clear hown3 hL
  go_wp2
  go_ret
  exact ⟨A2, c2, rfl, HO.out, hB2.trans hB3⟩
theorem ptext_is {l r s : List UInt8} (h : l ++ encI s.length ++ s = r) (A : Option Addr) (cap : Nat) (hs : s.length ≤ 1000) (w : World) (hv : Bytes w A l) (hl : l.length ≤ 60000) :
    Calls Try.prog 14 #[.slice A l.length cap, .string ⟨s.toArray⟩] w (RetB r w) := (h ▸ ptext_any l A cap s hs w hv hl).mono fun _ _ => RetOwn.bytes
end Go.Proofs.Ythfcegfmciaajaa
