/- The closure of Days. -/
import Derived.Test.YthbagggcfdgnfaaCnL
import Derived.Test.YthbagggcfdgnfaaCnW
namespace Go.Proofs.Ythbagggcfdgnfaa
open Go.RowKit

/-- Whether Least is the same on a day and the day before, as the machine reckons. -/
def sameDay (l : List Cn) (rid : Int) (sp : List Int) (x : Int) : Bool := leastK l rid sp x == leastK l rid sp (wrap64 (x - 1))

set_option maxRecDepth 20000 in
set_option maxHeartbeats 2000000 in
theorem closure_any (l : List Cn) (A S : Option Addr) (cap sc : Nat) (rid ln dy x : Int) (nm : List UInt8) (sp : List Int) (c1 c2 : Nat) (w : World) (ha : Cons w A l) (hs : Ints w S sp) (hl : l.length ≤ 100000) (hsl : sp.length ≤ 100000)
    (h1 : c1 < w.heap.size) (h2 : c2 < w.heap.size) (a0 : w.cell? ⟨c1, 0, none⟩ = some (.slice A l.length cap)) (b0 : w.cell? ⟨c2, 0, none⟩ = some (.int .i64 rid)) (b1 : w.cell? ⟨c2, 1, none⟩ = some (.string ⟨nm.toArray⟩)) (b2 : w.cell? ⟨c2, 2, none⟩ = some (.int .i64 ln)) (b3 : w.cell? ⟨c2, 3, none⟩ = some (.int .i64 dy)) (b4 : w.cell? ⟨c2, 4, none⟩ = some (.slice S sp.length sc)) :
    Calls Try.prog 32 #[.int .i64 x, .pointer (some ⟨c1, 0, none⟩), .pointer (some ⟨c2, 0, none⟩)] w (Ret (.bool (sameDay l rid sp x)) w) := by
  have k1 := fun w' (h : Below w.heap.size w w') => least_any l A S cap sc rid ln dy x nm sp w' (ha.below h) (hs.below h) hl hsl
  have k2 := fun w' (h : Below w.heap.size w w') => least_any l A S cap sc rid ln dy (wrap64 (x - 1)) nm sp w' (ha.below h) (hs.below h) hl hsl
  unfold sameDay
  generalize leastK l rid sp x = u at *
  generalize leastK l rid sp (wrap64 (x - 1)) = v at *
  go_enter Try.func32, Try.ntmps32
  go_wp2_with fail
  refine region_past (by kernel_rfl) (by kernel_rfl) ?_
  repeat (go_big_quiet_step (first | with_reducible exact Calls.past (k1 _ (Past.below _)) | with_reducible exact Calls.past (k2 _ (Past.below _))))
  refine wpQuiet_nil ?_
  rintro w1 ⟨⟨_, hb1⟩, rfl⟩
  go_wp2
  go_ret
  exact Ret.mk rfl hb1

theorem asks_days (l : List Cn) (A S : Option Addr) (cap sc : Nat) (rid ln dy : Int) (nm : List UInt8) (sp : List Int) (c1 c2 B : Nat) (w : World) (w0 : World) (hw0 : w0.heap.size ≤ B) (h0 : Below w0.heap.size w0 w) (ha : Cons w0 A l) (hs : Ints w0 S sp) (hl : l.length ≤ 100000) (hsl : sp.length ≤ 100000)
    (h1 : c1 < B) (h2 : c2 < B) (a0 : w.cell? ⟨c1, 0, none⟩ = some (.slice A l.length cap)) (b0 : w.cell? ⟨c2, 0, none⟩ = some (.int .i64 rid)) (b1 : w.cell? ⟨c2, 1, none⟩ = some (.string ⟨nm.toArray⟩)) (b2 : w.cell? ⟨c2, 2, none⟩ = some (.int .i64 ln)) (b3 : w.cell? ⟨c2, 3, none⟩ = some (.int .i64 dy)) (b4 : w.cell? ⟨c2, 4, none⟩ = some (.slice S sp.length sc)) :
    Asks ⟨c1, 0, none⟩ ⟨c2, 0, none⟩ (sameDay l rid sp) B w := fun W x hW hBW => by
  have hw : Below w0.heap.size w0 W := h0.trans (hW.mono hw0)
  have keep : ∀ b o, b < B → W.cell? ⟨b, o, none⟩ = w.cell? ⟨b, o, none⟩ := fun b o h => hW.cell (p := ⟨b, o, none⟩) h
  exact closure_any l A S cap sc rid ln dy x nm sp c1 c2 W (ha.below hw) (hs.below hw) hl hsl (Nat.lt_of_lt_of_le h1 hBW) (Nat.lt_of_lt_of_le h2 hBW) ((keep _ _ h1).trans a0) ((keep _ _ h2).trans b0) ((keep _ _ h2).trans b1) ((keep _ _ h2).trans b2) ((keep _ _ h2).trans b3) ((keep _ _ h2).trans b4)
end Go.Proofs.Ythbagggcfdgnfaa
