/- SpanCovers. -/
import Derived.Test.YtofnbohcofgfkaaSpL2
import Derived.Test.YtofnbohcofgfkaaRegion
namespace Go.Proofs.Ytofnbohcofgfkaa
open Go.RowKit

set_option maxRecDepth 20000 in
set_option maxHeartbeats 4000000 in
theorem covers_walk (W : World) (l : List Sp) (x : Sp) (A : Option Addr) (ca : Nat) (ha : Spans W A l) :
    Calls Try.prog 8 #[.slice A l.length ca, .agg #[.int .i64 x.f, .int .i64 x.t]] W (Ret (.bool true) W) := by
  have k5 := fun w' => awake_any w'
  have HB := Lib.hid (show Below W.heap.size W (W.alloc (.cells #[.int .i64 x.f, .int .i64 x.t] 23)) from (by repeat (first | assumption | exact Below.refl _ _ | refine Below.alloc ?_ (by first | omega | (simp; done) | (simp; omega)) _ | refine Below.setCell ?_ (by first | omega | (simp; done) | (simp; omega)) _ | refine Below.drew ?_ | refine Below.drewN_ ?_ _ | refine Below.step ?_ (by assumption))))
  by_cases hl : 60 < l.length
  · go_enter Try.func8, Try.ntmps8
    go_wp2_with fail
    refine (k5 _).mono ?_
    rintro e w3 ⟨rfl, h3⟩
    have HE3 := Lib.hid (Below.step HB.out h3)
    clear h3 k5
    go_wp2
    go_ret
    exact Ret.mk rfl HE3.out
  · have k1 := fun w' c (h : Spans w' A l) => copied_any l A c w' h (by omega)
    have k2 := fun A' c' w' (h : Spans w' A' l) => covers_any l x A' c' w' h (by omega)
    have k3 := fun w' (h : Spans w' A l) => rcovers_any l x A ca w' h (by omega)
    have k4 := fun A' c' w' (h : Spans w' A' l) => total_any l A' c' w' h (by omega)
    have k6 := fun w' (h : Spans w' A l) => rtotal_any l A ca w' h (by omega)
    generalize coversB l x = V at *
    generalize total (norm l) = T at *
    have HT := Lib.hid (TwoS.new W x 23)
    have HL : Hid (Spans (W.alloc (.cells #[.int .i64 x.f, .int .i64 x.t] 23)) A l) := Lib.hid (Structs.alloc ha _)
    obtain ⟨zt, t0, t1⟩ := HT.out
    clear ha
    go_enter Try.func8, Try.ntmps8
    go_wp2
    go_region_held3 (fun w' => w'.cell? ⟨W.heap.size, 0, none⟩ = some (.int .i64 x.f) ∧ w'.cell? ⟨W.heap.size, 1, none⟩ = some (.int .i64 x.t))
      (first | exact ⟨t0, t1⟩)
      (first
        | (go_at_call 21; refine (k1 _ _ (by exact HL.out)).mono ?_; rintro e xx ⟨Ap, cp, rfl, ho, hc⟩; replace HT := Lib.hid (TwoS.below (by exact HT.out) hc); replace HL := Lib.hid (Structs.below (by exact HL.out) hc); clear zt t0 t1; obtain ⟨zt, t0, t1⟩ := HT.out; replace HB := Lib.hid (Below.step (by exact ⟨HB.out.os, HB.out.tape, HB.out.output, HB.out.size, HB.out.block⟩) hc); have Sp := Lib.hid (Spans.of_own ho); clear ho; clear hc)
        | (go_at_call 28; refine (k2 _ _ _ (by exact Sp.out)).mono ?_; rintro e xx ⟨rfl, hc⟩; replace HT := Lib.hid (TwoS.below (by exact HT.out) hc); replace HL := Lib.hid (Structs.below (by exact HL.out) hc); clear zt t0 t1; obtain ⟨zt, t0, t1⟩ := HT.out; replace HB := Lib.hid (Below.step (by exact ⟨HB.out.os, HB.out.tape, HB.out.output, HB.out.size, HB.out.block⟩) hc); clear hc)
        | (go_at_call 29; refine (k3 _ (by exact HL.out)).mono ?_; rintro e xx ⟨rfl, hc⟩; replace HT := Lib.hid (TwoS.below (by exact HT.out) hc); replace HL := Lib.hid (Structs.below (by exact HL.out) hc); clear zt t0 t1; obtain ⟨zt, t0, t1⟩ := HT.out; replace HB := Lib.hid (Below.step (by exact ⟨HB.out.os, HB.out.tape, HB.out.output, HB.out.size, HB.out.block⟩) hc); clear hc)
        | (go_at_call 30; refine (k4 _ _ _ (by exact Sp.out)).mono ?_; rintro e xx ⟨rfl, hc⟩; replace HT := Lib.hid (TwoS.below (by exact HT.out) hc); replace HL := Lib.hid (Structs.below (by exact HL.out) hc); clear zt t0 t1; obtain ⟨zt, t0, t1⟩ := HT.out; replace HB := Lib.hid (Below.step (by exact ⟨HB.out.os, HB.out.tape, HB.out.output, HB.out.size, HB.out.block⟩) hc); clear hc)
        | (go_at_call 31; refine (k6 _ (by exact HL.out)).mono ?_; rintro e xx ⟨rfl, hc⟩; replace HT := Lib.hid (TwoS.below (by exact HT.out) hc); replace HL := Lib.hid (Structs.below (by exact HL.out) hc); clear zt t0 t1; obtain ⟨zt, t0, t1⟩ := HT.out; replace HB := Lib.hid (Below.step (by exact ⟨HB.out.os, HB.out.tape, HB.out.output, HB.out.size, HB.out.block⟩) hc); clear hc)
        | (go_at_call 16; refine (k5 _).mono ?_; rintro e xx ⟨rfl, hc⟩; replace HT := Lib.hid (TwoS.below (by exact HT.out) hc); replace HL := Lib.hid (Structs.below (by exact HL.out) hc); clear zt t0 t1; obtain ⟨zt, t0, t1⟩ := HT.out; replace HB := Lib.hid (Below.step (by exact ⟨HB.out.os, HB.out.tape, HB.out.output, HB.out.size, HB.out.block⟩) hc); clear hc))
    go_wp2
    go_ret
    exact Ret.mk rfl HB.out

end Go.Proofs.Ytofnbohcofgfkaa
