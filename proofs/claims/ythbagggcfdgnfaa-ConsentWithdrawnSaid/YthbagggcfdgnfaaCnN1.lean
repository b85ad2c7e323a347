/- The laws Least: their walks. -/
import Derived.Test.YthbagggcfdgnfaaCnU
namespace Go.Proofs.Ythbagggcfdgnfaa
open Go.RowKit

set_option maxRecDepth 20000 in
set_option maxHeartbeats 4000000 in
theorem least_walk (w : World) (ps : List Pn) (l : List Cn) (A B : Option Addr) (ca cb : Nat) (x y z : Int) (sp : List Int) (S : Option Addr) (cs : Nat) (ha : People w A ps) (hb : Cons w B l) (hs : Ints w S sp) :
    Calls Try.prog 5 #[.agg #[.slice A ps.length ca, .slice B l.length cb, .int .i64 x, .int .i64 y, .int .i64 z], .slice S sp.length cs] w (Ret (.bool true) w) := by
  have k1 := fun w' h1 h2 => right_any ps l A B ca cb w' h1 h2
  rcases hr : (fewB ps l.length && (checkE ps l == 0)) with _ | _
  · rw [hr] at k1
    clear hr
    go_enter Try.func5, Try.ntmps5
    have HA := Lib.hid (AskC.new w A ps ca B l cb x y z 29)
    obtain ⟨za, a0, a1, a2, a3, a4⟩ := HA.out
    have HB : Hid (Below w.heap.size w (w.alloc (.cells #[.slice A ps.length ca, .slice B l.length cb, .int .i64 x, .int .i64 y, .int .i64 z] 29))) := Lib.hid (by repeat (first | assumption | exact Below.refl _ _ | refine Below.alloc ?_ (by first | omega | (simp; done) | (simp; omega)) _ | refine Below.setCell ?_ (by first | omega | (simp; done) | (simp; omega)) _ | refine Below.drew ?_ | refine Below.drewN_ ?_ _ | refine Below.step ?_ (by assumption)))
    have HP := Lib.hid (ha.below HB.out)
    have HL := Lib.hid (hb.below HB.out)
    go_wp2_with fail
    refine (k1 _ HP.out HL.out).mono ?_
    rintro e W1 ⟨rfl, hc⟩
    replace HA := Lib.hid (HA.out.below hc)
    replace HP := Lib.hid (HP.out.below hc)
    replace HL := Lib.hid (HL.out.below hc)
    clear za a0 a1 a2 a3 a4
    obtain ⟨za, a0, a1, a2, a3, a4⟩ := HA.out
    replace HB := Lib.hid (Below.step HB.out hc)
    clear hc
    go_wp2_with fail
    refine (awake_any _).mono ?_
    rintro e W2 ⟨rfl, hc⟩
    replace HA := Lib.hid (HA.out.below hc)
    replace HP := Lib.hid (HP.out.below hc)
    replace HL := Lib.hid (HL.out.below hc)
    clear za a0 a1 a2 a3 a4
    obtain ⟨za, a0, a1, a2, a3, a4⟩ := HA.out
    replace HB := Lib.hid (Below.step HB.out hc)
    clear hc
    go_wp2
    go_ret
    exact Ret.mk rfl HB.out
  · rw [hr] at k1
    obtain ⟨hf, hck⟩ : fewB ps l.length = true ∧ checkE ps l = 0 := by simpa using hr
    have hle := few_le hf
    obtain ⟨hl60, hso, hgo⟩ := right_of hck
    clear hr hf
    have HK := Lib.hid k1
    rcases Nat.lt_or_ge 50 sp.length with hsl | hsl
    · clear HK hck hso hgo
      go_enter Try.func5, Try.ntmps5
      have HA := Lib.hid (AskC.new w A ps ca B l cb x y z 29)
      obtain ⟨za, a0, a1, a2, a3, a4⟩ := HA.out
      have HB : Hid (Below w.heap.size w (w.alloc (.cells #[.slice A ps.length ca, .slice B l.length cb, .int .i64 x, .int .i64 y, .int .i64 z] 29))) := Lib.hid (by repeat (first | assumption | exact Below.refl _ _ | refine Below.alloc ?_ (by first | omega | (simp; done) | (simp; omega)) _ | refine Below.setCell ?_ (by first | omega | (simp; done) | (simp; omega)) _ | refine Below.drew ?_ | refine Below.drewN_ ?_ _ | refine Below.step ?_ (by assumption)))
      have HP := Lib.hid (ha.below HB.out)
      have HL := Lib.hid (hb.below HB.out)
      have HI := Lib.hid (hs.below HB.out)
      go_wp2_with fail
      refine (k1 _ HP.out HL.out).mono ?_
      rintro e W1 ⟨rfl, hc⟩
      replace HA := Lib.hid (HA.out.below hc)
      replace HP := Lib.hid (HP.out.below hc)
      replace HL := Lib.hid (HL.out.below hc)
      replace HI := Lib.hid (HI.out.below hc)
      clear za a0 a1 a2 a3 a4
      obtain ⟨za, a0, a1, a2, a3, a4⟩ := HA.out
      replace HB := Lib.hid (Below.step HB.out hc)
      clear hc
      go_wp2_with fail
      refine (awake_any _).mono ?_
      rintro e W2 ⟨rfl, hc⟩
      replace HA := Lib.hid (HA.out.below hc)
      replace HP := Lib.hid (HP.out.below hc)
      replace HL := Lib.hid (HL.out.below hc)
      replace HI := Lib.hid (HI.out.below hc)
      clear za a0 a1 a2 a3 a4
      obtain ⟨za, a0, a1, a2, a3, a4⟩ := HA.out
      replace HB := Lib.hid (Below.step HB.out hc)
      clear hc
      go_wp2
      go_ret
      exact Ret.mk rfl HB.out
    · have k2 := fun w' h h2 => least_any l B S cb cs y 0 0 z [] sp w' h h2 (by omega) (by omega)
      have k3 := fun w' h h2 => rleast_any l B S cb cs y 0 0 z [] sp w' h h2 (by omega) (by omega)
      have k4 := fun w' h h2 => days_any l B S cb cs y 0 0 [] sp w' h h2 (by omega) (by omega) (fun c hc => (hgo c hc).2.2.1)
      have k5 := fun w' h h2 => rdays_any l B S cb cs y 0 0 [] sp w' h h2 (by omega) (by omega) (fun c hc => (hgo c hc).2.2.1)
      rw [ref_days hso] at k5
      have hD : (daysC l y sp).length ≤ maxLen := by have := daysC_len hso y sp; unfold maxLen; omega
      generalize leastK l y sp z = R at *
      generalize daysC l y sp = D at *
      clear HK hck hso hgo
      go_enter Try.func5, Try.ntmps5
      have HA := Lib.hid (AskC.new w A ps ca B l cb x y z 29)
      obtain ⟨za, a0, a1, a2, a3, a4⟩ := HA.out
      have HB : Hid (Below w.heap.size w (w.alloc (.cells #[.slice A ps.length ca, .slice B l.length cb, .int .i64 x, .int .i64 y, .int .i64 z] 29))) := Lib.hid (by repeat (first | assumption | exact Below.refl _ _ | refine Below.alloc ?_ (by first | omega | (simp; done) | (simp; omega)) _ | refine Below.setCell ?_ (by first | omega | (simp; done) | (simp; omega)) _ | refine Below.drew ?_ | refine Below.drewN_ ?_ _ | refine Below.step ?_ (by assumption)))
      have HP := Lib.hid (ha.below HB.out)
      have HL := Lib.hid (hb.below HB.out)
      have HI := Lib.hid (hs.below HB.out)
      go_wp2_with fail
      refine (k1 _ HP.out HL.out).mono ?_
      rintro e W1 ⟨rfl, hc⟩
      replace HA := Lib.hid (HA.out.below hc)
      replace HP := Lib.hid (HP.out.below hc)
      replace HL := Lib.hid (HL.out.below hc)
      replace HI := Lib.hid (HI.out.below hc)
      clear za a0 a1 a2 a3 a4
      obtain ⟨za, a0, a1, a2, a3, a4⟩ := HA.out
      replace HB := Lib.hid (Below.step HB.out hc)
      clear hc
      go_wp2_with fail
      have hc := below_new W1 (.cells #[.int .i64 y, .string ⟨#[]⟩, .int .i64 0, .int .i64 0, .slice S sp.length cs] 34)
      replace HA := Lib.hid (HA.out.below hc)
      replace HP := Lib.hid (HP.out.below hc)
      replace HL := Lib.hid (HL.out.below hc)
      replace HI := Lib.hid (HI.out.below hc)
      clear za a0 a1 a2 a3 a4
      obtain ⟨za, a0, a1, a2, a3, a4⟩ := HA.out
      replace HB := Lib.hid (Below.step HB.out hc)
      clear hc
      have HR := Lib.hid (RecC.new W1 y [] 0 0 S sp cs 34)
      obtain ⟨zr, r0, r1, r2, r3, r4⟩ := HR.out
      go_region_held3 (fun w' => w'.cell? ⟨w.heap.size, 1, none⟩ = some (.slice B l.length cb) ∧ w'.cell? ⟨w.heap.size, 4, none⟩ = some (.int .i64 z) ∧ w'.cell? ⟨W1.heap.size, 0, none⟩ = some (.int .i64 y) ∧ w'.cell? ⟨W1.heap.size, 1, none⟩ = some (.string ⟨#[]⟩) ∧ w'.cell? ⟨W1.heap.size, 2, none⟩ = some (.int .i64 0) ∧ w'.cell? ⟨W1.heap.size, 3, none⟩ = some (.int .i64 0) ∧ w'.cell? ⟨W1.heap.size, 4, none⟩ = some (.slice S sp.length cs))
        (first | exact ⟨a1, a4, r0, r1, r2, r3, r4⟩)
        (first
          | (go_at_call 17; refine (k2 _ (by exact HL.out) (by exact HI.out)).mono ?_; rintro e W2 ⟨rfl, hc⟩; replace HA := Lib.hid (AskC.below (by exact HA.out) hc); replace HP := Lib.hid (Structs.below (by exact HP.out) hc); replace HL := Lib.hid (Structs.below (by exact HL.out) hc); replace HI := Lib.hid (Ints.below (by exact HI.out) hc); replace HR := Lib.hid (RecC.below (by exact HR.out) hc); clear za a0 a1 a2 a3 a4; obtain ⟨za, a0, a1, a2, a3, a4⟩ := HA.out; clear zr r0 r1 r2 r3 r4; obtain ⟨zr, r0, r1, r2, r3, r4⟩ := HR.out; replace HB := Lib.hid (Below.step (by exact ⟨HB.out.os, HB.out.tape, HB.out.output, HB.out.size, HB.out.block⟩) hc); clear hc)
          | (go_at_call 18; refine (k3 _ (by exact HL.out) (by exact HI.out)).mono ?_; rintro e W3 ⟨rfl, hc⟩; replace HA := Lib.hid (AskC.below (by exact HA.out) hc); replace HP := Lib.hid (Structs.below (by exact HP.out) hc); replace HL := Lib.hid (Structs.below (by exact HL.out) hc); replace HI := Lib.hid (Ints.below (by exact HI.out) hc); replace HR := Lib.hid (RecC.below (by exact HR.out) hc); clear za a0 a1 a2 a3 a4; obtain ⟨za, a0, a1, a2, a3, a4⟩ := HA.out; clear zr r0 r1 r2 r3 r4; obtain ⟨zr, r0, r1, r2, r3, r4⟩ := HR.out; replace HB := Lib.hid (Below.step (by exact ⟨HB.out.os, HB.out.tape, HB.out.output, HB.out.size, HB.out.block⟩) hc); clear hc)
          | (go_at_call 20; refine (k4 _ (by exact HL.out) (by exact HI.out)).mono ?_; rintro e W4 ⟨V1, vc1, rfl, i1, hc⟩; replace HA := Lib.hid (AskC.below (by exact HA.out) hc); replace HP := Lib.hid (Structs.below (by exact HP.out) hc); replace HL := Lib.hid (Structs.below (by exact HL.out) hc); replace HI := Lib.hid (Ints.below (by exact HI.out) hc); replace HR := Lib.hid (RecC.below (by exact HR.out) hc); clear za a0 a1 a2 a3 a4; obtain ⟨za, a0, a1, a2, a3, a4⟩ := HA.out; clear zr r0 r1 r2 r3 r4; obtain ⟨zr, r0, r1, r2, r3, r4⟩ := HR.out; replace HB := Lib.hid (Below.step (by exact ⟨HB.out.os, HB.out.tape, HB.out.output, HB.out.size, HB.out.block⟩) hc); have HI1 := Lib.hid i1; clear i1; clear hc)
          | (go_at_call 21; refine (k5 _ (by exact HL.out) (by exact HI.out)).mono ?_; rintro e W5 ⟨V2, vc2, rfl, i2, hc⟩; replace HA := Lib.hid (AskC.below (by exact HA.out) hc); replace HP := Lib.hid (Structs.below (by exact HP.out) hc); replace HL := Lib.hid (Structs.below (by exact HL.out) hc); replace HI := Lib.hid (Ints.below (by exact HI.out) hc); replace HR := Lib.hid (RecC.below (by exact HR.out) hc); replace HI1 := Lib.hid (Ints.below (by exact HI1.out) hc); clear za a0 a1 a2 a3 a4; obtain ⟨za, a0, a1, a2, a3, a4⟩ := HA.out; clear zr r0 r1 r2 r3 r4; obtain ⟨zr, r0, r1, r2, r3, r4⟩ := HR.out; replace HB := Lib.hid (Below.step (by exact ⟨HB.out.os, HB.out.tape, HB.out.output, HB.out.size, HB.out.block⟩) hc); have HI2 := Lib.hid (Ints.of_own i2); clear i2; clear hc)
          | (go_at_call 19; refine (same_yes D V1 V2 vc1 vc2 _ (by exact HI1.out) (by exact HI2.out) hD).mono ?_; rintro e W6 ⟨rfl, hc⟩; replace HA := Lib.hid (AskC.below (by exact HA.out) hc); replace HP := Lib.hid (Structs.below (by exact HP.out) hc); replace HL := Lib.hid (Structs.below (by exact HL.out) hc); replace HI := Lib.hid (Ints.below (by exact HI.out) hc); replace HR := Lib.hid (RecC.below (by exact HR.out) hc); replace HI1 := Lib.hid (Ints.below (by exact HI1.out) hc); replace HI2 := Lib.hid (Ints.below (by exact HI2.out) hc); clear za a0 a1 a2 a3 a4; obtain ⟨za, a0, a1, a2, a3, a4⟩ := HA.out; clear zr r0 r1 r2 r3 r4; obtain ⟨zr, r0, r1, r2, r3, r4⟩ := HR.out; replace HB := Lib.hid (Below.step (by exact ⟨HB.out.os, HB.out.tape, HB.out.output, HB.out.size, HB.out.block⟩) hc); clear hc)
          | (go_at_call 11; refine (awake_any _).mono ?_; rintro e W7 ⟨rfl, hc⟩; replace HA := Lib.hid (AskC.below (by exact HA.out) hc); replace HP := Lib.hid (Structs.below (by exact HP.out) hc); replace HL := Lib.hid (Structs.below (by exact HL.out) hc); replace HI := Lib.hid (Ints.below (by exact HI.out) hc); replace HR := Lib.hid (RecC.below (by exact HR.out) hc); replace HI1 := Lib.hid (Ints.below (by exact HI1.out) hc); replace HI2 := Lib.hid (Ints.below (by exact HI2.out) hc); clear za a0 a1 a2 a3 a4; obtain ⟨za, a0, a1, a2, a3, a4⟩ := HA.out; clear zr r0 r1 r2 r3 r4; obtain ⟨zr, r0, r1, r2, r3, r4⟩ := HR.out; replace HB := Lib.hid (Below.step (by exact ⟨HB.out.os, HB.out.tape, HB.out.output, HB.out.size, HB.out.block⟩) hc); clear hc))
      go_wp2
      go_ret
      exact Ret.mk rfl HB.out

end Go.Proofs.Ythbagggcfdgnfaa
