/- The laws At: their walks. -/
import Derived.Test.YthbagggcfdgnfaaCnK
namespace Go.Proofs.Ythbagggcfdgnfaa
open Go.RowKit

theorem few_le {ps : List Pn} {n : Nat} (h : fewB ps n = true) : ps.length ≤ 50 ∧ n ≤ 80 := by
  unfold fewB at h
  simp at h
  exact ⟨h.1.1, h.1.2⟩
/-- Block b holds a question. -/
def AskC (W : World) (b : Nat) (A : Option Addr) (n ca : Nat) (B : Option Addr) (m cb : Nat) (x y z : Int) : Prop :=
  b < W.heap.size ∧ W.cell? ⟨b, 0, none⟩ = some (.slice A n ca) ∧ W.cell? ⟨b, 1, none⟩ = some (.slice B m cb) ∧ W.cell? ⟨b, 2, none⟩ = some (.int .i64 x) ∧ W.cell? ⟨b, 3, none⟩ = some (.int .i64 y) ∧ W.cell? ⟨b, 4, none⟩ = some (.int .i64 z)
theorem AskC.below {W W' : World} {b : Nat} {A : Option Addr} {n ca : Nat} {B : Option Addr} {m cb : Nat} {x y z : Int} (h : AskC W b A n ca B m cb x y z) (hb : Below W.heap.size W W') : AskC W' b A n ca B m cb x y z :=
  ⟨Nat.lt_of_lt_of_le h.1 hb.size, ((bcell hb).1 _ 0 h.1).trans h.2.1, ((bcell hb).1 _ 1 h.1).trans h.2.2.1, ((bcell hb).1 _ 2 h.1).trans h.2.2.2.1, ((bcell hb).1 _ 3 h.1).trans h.2.2.2.2.1, ((bcell hb).1 _ 4 h.1).trans h.2.2.2.2.2⟩
theorem AskC.alloc {W : World} {b : Nat} {A : Option Addr} {n ca : Nat} {B : Option Addr} {m cb : Nat} {x y z : Int} (h : AskC W b A n ca B m cb x y z) (o : Obj) : AskC (W.alloc o) b A n ca B m cb x y z := h.below ((Below.refl _ _).alloc (Nat.le_refl _) o)
theorem AskC.new (w : World) (A : Option Addr) (ps : List Pn) (ca : Nat) (B : Option Addr) (l : List Cn) (cb : Nat) (x y z : Int) (t : TypeId) : AskC (w.alloc (.cells #[.slice A ps.length ca, .slice B l.length cb, .int .i64 x, .int .i64 y, .int .i64 z] t)) w.heap.size A ps.length ca B l.length cb x y z :=
  ⟨by simp, by simp [go_sem], by simp [go_sem], by simp [go_sem], by simp [go_sem], by simp [go_sem]⟩
/-- Block b holds a recording. -/
def RecC (W : World) (b : Nat) (y : Int) (nm : List UInt8) (ln dy : Int) (S : Option Addr) (m cs : Nat) : Prop :=
  b < W.heap.size ∧ W.cell? ⟨b, 0, none⟩ = some (.int .i64 y) ∧ W.cell? ⟨b, 1, none⟩ = some (.string ⟨nm.toArray⟩) ∧ W.cell? ⟨b, 2, none⟩ = some (.int .i64 ln) ∧ W.cell? ⟨b, 3, none⟩ = some (.int .i64 dy) ∧ W.cell? ⟨b, 4, none⟩ = some (.slice S m cs)
theorem RecC.below {W W' : World} {b : Nat} {y : Int} {nm : List UInt8} {ln dy : Int} {S : Option Addr} {m cs : Nat} (h : RecC W b y nm ln dy S m cs) (hb : Below W.heap.size W W') : RecC W' b y nm ln dy S m cs :=
  ⟨Nat.lt_of_lt_of_le h.1 hb.size, ((bcell hb).1 _ 0 h.1).trans h.2.1, ((bcell hb).1 _ 1 h.1).trans h.2.2.1, ((bcell hb).1 _ 2 h.1).trans h.2.2.2.1, ((bcell hb).1 _ 3 h.1).trans h.2.2.2.2.1, ((bcell hb).1 _ 4 h.1).trans h.2.2.2.2.2⟩
theorem RecC.new (w : World) (y : Int) (nm : List UInt8) (ln dy : Int) (S : Option Addr) (sp : List Int) (cs : Nat) (t : TypeId) : RecC (w.alloc (.cells #[.int .i64 y, .string ⟨nm.toArray⟩, .int .i64 ln, .int .i64 dy, .slice S sp.length cs] t)) w.heap.size y nm ln dy S sp.length cs :=
  ⟨by simp, by simp [go_sem], by simp [go_sem], by simp [go_sem], by simp [go_sem], by simp [go_sem]⟩
theorem below_new (w : World) (o : Obj) : Below w.heap.size w (w.alloc o) := (Below.refl _ _).alloc (Nat.le_refl _) o
theorem daysC_len {l : List Cn} (hs : SortedC l) (rid : Int) (sp : List Int) : (daysC l rid sp).length ≤ l.length := by
  rw [← ref_days hs]; exact refD_len _ _ _

set_option maxRecDepth 20000 in
set_option maxHeartbeats 4000000 in
theorem at_walk (w : World) (ps : List Pn) (l : List Cn) (A B : Option Addr) (ca cb : Nat) (x y z : Int) (ha : People w A ps) (hb : Cons w B l) :
    Calls Try.prog 4 #[.agg #[.slice A ps.length ca, .slice B l.length cb, .int .i64 x, .int .i64 y, .int .i64 z]] w (Ret (.bool true) w) := by
  have k1 := fun w' h1 h2 => right_any ps l A B ca cb w' h1 h2
  rcases hr : (fewB ps l.length && (checkE ps l == 0)) with _ | _
  · rw [hr] at k1
    clear hr
    go_enter Try.func4, Try.ntmps4
    have HA := Lib.hid (AskC.new w A ps ca B l cb x y z 29)
    obtain ⟨za, a0, a1, a2, a3, a4⟩ := HA.out
    have HB : Hid (Below w.heap.size w (w.alloc (.cells #[.slice A ps.length ca, .slice B l.length cb, .int .i64 x, .int .i64 y, .int .i64 z] 29))) := Lib.hid (by repeat (first | assumption | exact Below.refl _ _ | refine Below.alloc ?_ (by first | omega | (simp; done) | (simp; omega)) _ | refine Below.setCell ?_ (by first | omega | (simp; done) | (simp; omega)) _ | refine Below.drew ?_ | refine Below.drewN_ ?_ _ | refine Below.step ?_ (by assumption)))
    have HP := Lib.hid (ha.below HB.out)
    have HL := Lib.hid (hb.below HB.out)
    go_wp2_with fail
    refine (k1 _ HP.out HL.out).mono ?_
    rintro e W1 ⟨rfl, hc⟩
    replace HA := Lib.hid (HA.out.below hc)
    replace HP := Lib.hid (HP.out.below hc)
    replace HL := Lib.hid (HL.out.below hc)
    clear za a0 a1 a2 a3 a4
    obtain ⟨za, a0, a1, a2, a3, a4⟩ := HA.out
    replace HB := Lib.hid (Below.step HB.out hc)
    clear hc
    go_wp2_with fail
    refine (awake_any _).mono ?_
    rintro e W2 ⟨rfl, hc⟩
    replace HA := Lib.hid (HA.out.below hc)
    replace HP := Lib.hid (HP.out.below hc)
    replace HL := Lib.hid (HL.out.below hc)
    clear za a0 a1 a2 a3 a4
    obtain ⟨za, a0, a1, a2, a3, a4⟩ := HA.out
    replace HB := Lib.hid (Below.step HB.out hc)
    clear hc
    go_wp2
    go_ret
    exact Ret.mk rfl HB.out
  · rw [hr] at k1
    obtain ⟨hf, hck⟩ : fewB ps l.length = true ∧ checkE ps l = 0 := by simpa using hr
    have hle := few_le hf
    obtain ⟨hl60, hso, hgo⟩ := right_of hck
    clear hr hf
    have k2 := fun w' h => at_any l B cb x y z w' h (by omega)
    have k3 := fun w' h => rat_any l B cb x y z w' h (by omega)
    generalize atK l x y z = R at *
    go_enter Try.func4, Try.ntmps4
    have HA := Lib.hid (AskC.new w A ps ca B l cb x y z 29)
    obtain ⟨za, a0, a1, a2, a3, a4⟩ := HA.out
    have HB : Hid (Below w.heap.size w (w.alloc (.cells #[.slice A ps.length ca, .slice B l.length cb, .int .i64 x, .int .i64 y, .int .i64 z] 29))) := Lib.hid (by repeat (first | assumption | exact Below.refl _ _ | refine Below.alloc ?_ (by first | omega | (simp; done) | (simp; omega)) _ | refine Below.setCell ?_ (by first | omega | (simp; done) | (simp; omega)) _ | refine Below.drew ?_ | refine Below.drewN_ ?_ _ | refine Below.step ?_ (by assumption)))
    have HP := Lib.hid (ha.below HB.out)
    have HL := Lib.hid (hb.below HB.out)
    go_wp2_with fail
    refine (k1 _ HP.out HL.out).mono ?_
    rintro e W1 ⟨rfl, hc⟩
    replace HA := Lib.hid (HA.out.below hc)
    replace HP := Lib.hid (HP.out.below hc)
    replace HL := Lib.hid (HL.out.below hc)
    clear za a0 a1 a2 a3 a4
    obtain ⟨za, a0, a1, a2, a3, a4⟩ := HA.out
    replace HB := Lib.hid (Below.step HB.out hc)
    clear hc
    go_wp2_with fail
    go_region_held3 (fun w' => w'.cell? ⟨w.heap.size, 1, none⟩ = some (.slice B l.length cb) ∧ w'.cell? ⟨w.heap.size, 2, none⟩ = some (.int .i64 x) ∧ w'.cell? ⟨w.heap.size, 3, none⟩ = some (.int .i64 y) ∧ w'.cell? ⟨w.heap.size, 4, none⟩ = some (.int .i64 z))
      (first | exact ⟨a1, a2, a3, a4⟩)
      (first
        | (go_at_call 15; refine (k2 _ (by exact HL.out)).mono ?_; rintro e W2 ⟨rfl, hc⟩; replace HA := Lib.hid (AskC.below (by exact HA.out) hc); replace HP := Lib.hid (Structs.below (by exact HP.out) hc); replace HL := Lib.hid (Structs.below (by exact HL.out) hc); clear za a0 a1 a2 a3 a4; obtain ⟨za, a0, a1, a2, a3, a4⟩ := HA.out; replace HB := Lib.hid (Below.step (by exact ⟨HB.out.os, HB.out.tape, HB.out.output, HB.out.size, HB.out.block⟩) hc); clear hc)
        | (go_at_call 16; refine (k3 _ (by exact HL.out)).mono ?_; rintro e W3 ⟨rfl, hc⟩; replace HA := Lib.hid (AskC.below (by exact HA.out) hc); replace HP := Lib.hid (Structs.below (by exact HP.out) hc); replace HL := Lib.hid (Structs.below (by exact HL.out) hc); clear za a0 a1 a2 a3 a4; obtain ⟨za, a0, a1, a2, a3, a4⟩ := HA.out; replace HB := Lib.hid (Below.step (by exact ⟨HB.out.os, HB.out.tape, HB.out.output, HB.out.size, HB.out.block⟩) hc); clear hc)
        | (go_at_call 11; refine (awake_any _).mono ?_; rintro e W4 ⟨rfl, hc⟩; replace HA := Lib.hid (AskC.below (by exact HA.out) hc); replace HP := Lib.hid (Structs.below (by exact HP.out) hc); replace HL := Lib.hid (Structs.below (by exact HL.out) hc); clear za a0 a1 a2 a3 a4; obtain ⟨za, a0, a1, a2, a3, a4⟩ := HA.out; replace HB := Lib.hid (Below.step (by exact ⟨HB.out.os, HB.out.tape, HB.out.output, HB.out.size, HB.out.block⟩) hc); clear hc))
    go_wp2
    go_ret
    exact Ret.mk rfl HB.out

end Go.Proofs.Ythbagggcfdgnfaa
