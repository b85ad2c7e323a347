/- The law WirePuts: its walk. -/
import Derived.Test.YthfcegfmciaajaaWireD
import Derived.Test.YthfcegfmciaajaaWireE
import Derived.Test.YthfcegfmciaajaaRegion
namespace Go.Proofs.Ythfcegfmciaajaa
open Go.RowKit

/-- Block k holds a Thing. -/
def Thing (w : World) (k : Nat) (n : Int) (s : ByteArray) (v : Value) : Prop := k < w.heap.size ∧ w.cell? ⟨k, 0, none⟩ = some (.int .i64 n) ∧ w.cell? ⟨k, 1, none⟩ = some (.string s) ∧ w.cell? ⟨k, 2, none⟩ = some v
theorem Thing.below {w w' : World} {k : Nat} {n : Int} {s : ByteArray} {v : Value} (h : Thing w k n s v) (hb : Below w.heap.size w w') : Thing w' k n s v :=
  ⟨Nat.lt_of_lt_of_le h.1 hb.size, ((bcell hb).1 k 0 h.1).trans h.2.1, ((bcell hb).1 k 1 h.1).trans h.2.2.1, ((bcell hb).1 k 2 h.1).trans h.2.2.2⟩
theorem Thing.new (w : World) (n : Int) (s : ByteArray) (v : Value) (t : TypeId) : Thing (w.alloc (.cells #[.int .i64 n, .string s, v] t)) w.heap.size n s v := by
  exact ⟨by simp, by simp [go_sem], by simp [go_sem], by simp [go_sem]⟩
theorem Thing.past {W : World} {k : Nat} {n : Int} {s : ByteArray} {v : Value} (h : Thing W k n s v) : (∀ x : Past W, x.val.cell? ⟨k, 0, none⟩ = some (.int .i64 n)) ∧ (∀ x : Past W, x.val.cell? ⟨k, 1, none⟩ = some (.string s)) ∧ (∀ x : Past W, x.val.cell? ⟨k, 2, none⟩ = some v) :=
  ⟨fun x => (h.below x.below).2.1, fun x => (h.below x.below).2.2.1, fun x => (h.below x.below).2.2.2⟩
/-- Which call of the region comes next. -/
structure Step (n : Nat) : Prop where
  ok : True
theorem few_parts {b s : List UInt8} {L : List Int} (h : fewB b s L = true) : b.length ≤ 300 ∧ s.length ≤ 300 ∧ L.length ≤ 100 := by
  simpa [fewB, and_assoc] using h

set_option maxHeartbeats 8000000 in
theorem wputs_walk (w : World) (b : List UInt8) (B : Option Addr) (cb : Nat) (_ : b.length ≤ maxLen) (hb : Bytes w B b) (n : Int) (hn : Fits n) (s : List UInt8) (_ : s.length ≤ maxLen) (L : List Int) (A : Option Addr) (ca : Nat) (hfit : Fit L) (_ : L.length ≤ maxLen) (hL : Ints w A L) :
    Calls Try.prog 3 #[.slice B b.length cb, .agg #[.int .i64 n, .string ⟨s.toArray⟩, .slice A L.length ca]] w (Ret (.bool true) w) := by
  rcases Bool.eq_false_or_eq_true (fewB b s L) with hf | hf
  · have HF := Lib.hid hf
    obtain ⟨l1, l2, l3⟩ := few_parts hf
    have c1 := fun w' (h : Below w.heap.size w w') => (put_any b B cb n hn w' (hb.below h) (by omega)).mono fun _ _ => RetOwn.bytes
    have c2 := fun w' (h : Below w.heap.size w w') => (rput_any b B cb n hn w' (hb.below h) (by omega)).mono fun _ _ => RetOwn.bytes
    have c3 := fun w' (h : Below w.heap.size w w') => (ptext_any b B cb s (by omega) w' (hb.below h) (by omega)).mono fun _ _ => RetOwn.bytes
    have c4 := fun w' (h : Below w.heap.size w w') => (rptext_any b B cb s (by omega) w' (hb.below h) (by omega)).mono fun _ _ => RetOwn.bytes
    have c5 := fun w' (h : Below w.heap.size w w') => (puts_any b B cb L A ca hfit (by omega) w' (hb.below h) (hL.below h) (by omega)).mono fun _ _ => RetOwn.bytes
    have c6 := fun w' (h : Below w.heap.size w w') => rputs_any b B cb L A ca hfit (by omega) w' (hb.below h) (hL.below h) (by omega)
    generalize b ++ encI n = r1 at *
    generalize b ++ encI s.length ++ s = r2 at *
    generalize b ++ encI L.length ++ encs L = r3 at *
    clear hf l1 l2 l3
    have T0 := Thing.new w n ⟨s.toArray⟩ (.slice A L.length ca) 25
    have b0 : Below w.heap.size w (w.alloc (.cells #[.int .i64 n, .string ⟨s.toArray⟩, .slice A L.length ca] 25)) := (by repeat (first | assumption | exact Below.refl _ _ | refine Below.alloc ?_ (by first | omega | (simp; done) | (simp; omega)) _ | refine Below.setCell ?_ (by first | omega | (simp; done) | (simp; omega)) _ | refine Below.drew ?_ | refine Below.drewN_ ?_ _ | refine Below.step ?_ (by assumption)))
    go_enter Try.func3, Try.ntmps3
    go_wp2_with fail
    refine (few_is HF.out B A cb ca _).mono ?_
    rintro e w1 ⟨rfl, h1⟩
    have H1 := Below.step b0 h1
    have HT := Lib.hid ((T0.below h1).below (Below.refl _ w1).drew)
    obtain ⟨_, q1, q2, q3⟩ := HT.out
    have HW : Hid (Below w.heap.size w w1.drew) := Lib.hid H1.drew
    clear T0 h1 H1 b0
    go_wp2_with fail
    refine wp_region_held_drew (S := (fun w' => w'.cell? ⟨w.heap.size, 0, none⟩ = some (.int .i64 n) ∧ w'.cell? ⟨w.heap.size, 1, none⟩ = some (.string ⟨s.toArray⟩) ∧ w'.cell? ⟨w.heap.size, 2, none⟩ = some (.slice A L.length ca))) (by kernel_rfl) (by exact ⟨q1, q2, q3⟩) (fun hHeld => ?_)
    refine wpAnyH_take (i := 0) (oi := _) (v := ?_) (by simp only [List.getElem?_toArray, List.getElem?_cons_succ, List.getElem?_cons_zero]; rfl) (by kernel_rfl) (by kernel_rfl) (by kernel_rfl) (by intro _ _ _ h; exact h) (Or.inl ⟨by rfl, ?_⟩) (by assumption) ?_
    rotate_left
    · (intro w hSw; (try dsimp only at hSw); go_simp; try with_reducible rfl)
    try simp only [Act.put, List.setIfInBounds_toArray, List.set_cons_zero, List.set_cons_succ]
    refine wpAnyH_take (i := 1) (oi := _) (v := ?_) (by simp only [List.getElem?_toArray, List.getElem?_cons_succ, List.getElem?_cons_zero]; rfl) (by kernel_rfl) (by kernel_rfl) (by kernel_rfl) (by intro _ _ _ h; exact h) (Or.inl ⟨by rfl, ?_⟩) (by assumption) ?_
    rotate_left
    · (intro w hSw; (try dsimp only at hSw); go_simp; try with_reducible rfl)
    try simp only [Act.put, List.setIfInBounds_toArray, List.set_cons_zero, List.set_cons_succ]
    refine wpAnyH_take (i := 2) (oi := _) (v := ?_) (by simp only [List.getElem?_toArray, List.getElem?_cons_succ, List.getElem?_cons_zero]; rfl) (by kernel_rfl) (by kernel_rfl) (by kernel_rfl) (by intro _ _ _ h; exact h) (Or.inl ⟨by rfl, ?_⟩) (by assumption) ?_
    rotate_left
    · (intro w hSw; (try dsimp only at hSw); go_simp; try with_reducible rfl)
    try simp only [Act.put, List.setIfInBounds_toArray, List.set_cons_zero, List.set_cons_succ]
    refine wpAnyH_take (i := 5) (oi := _) (v := ?_) (by simp only [List.getElem?_toArray, List.getElem?_cons_succ, List.getElem?_cons_zero]; rfl) (by kernel_rfl) (by kernel_rfl) (by kernel_rfl) (by intro _ _ _ h; exact h) (Or.inl ⟨by rfl, ?_⟩) (by assumption) ?_
    rotate_left
    · (intro w hSw; (try dsimp only at hSw); go_simp; try with_reducible rfl)
    try simp only [Act.put, List.setIfInBounds_toArray, List.set_cons_zero, List.set_cons_succ]
    refine wpAnyH_take (i := 6) (oi := _) (v := ?_) (by simp only [List.getElem?_toArray, List.getElem?_cons_succ, List.getElem?_cons_zero]; rfl) (by kernel_rfl) (by kernel_rfl) (by kernel_rfl) (by intro _ _ _ h; exact h) (Or.inl ⟨by rfl, ?_⟩) (by assumption) ?_
    rotate_left
    · (intro w hSw; (try dsimp only at hSw); go_simp; try with_reducible rfl)
    try simp only [Act.put, List.setIfInBounds_toArray, List.set_cons_zero, List.set_cons_succ]
    refine wpAnyH_take (i := 7) (oi := _) (v := ?_) (by simp only [List.getElem?_toArray, List.getElem?_cons_succ, List.getElem?_cons_zero]; rfl) (by kernel_rfl) (by kernel_rfl) (by kernel_rfl) (by intro _ _ _ h; exact h) (Or.inl ⟨by rfl, ?_⟩) (by assumption) ?_
    rotate_left
    · (intro w hSw; (try dsimp only at hSw); go_simp; try with_reducible rfl)
    try simp only [Act.put, List.setIfInBounds_toArray, List.set_cons_zero, List.set_cons_succ]
    refine wpAnyH_ready (rs := [3]) (by kernel_rfl) (by simp) ?_
    refine AllReadyH.cons (o := _) (by simp only [List.getElem?_toArray, List.getElem?_cons_succ, List.getElem?_cons_zero]; rfl) (fun K hK => ?_) AllReadyH.nil
    go_simp
    refine (c1 _ HW.out).mono ?_
    rintro e x1 ⟨A1, k1, rfl, y1, z1⟩
    have HW := Lib.hid (Below.step HW.out z1)
    have HT := Lib.hid (HT.out.below z1)
    clear q1 q2 q3
    obtain ⟨_, q1, q2, q3⟩ := HT.out
    have Y1 := Lib.hid y1
    have R1 := run_bytes_string x1 A1 r1 k1 y1
    clear y1
    refine hK.out _ _ (by exact ⟨q1, q2, q3⟩) (fun hHeld2 => ?_)
    clear hHeld hK K
    try simp only [Act.put, List.setIfInBounds_toArray, List.set_cons_zero, List.set_cons_succ]
    refine wpAnyH_mono (S' := (fun w' => (convert 22 9 (.slice A1 r1.length k1)).run Try.prog w' = .ok (.string ⟨r1.toArray⟩) w' ∧ w'.cell? ⟨w.heap.size, 0, none⟩ = some (.int .i64 n) ∧ w'.cell? ⟨w.heap.size, 1, none⟩ = some (.string ⟨s.toArray⟩) ∧ w'.cell? ⟨w.heap.size, 2, none⟩ = some (.slice A L.length ca))) (by exact fun _ h => h.2) _ _ _ _ ?_
    have hHeld : ((fun w' => (convert 22 9 (.slice A1 r1.length k1)).run Try.prog w' = .ok (.string ⟨r1.toArray⟩) w' ∧ w'.cell? ⟨w.heap.size, 0, none⟩ = some (.int .i64 n) ∧ w'.cell? ⟨w.heap.size, 1, none⟩ = some (.string ⟨s.toArray⟩) ∧ w'.cell? ⟨w.heap.size, 2, none⟩ = some (.slice A L.length ca))) _ := ⟨R1, q1, q2, q3⟩
    clear hHeld2
    refine wpAnyH_take (i := 4) (oi := _) (v := ?_) (by simp only [List.getElem?_toArray, List.getElem?_cons_succ, List.getElem?_cons_zero]; rfl) (by kernel_rfl) (by kernel_rfl) (by kernel_rfl) (by intro _ _ _ h; exact h) (Or.inl ⟨by rfl, ?_⟩) (by assumption) ?_
    rotate_left
    · (intro w hSw; (try dsimp only at hSw); go_simp; try with_reducible rfl)
    try simp only [Act.put, List.setIfInBounds_toArray, List.set_cons_zero, List.set_cons_succ]
    refine wpAnyH_ready (rs := [8]) (by kernel_rfl) (by simp) ?_
    refine AllReadyH.cons (o := _) (by simp only [List.getElem?_toArray, List.getElem?_cons_succ, List.getElem?_cons_zero]; rfl) (fun K hK => ?_) AllReadyH.nil
    go_simp
    refine (c2 _ HW.out).mono ?_
    rintro e x2 ⟨A2, k2, rfl, y2, z2⟩
    have HW := Lib.hid (Below.step HW.out z2)
    have HT := Lib.hid (HT.out.below z2)
    clear q1 q2 q3
    obtain ⟨_, q1, q2, q3⟩ := HT.out
    have Y1 := Lib.hid (Y1.out.below z2)
    have R1 := run_bytes_string x2 A1 r1 k1 Y1.out
    have Y2 := Lib.hid y2
    have R2 := run_bytes_string x2 A2 r1 k2 y2
    clear y2
    refine hK.out _ _ (by exact ⟨R1, q1, q2, q3⟩) (fun hHeld2 => ?_)
    clear hHeld hK K
    try simp only [Act.put, List.setIfInBounds_toArray, List.set_cons_zero, List.set_cons_succ]
    refine wpAnyH_mono (S' := (fun w' => (convert 22 9 (.slice A2 r1.length k2)).run Try.prog w' = .ok (.string ⟨r1.toArray⟩) w' ∧ (convert 22 9 (.slice A1 r1.length k1)).run Try.prog w' = .ok (.string ⟨r1.toArray⟩) w' ∧ w'.cell? ⟨w.heap.size, 0, none⟩ = some (.int .i64 n) ∧ w'.cell? ⟨w.heap.size, 1, none⟩ = some (.string ⟨s.toArray⟩) ∧ w'.cell? ⟨w.heap.size, 2, none⟩ = some (.slice A L.length ca))) (by exact fun _ h => h.2) _ _ _ _ ?_
    have hHeld : ((fun w' => (convert 22 9 (.slice A2 r1.length k2)).run Try.prog w' = .ok (.string ⟨r1.toArray⟩) w' ∧ (convert 22 9 (.slice A1 r1.length k1)).run Try.prog w' = .ok (.string ⟨r1.toArray⟩) w' ∧ w'.cell? ⟨w.heap.size, 0, none⟩ = some (.int .i64 n) ∧ w'.cell? ⟨w.heap.size, 1, none⟩ = some (.string ⟨s.toArray⟩) ∧ w'.cell? ⟨w.heap.size, 2, none⟩ = some (.slice A L.length ca))) _ := ⟨R2, R1, q1, q2, q3⟩
    clear hHeld2
    refine wpAnyH_take (i := 9) (oi := _) (v := ?_) (by simp only [List.getElem?_toArray, List.getElem?_cons_succ, List.getElem?_cons_zero]; rfl) (by kernel_rfl) (by kernel_rfl) (by kernel_rfl) (by intro _ _ _ h; exact h) (Or.inl ⟨by rfl, ?_⟩) (by assumption) ?_
    rotate_left
    · (intro w hSw; (try dsimp only at hSw); go_simp; try with_reducible rfl)
    try simp only [Act.put, List.setIfInBounds_toArray, List.set_cons_zero, List.set_cons_succ]
    refine wpAnyH_take (i := 10) (oi := _) (v := ?_) (by simp only [List.getElem?_toArray, List.getElem?_cons_succ, List.getElem?_cons_zero]; rfl) (by kernel_rfl) (by kernel_rfl) (by kernel_rfl) (by intro _ _ _ h; exact h) (Or.inl ⟨by rfl, ?_⟩) (by assumption) ?_
    rotate_left
    · (intro w hSw; (try dsimp only at hSw); go_simp; try with_reducible rfl)
    try simp only [Act.put, List.setIfInBounds_toArray, List.set_cons_zero, List.set_cons_succ]
    refine wpAnyH_take (i := 11) (oi := _) (v := ?_) (by simp only [List.getElem?_toArray, List.getElem?_cons_succ, List.getElem?_cons_zero]; rfl) (by kernel_rfl) (by kernel_rfl) (by kernel_rfl) (by intro _ _ _ h; exact h) (Or.inl ⟨by rfl, ?_⟩) (by assumption) ?_
    rotate_left
    · (intro w hSw; (try dsimp only at hSw); go_simp; try with_reducible rfl)
    try simp only [Act.put, List.setIfInBounds_toArray, List.set_cons_zero, List.set_cons_succ]
    refine wpAnyH_take (i := 12) (oi := _) (v := ?_) (by simp only [List.getElem?_toArray, List.getElem?_cons_succ, List.getElem?_cons_zero]; rfl) (by kernel_rfl) (by kernel_rfl) (by kernel_rfl) (by intro _ _ _ h; exact h) (Or.inl ⟨by rfl, ?_⟩) (by assumption) ?_
    rotate_left
    · (intro w hSw; (try dsimp only at hSw); go_simp; try with_reducible rfl)
    try simp only [Act.put, List.setIfInBounds_toArray, List.set_cons_zero, List.set_cons_succ]
    refine wpAnyH_take (i := 13) (oi := _) (v := ?_) (by simp only [List.getElem?_toArray, List.getElem?_cons_succ, List.getElem?_cons_zero]; rfl) (by kernel_rfl) (by kernel_rfl) (by kernel_rfl) (by intro _ _ _ h; exact h) (Or.inl ⟨by rfl, ?_⟩) (by assumption) ?_
    rotate_left
    · (intro w hSw; (try dsimp only at hSw); go_simp; try with_reducible rfl)
    try simp only [Act.put, List.setIfInBounds_toArray, List.set_cons_zero, List.set_cons_succ]
    refine wpAnyH_take (i := 14) (oi := _) (v := ?_) (by simp only [List.getElem?_toArray, List.getElem?_cons_succ, List.getElem?_cons_zero]; rfl) (by kernel_rfl) (by kernel_rfl) (by kernel_rfl) (by intro _ _ _ h; exact h) (Or.inl ⟨by rfl, ?_⟩) (by assumption) ?_
    rotate_left
    · (intro w hSw; (try dsimp only at hSw); go_simp; try with_reducible rfl)
    try simp only [Act.put, List.setIfInBounds_toArray, List.set_cons_zero, List.set_cons_succ]
    refine wpAnyH_take (i := 17) (oi := _) (v := ?_) (by simp only [List.getElem?_toArray, List.getElem?_cons_succ, List.getElem?_cons_zero]; rfl) (by kernel_rfl) (by kernel_rfl) (by kernel_rfl) (by intro _ _ _ h; exact h) (Or.inl ⟨by rfl, ?_⟩) (by assumption) ?_
    rotate_left
    · (intro w hSw; (try dsimp only at hSw); go_simp; try with_reducible rfl)
    try simp only [Act.put, List.setIfInBounds_toArray, List.set_cons_zero, List.set_cons_succ]
    refine wpAnyH_take (i := 18) (oi := _) (v := ?_) (by simp only [List.getElem?_toArray, List.getElem?_cons_succ, List.getElem?_cons_zero]; rfl) (by kernel_rfl) (by kernel_rfl) (by kernel_rfl) (by intro _ _ _ h; exact h) (Or.inl ⟨by rfl, ?_⟩) (by assumption) ?_
    rotate_left
    · (intro w hSw; (try dsimp only at hSw); go_simp; try with_reducible rfl)
    try simp only [Act.put, List.setIfInBounds_toArray, List.set_cons_zero, List.set_cons_succ]
    refine wpAnyH_take (i := 19) (oi := _) (v := ?_) (by simp only [List.getElem?_toArray, List.getElem?_cons_succ, List.getElem?_cons_zero]; rfl) (by kernel_rfl) (by kernel_rfl) (by kernel_rfl) (by intro _ _ _ h; exact h) (Or.inl ⟨by rfl, ?_⟩) (by assumption) ?_
    rotate_left
    · (intro w hSw; (try dsimp only at hSw); go_simp; try with_reducible rfl)
    try simp only [Act.put, List.setIfInBounds_toArray, List.set_cons_zero, List.set_cons_succ]
    refine wpAnyH_ready (rs := [15]) (by kernel_rfl) (by simp) ?_
    refine AllReadyH.cons (o := _) (by simp only [List.getElem?_toArray, List.getElem?_cons_succ, List.getElem?_cons_zero]; rfl) (fun K hK => ?_) AllReadyH.nil
    go_simp
    refine (c3 _ HW.out).mono ?_
    rintro e x3 ⟨A3, k3, rfl, y3, z3⟩
    have HW := Lib.hid (Below.step HW.out z3)
    have HT := Lib.hid (HT.out.below z3)
    clear q1 q2 q3
    obtain ⟨_, q1, q2, q3⟩ := HT.out
    have Y2 := Lib.hid (Y2.out.below z3)
    have R2 := run_bytes_string x3 A2 r1 k2 Y2.out
    have Y1 := Lib.hid (Y1.out.below z3)
    have R1 := run_bytes_string x3 A1 r1 k1 Y1.out
    have Y3 := Lib.hid y3
    have R3 := run_bytes_string x3 A3 r2 k3 y3
    clear y3
    refine hK.out _ _ (by exact ⟨R2, R1, q1, q2, q3⟩) (fun hHeld2 => ?_)
    clear hHeld hK K
    try simp only [Act.put, List.setIfInBounds_toArray, List.set_cons_zero, List.set_cons_succ]
    refine wpAnyH_mono (S' := (fun w' => (convert 22 9 (.slice A3 r2.length k3)).run Try.prog w' = .ok (.string ⟨r2.toArray⟩) w' ∧ (convert 22 9 (.slice A2 r1.length k2)).run Try.prog w' = .ok (.string ⟨r1.toArray⟩) w' ∧ (convert 22 9 (.slice A1 r1.length k1)).run Try.prog w' = .ok (.string ⟨r1.toArray⟩) w' ∧ w'.cell? ⟨w.heap.size, 0, none⟩ = some (.int .i64 n) ∧ w'.cell? ⟨w.heap.size, 1, none⟩ = some (.string ⟨s.toArray⟩) ∧ w'.cell? ⟨w.heap.size, 2, none⟩ = some (.slice A L.length ca))) (by exact fun _ h => h.2) _ _ _ _ ?_
    have hHeld : ((fun w' => (convert 22 9 (.slice A3 r2.length k3)).run Try.prog w' = .ok (.string ⟨r2.toArray⟩) w' ∧ (convert 22 9 (.slice A2 r1.length k2)).run Try.prog w' = .ok (.string ⟨r1.toArray⟩) w' ∧ (convert 22 9 (.slice A1 r1.length k1)).run Try.prog w' = .ok (.string ⟨r1.toArray⟩) w' ∧ w'.cell? ⟨w.heap.size, 0, none⟩ = some (.int .i64 n) ∧ w'.cell? ⟨w.heap.size, 1, none⟩ = some (.string ⟨s.toArray⟩) ∧ w'.cell? ⟨w.heap.size, 2, none⟩ = some (.slice A L.length ca))) _ := ⟨R3, R2, R1, q1, q2, q3⟩
    clear hHeld2
    refine wpAnyH_take (i := 16) (oi := _) (v := ?_) (by simp only [List.getElem?_toArray, List.getElem?_cons_succ, List.getElem?_cons_zero]; rfl) (by kernel_rfl) (by kernel_rfl) (by kernel_rfl) (by intro _ _ _ h; exact h) (Or.inl ⟨by rfl, ?_⟩) (by assumption) ?_
    rotate_left
    · (intro w hSw; (try dsimp only at hSw); go_simp; try with_reducible rfl)
    try simp only [Act.put, List.setIfInBounds_toArray, List.set_cons_zero, List.set_cons_succ]
    refine wpAnyH_ready (rs := [20]) (by kernel_rfl) (by simp) ?_
    refine AllReadyH.cons (o := _) (by simp only [List.getElem?_toArray, List.getElem?_cons_succ, List.getElem?_cons_zero]; rfl) (fun K hK => ?_) AllReadyH.nil
    go_simp
    refine (c4 _ HW.out).mono ?_
    rintro e x4 ⟨A4, k4, rfl, y4, z4⟩
    have HW := Lib.hid (Below.step HW.out z4)
    have HT := Lib.hid (HT.out.below z4)
    clear q1 q2 q3
    obtain ⟨_, q1, q2, q3⟩ := HT.out
    have Y3 := Lib.hid (Y3.out.below z4)
    have R3 := run_bytes_string x4 A3 r2 k3 Y3.out
    have Y2 := Lib.hid (Y2.out.below z4)
    have R2 := run_bytes_string x4 A2 r1 k2 Y2.out
    have Y1 := Lib.hid (Y1.out.below z4)
    have R1 := run_bytes_string x4 A1 r1 k1 Y1.out
    have Y4 := Lib.hid y4
    have R4 := run_bytes_string x4 A4 r2 k4 y4
    clear y4
    refine hK.out _ _ (by exact ⟨R3, R2, R1, q1, q2, q3⟩) (fun hHeld2 => ?_)
    clear hHeld hK K
    try simp only [Act.put, List.setIfInBounds_toArray, List.set_cons_zero, List.set_cons_succ]
    refine wpAnyH_mono (S' := (fun w' => (convert 22 9 (.slice A4 r2.length k4)).run Try.prog w' = .ok (.string ⟨r2.toArray⟩) w' ∧ (convert 22 9 (.slice A3 r2.length k3)).run Try.prog w' = .ok (.string ⟨r2.toArray⟩) w' ∧ (convert 22 9 (.slice A2 r1.length k2)).run Try.prog w' = .ok (.string ⟨r1.toArray⟩) w' ∧ (convert 22 9 (.slice A1 r1.length k1)).run Try.prog w' = .ok (.string ⟨r1.toArray⟩) w' ∧ w'.cell? ⟨w.heap.size, 0, none⟩ = some (.int .i64 n) ∧ w'.cell? ⟨w.heap.size, 1, none⟩ = some (.string ⟨s.toArray⟩) ∧ w'.cell? ⟨w.heap.size, 2, none⟩ = some (.slice A L.length ca))) (by exact fun _ h => h.2) _ _ _ _ ?_
    have hHeld : ((fun w' => (convert 22 9 (.slice A4 r2.length k4)).run Try.prog w' = .ok (.string ⟨r2.toArray⟩) w' ∧ (convert 22 9 (.slice A3 r2.length k3)).run Try.prog w' = .ok (.string ⟨r2.toArray⟩) w' ∧ (convert 22 9 (.slice A2 r1.length k2)).run Try.prog w' = .ok (.string ⟨r1.toArray⟩) w' ∧ (convert 22 9 (.slice A1 r1.length k1)).run Try.prog w' = .ok (.string ⟨r1.toArray⟩) w' ∧ w'.cell? ⟨w.heap.size, 0, none⟩ = some (.int .i64 n) ∧ w'.cell? ⟨w.heap.size, 1, none⟩ = some (.string ⟨s.toArray⟩) ∧ w'.cell? ⟨w.heap.size, 2, none⟩ = some (.slice A L.length ca))) _ := ⟨R4, R3, R2, R1, q1, q2, q3⟩
    clear hHeld2
    refine wpAnyH_take (i := 21) (oi := _) (v := ?_) (by simp only [List.getElem?_toArray, List.getElem?_cons_succ, List.getElem?_cons_zero]; rfl) (by kernel_rfl) (by kernel_rfl) (by kernel_rfl) (by intro _ _ _ h; exact h) (Or.inl ⟨by rfl, ?_⟩) (by assumption) ?_
    rotate_left
    · (intro w hSw; (try dsimp only at hSw); go_simp; try with_reducible rfl)
    try simp only [Act.put, List.setIfInBounds_toArray, List.set_cons_zero, List.set_cons_succ]
    refine wpAnyH_take (i := 22) (oi := _) (v := ?_) (by simp only [List.getElem?_toArray, List.getElem?_cons_succ, List.getElem?_cons_zero]; rfl) (by kernel_rfl) (by kernel_rfl) (by kernel_rfl) (by intro _ _ _ h; exact h) (Or.inl ⟨by rfl, ?_⟩) (by assumption) ?_
    rotate_left
    · (intro w hSw; (try dsimp only at hSw); go_simp; try with_reducible rfl)
    try simp only [Act.put, List.setIfInBounds_toArray, List.set_cons_zero, List.set_cons_succ]
    refine wpAnyH_take (i := 23) (oi := _) (v := ?_) (by simp only [List.getElem?_toArray, List.getElem?_cons_succ, List.getElem?_cons_zero]; rfl) (by kernel_rfl) (by kernel_rfl) (by kernel_rfl) (by intro _ _ _ h; exact h) (Or.inl ⟨by rfl, ?_⟩) (by assumption) ?_
    rotate_left
    · (intro w hSw; (try dsimp only at hSw); go_simp; try with_reducible rfl)
    try simp only [Act.put, List.setIfInBounds_toArray, List.set_cons_zero, List.set_cons_succ]
    refine wpAnyH_take (i := 24) (oi := _) (v := ?_) (by simp only [List.getElem?_toArray, List.getElem?_cons_succ, List.getElem?_cons_zero]; rfl) (by kernel_rfl) (by kernel_rfl) (by kernel_rfl) (by intro _ _ _ h; exact h) (Or.inl ⟨by rfl, ?_⟩) (by assumption) ?_
    rotate_left
    · (intro w hSw; (try dsimp only at hSw); go_simp; try with_reducible rfl)
    try simp only [Act.put, List.setIfInBounds_toArray, List.set_cons_zero, List.set_cons_succ]
    refine wpAnyH_take (i := 25) (oi := _) (v := ?_) (by simp only [List.getElem?_toArray, List.getElem?_cons_succ, List.getElem?_cons_zero]; rfl) (by kernel_rfl) (by kernel_rfl) (by kernel_rfl) (by intro _ _ _ h; exact h) (Or.inl ⟨by rfl, ?_⟩) (by assumption) ?_
    rotate_left
    · (intro w hSw; (try dsimp only at hSw); go_simp; try with_reducible rfl)
    try simp only [Act.put, List.setIfInBounds_toArray, List.set_cons_zero, List.set_cons_succ]
    refine wpAnyH_take (i := 26) (oi := _) (v := ?_) (by simp only [List.getElem?_toArray, List.getElem?_cons_succ, List.getElem?_cons_zero]; rfl) (by kernel_rfl) (by kernel_rfl) (by kernel_rfl) (by intro _ _ _ h; exact h) (Or.inl ⟨by rfl, ?_⟩) (by assumption) ?_
    rotate_left
    · (intro w hSw; (try dsimp only at hSw); go_simp; try with_reducible rfl)
    try simp only [Act.put, List.setIfInBounds_toArray, List.set_cons_zero, List.set_cons_succ]
    refine wpAnyH_take (i := 27) (oi := _) (v := ?_) (by simp only [List.getElem?_toArray, List.getElem?_cons_succ, List.getElem?_cons_zero]; rfl) (by kernel_rfl) (by kernel_rfl) (by kernel_rfl) (by intro _ _ _ h; exact h) (Or.inl ⟨by rfl, ?_⟩) (by assumption) ?_
    rotate_left
    · (intro w hSw; (try dsimp only at hSw); go_simp; try with_reducible rfl)
    try simp only [Act.put, List.setIfInBounds_toArray, List.set_cons_zero, List.set_cons_succ]
    refine wpAnyH_take (i := 30) (oi := _) (v := ?_) (by simp only [List.getElem?_toArray, List.getElem?_cons_succ, List.getElem?_cons_zero]; rfl) (by kernel_rfl) (by kernel_rfl) (by kernel_rfl) (by intro _ _ _ h; exact h) (Or.inl ⟨by rfl, ?_⟩) (by assumption) ?_
    rotate_left
    · (intro w hSw; (try dsimp only at hSw); go_simp; try with_reducible rfl)
    try simp only [Act.put, List.setIfInBounds_toArray, List.set_cons_zero, List.set_cons_succ]
    refine wpAnyH_take (i := 31) (oi := _) (v := ?_) (by simp only [List.getElem?_toArray, List.getElem?_cons_succ, List.getElem?_cons_zero]; rfl) (by kernel_rfl) (by kernel_rfl) (by kernel_rfl) (by intro _ _ _ h; exact h) (Or.inl ⟨by rfl, ?_⟩) (by assumption) ?_
    rotate_left
    · (intro w hSw; (try dsimp only at hSw); go_simp; try with_reducible rfl)
    try simp only [Act.put, List.setIfInBounds_toArray, List.set_cons_zero, List.set_cons_succ]
    refine wpAnyH_take (i := 32) (oi := _) (v := ?_) (by simp only [List.getElem?_toArray, List.getElem?_cons_succ, List.getElem?_cons_zero]; rfl) (by kernel_rfl) (by kernel_rfl) (by kernel_rfl) (by intro _ _ _ h; exact h) (Or.inl ⟨by rfl, ?_⟩) (by assumption) ?_
    rotate_left
    · (intro w hSw; (try dsimp only at hSw); go_simp; try with_reducible rfl)
    try simp only [Act.put, List.setIfInBounds_toArray, List.set_cons_zero, List.set_cons_succ]
    refine wpAnyH_ready (rs := [28]) (by kernel_rfl) (by simp) ?_
    refine AllReadyH.cons (o := _) (by simp only [List.getElem?_toArray, List.getElem?_cons_succ, List.getElem?_cons_zero]; rfl) (fun K hK => ?_) AllReadyH.nil
    go_simp
    refine (c5 _ HW.out).mono ?_
    rintro e x5 ⟨A5, k5, rfl, y5, z5⟩
    have HW := Lib.hid (Below.step HW.out z5)
    have HT := Lib.hid (HT.out.below z5)
    clear q1 q2 q3
    obtain ⟨_, q1, q2, q3⟩ := HT.out
    have Y4 := Lib.hid (Y4.out.below z5)
    have R4 := run_bytes_string x5 A4 r2 k4 Y4.out
    have Y3 := Lib.hid (Y3.out.below z5)
    have R3 := run_bytes_string x5 A3 r2 k3 Y3.out
    have Y2 := Lib.hid (Y2.out.below z5)
    have R2 := run_bytes_string x5 A2 r1 k2 Y2.out
    have Y1 := Lib.hid (Y1.out.below z5)
    have R1 := run_bytes_string x5 A1 r1 k1 Y1.out
    have Y5 := Lib.hid y5
    have R5 := run_bytes_string x5 A5 r3 k5 y5
    clear y5
    refine hK.out _ _ (by exact ⟨R4, R3, R2, R1, q1, q2, q3⟩) (fun hHeld2 => ?_)
    clear hHeld hK K
    try simp only [Act.put, List.setIfInBounds_toArray, List.set_cons_zero, List.set_cons_succ]
    refine wpAnyH_mono (S' := (fun w' => (convert 22 9 (.slice A5 r3.length k5)).run Try.prog w' = .ok (.string ⟨r3.toArray⟩) w' ∧ (convert 22 9 (.slice A4 r2.length k4)).run Try.prog w' = .ok (.string ⟨r2.toArray⟩) w' ∧ (convert 22 9 (.slice A3 r2.length k3)).run Try.prog w' = .ok (.string ⟨r2.toArray⟩) w' ∧ (convert 22 9 (.slice A2 r1.length k2)).run Try.prog w' = .ok (.string ⟨r1.toArray⟩) w' ∧ (convert 22 9 (.slice A1 r1.length k1)).run Try.prog w' = .ok (.string ⟨r1.toArray⟩) w' ∧ w'.cell? ⟨w.heap.size, 0, none⟩ = some (.int .i64 n) ∧ w'.cell? ⟨w.heap.size, 1, none⟩ = some (.string ⟨s.toArray⟩) ∧ w'.cell? ⟨w.heap.size, 2, none⟩ = some (.slice A L.length ca))) (by exact fun _ h => h.2) _ _ _ _ ?_
    have hHeld : ((fun w' => (convert 22 9 (.slice A5 r3.length k5)).run Try.prog w' = .ok (.string ⟨r3.toArray⟩) w' ∧ (convert 22 9 (.slice A4 r2.length k4)).run Try.prog w' = .ok (.string ⟨r2.toArray⟩) w' ∧ (convert 22 9 (.slice A3 r2.length k3)).run Try.prog w' = .ok (.string ⟨r2.toArray⟩) w' ∧ (convert 22 9 (.slice A2 r1.length k2)).run Try.prog w' = .ok (.string ⟨r1.toArray⟩) w' ∧ (convert 22 9 (.slice A1 r1.length k1)).run Try.prog w' = .ok (.string ⟨r1.toArray⟩) w' ∧ w'.cell? ⟨w.heap.size, 0, none⟩ = some (.int .i64 n) ∧ w'.cell? ⟨w.heap.size, 1, none⟩ = some (.string ⟨s.toArray⟩) ∧ w'.cell? ⟨w.heap.size, 2, none⟩ = some (.slice A L.length ca))) _ := ⟨R5, R4, R3, R2, R1, q1, q2, q3⟩
    clear hHeld2
    refine wpAnyH_take (i := 29) (oi := _) (v := ?_) (by simp only [List.getElem?_toArray, List.getElem?_cons_succ, List.getElem?_cons_zero]; rfl) (by kernel_rfl) (by kernel_rfl) (by kernel_rfl) (by intro _ _ _ h; exact h) (Or.inl ⟨by rfl, ?_⟩) (by assumption) ?_
    rotate_left
    · (intro w hSw; (try dsimp only at hSw); go_simp; try with_reducible rfl)
    try simp only [Act.put, List.setIfInBounds_toArray, List.set_cons_zero, List.set_cons_succ]
    refine wpAnyH_ready (rs := [33]) (by kernel_rfl) (by simp) ?_
    refine AllReadyH.cons (o := _) (by simp only [List.getElem?_toArray, List.getElem?_cons_succ, List.getElem?_cons_zero]; rfl) (fun K hK => ?_) AllReadyH.nil
    go_simp
    refine (c6 _ HW.out).mono ?_
    rintro e x6 ⟨A6, k6, rfl, y6, z6⟩
    have HW := Lib.hid (Below.step HW.out z6)
    have HT := Lib.hid (HT.out.below z6)
    clear q1 q2 q3
    obtain ⟨_, q1, q2, q3⟩ := HT.out
    have Y5 := Lib.hid (Y5.out.below z6)
    have R5 := run_bytes_string x6 A5 r3 k5 Y5.out
    have Y4 := Lib.hid (Y4.out.below z6)
    have R4 := run_bytes_string x6 A4 r2 k4 Y4.out
    have Y3 := Lib.hid (Y3.out.below z6)
    have R3 := run_bytes_string x6 A3 r2 k3 Y3.out
    have Y2 := Lib.hid (Y2.out.below z6)
    have R2 := run_bytes_string x6 A2 r1 k2 Y2.out
    have Y1 := Lib.hid (Y1.out.below z6)
    have R1 := run_bytes_string x6 A1 r1 k1 Y1.out
    have Y6 := Lib.hid y6
    have R6 := run_bytes_string x6 A6 r3 k6 y6
    clear y6
    refine hK.out _ _ (by exact ⟨R5, R4, R3, R2, R1, q1, q2, q3⟩) (fun hHeld2 => ?_)
    clear hHeld hK K
    try simp only [Act.put, List.setIfInBounds_toArray, List.set_cons_zero, List.set_cons_succ]
    refine wpAnyH_mono (S' := (fun w' => (convert 22 9 (.slice A6 r3.length k6)).run Try.prog w' = .ok (.string ⟨r3.toArray⟩) w' ∧ (convert 22 9 (.slice A5 r3.length k5)).run Try.prog w' = .ok (.string ⟨r3.toArray⟩) w' ∧ (convert 22 9 (.slice A4 r2.length k4)).run Try.prog w' = .ok (.string ⟨r2.toArray⟩) w' ∧ (convert 22 9 (.slice A3 r2.length k3)).run Try.prog w' = .ok (.string ⟨r2.toArray⟩) w' ∧ (convert 22 9 (.slice A2 r1.length k2)).run Try.prog w' = .ok (.string ⟨r1.toArray⟩) w' ∧ (convert 22 9 (.slice A1 r1.length k1)).run Try.prog w' = .ok (.string ⟨r1.toArray⟩) w' ∧ w'.cell? ⟨w.heap.size, 0, none⟩ = some (.int .i64 n) ∧ w'.cell? ⟨w.heap.size, 1, none⟩ = some (.string ⟨s.toArray⟩) ∧ w'.cell? ⟨w.heap.size, 2, none⟩ = some (.slice A L.length ca))) (by exact fun _ h => h.2) _ _ _ _ ?_
    have hHeld : ((fun w' => (convert 22 9 (.slice A6 r3.length k6)).run Try.prog w' = .ok (.string ⟨r3.toArray⟩) w' ∧ (convert 22 9 (.slice A5 r3.length k5)).run Try.prog w' = .ok (.string ⟨r3.toArray⟩) w' ∧ (convert 22 9 (.slice A4 r2.length k4)).run Try.prog w' = .ok (.string ⟨r2.toArray⟩) w' ∧ (convert 22 9 (.slice A3 r2.length k3)).run Try.prog w' = .ok (.string ⟨r2.toArray⟩) w' ∧ (convert 22 9 (.slice A2 r1.length k2)).run Try.prog w' = .ok (.string ⟨r1.toArray⟩) w' ∧ (convert 22 9 (.slice A1 r1.length k1)).run Try.prog w' = .ok (.string ⟨r1.toArray⟩) w' ∧ w'.cell? ⟨w.heap.size, 0, none⟩ = some (.int .i64 n) ∧ w'.cell? ⟨w.heap.size, 1, none⟩ = some (.string ⟨s.toArray⟩) ∧ w'.cell? ⟨w.heap.size, 2, none⟩ = some (.slice A L.length ca))) _ := ⟨R6, R5, R4, R3, R2, R1, q1, q2, q3⟩
    clear hHeld2
    refine wpAnyH_take (i := 34) (oi := _) (v := ?_) (by simp only [List.getElem?_toArray, List.getElem?_cons_succ, List.getElem?_cons_zero]; rfl) (by kernel_rfl) (by kernel_rfl) (by kernel_rfl) (by intro _ _ _ h; exact h) (Or.inl ⟨by rfl, ?_⟩) (by assumption) ?_
    rotate_left
    · (intro w hSw; (try dsimp only at hSw); go_simp; try with_reducible rfl)
    try simp only [Act.put, List.setIfInBounds_toArray, List.set_cons_zero, List.set_cons_succ]
    refine wpAnyH_take (i := 35) (oi := _) (v := ?_) (by simp only [List.getElem?_toArray, List.getElem?_cons_succ, List.getElem?_cons_zero]; rfl) (by kernel_rfl) (by kernel_rfl) (by kernel_rfl) (by intro _ _ _ h; exact h) (Or.inl ⟨by rfl, ?_⟩) (by assumption) ?_
    rotate_left
    · (intro w hSw; (try dsimp only at hSw); go_simp; try with_reducible rfl)
    try simp only [Act.put, List.setIfInBounds_toArray, List.set_cons_zero, List.set_cons_succ]
    refine wpAnyH_take (i := 36) (oi := _) (v := ?_) (by simp only [List.getElem?_toArray, List.getElem?_cons_succ, List.getElem?_cons_zero]; rfl) (by kernel_rfl) (by kernel_rfl) (by kernel_rfl) (by intro _ _ _ h; exact h) (Or.inl ⟨by rfl, ?_⟩) (by assumption) ?_
    rotate_left
    · (intro w hSw; (try dsimp only at hSw); go_simp; try with_reducible rfl)
    try simp only [Act.put, List.setIfInBounds_toArray, List.set_cons_zero, List.set_cons_succ]
    refine wpAnyH_take (i := 37) (oi := _) (v := ?_) (by simp only [List.getElem?_toArray, List.getElem?_cons_succ, List.getElem?_cons_zero]; rfl) (by kernel_rfl) (by kernel_rfl) (by kernel_rfl) (by intro _ _ _ h; exact h) (Or.inl ⟨by rfl, ?_⟩) (by assumption) ?_
    rotate_left
    · (intro w hSw; (try dsimp only at hSw); go_simp; try with_reducible rfl)
    try simp only [Act.put, List.setIfInBounds_toArray, List.set_cons_zero, List.set_cons_succ]
    refine wpAnyH_ready (rs := [38]) (by kernel_rfl) (by simp) ?_
    refine AllReadyH.cons (o := _) (by simp only [List.getElem?_toArray, List.getElem?_cons_succ, List.getElem?_cons_zero]; rfl) (fun K hK => ?_) AllReadyH.nil
    go_simp
    refine (awake_any _).mono ?_
    rintro e x7 ⟨rfl, z7⟩
    have HW := Lib.hid (Below.step HW.out z7)
    have HT := Lib.hid (HT.out.below z7)
    clear q1 q2 q3
    obtain ⟨_, q1, q2, q3⟩ := HT.out
    have Y6 := Lib.hid (Y6.out.below z7)
    have R6 := run_bytes_string x7 A6 r3 k6 Y6.out
    have Y5 := Lib.hid (Y5.out.below z7)
    have R5 := run_bytes_string x7 A5 r3 k5 Y5.out
    have Y4 := Lib.hid (Y4.out.below z7)
    have R4 := run_bytes_string x7 A4 r2 k4 Y4.out
    have Y3 := Lib.hid (Y3.out.below z7)
    have R3 := run_bytes_string x7 A3 r2 k3 Y3.out
    have Y2 := Lib.hid (Y2.out.below z7)
    have R2 := run_bytes_string x7 A2 r1 k2 Y2.out
    have Y1 := Lib.hid (Y1.out.below z7)
    have R1 := run_bytes_string x7 A1 r1 k1 Y1.out
    refine hK.out _ _ (by exact ⟨R6, R5, R4, R3, R2, R1, q1, q2, q3⟩) (fun hHeld2 => ?_)
    clear hHeld hK K
    try simp only [Act.put, List.setIfInBounds_toArray, List.set_cons_zero, List.set_cons_succ]
    have hHeld := hHeld2
    clear hHeld2
    refine wpAnyH_take (i := 39) (oi := _) (v := ?_) (by simp only [List.getElem?_toArray, List.getElem?_cons_succ, List.getElem?_cons_zero]; rfl) (by kernel_rfl) (by kernel_rfl) (by kernel_rfl) (by intro _ _ _ h; exact h) (Or.inl ⟨by rfl, ?_⟩) (by assumption) ?_
    rotate_left
    · (intro w hSw; (try dsimp only at hSw); go_simp; try with_reducible rfl)
    try simp only [Act.put, List.setIfInBounds_toArray, List.set_cons_zero, List.set_cons_succ]
    refine wpAnyH_take (i := 40) (oi := _) (v := ?_) (by simp only [List.getElem?_toArray, List.getElem?_cons_succ, List.getElem?_cons_zero]; rfl) (by kernel_rfl) (by kernel_rfl) (by kernel_rfl) (by intro _ _ _ h; exact h) (Or.inl ⟨by rfl, ?_⟩) (by assumption) ?_
    rotate_left
    · (intro w hSw; (try dsimp only at hSw); go_simp; try with_reducible rfl)
    try simp only [Act.put, List.setIfInBounds_toArray, List.set_cons_zero, List.set_cons_succ]
    refine wpAnyH_done (by kernel_rfl) ?_ _
    go_wp2
    go_ret
    exact Ret.mk rfl HW.out
  · have HF := Lib.hid hf
    clear hf
    go_enter Try.func3, Try.ntmps3
    go_wp2_with fail
    refine (few_is HF.out B A cb ca _).mono ?_
    rintro e w1 ⟨rfl, h1⟩
    go_wp2_with fail
    refine (awake_any _).mono ?_
    rintro e w4 ⟨rfl, h4⟩
    go_wp2
    go_ret
    exact Ret.mk rfl (by repeat (first | assumption | exact Below.refl _ _ | refine Below.alloc ?_ (by first | omega | (simp; done) | (simp; omega)) _ | refine Below.setCell ?_ (by first | omega | (simp; done) | (simp; omega)) _ | refine Below.drew ?_ | refine Below.drewN_ ?_ _ | refine Below.step ?_ (by assumption)))
end Go.Proofs.Ythfcegfmciaajaa
