/- The law ClockVectors: its walk. -/
import Derived.Test.YtpannehdgmcmkaaClockL5
namespace Go.Proofs.Ytpannehdgmcmkaa
open Go.RowKit

/-- Which call of the region comes next. -/
structure Step (n : Nat) : Prop where
  ok : True
theorem rjoin_row (a b : List Int) {A B : Option Addr} (ca cb : Nat) {w : World} (ha : Ints w A a) (hb : Ints w B b) :
    Calls Try.prog 27 #[.slice A a.length ca, .slice B b.length cb] w (RetRow (joinL a b) w) := (rjoin_any a b A B ca cb w ha hb).mono fun _ _ h => RetRow.of (joinL_len _ _) h
theorem same_row {l : List Int} (hl : l.length = 15) {A B : Option Addr} (ca cb : Nat) {w : World} (ha : Ints w A l) (hb : Ints w B l) :
    Calls Try.prog 25 #[.slice A 15 ca, .slice B 15 cb] w (Ret (.bool true) w) := by
  have := same_yes l A B ca cb w ha hb (by rw [hl]; decide)
  rwa [hl] at this

set_option maxHeartbeats 1000000 in
theorem vectors_yes (w : World) (a : List Int) (A : Option Addr) (ca : Nat) (ha : Ints w A a) (b : List Int) (B : Option Addr) (cb : Nat) (hb : Ints w B b) (sc sd : Int) (hfew : (decide (a.length ≤ 100) && decide (b.length ≤ 100)) = true) :
    Calls Try.prog 4 #[.slice A a.length ca, .slice B b.length cb, .agg #[.int .i64 sc, .int .i64 sd]] w (Ret (.bool true) w) := by
  have HF := Lib.hid hfew
  have HJ := Lib.hid (joinL_len a b)
  have HL := Lib.hid (seeL_len a sc sd)
  clear hfew
  have ha0 := ha.alloc (.cells #[.int .i64 sc, .int .i64 sd] 23)
  have hb0 := hb.alloc (.cells #[.int .i64 sc, .int .i64 sd] 23)
  go_enter Try.func4, Try.ntmps4
  go_wp2_with fail
  refine (few_two HF.out A B ca cb _).mono ?_
  rintro e w1 ⟨rfl, hb1⟩
  obtain ⟨p0, p1, p2⟩ := (Two.new w _ rfl sc sd 23).below hb1
  have HA := Lib.hid ((ha0.below hb1).drew)
  have HB := Lib.hid ((hb0.below hb1).drew)
  have HW : Hid (Below w.heap.size w w1.drew) := Lib.hid (by repeat (first | assumption | exact Below.refl _ _ | refine Below.alloc ?_ (by first | omega | (simp; done) | (simp; omega)) _ | refine Below.setCell ?_ (by first | omega | (simp; done) | (simp; omega)) _ | refine Below.drew ?_ | refine Below.drewN_ ?_ _ | refine Below.step ?_ (by assumption)))
  have st : Step 1 := ⟨trivial⟩
  clear ha hb ha0 hb0
  go_wp2_with fail
  go_region_held3 (fun w' => w'.cell? ⟨w.heap.size, 0, none⟩ = some (.int .i64 sc) ∧ w'.cell? ⟨w.heap.size, 1, none⟩ = some (.int .i64 sd))
    (first | exact ⟨‹_›, ‹_›⟩)
    (first
      | (go_at_call 21; have _q : Step 1 := st; clear st _q; refine (covers_any a A ca sc sd _ HA.out).mono ?_; rintro e x1 ⟨rfl, y1⟩; have n11 := ((bcell y1).1 _ _ (by exact p0)).trans p1; have n12 := ((bcell y1).1 _ _ (by exact p0)).trans p2; have n10 := Nat.lt_of_lt_of_le p0 y1.size; have HA := Lib.hid (Ints.below HA.out y1); have HB := Lib.hid (Ints.below HB.out y1); have HW := Lib.hid (Below.step HW.out y1); have st : Step 2 := ⟨trivial⟩)
      | (go_at_call 22; have _q : Step 2 := st; clear st _q; refine (rcovers_any a A ca sc sd _ HA.out).mono ?_; rintro e x2 ⟨rfl, y2⟩; have n21 := ((bcell y2).1 _ _ (by exact n10)).trans n11; have n22 := ((bcell y2).1 _ _ (by exact n10)).trans n12; have n20 := Nat.lt_of_lt_of_le n10 y2.size; have HA := Lib.hid (Ints.below HA.out y2); have HB := Lib.hid (Ints.below HB.out y2); have HW := Lib.hid (Below.step HW.out y2); have st : Step 3 := ⟨trivial⟩)
      | (go_at_call 23; have _q : Step 3 := st; clear st _q; refine (leq_any a b A B ca cb _ HA.out HB.out).mono ?_; rintro e x3 ⟨rfl, y3⟩; have n31 := ((bcell y3).1 _ _ (by exact n20)).trans n21; have n32 := ((bcell y3).1 _ _ (by exact n20)).trans n22; have n30 := Nat.lt_of_lt_of_le n20 y3.size; have HA := Lib.hid (Ints.below HA.out y3); have HB := Lib.hid (Ints.below HB.out y3); have HW := Lib.hid (Below.step HW.out y3); have st : Step 4 := ⟨trivial⟩)
      | (go_at_call 24; have _q : Step 4 := st; clear st _q; refine (rleq_any a b A B ca cb _ HA.out HB.out).mono ?_; rintro e x4 ⟨rfl, y4⟩; have n41 := ((bcell y4).1 _ _ (by exact n30)).trans n31; have n42 := ((bcell y4).1 _ _ (by exact n30)).trans n32; have n40 := Nat.lt_of_lt_of_le n30 y4.size; have HA := Lib.hid (Ints.below HA.out y4); have HB := Lib.hid (Ints.below HB.out y4); have HW := Lib.hid (Below.step HW.out y4); have st : Step 5 := ⟨trivial⟩)
      | (go_at_call 26; have _q : Step 5 := st; clear st _q; refine (join_row a b ca cb HA.out HB.out).mono ?_; rintro e x5 ⟨g1, k1, rfl, _, hown, y5⟩; have n51 := ((bcell y5).1 _ _ (by exact n40)).trans n41; have n52 := ((bcell y5).1 _ _ (by exact n40)).trans n42; have n50 := Nat.lt_of_lt_of_le n40 y5.size; have HA := Lib.hid (Ints.below HA.out y5); have HB := Lib.hid (Ints.below HB.out y5); have HW := Lib.hid (Below.step HW.out y5); have O1 := Lib.hid hown; clear hown; have st : Step 6 := ⟨trivial⟩)
      | (go_at_call 27; have _q : Step 6 := st; clear st _q; refine (rjoin_row a b ca cb HA.out HB.out).mono ?_; rintro e x6 ⟨g2, k2, rfl, _, hown, y6⟩; have n61 := ((bcell y6).1 _ _ (by exact n50)).trans n51; have n62 := ((bcell y6).1 _ _ (by exact n50)).trans n52; have n60 := Nat.lt_of_lt_of_le n50 y6.size; have HA := Lib.hid (Ints.below HA.out y6); have HB := Lib.hid (Ints.below HB.out y6); have HW := Lib.hid (Below.step HW.out y6); have O1 := Lib.hid (own_below O1.out y6); have O2 := Lib.hid hown; clear hown; have st : Step 7 := ⟨trivial⟩)
      | (go_at_call 25; have _q : Step 7 := st; clear st _q; refine (same_row HJ.out k1 k2 (Ints.of_row HJ.out O1.out) (Ints.of_row HJ.out O2.out)).mono ?_; rintro e x7 ⟨rfl, y7⟩; have n71 := ((bcell y7).1 _ _ (by exact n60)).trans n61; have n72 := ((bcell y7).1 _ _ (by exact n60)).trans n62; have n70 := Nat.lt_of_lt_of_le n60 y7.size; have HA := Lib.hid (Ints.below HA.out y7); have HB := Lib.hid (Ints.below HB.out y7); have HW := Lib.hid (Below.step HW.out y7); have st : Step 8 := ⟨trivial⟩)
      | (go_at_call 28; have _q : Step 8 := st; clear st _q; refine (see_any a A ca sc sd _ HA.out).mono ?_; rintro e x8 ⟨g3, k3, rfl, _, hown, y8⟩; have n81 := ((bcell y8).1 _ _ (by exact n70)).trans n71; have n82 := ((bcell y8).1 _ _ (by exact n70)).trans n72; have n80 := Nat.lt_of_lt_of_le n70 y8.size; have HA := Lib.hid (Ints.below HA.out y8); have HB := Lib.hid (Ints.below HB.out y8); have HW := Lib.hid (Below.step HW.out y8); have O3 := Lib.hid hown; clear hown; have st : Step 9 := ⟨trivial⟩)
      | (go_at_call 29; have _q : Step 9 := st; clear st _q; refine (rsee_any a A ca sc sd _ HA.out).mono ?_; rintro e x9 ⟨g4, k4, rfl, _, hown, y9⟩; have n91 := ((bcell y9).1 _ _ (by exact n80)).trans n81; have n92 := ((bcell y9).1 _ _ (by exact n80)).trans n82; have n90 := Nat.lt_of_lt_of_le n80 y9.size; have HA := Lib.hid (Ints.below HA.out y9); have HB := Lib.hid (Ints.below HB.out y9); have HW := Lib.hid (Below.step HW.out y9); have O3 := Lib.hid (own_below O3.out y9); have O4 := Lib.hid hown; clear hown; have st : Step 10 := ⟨trivial⟩)
      | (go_at_call 25; have _q : Step 10 := st; clear st _q; refine (same_row HL.out k3 k4 (Ints.of_row HL.out O3.out) (Ints.of_row HL.out O4.out)).mono ?_; rintro e x10 ⟨rfl, y10⟩; have n101 := ((bcell y10).1 _ _ (by exact n90)).trans n91; have n102 := ((bcell y10).1 _ _ (by exact n90)).trans n92; have n100 := Nat.lt_of_lt_of_le n90 y10.size; have HA := Lib.hid (Ints.below HA.out y10); have HB := Lib.hid (Ints.below HB.out y10); have HW := Lib.hid (Below.step HW.out y10); have st : Step 11 := ⟨trivial⟩)
      | (go_at_call 19; have _q : Step 11 := st; clear st _q; refine (awake_any _).mono ?_; rintro e x11 ⟨rfl, y11⟩; have n111 := ((bcell y11).1 _ _ (by exact n100)).trans n101; have n112 := ((bcell y11).1 _ _ (by exact n100)).trans n102; have n110 := Nat.lt_of_lt_of_le n100 y11.size; have HA := Lib.hid (Ints.below HA.out y11); have HB := Lib.hid (Ints.below HB.out y11); have HW := Lib.hid (Below.step HW.out y11); have st : Step 12 := ⟨trivial⟩))
  go_wp2
  go_ret
  exact Ret.mk rfl HW.out

set_option maxHeartbeats 1000000 in
theorem vectors_many (w : World) (a : List Int) (A : Option Addr) (ca : Nat) (b : List Int) (B : Option Addr) (cb : Nat) (sc sd : Int) (hfew : (decide (a.length ≤ 100) && decide (b.length ≤ 100)) = false) :
    Calls Try.prog 4 #[.slice A a.length ca, .slice B b.length cb, .agg #[.int .i64 sc, .int .i64 sd]] w (Ret (.bool true) w) := by
  have HF := Lib.hid hfew
  clear hfew
  go_enter Try.func4, Try.ntmps4
  go_wp2_with fail
  refine (few_two HF.out A B ca cb _).mono ?_
  rintro e w1 ⟨rfl, hb1⟩
  go_wp2_with fail
  refine (awake_any _).mono ?_
  rintro e w3 ⟨rfl, hb3⟩
  go_wp2
  go_ret
  exact Ret.mk rfl (by repeat (first | assumption | exact Below.refl _ _ | refine Below.alloc ?_ (by first | omega | (simp; done) | (simp; omega)) _ | refine Below.setCell ?_ (by first | omega | (simp; done) | (simp; omega)) _ | refine Below.drew ?_ | refine Below.drewN_ ?_ _ | refine Below.step ?_ (by assumption)))

theorem vectors_walk (w : World) (a : List Int) (A : Option Addr) (ca : Nat) (_ : Fit a) (_ : a.length ≤ maxLen) (ha : Ints w A a) (b : List Int) (B : Option Addr) (cb : Nat) (_ : Fit b) (_ : b.length ≤ maxLen) (hb : Ints w B b)
    (sc sd : Int) (_ : Fits sc) (_ : Fits sd) : Calls Try.prog 4 #[.slice A a.length ca, .slice B b.length cb, .agg #[.int .i64 sc, .int .i64 sd]] w (Ret (.bool true) w) := by
  rcases Bool.eq_false_or_eq_true (decide (a.length ≤ 100) && decide (b.length ≤ 100)) with h | h
  · exact vectors_yes w a A ca ha b B cb hb sc sd h
  · exact vectors_many w a A ca b B cb sc sd h
end Go.Proofs.Ytpannehdgmcmkaa
