/- The law WireApart: its walk. -/
import Derived.Test.YthfcegfmciaajaaWireAg
import Derived.Test.YthfcegfmciaajaaBlk
namespace Go.Proofs.Ythfcegfmciaajaa
open Go.RowKit

/-- The block of a row of the call's own that is not empty. -/
theorem own_blk {w : World} {base : Nat} {e : TypeId} {n c : Nat} {A : Option Addr} {xs : List Value} (h : w.ownsRow base e 1 (.slice A n c) n xs) (hn : 0 < n) :
    ∃ g cur, A = some ⟨g, 0, none⟩ ∧ base ≤ g ∧ Blk w g e cur ∧ n ≤ cur.size := by
  rcases h.2 with ⟨e1, h0⟩ | ⟨g, cap, cur, e1, hb, hk, hc, _, hs, _⟩
  · omega
  · injection e1 with e1 e2 e3
    exact ⟨g, cur, e1, hb, hk, by omega⟩
theorem put_own (l b : List UInt8) (hp : l.take b.length = b) (hl' : b.length ≤ l.length) (B : Option Addr) (cb : Nat) (n : Int) (hn : Fits n) (w : World) (hb : Bytes w B l) (hl : b.length ≤ 300) :
    Calls Try.prog 12 #[.slice B b.length cb, .int .i64 n] w (RetOwn w.heap.size (b ++ encI n) w) := by
  have := put_any (l.take b.length) B cb n hn w (hb.take_ _) (by rw [len_take hl']; omega)
  rw [len_take hl', hp] at this
  exact this
theorem ptext_own (l b : List UInt8) (hp : l.take b.length = b) (hl' : b.length ≤ l.length) (B : Option Addr) (cb : Nat) (s : List UInt8) (hs : s.length ≤ 300) (w : World) (hb : Bytes w B l) (hl : b.length ≤ 300) :
    Calls Try.prog 14 #[.slice B b.length cb, .string ⟨s.toArray⟩] w (RetOwn w.heap.size (b ++ encI s.length ++ s) w) := by
  have := ptext_any (l.take b.length) B cb s (by omega) w (hb.take_ _) (by rw [len_take hl']; omega)
  rw [len_take hl', hp] at this
  exact this
theorem puts_own (l b : List UInt8) (hp : l.take b.length = b) (hl' : b.length ≤ l.length) (B : Option Addr) (cb : Nat) (L : List Int) (A : Option Addr) (ca : Nat) (hf : Fit L) (hL : L.length ≤ 300) (w : World) (hb : Bytes w B l) (hI : Ints w A L) (hl : b.length ≤ 300) :
    Calls Try.prog 16 #[.slice B b.length cb, .slice A L.length ca] w (RetOwn w.heap.size (b ++ encI L.length ++ encs L) w) := by
  have := puts_any (l.take b.length) B cb L A ca hf (by omega) w (hb.take_ _) hI (by rw [len_take hl']; omega)
  rw [len_take hl', hp] at this
  exact this

set_option maxRecDepth 20000 in
set_option maxHeartbeats 8000000 in
theorem apart_yes (w : World) (b : List UInt8) (B : Option Addr) (cb : Nat) (hb : Bytes w B b) (n : Int) (hn : Fits n) (s : List UInt8) (L : List Int) (A : Option Addr) (ca : Nat) (hfit : Fit L) (hL : Ints w A L) (hf : fewB b s L = true) :
    Calls Try.prog 9 #[.slice B b.length cb, .agg #[.int .i64 n, .string ⟨s.toArray⟩, .slice A L.length ca]] w (Ret (.bool true) w) := by
  have HF := Lib.hid hf
  obtain ⟨l1, l2, l3⟩ := few_parts' hf
  clear hf
  have T0 := Thing'.new w n ⟨s.toArray⟩ (.slice A L.length ca) 25
  have b0 : Below w.heap.size w (w.alloc (.cells #[.int .i64 n, .string ⟨s.toArray⟩, .slice A L.length ca] 25)) := (by repeat (first | assumption | exact Below.refl _ _ | refine Below.alloc ?_ (by first | omega | (simp; done) | (simp; omega)) _ | refine Below.setCell ?_ (by first | omega | (simp; done) | (simp; omega)) _ | refine Below.drew ?_ | refine Below.drewN_ ?_ _ | refine Below.step ?_ (by assumption)))
  obtain ⟨i0, hi0, hz0, hz1, hz2⟩ := info_parts info_u8
  go_enter Try.func9, Try.ntmps9
  go_wp2_with fail
  refine (few_is HF.out B A cb ca _).mono ?_
  rintro e w1 ⟨rfl, h1⟩
  have HW := Lib.hid (Below.step b0 h1)
  have HT := Lib.hid (T0.below h1)
  have HB := Lib.hid (hb.below HW.out)
  go_wp2_with (first
    | (at_builtin
       refine wpList_append_any _ rfl _ _ _ rfl w1.heap.size 5 i0 _ 1 1 Try.underlying22 hi0 hz0 hz1 hz2 rfl (by omega) _ 0 [] rfl (own_empty w1 _) w1.heap.size B b.length cb _ rfl (Reads.alloc HB.out (Nat.le_refl _) _) (one_u8 b) (by simp only [maxLen]; omega) (by omega) (by simp) ?_
       intro v2 w2 hown2 hg2 hat2
       have hb2 : Below w1.heap.size w1 w2 := ((Below.refl _ _).alloc (Nat.le_refl _) _).trans ((Below.refl _ _).grown hg2 (by simp) (fun k hk => by have h : some w1.heap.size = some k := hk; injection h with h; omega)))
    | (at_builtin
       have hr3 := Bytes.new w2 [1, 2, 3, 4, 5, 6, 7, 8, 9, 10] 5
       refine wpList_append_any _ rfl _ _ _ rfl w1.heap.size 5 i0 _ 1 1 Try.underlying22 hi0 hz0 hz1 hz2 rfl (by omega) v2 (0 + b.length) ([] ++ _) rfl
         (hown2.alloc _) _ (some ⟨w2.heap.size, 0, none⟩) 10 10 _ rfl hr3 (one_u8 _) (by simp only [maxLen]; omega) (by omega) (by have := hb2.size; simp; omega) ?_
       intro v3 w3 hown3 hg3 hat3
       obtain ⟨R, kr, rfl⟩ := own_form hown3
       have hZ := Bytes.of_own (l := b ++ [1, 2, 3, 4, 5, 6, 7, 8, 9, 10]) (n := 0 + b.length + 10) (by simp) (by simpa [u8s] using hown3)
       have hcv := run_bytes_string w3 R _ kr hZ
       rw [show (b ++ [1, 2, 3, 4, 5, 6, 7, 8, 9, 10] : List UInt8).length = b.length + 10 by simp] at hcv
       rw [Nat.zero_add]
       generalize hrr : (b ++ [1, 2, 3, 4, 5, 6, 7, 8, 9, 10] : List UInt8) = r at *
       have HRR := Lib.hid hrr
       clear hrr))
  have hb3 : Below w1.heap.size w1 w3 := (hb2.alloc hb2.size _).grown hg3 (by have := hb2.size; simp; omega) (fun k hk => ((hown2.lt k hk).1))
  have hkr := own_cap hown3
  have HW := Lib.hid (Below.step HW.out hb3)
  have HT := Lib.hid (HT.out.below hb3)
  have HL := Lib.hid (hL.below HW.out)
  clear hown2 hg2 hat2 hown3 hg3 hat3 hb2 hb3 HB hb hL
  have hrt : r.take b.length = b := by rw [← HRR.out, List.take_append_of_le_length (Nat.le_refl _), List.take_length]
  have hrl : r.length = b.length + 10 := by rw [← HRR.out]; simp
  have hbr : b.length ≤ r.length := by omega
  have hrl' : r.length ≤ 310 := by omega
  have HR := Lib.hid hrl
  have hbk : b.length ≤ kr := by omega
  have hbk2 : (b.length : Int) ≤ (kr : Int) := by omega
  have hbk3 : (0 : Int) ≤ (b.length : Int) := by omega
  have c1 := fun w' h => put_own r b hrt hbr R kr n hn w' h l1
  have c2 := fun w' h => ptext_own r b hrt hbr R kr s l2 w' h l1
  have c3 := fun w' h hI => puts_own r b hrt hbr R kr L A ca hfit (by omega) w' h hI l1
  have p1 : 0 < (b ++ encI n).length := by rw [List.length_append]; have := encU_pos 9 (Lib.zigzag n); unfold encI; omega
  have p2 : 0 < (b ++ encI s.length ++ s).length := by rw [List.length_append, List.length_append]; have := encU_pos 9 (Lib.zigzag s.length); unfold encI; omega
  have p3 : 0 < (b ++ encI L.length ++ encs L).length := by rw [List.length_append, List.length_append]; have := encU_pos 9 (Lib.zigzag L.length); unfold encI; omega
  have n1 : (b ++ encI n).length ≤ 400 := by rw [List.length_append]; have := encI_len n; omega
  have n2 : (b ++ encI s.length ++ s).length ≤ 700 := by rw [List.length_append, List.length_append]; have := encI_len s.length; omega
  have n3 : (b ++ encI L.length ++ encs L).length ≤ 1500 := by rw [List.length_append, List.length_append]; have := encI_len L.length; have := encs_len L; omega
  have e1 : b.length ≤ (b ++ encI n).length := by rw [List.length_append]; omega
  have e2 : b.length ≤ (b ++ encI s.length ++ s).length := by rw [List.length_append, List.length_append]; omega
  have e3 : b.length ≤ (b ++ encI L.length ++ encs L).length := by rw [List.length_append, List.length_append]; omega
  generalize b ++ encI n = r1 at *
  generalize b ++ encI s.length ++ s = r2 at *
  generalize b ++ encI L.length ++ encs L = r3 at *
  clear hrl hrt T0 h1 b0
  have hZ0 := Lib.hid hZ
  have HW3 := Lib.hid HW.out
  have HZ : Hid (Bytes w3.drew R r) := Lib.hid hZ
  have HW := Lib.hid HW.out.drew
  have HT := Lib.hid (HT.out.below (Below.refl _ w3).drew)
  have HL : Hid (Ints w3.drew A L) := Lib.hid HL.out
  obtain ⟨_, q1, q2, q3⟩ := HT.out
  clear hZ
  go_wp2_with fail
  go_region_held3 (fun w' => w'.cell? ⟨w.heap.size, 0, none⟩ = some (.int .i64 n) ∧ w'.cell? ⟨w.heap.size, 1, none⟩ = some (.string ⟨s.toArray⟩) ∧ w'.cell? ⟨w.heap.size, 2, none⟩ = some (.slice A L.length ca))
    (first | exact ⟨‹_›, ‹_›, ‹_›⟩)
    (first
      | (go_at_call 12; refine (c1 _ HZ.out).mono ?_; rintro e x1 ⟨A1, k1, rfl, o1, z1⟩; have HW := Lib.hid (Below.step HW.out z1); have HT := Lib.hid (HT.out.below z1); obtain ⟨_, q1, q2, q3⟩ := HT.out; have HL := Lib.hid (HL.out.below z1); have HZ := Lib.hid (HZ.out.below z1); have O1 := Lib.hid o1; clear o1)
      | (go_at_call 14; refine (c2 _ HZ.out).mono ?_; rintro e x2 ⟨A2, k2, rfl, o2, z2⟩; have HW := Lib.hid (Below.step HW.out z2); have HT := Lib.hid (HT.out.below z2); obtain ⟨_, q1, q2, q3⟩ := HT.out; have HL := Lib.hid (HL.out.below z2); have HZ := Lib.hid (HZ.out.below z2); have O2 := Lib.hid o2; clear o2)
      | (go_at_call 16; refine (c3 _ HZ.out HL.out).mono ?_; rintro e x3 ⟨A3, k3, rfl, o3, z3⟩; have HW := Lib.hid (Below.step HW.out z3); have HZ := Lib.hid (HZ.out.below z3); have HT := Lib.hid (HT.out.below z3); obtain ⟨_, q1, q2, q3⟩ := HT.out; have O3 := Lib.hid o3; clear o3))
  obtain ⟨g1, y1, rfl, gb1, B1, m1⟩ := own_blk O1.out p1
  obtain ⟨g2, y2, rfl, gb2, B2, m2⟩ := own_blk O2.out p2
  obtain ⟨g3, y3, rfl, gb3, B3, m3⟩ := own_blk O3.out p3
  have u1 := B1.lt
  have u2 := B2.lt
  have B1' := Lib.hid ((B1.below z2 B1.lt).below z3 (Nat.lt_of_lt_of_le B1.lt z2.size))
  have B2' := Lib.hid (B2.below z3 B2.lt)
  have B3' := Lib.hid B3
  have hs0 : w3.heap.size ≤ x3.heap.size := Nat.le_trans (Nat.le_trans z1.size z2.size) z3.size
  have hR3 : Reads w3 w3.heap.size 1 R r.length (u8s r) := hZ0.out
  have HX : Hid (Below w3.heap.size w3 x3) := Lib.hid (Below.step (Below.step ((Below.refl _ _).drew.trans z1) z2) z3)
  have g12 : g1 < g2 := by omega
  have g23 : g2 < g3 := by omega
  have gb0 : w3.heap.size ≤ g1 := gb1
  clear B1 B2 B3 c1 c2 c3 q1 q2 q3 gb1 gb2 gb3
  have HR' := Lib.hid hrl'
  clear hbk hbk2 hbk3 hbr hrl' n1 n2 n3 p1 p2 p3 l2 l3
  go_wp2
  go_loopw [10] (fun i wr => ∃ (k : Nat) (d1 d2 d3 : Array Value), k ≤ b.length ∧ i = .int .i64 (k : Int) ∧ Blk wr g1 5 d1 ∧ r1.length ≤ d1.size ∧ Blk wr g2 5 d2 ∧ r2.length ≤ d2.size ∧ Blk wr g3 5 d3 ∧ r3.length ≤ d3.size ∧ Below w3.heap.size w3 wr) (fun i _ => b.length + 1 - (intOf i).toNat)
  case atStart => exact ⟨0, y1, y2, y3, by omega, rfl, B1'.out, m1, B2'.out, m2, B3'.out, m3, HX.out⟩
  case round =>
    obtain ⟨k, d1, d2, d3, hk, rfl, D1, s1, D2, s2, D3, s3, hbw⟩ := hrel
    by_cases hlt : k < b.length
    · have hi0 : (k : Int) < b.length := by omega
      have hi1 : (k : Int) < r1.length := by omega
      have hi2 : (k : Int) < r2.length := by omega
      have hi3 : (k : Int) < r3.length := by omega
      have hj1 : k < r1.length := by omega
      have hj2 : k < r2.length := by omega
      have hj3 : k < r3.length := by omega
      have hk0 : (0 : Int) ≤ (k : Int) := by omega
      have cc1 : wr.cell? ⟨g1, k, none⟩ = some d1[k] := by rw [D1.cell, Array.getElem?_eq_getElem (by omega)]
      have cc2 : wr.cell? ⟨g2, k, none⟩ = some d2[k] := by rw [D2.cell, Array.getElem?_eq_getElem (by omega)]
      have cc3 : wr.cell? ⟨g3, k, none⟩ = some d3[k] := by rw [D3.cell, Array.getElem?_eq_getElem (by omega)]
      have f1 := D1.frozen k
      have f2 := D2.frozen k
      have f3 := D3.frozen k
      have HD1 := Lib.hid D1
      have HD2 := Lib.hid D2
      have HD3 := Lib.hid D3
      have n12 : g1 ≠ g2 := by omega
      have n13 : g1 ≠ g3 := by omega
      have n23 : g2 ≠ g3 := by omega
      clear D1 D2 D3
      generalize d1[k] = o1 at *
      generalize d2[k] = o2 at *
      generalize d3[k] = o3 at *
      go_wp2
      go_roundw
      case rel =>
        exact ⟨k + 1, d1.setIfInBounds k _, d2.setIfInBounds k _, d3.setIfInBounds k _, by omega, by go_num,
          ((HD1.out.set_ k _).other (p := ⟨g2, k, none⟩) (by show g2 ≠ g1; omega) _).other (p := ⟨g3, k, none⟩) (by show g3 ≠ g1; omega) _, by simp; omega,
          ((HD2.out.other (p := ⟨g1, k, none⟩) (by show g1 ≠ g2; omega) _).set_ k _).other (p := ⟨g3, k, none⟩) (by show g3 ≠ g2; omega) _, by simp; omega,
          ((HD3.out.other (p := ⟨g1, k, none⟩) (by show g1 ≠ g3; omega) _).other (p := ⟨g2, k, none⟩) (by show g2 ≠ g3; omega) _).set_ k _, by simp; omega,
          ((hbw.setCell (p := ⟨g1, k, none⟩) (by show w3.heap.size ≤ g1; omega) _).setCell (p := ⟨g2, k, none⟩) (by show w3.heap.size ≤ g2; omega) _).setCell (p := ⟨g3, k, none⟩) (by show w3.heap.size ≤ g3; omega) _⟩
      case measure => simp [intOf]; omega
    · have hi0 : ¬ (k : Int) < b.length := by omega
      have hcw := run_bytes_string wr R r kr (Bytes.below hZ0.out hbw)
      rw [HR.out] at hcw
      have HWr := Lib.hid (Below.step HW3.out hbw)
      go_wp2_with fail
      refine (awake_any _).mono ?_
      rintro e x5 ⟨rfl, z5⟩
      go_wp2
      go_ret
      exact Ret.mk rfl (Below.step HWr.out z5)

set_option maxHeartbeats 1000000 in
theorem apart_no (w : World) (b : List UInt8) (B : Option Addr) (cb : Nat) (n : Int) (s : List UInt8) (L : List Int) (A : Option Addr) (ca : Nat) (hf : fewB b s L = false) :
    Calls Try.prog 9 #[.slice B b.length cb, .agg #[.int .i64 n, .string ⟨s.toArray⟩, .slice A L.length ca]] w (Ret (.bool true) w) := by
  have HF := Lib.hid hf
  clear hf
  go_enter Try.func9, Try.ntmps9
  go_wp2_with fail
  refine (few_is HF.out B A cb ca _).mono ?_
  rintro e w1 ⟨rfl, h1⟩
  go_wp2_with fail
  refine (awake_any _).mono ?_
  rintro e w4 ⟨rfl, h4⟩
  go_wp2
  go_ret
  exact Ret.mk rfl (by repeat (first | assumption | exact Below.refl _ _ | refine Below.alloc ?_ (by first | omega | (simp; done) | (simp; omega)) _ | refine Below.setCell ?_ (by first | omega | (simp; done) | (simp; omega)) _ | refine Below.drew ?_ | refine Below.drewN_ ?_ _ | refine Below.step ?_ (by assumption)))
theorem wapart_walk (w : World) (b : List UInt8) (B : Option Addr) (cb : Nat) (_ : b.length ≤ maxLen) (hb : Bytes w B b) (n : Int) (hn : Fits n) (s : List UInt8) (_ : s.length ≤ maxLen) (L : List Int) (A : Option Addr) (ca : Nat) (hfit : Fit L) (_ : L.length ≤ maxLen) (hL : Ints w A L) :
    Calls Try.prog 9 #[.slice B b.length cb, .agg #[.int .i64 n, .string ⟨s.toArray⟩, .slice A L.length ca]] w (Ret (.bool true) w) := by
  rcases Bool.eq_false_or_eq_true (fewB b s L) with hf | hf
  · exact apart_yes w b B cb hb n hn s L A ca hfit hL hf
  · exact apart_no w b B cb n s L A ca hf
end Go.Proofs.Ythfcegfmciaajaa
