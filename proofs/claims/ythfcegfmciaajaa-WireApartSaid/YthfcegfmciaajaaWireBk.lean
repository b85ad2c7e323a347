/- The law WireBack: its walk. -/
import Derived.Test.YthfcegfmciaajaaWireH
namespace Go.Proofs.Ythfcegfmciaajaa
open Go.RowKit

theorem back_facts (b s t : List UInt8) (n : Int) (L : List Int) (hn : Fits n) (hs : s.length ≤ 300) (hf : Fit L) (hL : L.length ≤ 100) :
    (intN (b ++ encI n ++ t) b.length = n ∧ intTo (b ++ encI n ++ t) b.length = ((b ++ encI n).length : Int) ∧ intE (b ++ encI n ++ t) b.length = 0) ∧
    (textS (b ++ encI s.length ++ s ++ t) b.length = s ∧ textTo (b ++ encI s.length ++ s ++ t) b.length = ((b ++ encI s.length ++ s).length : Int) ∧ textE (b ++ encI s.length ++ s ++ t) b.length = 0) ∧
    (insL' (b ++ encI L.length ++ encs L ++ t) b.length = L ∧ insT' (b ++ encI L.length ++ encs L ++ t) b.length = ((b ++ encI L.length ++ encs L).length : Int) ∧ insE' (b ++ encI L.length ++ encs L ++ t) b.length = 0) :=
  ⟨by obtain ⟨e1, e2, e3⟩ := int_back b t n hn; exact ⟨e2, e3, e1⟩, text_back b t s (by omega), list_back b t L hf (by omega)⟩
theorem ins_is {l : List UInt8} {at_ T E : Int} {S : List Int} (h : insL' l at_ = S ∧ insT' l at_ = T ∧ insE' l at_ = E) (A : Option Addr) (cap : Nat) (hat : Fits at_) (w : World) (hv : Bytes w A l) (hl : l.length ≤ 100000) :
    Calls Try.prog 22 #[.slice A l.length cap, .int .i64 at_] w (fun e w' => ∃ A' cap', e = .returned (.tuple #[.slice A' S.length cap', .int .i64 T, .int .i64 E]) ∧ Ints w' A' S ∧ Below w.heap.size w w') := by
  have := ins_any l A cap at_ hat w hv hl
  unfold RetIns at this
  rw [h.1, h.2.1, h.2.2] at this
  exact this

theorem own_cap {w : World} {base : Nat} {e : TypeId} {size n c : Nat} {A : Option Addr} {xs : List Value} (h : w.ownsRow base e size (.slice A n c) n xs) : n ≤ c := by
  rcases h.2 with ⟨e, h0⟩ | ⟨g, c', cur, e, _, _, hc, _⟩
  · rw [h0]; exact Nat.zero_le _
  · injection e with _ _ e3
    rw [e3]; exact hc

set_option maxHeartbeats 8000000 in
theorem wback_yes (w : World) (b : List UInt8) (B : Option Addr) (cb : Nat) (hb : Bytes w B b) (n : Int) (hn : Fits n) (s : List UInt8) (L : List Int) (A : Option Addr) (ca : Nat) (hfit : Fit L) (hL : Ints w A L)
    (t : List UInt8) (T : Option Addr) (ct : Nat) (ht : Bytes w T t) (hf : fewB b s L = true) (l4 : t.length ≤ 300) :
    Calls Try.prog 6 #[.slice B b.length cb, .agg #[.int .i64 n, .string ⟨s.toArray⟩, .slice A L.length ca], .slice T t.length ct] w (Ret (.bool true) w) := by
  have HF := Lib.hid hf
  obtain ⟨l1, l2, l3⟩ := few_parts' hf
  clear hf
  have T0 := Thing'.new w n ⟨s.toArray⟩ (.slice A L.length ca) 25
  have b0 : Below w.heap.size w (w.alloc (.cells #[.int .i64 n, .string ⟨s.toArray⟩, .slice A L.length ca] 25)) := (by repeat (first | assumption | exact Below.refl _ _ | refine Below.alloc ?_ (by first | omega | (simp; done) | (simp; omega)) _ | refine Below.setCell ?_ (by first | omega | (simp; done) | (simp; omega)) _ | refine Below.drew ?_ | refine Below.drewN_ ?_ _ | refine Below.step ?_ (by assumption)))
  have l4' : (t.length : Int) ≤ 300 := by omega
  have hd4 : decide (300 < t.length) = false := by simp; omega
  have hd5 : decide ((300 : Int) < t.length) = false := by simp; omega
  obtain ⟨i0, hi0, hz0, hz1, hz2⟩ := info_parts info_u8
  go_enter Try.func6, Try.ntmps6
  go_wp2_with fail
  refine (few_is HF.out B A cb ca _).mono ?_
  rintro e w1 ⟨rfl, h1⟩
  have H1 := Below.step b0 h1
  have HT := Lib.hid ((T0.below h1).below (Below.refl _ w1).drew)
  obtain ⟨_, q1, q2, q3⟩ := HT.out
  have HW : Hid (Below w.heap.size w w1.drew) := Lib.hid H1.drew
  obtain ⟨f1, f2, f3⟩ := back_facts b s t n L hn l2 hfit l3
  have n1 : (b ++ encI n).length ≤ 400 := by rw [List.length_append]; have := encI_len n; omega
  have n2 : (b ++ encI s.length ++ s).length ≤ 700 := by rw [List.length_append, List.length_append]; have := encI_len s.length; omega
  have n3 : (b ++ encI L.length ++ encs L).length ≤ 1500 := by rw [List.length_append, List.length_append]; have := encI_len L.length; have := encs_len L; omega
  have c1 := fun w' (h : Below w.heap.size w w') => (put_any b B cb n hn w' (hb.below h) (by omega)).mono fun _ _ => RetOwn.bytes
  have c2 := fun w' (h : Below w.heap.size w w') => (ptext_any b B cb s (by omega) w' (hb.below h) (by omega)).mono fun _ _ => RetOwn.bytes
  have c3 := fun w' (h : Below w.heap.size w w') => (puts_any b B cb L A ca hfit (by omega) w' (hb.below h) (hL.below h) (by omega)).mono fun _ _ => RetOwn.bytes
  have F1 := Lib.hid f1
  have F2 := Lib.hid f2
  have F3 := Lib.hid f3
  clear f1 f2 f3
  generalize b ++ encI n = r1 at *
  generalize b ++ encI s.length ++ s = r2 at *
  generalize b ++ encI L.length ++ encs L = r3 at *
  clear T0 h1 H1 b0
  go_wp2_with fail
  go_region_held3 (fun w' => w'.cell? ⟨w.heap.size, 0, none⟩ = some (.int .i64 n) ∧ w'.cell? ⟨w.heap.size, 1, none⟩ = some (.string ⟨s.toArray⟩) ∧ w'.cell? ⟨w.heap.size, 2, none⟩ = some (.slice A L.length ca))
    (first | exact ⟨‹_›, ‹_›, ‹_›⟩)
    (first
      | (go_at_call 12; refine (c1 _ HW.out).mono ?_; rintro e x1 ⟨A1, k1, rfl, y1, z1⟩; have HW := Lib.hid (Below.step HW.out z1); have HT := Lib.hid (HT.out.below z1); obtain ⟨_, q1, q2, q3⟩ := HT.out; have Y1 := Lib.hid y1; clear y1)
      | (go_at_call 14; refine (c2 _ HW.out).mono ?_; rintro e x2 ⟨A2, k2, rfl, y2, z2⟩; have HW := Lib.hid (Below.step HW.out z2); have HT := Lib.hid (HT.out.below z2); obtain ⟨_, q1, q2, q3⟩ := HT.out; have Y1 := Lib.hid (Y1.out.below z2); have Y2 := Lib.hid y2; clear y2)
      | (go_at_call 16; refine (c3 _ HW.out).mono ?_; rintro e x3 ⟨A3, k3, rfl, y3, z3⟩; have HW := Lib.hid (Below.step HW.out z3); have HT := Lib.hid (HT.out.below z3); obtain ⟨_, q1, q2, q3⟩ := HT.out; have Y1 := Lib.hid (Y1.out.below z3); have Y2 := Lib.hid (Y2.out.below z3); have Y3 := Lib.hid y3; clear y3))
  have C3 : Hid (∀ w', Below w.heap.size w w' → Bytes w' T t) := Lib.hid fun w' h => ht.below h
  go_wp2_with (first
    | (at_builtin
       refine wpList_append_any _ rfl _ _ _ rfl x3.heap.size 5 i0 _ 1 1 Try.underlying22 hi0 hz0 hz1 hz2 rfl (by omega) _ 0 [] rfl (own_empty x3 _) x3.heap.size A1 r1.length k1 _ rfl (Reads.alloc Y1.out (Nat.le_refl _) _) (one_u8 r1) (by simp only [maxLen]; omega) (by omega) (by simp) ?_
       intro v4 x4a hown4 hg4 hat4
       have hb4 : Below x3.heap.size x3 x4a := ((Below.refl _ _).alloc (Nat.le_refl _) _).trans ((Below.refl _ _).grown hg4 (by simp) (fun k hk => by have h : some x3.heap.size = some k := hk; injection h with h; omega)))
    | (at_builtin
       refine wpList_append_any _ rfl _ _ _ rfl x3.heap.size 5 i0 _ 1 1 Try.underlying22 hi0 hz0 hz1 hz2 rfl (by omega) v4 (0 + r1.length) ([] ++ _) rfl
         hown4 x4a.heap.size T t.length ct _ rfl (C3.out _ (Below.step HW.out hb4)) (one_u8 t) (by simp only [maxLen]; omega) (by omega) hb4.size ?_
       intro u4 x4b own4 gr4 at4))
  have hc4 : Below x3.heap.size x3 x4b := hb4.grown gr4 hb4.size (fun k hk => ((hown4.lt k hk).1))
  obtain ⟨D4, d4, rfl⟩ := own_form own4
  have Z4 := Lib.hid (Bytes.of_own (l := r1 ++ t) (n := 0 + r1.length + t.length) (by simp) (by simpa [u8s] using own4))
  have HW := Lib.hid (Below.step HW.out hc4)
  have HT := Lib.hid (HT.out.below hc4)
  obtain ⟨_, q1, q2, q3⟩ := HT.out
  have Y2 := Lib.hid (Y2.out.below hc4)
  have Y3 := Lib.hid (Y3.out.below hc4)
  have hcap4 : r1.length + t.length ≤ d4 := by
    have := own_cap own4
    omega
  clear hown4 hg4 hat4 own4 gr4 at4
  have g4 := int_is F1.out D4 d4 (at_ := (b.length : Int)) ⟨by omega, by omega⟩ x4b Z4.out (by rw [List.length_append]; omega)
  rw [List.length_append] at g4
  rw [Nat.zero_add]
  refine g4.mono ?_
  clear g4
  rintro e x4 ⟨rfl, z4⟩
  have HW := Lib.hid (Below.step HW.out z4)
  have HT := Lib.hid (HT.out.below z4)
  obtain ⟨_, q1, q2, q3⟩ := HT.out
  have Y2 := Lib.hid (Y2.out.below z4)
  have Y3 := Lib.hid (Y3.out.below z4)
  go_wp2_with (first
    | (at_builtin
       refine wpList_append_any _ rfl _ _ _ rfl x4.heap.size 5 i0 _ 1 1 Try.underlying22 hi0 hz0 hz1 hz2 rfl (by omega) _ 0 [] rfl (own_empty x4 _) x4.heap.size A2 r2.length k2 _ rfl (Reads.alloc Y2.out (Nat.le_refl _) _) (one_u8 r2) (by simp only [maxLen]; omega) (by omega) (by simp) ?_
       intro v5 x5a hown5 hg5 hat5
       have hb5 : Below x4.heap.size x4 x5a := ((Below.refl _ _).alloc (Nat.le_refl _) _).trans ((Below.refl _ _).grown hg5 (by simp) (fun k hk => by have h : some x4.heap.size = some k := hk; injection h with h; omega)))
    | (at_builtin
       refine wpList_append_any _ rfl _ _ _ rfl x4.heap.size 5 i0 _ 1 1 Try.underlying22 hi0 hz0 hz1 hz2 rfl (by omega) v5 (0 + r2.length) ([] ++ _) rfl
         hown5 x5a.heap.size T t.length ct _ rfl (C3.out _ (Below.step HW.out hb5)) (one_u8 t) (by simp only [maxLen]; omega) (by omega) hb5.size ?_
       intro u5 x5b own5 gr5 at5))
  have hc5 : Below x4.heap.size x4 x5b := hb5.grown gr5 hb5.size (fun k hk => ((hown5.lt k hk).1))
  obtain ⟨D5, d5, rfl⟩ := own_form own5
  have Z5 := Lib.hid (Bytes.of_own (l := r2 ++ t) (n := 0 + r2.length + t.length) (by simp) (by simpa [u8s] using own5))
  have HW := Lib.hid (Below.step HW.out hc5)
  have HT := Lib.hid (HT.out.below hc5)
  obtain ⟨_, q1, q2, q3⟩ := HT.out
  have Y2 := Lib.hid (Y2.out.below hc5)
  have Y3 := Lib.hid (Y3.out.below hc5)
  have hcap5 : r2.length + t.length ≤ d5 := by
    have := own_cap own5
    omega
  clear hown5 hg5 hat5 own5 gr5 at5
  have g5 := text_is F2.out D5 d5 (by rw [List.length_append]; exact hcap5) (at_ := (b.length : Int)) ⟨by omega, by omega⟩ x5b Z5.out (by rw [List.length_append]; omega)
  rw [List.length_append] at g5
  rw [Nat.zero_add]
  refine g5.mono ?_
  clear g5
  rintro e x5 ⟨rfl, z5⟩
  have HW := Lib.hid (Below.step HW.out z5)
  have HT := Lib.hid (HT.out.below z5)
  obtain ⟨_, q1, q2, q3⟩ := HT.out
  have Y2 := Lib.hid (Y2.out.below z5)
  have Y3 := Lib.hid (Y3.out.below z5)
  go_wp2_with (first
    | (at_builtin
       refine wpList_append_any _ rfl _ _ _ rfl x5.heap.size 5 i0 _ 1 1 Try.underlying22 hi0 hz0 hz1 hz2 rfl (by omega) _ 0 [] rfl (own_empty x5 _) x5.heap.size A3 r3.length k3 _ rfl (Reads.alloc Y3.out (Nat.le_refl _) _) (one_u8 r3) (by simp only [maxLen]; omega) (by omega) (by simp) ?_
       intro v6 x6a hown6 hg6 hat6
       have hb6 : Below x5.heap.size x5 x6a := ((Below.refl _ _).alloc (Nat.le_refl _) _).trans ((Below.refl _ _).grown hg6 (by simp) (fun k hk => by have h : some x5.heap.size = some k := hk; injection h with h; omega)))
    | (at_builtin
       refine wpList_append_any _ rfl _ _ _ rfl x5.heap.size 5 i0 _ 1 1 Try.underlying22 hi0 hz0 hz1 hz2 rfl (by omega) v6 (0 + r3.length) ([] ++ _) rfl
         hown6 x6a.heap.size T t.length ct _ rfl (C3.out _ (Below.step HW.out hb6)) (one_u8 t) (by simp only [maxLen]; omega) (by omega) hb6.size ?_
       intro u6 x6b own6 gr6 at6))
  have hc6 : Below x5.heap.size x5 x6b := hb6.grown gr6 hb6.size (fun k hk => ((hown6.lt k hk).1))
  obtain ⟨D6, d6, rfl⟩ := own_form own6
  have Z6 := Lib.hid (Bytes.of_own (l := r3 ++ t) (n := 0 + r3.length + t.length) (by simp) (by simpa [u8s] using own6))
  have HW := Lib.hid (Below.step HW.out hc6)
  have HT := Lib.hid (HT.out.below hc6)
  obtain ⟨_, q1, q2, q3⟩ := HT.out
  have Y2 := Lib.hid (Y2.out.below hc6)
  have Y3 := Lib.hid (Y3.out.below hc6)
  have hcap6 : r3.length + t.length ≤ d6 := by
    have := own_cap own6
    omega
  clear hown6 hg6 hat6 own6 gr6 at6
  have g6 := ins_is F3.out D6 d6 (at_ := (b.length : Int)) ⟨by omega, by omega⟩ x6b Z6.out (by rw [List.length_append]; omega)
  rw [List.length_append] at g6
  rw [Nat.zero_add]
  refine g6.mono ?_
  clear g6
  rintro e x6 ⟨A6, k6, rfl, I6, z6⟩
  have HW := Lib.hid (Below.step HW.out z6)
  have HT := Lib.hid (HT.out.below z6)
  obtain ⟨_, q1, q2, q3⟩ := HT.out
  have Y2 := Lib.hid (Y2.out.below z6)
  have Y3 := Lib.hid (Y3.out.below z6)
  have HL := Lib.hid (hL.below HW.out)
  have HI := Lib.hid I6
  clear I6 hL hb ht
  go_wp2_with fail
  refine (same_yes L A6 A k6 ca _ HI.out HL.out (by unfold maxLen; omega)).mono ?_
  rintro e x7 ⟨rfl, z7⟩
  have HW := Lib.hid (Below.step HW.out z7)
  have HT := Lib.hid (HT.out.below z7)
  obtain ⟨_, q1, q2, q3⟩ := HT.out
  go_wp2_with fail
  refine (awake_any _).mono ?_
  rintro e x8 ⟨rfl, z8⟩
  go_wp2
  go_ret
  exact Ret.mk rfl (Below.step HW.out z8)
end Go.Proofs.Ythfcegfmciaajaa
