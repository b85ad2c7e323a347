/- The law WireCut: its walk. -/
import Derived.Test.YthfcegfmciaajaaWireE
import Derived.Test.YthfcegfmciaajaaWireF
import Derived.Test.YthfcegfmciaajaaRegion
namespace Go.Proofs.Ythfcegfmciaajaa
open Go.RowKit

/-- Block k holds a Thing. -/
def Thing' (w : World) (k : Nat) (n : Int) (s : ByteArray) (v : Value) : Prop := k < w.heap.size ∧ w.cell? ⟨k, 0, none⟩ = some (.int .i64 n) ∧ w.cell? ⟨k, 1, none⟩ = some (.string s) ∧ w.cell? ⟨k, 2, none⟩ = some v
theorem Thing'.below {w w' : World} {k : Nat} {n : Int} {s : ByteArray} {v : Value} (h : Thing' w k n s v) (hb : Below w.heap.size w w') : Thing' w' k n s v :=
  ⟨Nat.lt_of_lt_of_le h.1 hb.size, ((bcell hb).1 k 0 h.1).trans h.2.1, ((bcell hb).1 k 1 h.1).trans h.2.2.1, ((bcell hb).1 k 2 h.1).trans h.2.2.2⟩
theorem Thing'.new (w : World) (n : Int) (s : ByteArray) (v : Value) (t : TypeId) : Thing' (w.alloc (.cells #[.int .i64 n, .string s, v] t)) w.heap.size n s v := by
  exact ⟨by simp, by simp [go_sem], by simp [go_sem], by simp [go_sem]⟩
theorem few_nil {s : List UInt8} {L : List Int} {x : Bool} (h : fewB [] s L = x) (B : Option Addr) (cb : Nat) (w : World) :
    Calls Try.prog 10 #[.slice none 0 0, .string ⟨s.toArray⟩, .slice B L.length cb] w (Ret (.bool x) w) := few_is (b := []) h none B 0 cb w
theorem few_parts' {b s : List UInt8} {L : List Int} (h : fewB b s L = true) : b.length ≤ 300 ∧ s.length ≤ 300 ∧ L.length ≤ 100 := by
  simpa [fewB, and_assoc] using h
/-- As RetB, and the capacity is no less than the length. -/
def RetC (l : List UInt8) (w : World) (e : Ending) (w' : World) : Prop := ∃ A cap, e = .returned (.slice A l.length cap) ∧ Bytes w' A l ∧ l.length ≤ cap ∧ Below w.heap.size w w'
theorem RetOwn.cap {l : List UInt8} {w : World} {e : Ending} {w' : World} (h : RetOwn w.heap.size l w e w') : RetC l w e w' := by
  obtain ⟨A, cap, rfl, ho, hb⟩ := h
  refine ⟨A, cap, rfl, Bytes.of_own rfl ho, ?_, hb⟩
  rcases ho.2 with ⟨e, h0⟩ | ⟨g, c, cur, e, _, _, hc, _⟩
  · rw [h0]; exact Nat.zero_le _
  · injection e with _ _ e3
    rw [e3]; exact hc
theorem put_nil (n : Int) (hn : Fits n) (w : World) : Calls Try.prog 12 #[.slice none 0 0, .int .i64 n] w (RetC (encI n) w) :=
  (put_any [] none 0 n hn w (Bytes.nil_ _ _) (by decide)).mono fun _ _ h => RetOwn.cap (by simpa using h)
theorem ptext_nil (s : List UInt8) (hs : s.length ≤ 1000) (w : World) : Calls Try.prog 14 #[.slice none 0 0, .string ⟨s.toArray⟩] w (RetC (encI s.length ++ s) w) :=
  (ptext_any [] none 0 s hs w (Bytes.nil_ _ _) (by decide)).mono fun _ _ h => RetOwn.cap (by simpa using h)
theorem puts_nil (L : List Int) (A : Option Addr) (ca : Nat) (hf : Fit L) (hL : L.length ≤ 1000) (w : World) (hI : Ints w A L) : Calls Try.prog 16 #[.slice none 0 0, .slice A L.length ca] w (RetC (encI L.length ++ encs L) w) :=
  (puts_any [] none 0 L A ca hf hL w (Bytes.nil_ _ _) hI (by decide)).mono fun _ _ h => RetOwn.cap (by simpa using h)

theorem Bytes.take_ {w : World} {A : Option Addr} {l : List UInt8} (h : Bytes w A l) (c : Nat) : Bytes w A (l.take c) :=
  ⟨by simp, fun hn => by
    obtain ⟨ad, e, hb, hc⟩ := h.2 (by rw [List.length_take] at hn; omega)
    refine ⟨ad, e, hb, fun j u hu => hc j u ?_⟩
    rw [List.map_take, List.getElem?_take] at hu
    split at hu
    · exact hu
    · cases hu⟩
theorem len_take {l : List UInt8} {c : Nat} (hc : c ≤ l.length) : (l.take c).length = c := by rw [List.length_take]; omega
theorem int_short {l : List UInt8} {c : Nat} (hc : c ≤ l.length) (he : intE (l.take c) 0 = 4) (A : Option Addr) (cap : Nat) (w : World) (hv : Bytes w A l) (hl : l.length ≤ 100000) :
    Calls Try.prog 18 #[.slice A c cap, .int .i64 0] w (Ret (.tuple #[.int .i64 0, .int .i64 0, .int .i64 4]) w) := by
  obtain ⟨e1, e2, e3⟩ := int_err (l := l.take c) (a := 0) (e := 4) (Nat.zero_le _) (by rw [← intE_in (Nat.zero_le _)]; exact he) (by decide)
  have := int_is (l := l.take c) (at_ := 0) ⟨e2, e3, e1⟩ A cap ⟨by decide, by decide⟩ w (hv.take_ c) (by rw [len_take hc]; omega)
  rwa [len_take hc] at this
theorem text_short {l : List UInt8} {c : Nat} (hc : c ≤ l.length) (he : textE (l.take c) 0 = 4) (A : Option Addr) (cap : Nat) (hcap : c ≤ cap) (w : World) (hv : Bytes w A l) (hl : l.length ≤ 100000) :
    Calls Try.prog 20 #[.slice A c cap, .int .i64 0] w (Ret (.tuple #[.string ⟨#[]⟩, .int .i64 0, .int .i64 4]) w) := by
  obtain ⟨e1, e2, e3⟩ := text_bad he (by decide)
  have := text_is (l := l.take c) (at_ := 0) ⟨e2, e3, e1⟩ A cap (by rw [len_take hc]; exact hcap) ⟨by decide, by decide⟩ w (hv.take_ c) (by rw [len_take hc]; omega)
  rwa [len_take hc] at this
theorem ints_short {l : List UInt8} {c : Nat} (hc : c ≤ l.length) (he : insE' (l.take c) 0 = 4) (A : Option Addr) (cap : Nat) (w : World) (hv : Bytes w A l) (hl : l.length ≤ 100000) :
    Calls Try.prog 22 #[.slice A c cap, .int .i64 0] w (fun e w' => ∃ A' cap', e = .returned (.tuple #[.slice A' 0 cap', .int .i64 0, .int .i64 4]) ∧ Below w.heap.size w w') := by
  obtain ⟨e1, e2, e3⟩ := ins_bad he (by decide)
  have := ins_any (l.take c) A cap 0 ⟨by decide, by decide⟩ w (hv.take_ c) (by rw [len_take hc]; omega)
  rw [len_take hc] at this
  refine this.mono fun e w' h => ?_
  obtain ⟨A', cap', h1, _, h3⟩ := h
  rw [e1, e2, e3] at h1
  exact ⟨A', cap', h1, h3⟩

set_option maxHeartbeats 4000000 in
theorem wcut_walk (w : World) (n : Int) (hn : Fits n) (s : List UInt8) (_ : s.length ≤ maxLen) (L : List Int) (A : Option Addr) (ca : Nat) (hfit : Fit L) (_ : L.length ≤ maxLen) (hL : Ints w A L) (cut : Nat) (hcut : cut < 65536) :
    Calls Try.prog 8 #[.agg #[.int .i64 n, .string ⟨s.toArray⟩, .slice A L.length ca], .int .u16 (cut : Int)] w (Ret (.bool true) w) := by
  rcases Bool.eq_false_or_eq_true (fewB [] s L) with hf | hf
  · have HF := Lib.hid hf
    obtain ⟨l1, l2, l3⟩ := few_parts' hf
    clear hf l1
    have T0 := Thing'.new w n ⟨s.toArray⟩ (.slice A L.length ca) 25
    have b0 : Below w.heap.size w (w.alloc (.cells #[.int .i64 n, .string ⟨s.toArray⟩, .slice A L.length ca] 25)) := (by repeat (first | assumption | exact Below.refl _ _ | refine Below.alloc ?_ (by first | omega | (simp; done) | (simp; omega)) _ | refine Below.setCell ?_ (by first | omega | (simp; done) | (simp; omega)) _ | refine Below.drew ?_ | refine Below.drewN_ ?_ _ | refine Below.step ?_ (by assumption)))
    go_enter Try.func8, Try.ntmps8
    go_wp2_with fail
    refine (few_nil HF.out A ca _).mono ?_
    rintro e w1 ⟨rfl, h1⟩
    have H1 := Below.step b0 h1
    have HT := Lib.hid ((T0.below h1).below (Below.refl _ w1).drew)
    obtain ⟨_, q1, q2, q3⟩ := HT.out
    have HW : Hid (Below w.heap.size w w1.drew) := Lib.hid H1.drew
    have HL := Lib.hid (hL.below HW.out)
    have hP := encU_pos 9 (Lib.zigzag n)
    have hQ : 0 < (encI s.length ++ s).length := by rw [List.length_append]; have := encU_pos 9 (Lib.zigzag s.length); unfold encI; omega
    have hO : 0 < (encI L.length ++ encs L).length := by rw [List.length_append]; have := encU_pos 9 (Lib.zigzag L.length); unfold encI; omega
    have hP2 := encI_len n
    have hQ2 : (encI s.length ++ s).length ≤ 400 := by rw [List.length_append]; have := encI_len s.length; omega
    have hO2 : (encI L.length ++ encs L).length ≤ 1100 := by rw [List.length_append]; have := encI_len L.length; have := encs_len L; omega
    have e1 := Lib.hid (fun c (hc : c < (encI n).length) => (by simpa using int_cut [] n c hc : intE ((encI n).take c) 0 = 4))
    have e2 := Lib.hid (fun c (hc : c < (encI s.length ++ s).length) => (by simpa using text_cut [] s (by omega) c hc : textE ((encI s.length ++ s).take c) 0 = 4))
    have e3 := Lib.hid (fun c (hc : c < (encI L.length ++ encs L).length) => (by simpa using list_cut [] L hfit (by omega) c hc : insE' ((encI L.length ++ encs L).take c) 0 = 4))
    have c1 := put_nil n hn
    have c2 := ptext_nil s (by omega)
    have c3 := fun w' hI => puts_nil L A ca hfit (by omega) w' hI
    rw [show encU 9 (Lib.zigzag n) = encI n from rfl] at hP
    generalize encI n = P at *
    generalize encI s.length ++ s = Q at *
    generalize encI L.length ++ encs L = O at *
    have hP3 : ((P.length : Int) == 0) = false := by simp; intro h; simp [h] at hP
    have hQ3 : ((Q.length : Int) == 0) = false := by simp; intro h; simp [h] at hQ
    have hO3 : ((O.length : Int) == 0) = false := by simp; intro h; simp [h] at hO
    have hP4 : (P.length == 0) = false := by simp; intro h; simp [h] at hP
    have hQ4 : (Q.length == 0) = false := by simp; intro h; simp [h] at hQ
    have hO4 : (O.length == 0) = false := by simp; intro h; simp [h] at hO
    clear T0 h1 H1 b0
    go_wp2_with fail
    go_region_held3 (fun w' => w'.cell? ⟨w.heap.size, 0, none⟩ = some (.int .i64 n) ∧ w'.cell? ⟨w.heap.size, 1, none⟩ = some (.string ⟨s.toArray⟩) ∧ w'.cell? ⟨w.heap.size, 2, none⟩ = some (.slice A L.length ca))
      (first | exact ⟨‹_›, ‹_›, ‹_›⟩)
      (first
        | (go_at_call 12; refine (c1 _).mono ?_; rintro e x1 ⟨A1, k1, rfl, y1, d1, z1⟩; have HW := Lib.hid (Below.step HW.out z1); have HT := Lib.hid (HT.out.below z1); obtain ⟨_, q1, q2, q3⟩ := HT.out; have HL := Lib.hid (HL.out.below z1); have Y1 := Lib.hid y1; clear y1)
        | (go_at_call 14; refine (c2 _).mono ?_; rintro e x2 ⟨A2, k2, rfl, y2, d2, z2⟩; have HW := Lib.hid (Below.step HW.out z2); have HT := Lib.hid (HT.out.below z2); obtain ⟨_, q1, q2, q3⟩ := HT.out; have HL := Lib.hid (HL.out.below z2); have Y1 := Lib.hid (Y1.out.below z2); have Y2 := Lib.hid y2; clear y2)
        | (go_at_call 16; refine (c3 _ HL.out).mono ?_; rintro e x3 ⟨A3, k3, rfl, y3, d3, z3⟩; have HW := Lib.hid (Below.step HW.out z3); have HT := Lib.hid (HT.out.below z3); obtain ⟨_, q1, q2, q3⟩ := HT.out; have Y1 := Lib.hid (Y1.out.below z3); have Y2 := Lib.hid (Y2.out.below z3); have Y3 := Lib.hid y3; clear y3))
    have hcP : cut % P.length < P.length := Nat.mod_lt _ hP
    have hcQ : cut % Q.length < Q.length := Nat.mod_lt _ hQ
    have hcO : cut % O.length < O.length := Nat.mod_lt _ hO
    have hcP' : cut % P.length ≤ k1 := by omega
    have hcQ' : cut % Q.length ≤ k2 := by omega
    have hcO' : cut % O.length ≤ k3 := by omega
    have g1 := fun w' h => int_short (Nat.le_of_lt hcP) (e1.out _ hcP) A1 k1 w' h (by omega)
    have g2 := fun w' h => text_short (Nat.le_of_lt hcQ) (e2.out _ hcQ) A2 k2 hcQ' w' h (by omega)
    have g3 := fun w' h => ints_short (Nat.le_of_lt hcO) (e3.out _ hcO) A3 k3 w' h (by omega)
    go_wp2_with fail
    refine (g1 _ Y1.out).mono ?_
    rintro e x4 ⟨rfl, z4⟩
    go_wp2_with fail
    refine (g2 _ (Y2.out.below z4)).mono ?_
    rintro e x5 ⟨rfl, z5⟩
    go_wp2_with fail
    refine (g3 _ ((Y3.out.below z4).below z5)).mono ?_
    rintro e x6 ⟨A6, k6, rfl, z6⟩
    have H6 := Below.step (Below.step (Below.step HW.out z4) z5) z6
    go_wp2_with fail
    refine (awake_any _).mono ?_
    rintro e x7 ⟨rfl, z7⟩
    go_wp2
    go_ret
    exact Ret.mk rfl (Below.step H6 z7)
  · have HF := Lib.hid hf
    clear hf
    go_enter Try.func8, Try.ntmps8
    go_wp2_with fail
    refine (few_nil HF.out A ca _).mono ?_
    rintro e w1 ⟨rfl, h1⟩
    go_wp2_with fail
    refine (awake_any _).mono ?_
    rintro e w4 ⟨rfl, h4⟩
    go_wp2
    go_ret
    exact Ret.mk rfl (by repeat (first | assumption | exact Below.refl _ _ | refine Below.alloc ?_ (by first | omega | (simp; done) | (simp; omega)) _ | refine Below.setCell ?_ (by first | omega | (simp; done) | (simp; omega)) _ | refine Below.drew ?_ | refine Below.drewN_ ?_ _ | refine Below.step ?_ (by assumption)))
end Go.Proofs.Ythfcegfmciaajaa
