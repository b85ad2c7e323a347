/- The header of a frame; the copy of a content. -/
import Derived.Test.YtefjjjclgcidnaaFrC
namespace Go.Proofs.Ytefjjjclgcidnaa
open Go.RowKit

theorem results_tmp4 {fn : Func} {t u v x : Tmp} (h : fn.results = #[.tmp t, .tmp u, .tmp v, .tmp x]) (tmps : Array Value) (P : Program) (w : World) :
    (results fn tmps).run P w = .ok (.tuple #[tmps.getD t undef, tmps.getD u undef, tmps.getD v undef, tmps.getD x undef]) w := by
  simp [results, h]

/-- The error of a header at a place within the bytes. -/
def hdN (l : List UInt8) (a : Nat) : Int :=
  if a = l.length then 4 else if cB l a ≠ 76 then 3 else if a + 1 = l.length then 4 else if cB l (a + 1) = 0 then 3 else
  if intE l ((a + 2 : Nat) : Int) ≠ 0 then intE l ((a + 2 : Nat) : Int) else if intN l ((a + 2 : Nat) : Int) < 0 ∨ 1048576 < intN l ((a + 2 : Nat) : Int) then 3 else 0
def hdE (l : List UInt8) (a : Int) : Int := if a < 0 ∨ (l.length : Int) < a then 2 else hdN l a.toNat
def hdK (l : List UInt8) (a : Int) : Int := if hdE l a = 0 then (cB l (a.toNat + 1) : Int) else 0
def hdF (l : List UInt8) (a : Int) : Int := if hdE l a = 0 then intTo l ((a.toNat + 2 : Nat) : Int) else 0
def hdT (l : List UInt8) (a : Int) : Int := if hdE l a = 0 then intTo l ((a.toNat + 2 : Nat) : Int) + intN l ((a.toNat + 2 : Nat) : Int) else 0
theorem hd_bad {l : List UInt8} {a e : Int} (h : hdE l a = e) (he : e ≠ 0) : hdK l a = 0 ∧ hdF l a = 0 ∧ hdT l a = 0 ∧ hdE l a = e := by
  have h0 : ¬ hdE l a = 0 := by rw [h]; exact he
  exact ⟨by unfold hdK; rw [if_neg h0], by unfold hdF; rw [if_neg h0], by unfold hdT; rw [if_neg h0], h⟩
theorem hd_ok {l : List UInt8} {a : Int} (h : hdE l a = 0) : hdK l a = (cB l (a.toNat + 1) : Int) ∧ hdF l a = intTo l ((a.toNat + 2 : Nat) : Int) ∧ hdT l a = intTo l ((a.toNat + 2 : Nat) : Int) + intN l ((a.toNat + 2 : Nat) : Int) ∧ hdE l a = 0 :=
  ⟨by unfold hdK; rw [if_pos h], by unfold hdF; rw [if_pos h], by unfold hdT; rw [if_pos h], h⟩
theorem hd_in {l : List UInt8} {a : Nat} (ha : a ≤ l.length) : hdE l (a : Int) = hdN l a := by
  unfold hdE
  rw [if_neg (by omega), Int.toNat_natCast]

set_option maxHeartbeats 1000000 in
theorem header_out (l : List UInt8) (A : Option Addr) (cap : Nat) (a : Int) (h : a < 0 ∨ (l.length : Int) < a) (w : World) :
    Calls Try.prog 26 #[.slice A l.length cap, .int .i64 a] w (Ret (.tuple #[.int .i64 (hdK l a), .int .i64 (hdF l a), .int .i64 (hdT l a), .int .i64 (hdE l a)]) w) := by
  have HR := Lib.hid (hd_bad (l := l) (a := a) (e := 2) (by unfold hdE; rw [if_pos h]) (by decide))
  by_cases h1 : a < 0
  · have hd : decide (a < 0) = true := by simpa using h1
    go_enter Try.func26, Try.ntmps26
    go_wp2
    (try simp only [Exit.inBlock, Exit.then]); refine bodyPost_ret (results_tmp4 rfl _ _ _) rfl ?_
    exact Ret.mk (by rw [HR.out.1, HR.out.2.1, HR.out.2.2.1, HR.out.2.2.2]; rfl) (Below.refl _ _)
  · have hd : decide (a < 0) = false := by simpa using h1
    have h2 : (l.length : Int) < a := by omega
    have hd2 : decide ((l.length : Int) < a) = true := by simpa using h2
    go_enter Try.func26, Try.ntmps26
    go_wp2
    (try simp only [Exit.inBlock, Exit.then]); refine bodyPost_ret (results_tmp4 rfl _ _ _) rfl ?_
    exact Ret.mk (by rw [HR.out.1, HR.out.2.1, HR.out.2.2.1, HR.out.2.2.2]; rfl) (Below.refl _ _)

set_option maxHeartbeats 4000000 in
theorem header_in (l : List UInt8) (A : Option Addr) (cap : Nat) (a : Nat) (ha : a ≤ l.length) (w : World) (hv : Bytes w A l) (hl : l.length ≤ 90000) :
    Calls Try.prog 26 #[.slice A l.length cap, .int .i64 (a : Int)] w (Ret (.tuple #[.int .i64 (hdK l a), .int .i64 (hdF l a), .int .i64 (hdT l a), .int .i64 (hdE l a)]) w) := by
  have a1 : ¬ ((l.length : Int) < a) := by omega
  have a2 : ¬ ((a : Int) < 0) := by omega
  have a3 : decide ((l.length : Int) < a) = false := by simpa using a1
  have a4 : decide (l.length < a) = false := by simp; omega
  by_cases c1 : a = l.length
  · have q1 : ((a : Int) == (l.length : Int)) = true := by simp; omega
    have q2 : (a == l.length) = true := by simpa using c1
    have HR := Lib.hid (hd_bad (l := l) (a := (a : Int)) (e := 4) (by rw [hd_in ha]; unfold hdN; rw [if_pos c1]) (by decide))
    clear c1
    go_enter Try.func26, Try.ntmps26
    go_wp2
    (try simp only [Exit.inBlock, Exit.then]); refine bodyPost_ret (results_tmp4 rfl _ _ _) rfl ?_
    exact Ret.mk (by rw [HR.out.1, HR.out.2.1, HR.out.2.2.1, HR.out.2.2.2]; rfl) (Below.refl _ _)
  have ha' : a < l.length := by omega
  have q1 : ((a : Int) == (l.length : Int)) = false := by simp; omega
  have q2 : (a == l.length) = false := by simpa using c1
  have q3 : (a : Int) < (l.length : Int) := by omega
  have q4 : (0 : Int) ≤ (a : Int) := by omega
  obtain ⟨ad, rfl, hb1, hcell1⟩ := hv.at_ ha'
  have hB1 := cB_in ha'
  by_cases c2 : l[a].toNat = 76
  rotate_left
  · have d1 : ((l[a].toNat : Int) != 76) = true := by simp; omega
    have d2 : ((l[a].toNat : Int) == 76) = false := by simp; omega
    have HR := Lib.hid (hd_bad (l := l) (a := (a : Int)) (e := 3) (by rw [hd_in ha]; unfold hdN; rw [if_neg c1, if_pos (by rw [hB1]; exact c2)]) (by decide))
    clear c1 c2 hB1
    generalize l[a] = c at *
    go_enter Try.func26, Try.ntmps26
    go_wp2
    (try simp only [Exit.inBlock, Exit.then]); refine bodyPost_ret (results_tmp4 rfl _ _ _) rfl ?_
    exact Ret.mk (by rw [HR.out.1, HR.out.2.1, HR.out.2.2.1, HR.out.2.2.2]; rfl) (Below.refl _ _)
  have d1 : ((l[a].toNat : Int) != 76) = false := by simp; omega
  have d2 : ((l[a].toNat : Int) == 76) = true := by simp; omega
  have d3 : (l[a].toNat : Int) = 76 := by omega
  rw [d3] at hcell1
  have B1 := Lib.hid (hB1.trans c2)
  clear c2 hB1 d1 d2 d3
  by_cases c3 : a + 1 = l.length
  · have r1 : ((a : Int) + 1 == (l.length : Int)) = true := by simp; omega
    have HR := Lib.hid (hd_bad (l := l) (a := (a : Int)) (e := 4) (by rw [hd_in ha]; unfold hdN; rw [if_neg c1, if_neg (by rw [B1.out]; decide), if_pos c3]) (by decide))
    have c3' : (a : Int) + 1 = (l.length : Int) := by omega
    clear c1 c3 c3'
    go_enter Try.func26, Try.ntmps26
    go_wp2
    (try simp only [Exit.inBlock, Exit.then]); refine bodyPost_ret (results_tmp4 rfl _ _ _) rfl ?_
    exact Ret.mk (by rw [HR.out.1, HR.out.2.1, HR.out.2.2.1, HR.out.2.2.2]; rfl) (Below.refl _ _)
  have hb : a + 1 < l.length := by omega
  have r1 : ((a : Int) + 1 == (l.length : Int)) = false := by simp; omega
  have r3 : (a : Int) + 1 < (l.length : Int) := by omega
  have r4 : (0 : Int) ≤ (a : Int) + 1 := by omega
  obtain ⟨ad2, e2, hb2, hcell2⟩ := hv.at_ hb
  injection e2 with e2
  subst e2
  have eA : ad.add (a + 1) = ⟨ad.block, ad.off + (a + 1), none⟩ := by unfold Addr.add; simp
  rw [eA] at hcell2
  have hB2 := cB_in hb
  have hr2 : (l[a + 1].toNat : Int) ≤ 255 := by have := l[a + 1].toNat_lt; omega
  by_cases c4 : l[a + 1].toNat = 0
  · have d1 : ((l[a + 1].toNat : Int) == 0) = true := by simp; omega
    have d3 : (l[a + 1].toNat : Int) = 0 := by omega
    rw [d3] at hcell2
    have HR := Lib.hid (hd_bad (l := l) (a := (a : Int)) (e := 3) (by rw [hd_in ha]; unfold hdN; rw [if_neg c1, if_neg (by rw [B1.out]; decide), if_neg c3, if_pos (by rw [hB2]; exact c4)]) (by decide))
    clear c1 c3 c4 hB2 d1 d3
    go_enter Try.func26, Try.ntmps26
    go_wp2
    (try simp only [Exit.inBlock, Exit.then]); refine bodyPost_ret (results_tmp4 rfl _ _ _) rfl ?_
    exact Ret.mk (by rw [HR.out.1, HR.out.2.1, HR.out.2.2.1, HR.out.2.2.2]; rfl) (Below.refl _ _)
  have d1 : ((l[a + 1].toNat : Int) == 0) = false := by simp; omega
  have B2 := Lib.hid hB2
  have C4 : ¬ cB l (a + 1) = 0 := by rw [hB2]; exact c4
  have hI := fun w' (h : Below w.heap.size w w') => int_any l (some ad) cap ((a + 2 : Nat) : Int) ⟨by omega, by omega⟩ w' (hv.below h) (by omega)
  rw [show ((a + 2 : Nat) : Int) = (a : Int) + 2 by omega] at hI
  by_cases c5 : intE l ((a + 2 : Nat) : Int) = 0
  rotate_left
  · have HR := Lib.hid (hd_bad (l := l) (a := (a : Int)) (e := intE l ((a + 2 : Nat) : Int)) (by rw [hd_in ha]; unfold hdN; rw [if_neg c1, if_neg (by rw [B1.out]; decide), if_neg c3, if_neg C4, if_pos c5]) c5)
    rw [show ((a + 2 : Nat) : Int) = (a : Int) + 2 by omega] at HR c5
    have f1 : (intE l ((a : Int) + 2) == 0) = false := by simpa using c5
    have f2 : (intE l ((a : Int) + 2) != 0) = true := by simpa using c5
    have f3 : decide (intE l ((a : Int) + 2) = 0) = false := by simpa using c5
    clear c1 c3 c4 hB2 C4
    generalize intE l ((a : Int) + 2) = E at *
    generalize intN l ((a : Int) + 2) = N at *
    generalize intTo l ((a : Int) + 2) = T at *
    generalize l[a + 1] = c at *
    go_enter Try.func26, Try.ntmps26
    go_wp2_with fail
    refine (hI _ (Below.refl _ _)).mono ?_
    rintro e w1 ⟨rfl, h1⟩
    clear hI
    go_wp2
    (try simp only [Exit.inBlock, Exit.then]); refine bodyPost_ret (results_tmp4 rfl _ _ _) rfl ?_
    exact Ret.mk (by rw [HR.out.1, HR.out.2.1, HR.out.2.2.1, HR.out.2.2.2]; rfl) h1
  have hbd := int_bd c5
  have c5' : intE l ((a : Int) + 2) = 0 := by rw [← c5]; rfl
  rw [c5'] at hI
  by_cases c6 : intN l ((a + 2 : Nat) : Int) < 0 ∨ 1048576 < intN l ((a + 2 : Nat) : Int)
  · have HR := Lib.hid (hd_bad (l := l) (a := (a : Int)) (e := 3) (by rw [hd_in ha]; unfold hdN; rw [if_neg c1, if_neg (by rw [B1.out]; decide), if_neg c3, if_neg C4, if_neg (by rw [c5]; decide), if_pos c6]) (by decide))
    rw [show ((a + 2 : Nat) : Int) = (a : Int) + 2 by omega] at c6
    clear c1 c3 c4 hB2 C4 c5 c5' hbd
    by_cases c7 : intN l ((a : Int) + 2) < 0
    · have f1 : decide (intN l ((a : Int) + 2) < 0) = true := by simpa using c7
      clear c6
      generalize intN l ((a : Int) + 2) = N at *
      generalize intTo l ((a : Int) + 2) = T at *
      generalize l[a + 1] = c at *
      go_enter Try.func26, Try.ntmps26
      go_wp2_with fail
      refine (hI _ (Below.refl _ _)).mono ?_
      rintro e w1 ⟨rfl, h1⟩
      clear hI
      go_wp2
      (try simp only [Exit.inBlock, Exit.then]); refine bodyPost_ret (results_tmp4 rfl _ _ _) rfl ?_
      exact Ret.mk (by rw [HR.out.1, HR.out.2.1, HR.out.2.2.1, HR.out.2.2.2]; rfl) h1
    · have f1 : decide (intN l ((a : Int) + 2) < 0) = false := by simpa using c7
      have c8 : 1048576 < intN l ((a : Int) + 2) := by omega
      have f2 : decide (1048576 < intN l ((a : Int) + 2)) = true := by simpa using c8
      clear c6
      generalize intN l ((a : Int) + 2) = N at *
      generalize intTo l ((a : Int) + 2) = T at *
      generalize l[a + 1] = c at *
      go_enter Try.func26, Try.ntmps26
      go_wp2_with fail
      refine (hI _ (Below.refl _ _)).mono ?_
      rintro e w1 ⟨rfl, h1⟩
      clear hI
      go_wp2
      (try simp only [Exit.inBlock, Exit.then]); refine bodyPost_ret (results_tmp4 rfl _ _ _) rfl ?_
      exact Ret.mk (by rw [HR.out.1, HR.out.2.1, HR.out.2.2.1, HR.out.2.2.2]; rfl) h1
  have HR := Lib.hid (hd_ok (l := l) (a := (a : Int)) (by rw [hd_in ha]; unfold hdN; rw [if_neg c1, if_neg (by rw [B1.out]; decide), if_neg c3, if_neg C4, if_neg (by rw [c5]; decide), if_neg c6]))
  rw [Int.toNat_natCast, B2.out, show ((a + 2 : Nat) : Int) = (a : Int) + 2 by omega] at HR
  rw [show ((a + 2 : Nat) : Int) = (a : Int) + 2 by omega] at c6 hbd
  have c7 : ¬ intN l ((a : Int) + 2) < 0 := by omega
  have c8 : ¬ 1048576 < intN l ((a : Int) + 2) := by omega
  have f1 : decide (intN l ((a : Int) + 2) < 0) = false := by simpa using c7
  have f2 : decide (1048576 < intN l ((a : Int) + 2)) = false := by simpa using c8
  have s1 : 0 < intTo l ((a : Int) + 2) := hbd.1
  have s2 : intTo l ((a : Int) + 2) ≤ l.length := hbd.2.1
  clear c1 c3 c4 hB2 C4 c5 c5' hbd c6 B2
  have hv2 := Lib.hid hv
  generalize intN l ((a : Int) + 2) = N at *
  generalize intTo l ((a : Int) + 2) = T at *
  generalize l[a + 1] = c at *
  go_enter Try.func26, Try.ntmps26
  go_wp2_with fail
  refine (hI _ (Below.refl _ _)).mono ?_
  rintro e w1 ⟨rfl, h1⟩
  have hcell4 : w1.cell? ⟨ad.block, ad.off + (a + 1), none⟩ = some (.int .u8 (c.toNat : Int)) := (h1.cell (p := ⟨ad.block, ad.off + (a + 1), none⟩) hb2).trans hcell2
  clear hI
  go_wp2
  (try simp only [Exit.inBlock, Exit.then]); refine bodyPost_ret (results_tmp4 rfl _ _ _) rfl ?_
  exact Ret.mk (by rw [HR.out.1, HR.out.2.1, HR.out.2.2.1, HR.out.2.2.2]; rfl) h1
end Go.Proofs.Ytefjjjclgcidnaa
