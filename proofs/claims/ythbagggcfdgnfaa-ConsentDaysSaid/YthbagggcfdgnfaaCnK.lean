/- The example of the chapter. -/
import Derived.Test.YthbagggcfdgnfaaCnD
import Derived.Test.YthbagggcfdgnfaaCnZ
import Derived.Test.YthbagggcfdgnfaaCnV
import Derived.Test.YthbagggcfdgnfaaCnS
import Derived.Test.YthbagggcfdgnfaaSame
namespace Go.Proofs.Ythbagggcfdgnfaa
open Go.RowKit

theorem People.one (w : World) (x : Pn) (t : TypeId) : People (w.alloc (.cells #[.int .i64 x.id, .string ⟨x.nm.toArray⟩, .bool x.mb] t)) (some ⟨w.heap.size, 0, none⟩) [x] := fun i hi => by
  obtain rfl : i = 0 := by simpa using hi
  refine ⟨_, rfl, by simp, fun j v hv => ?_⟩
  rw [Nat.zero_mul, Nat.zero_add, show ((⟨w.heap.size, 0, none⟩ : Addr).add j) = ⟨w.heap.size, j, none⟩ by unfold Addr.add; split <;> simp_all, World.cell?_alloc_at _ _ _ _ rfl]
  simpa [encP] using hv
abbrev exP : List Pn := [⟨7, [65, 110, 97], false⟩]
abbrev exC1 : Cn := ⟨7, 3, 20, 0⟩
abbrev exC2 : Cn := ⟨7, 0, 10, 2⟩
abbrev exL : List Cn := [exC2, exC1]
theorem ex1 (w : World) : Calls Try.prog 22 #[.slice none 0 0, .agg #[.int .i64 7, .int .i64 3, .int .i64 20, .int .i64 0]] w (RetCons [exC1] w) := by
  have h := give_any [] none 0 exC1 w (Structs.nil_ _ _) (by simp) (by simp)
  rw [show giveL [] exC1 = [exC1] by rfl] at h
  exact h
theorem ex2 (A : Option Addr) (cap : Nat) (w : World) (h : Cons w A [exC1]) (hc : 1 ≤ cap) : Calls Try.prog 22 #[.slice A 1 cap, .agg #[.int .i64 7, .int .i64 0, .int .i64 10, .int .i64 2]] w (RetCons exL w) := by
  have h := give_any [exC1] A cap exC2 w h (by simp) (by simpa using hc)
  rw [show giveL [exC1] exC2 = exL by rfl] at h
  exact h

theorem ex3 (A B : Option Addr) (ca cb : Nat) (w : World) (hp : People w A exP) (hc : Cons w B exL) : Calls Try.prog 12 #[.slice A 1 ca, .slice B 2 cb] w (Ret (.int .i64 0) w) := by
  have h := check_any exP exL A B ca cb w hp hc (by simp) (by simp)
  rw [show checkE exP exL = 0 by decide +kernel] at h
  exact h
theorem ex4 (B : Option Addr) (cb : Nat) (w : World) (hc : Cons w B exL) : Calls Try.prog 12 #[.slice none 0 0, .slice B 2 cb] w (Ret (.int .i64 9) w) := by
  have h := check_any [] exL none B 0 cb w (Structs.nil_ _ _) hc (by simp) (by simp)
  rw [show checkE [] exL = 9 by decide +kernel] at h
  exact h
theorem ex5 (B : Option Addr) (cb : Nat) (p r d k : Int) (w : World) (hc : Cons w B exL) (hk : atK exL p r d = k) : Calls Try.prog 15 #[.slice B 2 cb, .int .i64 p, .int .i64 r, .int .i64 d] w (Ret (.int .i64 k) w) := by
  have h := at_any exL B cb p r d w hc (by simp)
  rw [hk] at h
  exact h
theorem ex6 (B S : Option Addr) (cb cs : Nat) (w : World) (hc : Cons w B exL) (hs : Ints w S [7]) : Calls Try.prog 17 #[.slice B 2 cb, .agg #[.int .i64 3, .string ⟨#[]⟩, .int .i64 0, .int .i64 0, .slice S 1 cs], .int .i64 15] w (Ret (.int .i64 2) w) := by
  have h := least_any exL B S cb cs 3 0 0 15 [] [7] w hc hs (by simp) (by simp)
  rw [show leastK exL 3 [7] 15 = 2 by decide +kernel] at h
  exact h
theorem ex7 (B S : Option Addr) (cb cs : Nat) (w : World) (hc : Cons w B exL) (hs : Ints w S [7]) : Calls Try.prog 20 #[.slice B 2 cb, .agg #[.int .i64 3, .string ⟨#[]⟩, .int .i64 0, .int .i64 0, .slice S 1 cs]] w (Gives [10, 20] w.heap.size w) := by
  have h := days_any exL B S cb cs 3 0 0 [] [7] w hc hs (by simp) (by simp) (by simp)
  rw [show daysC exL 3 [7] = [10, 20] by decide +kernel] at h
  exact h

set_option maxRecDepth 20000 in
set_option maxHeartbeats 4000000 in
theorem awake_any (w : World) : Calls Try.prog 11 #[] w (Ret (.bool true) w) := by
  go_enter Try.func11, Try.ntmps11
  go_wp2_with fail
  refine (ex1 _).mono ?_
  rintro e w1 ⟨A1, c1, rfl, ⟨i1, k1⟩, h1⟩
  have P1 : Hid (People w1 (some ⟨w.heap.size, 0, none⟩) exP) := Lib.hid ((People.one w ⟨7, [65, 110, 97], false⟩ _).below h1)
  have H1 := Lib.hid (show Below w.heap.size w w1 from (by repeat (first | assumption | exact Below.refl _ _ | refine Below.alloc ?_ (by first | omega | (simp; done) | (simp; omega)) _ | refine Below.setCell ?_ (by first | omega | (simp; done) | (simp; omega)) _ | refine Below.drew ?_ | refine Below.drewN_ ?_ _ | refine Below.step ?_ (by assumption))))
  clear h1
  go_wp2_with fail
  refine (ex2 A1 c1 w1 i1 k1).mono ?_
  rintro e w2 ⟨A2, c2, rfl, ⟨i2, k2⟩, h2⟩
  have P2 := Lib.hid (P1.out.below h2)
  have H2 := Lib.hid (Below.step H1.out h2)
  clear h2 k2 P1 H1 i1 k1
  obtain ⟨a2, rfl, z2, d0, d1, d2, d3⟩ := i2.cells (i := 0) (by simp)
  rw [Nat.zero_mul, show a2.add 0 = a2 by unfold Addr.add; simp] at d0 d1 d2 d3
  go_wp2_with fail
  have I2 := Lib.hid i2
  have z3 := H2.out.size
  obtain ⟨Z, hZ⟩ : ∃ Z, (w2.alloc (.cells #[.int .i64 7] 3)).alloc (.cells #[.int .i64 3, .string ⟨#[]⟩, .int .i64 0, .int .i64 0, .slice (some ⟨w2.heap.size, 0, none⟩) 1 1] 34) = Z := ⟨_, rfl⟩
  have HZ : Below w2.heap.size w2 Z := by rw [← hZ]; exact ((Below.refl _ w2).alloc (Nat.le_refl _) _).alloc (by simp) _
  have zz : Z.heap.size = w2.heap.size + 2 := by rw [← hZ]; simp
  have r0 : Z.cell? ⟨w2.heap.size + 1, 0, none⟩ = some (.int .i64 3) := by rw [← hZ]; simp [go_sem]
  have r1 : Z.cell? ⟨w2.heap.size + 1, 1, none⟩ = some (.string ⟨#[]⟩) := by rw [← hZ]; simp [go_sem]
  have r2 : Z.cell? ⟨w2.heap.size + 1, 2, none⟩ = some (.int .i64 0) := by rw [← hZ]; simp [go_sem]
  have r3 : Z.cell? ⟨w2.heap.size + 1, 3, none⟩ = some (.int .i64 0) := by rw [← hZ]; simp [go_sem]
  have r4 : Z.cell? ⟨w2.heap.size + 1, 4, none⟩ = some (.slice (some ⟨w2.heap.size, 0, none⟩) 1 1) := by rw [← hZ]; simp [go_sem]
  have S0 : Hid (Ints Z (some ⟨w2.heap.size, 0, none⟩) [7]) := Lib.hid (by rw [← hZ]; exact (Ints.new w2 [7] 3).alloc _)
  have P3 := Lib.hid (P2.out.below HZ)
  have I3 := Lib.hid (I2.out.below HZ)
  have H3 := Lib.hid (Below.step H2.out HZ)
  rw [hZ]
  clear hZ HZ z3 P2 I2 H2 d0 d1 d2 d3 i2
  refine (ex3 _ _ _ _ _ P3.out I3.out).mono ?_
  rintro e W ⟨rfl, hc⟩
  replace r0 := ((bcell hc).1 _ 0 (by omega)).trans r0
  replace r1 := ((bcell hc).1 _ 1 (by omega)).trans r1
  replace r2 := ((bcell hc).1 _ 2 (by omega)).trans r2
  replace r3 := ((bcell hc).1 _ 3 (by omega)).trans r3
  replace r4 := ((bcell hc).1 _ 4 (by omega)).trans r4
  replace S0 := Lib.hid (S0.out.below hc)
  replace P3 := Lib.hid (P3.out.below hc)
  replace I3 := Lib.hid (I3.out.below hc)
  replace H3 := Lib.hid (Below.step H3.out hc)
  have zz' := hc.size
  replace zz : w2.heap.size + 2 ≤ W.heap.size := by omega
  clear hc zz' 
  go_wp2_with fail
  refine (ex4 _ _ _ I3.out).mono ?_
  rintro e W ⟨rfl, hc⟩
  replace r0 := ((bcell hc).1 _ 0 (by omega)).trans r0
  replace r1 := ((bcell hc).1 _ 1 (by omega)).trans r1
  replace r2 := ((bcell hc).1 _ 2 (by omega)).trans r2
  replace r3 := ((bcell hc).1 _ 3 (by omega)).trans r3
  replace r4 := ((bcell hc).1 _ 4 (by omega)).trans r4
  replace S0 := Lib.hid (S0.out.below hc)
  replace P3 := Lib.hid (P3.out.below hc)
  replace I3 := Lib.hid (I3.out.below hc)
  replace H3 := Lib.hid (Below.step H3.out hc)
  have zz' := hc.size
  replace zz : w2.heap.size + 2 ≤ W.heap.size := by omega
  clear hc zz' 
  go_wp2_with fail
  refine (ex5 _ _ 7 3 9 0 _ I3.out (by decide +kernel)).mono ?_
  rintro e W ⟨rfl, hc⟩
  replace r0 := ((bcell hc).1 _ 0 (by omega)).trans r0
  replace r1 := ((bcell hc).1 _ 1 (by omega)).trans r1
  replace r2 := ((bcell hc).1 _ 2 (by omega)).trans r2
  replace r3 := ((bcell hc).1 _ 3 (by omega)).trans r3
  replace r4 := ((bcell hc).1 _ 4 (by omega)).trans r4
  replace S0 := Lib.hid (S0.out.below hc)
  replace P3 := Lib.hid (P3.out.below hc)
  replace I3 := Lib.hid (I3.out.below hc)
  replace H3 := Lib.hid (Below.step H3.out hc)
  have zz' := hc.size
  replace zz : w2.heap.size + 2 ≤ W.heap.size := by omega
  clear hc zz' 
  go_wp2_with fail
  refine (ex5 _ _ 7 3 19 2 _ I3.out (by decide +kernel)).mono ?_
  rintro e W ⟨rfl, hc⟩
  replace r0 := ((bcell hc).1 _ 0 (by omega)).trans r0
  replace r1 := ((bcell hc).1 _ 1 (by omega)).trans r1
  replace r2 := ((bcell hc).1 _ 2 (by omega)).trans r2
  replace r3 := ((bcell hc).1 _ 3 (by omega)).trans r3
  replace r4 := ((bcell hc).1 _ 4 (by omega)).trans r4
  replace S0 := Lib.hid (S0.out.below hc)
  replace P3 := Lib.hid (P3.out.below hc)
  replace I3 := Lib.hid (I3.out.below hc)
  replace H3 := Lib.hid (Below.step H3.out hc)
  have zz' := hc.size
  replace zz : w2.heap.size + 2 ≤ W.heap.size := by omega
  clear hc zz' 
  go_wp2_with fail
  refine (ex5 _ _ 7 3 20 0 _ I3.out (by decide +kernel)).mono ?_
  rintro e W ⟨rfl, hc⟩
  replace r0 := ((bcell hc).1 _ 0 (by omega)).trans r0
  replace r1 := ((bcell hc).1 _ 1 (by omega)).trans r1
  replace r2 := ((bcell hc).1 _ 2 (by omega)).trans r2
  replace r3 := ((bcell hc).1 _ 3 (by omega)).trans r3
  replace r4 := ((bcell hc).1 _ 4 (by omega)).trans r4
  replace S0 := Lib.hid (S0.out.below hc)
  replace P3 := Lib.hid (P3.out.below hc)
  replace I3 := Lib.hid (I3.out.below hc)
  replace H3 := Lib.hid (Below.step H3.out hc)
  have zz' := hc.size
  replace zz : w2.heap.size + 2 ≤ W.heap.size := by omega
  clear hc zz' 
  go_wp2_with fail
  refine (ex5 _ _ 7 4 20 2 _ I3.out (by decide +kernel)).mono ?_
  rintro e W ⟨rfl, hc⟩
  replace r0 := ((bcell hc).1 _ 0 (by omega)).trans r0
  replace r1 := ((bcell hc).1 _ 1 (by omega)).trans r1
  replace r2 := ((bcell hc).1 _ 2 (by omega)).trans r2
  replace r3 := ((bcell hc).1 _ 3 (by omega)).trans r3
  replace r4 := ((bcell hc).1 _ 4 (by omega)).trans r4
  replace S0 := Lib.hid (S0.out.below hc)
  replace P3 := Lib.hid (P3.out.below hc)
  replace I3 := Lib.hid (I3.out.below hc)
  replace H3 := Lib.hid (Below.step H3.out hc)
  have zz' := hc.size
  replace zz : w2.heap.size + 2 ≤ W.heap.size := by omega
  clear hc zz' 
  go_wp2_with fail
  refine (ex6 _ _ _ _ _ I3.out S0.out).mono ?_
  rintro e W ⟨rfl, hc⟩
  replace r0 := ((bcell hc).1 _ 0 (by omega)).trans r0
  replace r1 := ((bcell hc).1 _ 1 (by omega)).trans r1
  replace r2 := ((bcell hc).1 _ 2 (by omega)).trans r2
  replace r3 := ((bcell hc).1 _ 3 (by omega)).trans r3
  replace r4 := ((bcell hc).1 _ 4 (by omega)).trans r4
  replace S0 := Lib.hid (S0.out.below hc)
  replace P3 := Lib.hid (P3.out.below hc)
  replace I3 := Lib.hid (I3.out.below hc)
  replace H3 := Lib.hid (Below.step H3.out hc)
  have zz' := hc.size
  replace zz : w2.heap.size + 2 ≤ W.heap.size := by omega
  clear hc zz' 
  go_wp2_with fail
  refine (ex7 _ _ _ _ _ I3.out S0.out).mono ?_
  rintro e W ⟨A9, c9, rfl, i9, hc⟩
  have H9 := Lib.hid (Below.step H3.out hc)
  have i10 : Ints (W.alloc (.cells #[.int .i64 10, .int .i64 20] 3)) A9 [10, 20] := i9.alloc _
  have i11 := Ints.new W [10, 20] 3
  clear hc r0 r1 r2 r3 r4 S0 P3 I3
  go_wp2_with fail
  refine (same_yes [10, 20] A9 (some ⟨W.heap.size, 0, none⟩) c9 2 _ i10 i11 (by decide)).mono ?_
  rintro e W2 ⟨rfl, hc⟩
  have HE := Lib.hid (Below.trans H9.out ((((Below.refl _ W).alloc (Nat.le_refl _) _).trans (hc.mono (by simp))).mono H9.out.size))
  clear hc i10 i11 H9
  go_wp2
  go_ret
  exact Ret.mk rfl HE.out
end Go.Proofs.Ythbagggcfdgnfaa
