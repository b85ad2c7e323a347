/- Both Give. -/
import Derived.Test.YthbagggcfdgnfaaCnC
import Derived.Test.YthbagggcfdgnfaaCnB
import Derived.Test.YthbagggcfdgnfaaRegion
namespace Go.Proofs.Ythbagggcfdgnfaa
open Go.RowKit

theorem cell_old {w : World} {a : Addr} {v : Value} (o : Obj) (h : w.cell? a = some v) : (w.alloc o).cell? a = some v := by
  have hlt : a.block < w.heap.size := by
    rcases Nat.lt_or_ge a.block w.heap.size with h1 | h1
    · exact h1
    · exfalso
      unfold World.cell? at h
      rw [Array.getElem?_eq_none h1] at h
      split at h <;> simp_all
  exact (((Below.refl w.heap.size w).alloc (Nat.le_refl _) o).cell hlt).trans h

theorem four_old {w : World} {b : Nat} {c : Cn} (o : Obj) (h : w.cell? ⟨b, 0, none⟩ = some (.int .i64 c.p) ∧ w.cell? ⟨b, 1, none⟩ = some (.int .i64 c.r) ∧ w.cell? ⟨b, 2, none⟩ = some (.int .i64 c.d) ∧ w.cell? ⟨b, 3, none⟩ = some (.int .i64 c.k)) : (w.alloc o).cell? ⟨b, 0, none⟩ = some (.int .i64 c.p) ∧ (w.alloc o).cell? ⟨b, 1, none⟩ = some (.int .i64 c.r) ∧ (w.alloc o).cell? ⟨b, 2, none⟩ = some (.int .i64 c.d) ∧ (w.alloc o).cell? ⟨b, 3, none⟩ = some (.int .i64 c.k) := ⟨cell_old _ h.1, cell_old _ h.2.1, cell_old _ h.2.2.1, cell_old _ h.2.2.2⟩

theorem Cons.one (w : World) (c : Cn) (t : TypeId) : Cons (w.alloc (.cells #[.int .i64 c.p, .int .i64 c.r, .int .i64 c.d, .int .i64 c.k] t)) (some ⟨w.heap.size, 0, none⟩) [c] := fun i hi => by
  obtain rfl : i = 0 := by simpa using hi
  refine ⟨_, rfl, by simp, fun j v hv => ?_⟩
  rw [Nat.zero_mul, Nat.zero_add, show ((⟨w.heap.size, 0, none⟩ : Addr).add j) = ⟨w.heap.size, j, none⟩ by unfold Addr.add; split <;> simp_all, World.cell?_alloc_at _ _ _ _ rfl]
  simpa [encC] using hv

/-- The consents behind a place. -/
theorem Cons.behind {w : World} {ad : Addr} {l : List Cn} (h : Cons w (some ad) l) (n : Nat) : Cons w (some (ad.add (n * 4))) (l.drop n) := Structs.drop h n

theorem give_concat (x y : List Cn) (c : Cn) (A1 A2 : Option Addr) (n1 n2 c1 c2 : Nat) (W : World) (t1 t2 : TypeId) (h1 : Cons W A1 x) (h2 : Cons W A2 y) (e1 : x.length = n1) (e2 : y.length = n2) (hx : n1 ≤ 40000) (hy : n2 ≤ 40000) :
    Calls Try.prog 33 #[.slice (some ⟨W.heap.size + 1, 0, none⟩) 3 3] ((W.alloc (.cells #[.int .i64 c.p, .int .i64 c.r, .int .i64 c.d, .int .i64 c.k] t1)).alloc (.cells #[.slice A1 n1 c1, .slice (some ⟨W.heap.size, 0, none⟩) 1 1, .slice A2 n2 c2] t2)) (RetCons (x ++ [c] ++ y) W) := by
  subst e1 e2
  have hs : (W.alloc (.cells #[.int .i64 c.p, .int .i64 c.r, .int .i64 c.d, .int .i64 c.k] t1)).heap.size = W.heap.size + 1 := by simp
  rw [← hs]
  refine (concatC_any x [c] y A1 (some ⟨W.heap.size, 0, none⟩) A2 c1 1 c2 _ _ ((Structs.alloc h1 _).below ((Below.refl _ _).alloc (Nat.le_refl _) _)) (Structs.alloc (Cons.one W c t1) _) ((Structs.alloc h2 _).below ((Below.refl _ _).alloc (Nat.le_refl _) _)) hx (by simp) hy (by simp) ?_ ?_ ?_).mono ?_
  · rw [World.cell?_alloc_at _ _ _ _ rfl]; rfl
  · rw [World.cell?_alloc_at _ _ _ _ rfl]; rfl
  · rw [World.cell?_alloc_at _ _ _ _ rfl]; rfl
  · rintro e w' ⟨A, cap, rfl, hc, hb⟩
    exact ⟨A, cap, rfl, hc, ((((Below.refl _ W).alloc (Nat.le_refl _) _).alloc (by simp) _)).trans (hb.mono (by simp; omega))⟩

set_option maxRecDepth 20000 in
set_option maxHeartbeats 4000000 in
theorem give_any (l : List Cn) (A : Option Addr) (cap : Nat) (c : Cn) (w : World) (ha : Cons w A l) (hl : l.length ≤ 1000) (hcap : l.length ≤ cap) :
    Calls Try.prog 22 #[.slice A l.length cap, .agg #[.int .i64 c.p, .int .i64 c.r, .int .i64 c.d, .int .i64 c.k]] w (RetCons (giveL l c) w) := by
  go_enter Try.func22, Try.ntmps22
  go_wp2
  go_loopw [5] (fun i wr => ∃ k : Nat, k ≤ l.length ∧ i = .int .i64 (k : Int) ∧ Hid (∀ j (hj : j < l.length), k ≤ j → c.d < l[j].d) ∧ FourC wr w.heap.size c ∧ Below w.heap.size w wr) (fun i _ => (intOf i).toNat)
  case atStart => exact ⟨l.length, Nat.le_refl _, rfl, Lib.hid fun j hj h => by omega, FourC.new w c _, (by repeat (first | assumption | exact Below.refl _ _ | refine Below.alloc ?_ (by first | omega | (simp; done) | (simp; omega)) _ | refine Below.setCell ?_ (by first | omega | (simp; done) | (simp; omega)) _ | refine Below.drew ?_ | refine Below.drewN_ ?_ _ | refine Below.step ?_ (by assumption)))⟩
  case round =>
    obtain ⟨k, hk, rfl, HA, ⟨zc, e0, e1, e2, e3⟩, hbw⟩ := hrel
    rcases k with _ | k
    · have HG : Hid (giveAt l c.d = 0) := Lib.hid (giveAt_is (by omega) HA.out fun h => by omega)
      go_wp2
      go_quiet (fail)
      go_wp2
      go_region_held3 (fun w' => w'.cell? ⟨w.heap.size, 0, none⟩ = some (.int .i64 c.p) ∧ w'.cell? ⟨w.heap.size, 1, none⟩ = some (.int .i64 c.r) ∧ w'.cell? ⟨w.heap.size, 2, none⟩ = some (.int .i64 c.d) ∧ w'.cell? ⟨w.heap.size, 3, none⟩ = some (.int .i64 c.k))
        (first | exact ⟨‹_›, ‹_›, ‹_›, ‹_›⟩ | exact four_old _ ⟨‹_›, ‹_›, ‹_›, ‹_›⟩ | exact four_old _ ‹_›)
        (first | (go_at_call 33; refine (give_concat [] l c A A 0 l.length _ _ _ _ _ (Structs.nil_ _ _) (ha.below (Below.drewN_ hbw _)) rfl rfl (by omega) (by omega)).mono ?_; rintro e x1 ⟨A1, cap1, rfl, y1, z1⟩; have q0 := ((bcell z1).1 _ 0 zc).trans e0; have q1 := ((bcell z1).1 _ 1 zc).trans e1; have q2 := ((bcell z1).1 _ 2 zc).trans e2; have q3 := ((bcell z1).1 _ 3 zc).trans e3; have Y1 := Lib.hid y1; have Z1 : Hid (Below w.heap.size w x1) := Lib.hid ((Below.drewN_ hbw _).trans (z1.mono hbw.size)); clear y1 z1))
      go_wp2
      go_ret
      exact ⟨A1, cap1, by simp [giveL, HG.out], by rw [giveL, HG.out]; simpa using Y1.out, Z1.out⟩
    · obtain ⟨ad, rfl, _, d0, d1, d2, d3⟩ := Cons.cells (ha.below hbw) (i := k) (by omega)
      by_cases hgt : c.d < l[k].d
      · have HA' : Hid (∀ j (hj : j < l.length), k ≤ j → c.d < l[j].d) := Lib.hid fun j hj h => by
          rcases Nat.lt_or_ge k j with h' | h'
          · exact HA.out j hj h'
          · have : j = k := by omega
            subst this; exact hgt
        go_wp2
        go_quiet (fail)
        go_wp2
        exact ⟨⟨k, by omega, rfl, HA', ⟨zc, e0, e1, e2, e3⟩, Below.drewN_ hbw _⟩, by simp [intOf]⟩
      · have HG : Hid (giveAt l c.d = k + 1) := Lib.hid (giveAt_is (by omega) HA.out fun h => hgt)
        rcases Nat.lt_or_ge (k + 1) cap with hkl | hkl
        rotate_left
        · obtain rfl : cap = k + 1 := by omega
          clear hkl
          go_wp2
          go_quiet (fail)
          go_wp2
          have i0 : (0 : Int) ≤ (k : Int) + 1 := by omega
          have i1 : (k : Int) + 1 ≤ (l.length : Int) := by omega
          have i2 : (k : Int) + 1 ≤ (((k + 1 : Nat)) : Int) := by omega
          have i3 : (l.length : Int) ≤ (((k + 1 : Nat)) : Int) := by omega
          have j0 : (0 : Int) ≤ ((k + 1 : Nat) : Int) := by omega
          have j1 : ((k + 1 : Nat) : Int) ≤ (l.length : Int) := by omega
          have j2 : ((k + 1 : Nat) : Int) ≤ (((k + 1 : Nat)) : Int) := by omega
          have j3 : ((k : Int) + 1).toNat = k + 1 := by omega
          go_region_held3 (fun w' => w'.cell? ⟨w.heap.size, 0, none⟩ = some (.int .i64 c.p) ∧ w'.cell? ⟨w.heap.size, 1, none⟩ = some (.int .i64 c.r) ∧ w'.cell? ⟨w.heap.size, 2, none⟩ = some (.int .i64 c.d) ∧ w'.cell? ⟨w.heap.size, 3, none⟩ = some (.int .i64 c.k))
            (first | exact ⟨‹_›, ‹_›, ‹_›, ‹_›⟩ | exact four_old _ ⟨‹_›, ‹_›, ‹_›, ‹_›⟩ | exact four_old _ ‹_›)
            (first | (go_at_call 33; refine (give_concat (l.take (k + 1)) [] c (some ad) (some ad) (k + 1) 0 _ _ _ _ _ (Structs.take (ha.below (Below.drewN_ hbw _)) _) (Structs.nil_ _ _) (by rw [List.length_take]; omega) rfl (by omega) (by omega)).mono ?_; rintro e x1 ⟨A1, cap1, rfl, y1, z1⟩; have q0 := ((bcell z1).1 _ 0 zc).trans e0; have q1 := ((bcell z1).1 _ 1 zc).trans e1; have q2 := ((bcell z1).1 _ 2 zc).trans e2; have q3 := ((bcell z1).1 _ 3 zc).trans e3; have Y1 := Lib.hid y1; have Z1 : Hid (Below w.heap.size w x1) := Lib.hid ((Below.drewN_ hbw _).trans (z1.mono hbw.size)); clear y1 z1))
          go_wp2
          go_ret
          have hdr : l.drop (k + 1) = [] := List.drop_of_length_le (by omega)
          exact ⟨A1, cap1, by rw [giveL, HG.out, hdr]; simp; omega, by rw [giveL, HG.out, hdr]; exact Y1.out, Z1.out⟩
        · have hkl' : ¬ cap = k + 1 := by omega
          go_wp2
          go_quiet (fail)
          go_wp2
          have i0 : (0 : Int) ≤ (k : Int) + 1 := by omega
          have i1 : (k : Int) + 1 ≤ (l.length : Int) := by omega
          have i2 : (k : Int) + 1 ≤ (cap : Int) := by omega
          have i3 : (l.length : Int) ≤ (cap : Int) := by omega
          have j0 : (0 : Int) ≤ ((k + 1 : Nat) : Int) := by omega
          have j1 : ((k + 1 : Nat) : Int) ≤ (l.length : Int) := by omega
          have j2 : ((k + 1 : Nat) : Int) ≤ (cap : Int) := by omega
          have j3 : ((k : Int) + 1).toNat = k + 1 := by omega
          go_region_held3 (fun w' => w'.cell? ⟨w.heap.size, 0, none⟩ = some (.int .i64 c.p) ∧ w'.cell? ⟨w.heap.size, 1, none⟩ = some (.int .i64 c.r) ∧ w'.cell? ⟨w.heap.size, 2, none⟩ = some (.int .i64 c.d) ∧ w'.cell? ⟨w.heap.size, 3, none⟩ = some (.int .i64 c.k))
            (first | exact ⟨‹_›, ‹_›, ‹_›, ‹_›⟩ | exact four_old _ ⟨‹_›, ‹_›, ‹_›, ‹_›⟩ | exact four_old _ ‹_›)
            (first | (go_at_call 33; refine (give_concat (l.take (k + 1)) (l.drop (k + 1)) c (some ad) (some (ad.add ((k + 1) * 4))) (k + 1) (l.length - (k + 1)) _ _ _ _ _ (Structs.take (ha.below (Below.drewN_ hbw _)) _) (Cons.behind (ha.below (Below.drewN_ hbw _)) _) (by rw [List.length_take]; omega) (by rw [List.length_drop]) (by omega) (by omega)).mono ?_; rintro e x1 ⟨A1, cap1, rfl, y1, z1⟩; have q0 := ((bcell z1).1 _ 0 zc).trans e0; have q1 := ((bcell z1).1 _ 1 zc).trans e1; have q2 := ((bcell z1).1 _ 2 zc).trans e2; have q3 := ((bcell z1).1 _ 3 zc).trans e3; have Y1 := Lib.hid y1; have Z1 : Hid (Below w.heap.size w x1) := Lib.hid ((Below.drewN_ hbw _).trans (z1.mono hbw.size)); clear y1 z1))
          go_wp2
          go_ret
          exact ⟨A1, cap1, by rw [giveL, HG.out]; simp; omega, by rw [giveL, HG.out]; exact Y1.out, Z1.out⟩
end Go.Proofs.Ythbagggcfdgnfaa
