/- Give of the reference. -/
import Derived.Test.YthbagggcfdgnfaaCnE
namespace Go.Proofs.Ythbagggcfdgnfaa
open Go.RowKit

theorem FourC.grown {w w' : World} {b : Nat} {c : Cn} {row : Option Nat} (h : FourC w b c) (hg : w.grownBy w' row) (hne : row ≠ some b) : FourC w' b c :=
  ⟨Nat.lt_of_lt_of_le h.1 hg.size, hg.cell h.2.1 (Ne.symm hne), hg.cell h.2.2.1 (Ne.symm hne), hg.cell h.2.2.2.1 (Ne.symm hne), hg.cell h.2.2.2.2 (Ne.symm hne)⟩

theorem Cons.reads1 {w : World} {A : Option Addr} {l : List Cn} {n : Nat} (h : Cons w A l) (hn : l.length = n) : Reads w w.heap.size 4 A n (l.flatMap encC) := by subst hn; exact Cons.reads h

theorem OwnC.three {w : World} {B n m cap : Nat} {X Y : List Cn} {c : Cn} {A : Option Addr} (h : w.ownsRow B 40 4 (.slice A (n + 1 + m) cap) (n + 1 + m) ((X ++ [c]).flatMap encC ++ Y.flatMap encC)) (hn : X.length = n) (hm : Y.length = m) : OwnC w B (X ++ [c] ++ Y) (.slice A (n + 1 + m) cap) := by
  have e : (X ++ [c] ++ Y).length = n + 1 + m := by rw [List.length_append, List.length_append, hn, hm]; rfl
  refine ⟨A, cap, by rw [e], ?_⟩
  rw [e, List.flatMap_append]
  exact h

set_option maxRecDepth 20000 in
set_option maxHeartbeats 4000000 in
theorem rgive_any (l : List Cn) (A : Option Addr) (cap : Nat) (c : Cn) (w : World) (ha : Cons w A l) (hl : l.length ≤ 1000) (hcap : l.length ≤ cap) :
    Calls Try.prog 24 #[.slice A l.length cap, .agg #[.int .i64 c.p, .int .i64 c.r, .int .i64 c.d, .int .i64 c.k]] w (RetCons (giveL l c) w) := by
  obtain ⟨i0, hi, hz0, hz1, hz2⟩ := info_parts info_consent
  go_enter Try.func24, Try.ntmps24
  go_wp2
  go_loopw [5] (fun i wr => ∃ k : Nat, k ≤ l.length ∧ i = .int .i64 (k : Int) ∧ Hid (∀ j (hj : j < l.length), k ≤ j → c.d < l[j].d) ∧ FourC wr w.heap.size c ∧ Below w.heap.size w wr) (fun i _ => (intOf i).toNat)
  case atStart => exact ⟨l.length, Nat.le_refl _, rfl, Lib.hid fun j hj h => by omega, FourC.new w c _, (by repeat (first | assumption | exact Below.refl _ _ | refine Below.alloc ?_ (by first | omega | (simp; done) | (simp; omega)) _ | refine Below.setCell ?_ (by first | omega | (simp; done) | (simp; omega)) _ | refine Below.drew ?_ | refine Below.drewN_ ?_ _ | refine Below.step ?_ (by assumption)))⟩
  case round =>
    obtain ⟨k, hk, rfl, HA, ⟨zc, e0, e1, e2, e3⟩, hbw⟩ := hrel
    rcases k with _ | k
    · have HG : Hid (giveAt l c.d = 0) := Lib.hid (giveAt_is (by omega) HA.out fun h => by omega)
      go_wp2
      go_quiet (fail)
      go_wp2_with (first
        | (at_builtin
           refine wpList_append_any _ rfl _ _ _ rfl w.heap.size 40 i0 _ 4 32 Try.underlying23 hi hz0 hz1 hz2 rfl (by omega) _ 0 _ rfl (World.ownsRow_nil _ _ _ _) wr.heap.size A 0 cap (List.flatMap encC []) rfl (Cons.reads (Structs.nil_ _ _)) (one_cons _) (by simp only [maxLen]; omega) (by omega) hbw.size ?_
           intro v5 w5 hown5 hg5 hat5
           have f5 : Hid (FourC w5 w.heap.size c) := Lib.hid (FourC.grown (w := wr.drewN _) (row := none) ⟨zc, e0, e1, e2, e3⟩ hg5 (by simp))
           have hb5 : Below w.heap.size w w5 := Below.grown (Below.drewN_ hbw _) hg5 hbw.size (fun g hg => by cases hg)
           obtain ⟨A5, c5, rfl⟩ := own_form hown5
           have H5 : Hid (w5.ownsRow w.heap.size 40 4 (.slice A5 (0) c5) (0) (List.flatMap encC [])) := Lib.hid (by simpa using hown5)
           clear hown5 hg5 hat5
           have hs5 := hb5.size
           obtain ⟨zc5, g0, g1, g2, g3⟩ := f5.out)
        | (at_builtin
           refine wpList_append_any _ rfl _ _ _ rfl w.heap.size 40 i0 _ 4 32 Try.underlying23 hi hz0 hz1 hz2 rfl (by omega) _ (0) _ rfl (World.ownsRow.alloc H5.out _) (w5.heap.size + 1) (some ⟨w5.heap.size, 0, none⟩) 1 1 (List.flatMap encC [c]) rfl (by simpa using Cons.reads (Cons.one w5 c _)) (one_cons _) (by simp only [maxLen]; omega) (by omega) (by simp; omega) ?_
           intro v6 w6 hown6 hg6 _
           have hb6 : Below w.heap.size w w6 := (hb5.alloc hb5.size _).grown hg6 (by simp; omega) (fun g hg => (H5.out.lt g hg).1)
           obtain ⟨A6, c6, rfl⟩ := own_form hown6
           have H6 : Hid (w6.ownsRow w.heap.size 40 4 (.slice A6 (0 + 1) c6) (0 + 1) (List.flatMap encC ([] ++ [c]))) := Lib.hid (by rw [List.flatMap_append]; exact hown6)
           clear hown6 hg6
           have hs6 := hb6.size)
        | (at_builtin
           refine wpList_append_any _ rfl _ _ _ rfl w.heap.size 40 i0 _ 4 32 Try.underlying23 hi hz0 hz1 hz2 rfl (by omega) _ (0 + 1) _ rfl H6.out w6.heap.size A l.length cap (List.flatMap encC l) rfl (Cons.reads (ha.below hb6)) (one_cons _) (by simp only [maxLen]; omega) (by omega) hs6 ?_
           intro v7 w7 hown7 hg7 _
           have Z7 : Hid (Below w.heap.size w w7) := Lib.hid (hb6.grown hg7 hs6 (fun g hg => (H6.out.lt g hg).1))
           obtain ⟨A7, c7, rfl⟩ := own_form hown7
           have Y7 : Hid (OwnC w7 w.heap.size ([] ++ [c] ++ l) (.slice A7 (0 + 1 + l.length) c7)) := Lib.hid (OwnC.three hown7 (by simp; try omega) (by simp; try omega))
           clear hown7 hg7)
        | fail)
      go_ret
      have HR := OwnC.ret Y7.out Z7.out
      rw [giveL, HG.out]
      exact HR
    · obtain ⟨ad, rfl, _, d0, d1, d2, d3⟩ := Cons.cells (ha.below hbw) (i := k) (by omega)
      by_cases hgt : c.d < l[k].d
      · have HA' : Hid (∀ j (hj : j < l.length), k ≤ j → c.d < l[j].d) := Lib.hid fun j hj h => by
          rcases Nat.lt_or_ge k j with h' | h'
          · exact HA.out j hj h'
          · have : j = k := by omega
            subst this; exact hgt
        go_wp2
        go_quiet (fail)
        go_wp2
        exact ⟨⟨k, by omega, rfl, HA', ⟨zc, e0, e1, e2, e3⟩, Below.drewN_ hbw _⟩, by simp [intOf]⟩
      · have HG : Hid (giveAt l c.d = k + 1) := Lib.hid (giveAt_is (by omega) HA.out fun h => hgt)
        rcases Nat.lt_or_ge (k + 1) cap with hkl | hkl
        rotate_left
        · obtain rfl : cap = k + 1 := by omega
          clear hkl
          have hdr : l.drop (k + 1) = [] := List.drop_of_length_le (by omega)
          have hmin : min (k + 1) l.length = k + 1 := by omega
          have x0 : (0 : Int) ≤ (k : Int) + 1 := by omega
          have i1 : (k : Int) + 1 ≤ (l.length : Int) := by omega
          have i2 : (k : Int) + 1 ≤ (((k + 1 : Nat)) : Int) := by omega
          have i3 : (l.length : Int) ≤ (((k + 1 : Nat)) : Int) := by omega
          have j0 : (0 : Int) ≤ ((k + 1 : Nat) : Int) := by omega
          have j1 : ((k + 1 : Nat) : Int) ≤ (l.length : Int) := by omega
          have j2 : ((k + 1 : Nat) : Int) ≤ (((k + 1 : Nat)) : Int) := by omega
          have j3 : ((k : Int) + 1).toNat = k + 1 := by omega
          go_wp2
          go_quiet (fail)
          go_wp2_with (first
            | (at_builtin
               refine wpList_append_any _ rfl _ _ _ rfl w.heap.size 40 i0 _ 4 32 Try.underlying23 hi hz0 hz1 hz2 rfl (by omega) _ 0 _ rfl (World.ownsRow_nil _ _ _ _) wr.heap.size (some ad) (k + 1) (k + 1) (List.flatMap encC (l.take (k + 1))) rfl (Cons.reads1 (Structs.take (ha.below (Below.drewN_ hbw _)) _) (by rw [List.length_take]; omega)) (one_cons _) (by simp only [maxLen]; omega) (by omega) hbw.size ?_
               intro v5 w5 hown5 hg5 hat5
               have f5 : Hid (FourC w5 w.heap.size c) := Lib.hid (FourC.grown (w := wr.drewN _) (row := none) ⟨zc, e0, e1, e2, e3⟩ hg5 (by simp))
               have hb5 : Below w.heap.size w w5 := Below.grown (Below.drewN_ hbw _) hg5 hbw.size (fun g hg => by cases hg)
               obtain ⟨A5, c5, rfl⟩ := own_form hown5
               have H5 : Hid (w5.ownsRow w.heap.size 40 4 (.slice A5 ((k + 1)) c5) ((k + 1)) (List.flatMap encC (l.take (k + 1)))) := Lib.hid (by simpa using hown5)
               clear hown5 hg5 hat5
               have hs5 := hb5.size
               obtain ⟨zc5, g0, g1, g2, g3⟩ := f5.out)
            | (at_builtin
               refine wpList_append_any _ rfl _ _ _ rfl w.heap.size 40 i0 _ 4 32 Try.underlying23 hi hz0 hz1 hz2 rfl (by omega) _ ((k + 1)) _ rfl (World.ownsRow.alloc H5.out _) (w5.heap.size + 1) (some ⟨w5.heap.size, 0, none⟩) 1 1 (List.flatMap encC [c]) rfl (by simpa using Cons.reads (Cons.one w5 c _)) (one_cons _) (by simp only [maxLen]; omega) (by omega) (by simp; omega) ?_
               intro v6 w6 hown6 hg6 _
               have hb6 : Below w.heap.size w w6 := (hb5.alloc hb5.size _).grown hg6 (by simp; omega) (fun g hg => (H5.out.lt g hg).1)
               obtain ⟨A6, c6, rfl⟩ := own_form hown6
               have H6 : Hid (w6.ownsRow w.heap.size 40 4 (.slice A6 ((k + 1) + 1) c6) ((k + 1) + 1) (List.flatMap encC ((l.take (k + 1)) ++ [c]))) := Lib.hid (by rw [List.flatMap_append]; exact hown6)
               clear hown6 hg6
               have hs6 := hb6.size)
            | (at_builtin
               refine wpList_append_any _ rfl _ _ _ rfl w.heap.size 40 i0 _ 4 32 Try.underlying23 hi hz0 hz1 hz2 rfl (by omega) _ ((k + 1) + 1) _ rfl H6.out w6.heap.size (some ad) 0 0 (List.flatMap encC []) rfl (Cons.reads (Structs.nil_ _ _)) (one_cons _) (by simp only [maxLen]; omega) (by omega) hs6 ?_
               intro v7 w7 hown7 hg7 _
               have Z7 : Hid (Below w.heap.size w w7) := Lib.hid (hb6.grown hg7 hs6 (fun g hg => (H6.out.lt g hg).1))
               obtain ⟨A7, c7, rfl⟩ := own_form hown7
               have Y7 : Hid (OwnC w7 w.heap.size ((l.take (k + 1)) ++ [c] ++ []) (.slice A7 ((k + 1) + 1 + 0) c7)) := Lib.hid (OwnC.three hown7 (by simp; try omega) (by simp; try omega))
               clear hown7 hg7)
            | fail)
          go_ret
          have HR := OwnC.ret Y7.out Z7.out
          rw [giveL, HG.out, hdr]
          exact HR
        · have hkl' : ¬ cap = k + 1 := by omega
          have hmin : min (k + 1) l.length = k + 1 := by omega
          have x0 : (0 : Int) ≤ (k : Int) + 1 := by omega
          have i1 : (k : Int) + 1 ≤ (l.length : Int) := by omega
          have i2 : (k : Int) + 1 ≤ (cap : Int) := by omega
          have i3 : (l.length : Int) ≤ (cap : Int) := by omega
          have j0 : (0 : Int) ≤ ((k + 1 : Nat) : Int) := by omega
          have j1 : ((k + 1 : Nat) : Int) ≤ (l.length : Int) := by omega
          have j2 : ((k + 1 : Nat) : Int) ≤ (cap : Int) := by omega
          have j3 : ((k : Int) + 1).toNat = k + 1 := by omega
          go_wp2
          go_quiet (fail)
          go_wp2_with (first
            | (at_builtin
               refine wpList_append_any _ rfl _ _ _ rfl w.heap.size 40 i0 _ 4 32 Try.underlying23 hi hz0 hz1 hz2 rfl (by omega) _ 0 _ rfl (World.ownsRow_nil _ _ _ _) wr.heap.size (some ad) (k + 1) cap (List.flatMap encC (l.take (k + 1))) rfl (Cons.reads1 (Structs.take (ha.below (Below.drewN_ hbw _)) _) (by rw [List.length_take]; omega)) (one_cons _) (by simp only [maxLen]; omega) (by omega) hbw.size ?_
               intro v5 w5 hown5 hg5 hat5
               have f5 : Hid (FourC w5 w.heap.size c) := Lib.hid (FourC.grown (w := wr.drewN _) (row := none) ⟨zc, e0, e1, e2, e3⟩ hg5 (by simp))
               have hb5 : Below w.heap.size w w5 := Below.grown (Below.drewN_ hbw _) hg5 hbw.size (fun g hg => by cases hg)
               obtain ⟨A5, c5, rfl⟩ := own_form hown5
               have H5 : Hid (w5.ownsRow w.heap.size 40 4 (.slice A5 ((k + 1)) c5) ((k + 1)) (List.flatMap encC (l.take (k + 1)))) := Lib.hid (by simpa using hown5)
               clear hown5 hg5 hat5
               have hs5 := hb5.size
               obtain ⟨zc5, g0, g1, g2, g3⟩ := f5.out)
            | (at_builtin
               refine wpList_append_any _ rfl _ _ _ rfl w.heap.size 40 i0 _ 4 32 Try.underlying23 hi hz0 hz1 hz2 rfl (by omega) _ ((k + 1)) _ rfl (World.ownsRow.alloc H5.out _) (w5.heap.size + 1) (some ⟨w5.heap.size, 0, none⟩) 1 1 (List.flatMap encC [c]) rfl (by simpa using Cons.reads (Cons.one w5 c _)) (one_cons _) (by simp only [maxLen]; omega) (by omega) (by simp; omega) ?_
               intro v6 w6 hown6 hg6 _
               have hb6 : Below w.heap.size w w6 := (hb5.alloc hb5.size _).grown hg6 (by simp; omega) (fun g hg => (H5.out.lt g hg).1)
               obtain ⟨A6, c6, rfl⟩ := own_form hown6
               have H6 : Hid (w6.ownsRow w.heap.size 40 4 (.slice A6 ((k + 1) + 1) c6) ((k + 1) + 1) (List.flatMap encC ((l.take (k + 1)) ++ [c]))) := Lib.hid (by rw [List.flatMap_append]; exact hown6)
               clear hown6 hg6
               have hs6 := hb6.size)
            | (at_builtin
               refine wpList_append_any _ rfl _ _ _ rfl w.heap.size 40 i0 _ 4 32 Try.underlying23 hi hz0 hz1 hz2 rfl (by omega) _ ((k + 1) + 1) _ rfl H6.out w6.heap.size (some (ad.add ((k + 1) * 4))) (l.length - (k + 1)) (cap - (k + 1)) (List.flatMap encC (l.drop (k + 1))) rfl (Cons.reads1 (Cons.behind (ha.below hb6) _) (by rw [List.length_drop])) (one_cons _) (by simp only [maxLen]; omega) (by omega) hs6 ?_
               intro v7 w7 hown7 hg7 _
               have Z7 : Hid (Below w.heap.size w w7) := Lib.hid (hb6.grown hg7 hs6 (fun g hg => (H6.out.lt g hg).1))
               obtain ⟨A7, c7, rfl⟩ := own_form hown7
               have Y7 : Hid (OwnC w7 w.heap.size ((l.take (k + 1)) ++ [c] ++ (l.drop (k + 1))) (.slice A7 ((k + 1) + 1 + (l.length - (k + 1))) c7)) := Lib.hid (OwnC.three hown7 (by simp; try omega) (by simp; try omega))
               clear hown7 hg7)
            | fail)
          go_ret
          have HR := OwnC.ret Y7.out Z7.out
          rw [giveL, HG.out]
          exact HR
end Go.Proofs.Ythbagggcfdgnfaa
