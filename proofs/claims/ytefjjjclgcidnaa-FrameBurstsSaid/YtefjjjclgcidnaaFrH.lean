/- copied; awake. -/
import Derived.Test.YtefjjjclgcidnaaFrG
namespace Go.Proofs.Ytefjjjclgcidnaa
open Go.RowKit

theorem ropen_any (l : List UInt8) (A : Option Addr) (cap : Nat) (hcap : l.length ≤ cap) (a : Int) (w : World) (hv : Bytes w A l) (hl : l.length ≤ 90000) :
    Calls Try.prog 16 #[.slice A l.length cap, .int .i64 a] w (RetOpen l a w) := by
  by_cases h : a < 0 ∨ (l.length : Int) < a
  · exact ropen_out l A cap a h w
  · obtain ⟨x, rfl⟩ : ∃ x : Nat, a = (x : Int) := ⟨a.toNat, by omega⟩
    exact ropen_in l A cap hcap x (by omega) w hv hl

set_option maxHeartbeats 1000000 in
theorem copied_any (l : List UInt8) (A : Option Addr) (cap : Nat) (w : World) (hv : Bytes w A l) (hl : l.length ≤ 100000) :
    Calls Try.prog 13 #[.slice A l.length cap] w (RetC l w) := by
  obtain ⟨i0, hi0, hz0, hz1, hz2⟩ := info_parts info_u8
  go_enter Try.func13, Try.ntmps13
  go_wp2_with (at_builtin; refine wpList_append_any _ rfl _ _ _ rfl w.heap.size 5 i0 _ 1 1 Try.underlying22 hi0 hz0 hz1 hz2 rfl (by omega) _ 0 [] rfl (own_empty w _) w.heap.size A l.length cap _ rfl (Reads.alloc hv (Nat.le_refl _) _) (one_u8 l) (by simp only [maxLen]; omega) (by omega) (by simp) ?_; intro v1 w1 hown1 hg1 hat1)
  obtain ⟨A1, c1, rfl⟩ := own_form hown1
  have hB : Below w.heap.size w w1 := ((Below.refl _ _).alloc (Nat.le_refl _) _).trans ((Below.refl _ _).grown hg1 (by simp) (fun k hk => by have h : some w.heap.size = some k := hk; injection h with h; omega))
  have hc := own_cap hown1
  have HO := Lib.hid (Bytes.of_own (l := l) (n := 0 + l.length) (by simp) (by simpa [u8s] using hown1))
  clear hown1 hg1 hat1 hi0 hz0 hz1 hz2
  have HC := Lib.hid hc
  clear hc
  go_wp2
  go_ret
  exact ⟨A1, c1, by rw [Nat.zero_add]; rfl, HO.out, by have := HC.out; omega, hB⟩

theorem x1 : sealL 1 [] = [76, 1, 0, 247, 156, 218, 159] := by decide +kernel
theorem x2 : opK [76, 1, 0, 247, 156, 218, 159] 0 = 1 ∧ opC [76, 1, 0, 247, 156, 218, 159] 0 = [] ∧ opN [76, 1, 0, 247, 156, 218, 159] 0 = 7 ∧ opE [76, 1, 0, 247, 156, 218, 159] 0 = 0 := by decide +kernel
theorem x3 : opK [] 0 = 0 ∧ opC [] 0 = [] ∧ opN [] 0 = 0 ∧ opE [] 0 = 4 := by decide +kernel
theorem x4 : opK [] 1 = 0 ∧ opC [] 1 = [] ∧ opN [] 1 = 0 ∧ opE [] 1 = 2 := by decide +kernel
theorem x5 : opK [76, 0] 0 = 0 ∧ opC [76, 0] 0 = [] ∧ opN [76, 0] 0 = 0 ∧ opE [76, 0] 0 = 3 := by decide +kernel
theorem x6 : opK [76, 1, 1] 0 = 0 ∧ opC [76, 1, 1] 0 = [] ∧ opN [76, 1, 1] 0 = 0 ∧ opE [76, 1, 1] 0 = 3 := by decide +kernel
theorem open_is {l C : List UInt8} {a K N E : Int} (h : opK l a = K ∧ opC l a = C ∧ opN l a = N ∧ opE l a = E) (A : Option Addr) (cap : Nat) (hcap : l.length ≤ cap) (w : World) (hv : Bytes w A l) (hl : l.length ≤ 90000) :
    Calls Try.prog 15 #[.slice A l.length cap, .int .i64 a] w (fun e w' => ∃ A cap, e = .returned (.tuple #[.int .i64 K, .slice A C.length cap, .int .i64 N, .int .i64 E]) ∧ Bytes w' A C ∧ Below w.heap.size w w') := by
  have := open_any l A cap hcap a w hv hl
  unfold RetOpen at this
  rw [h.1, h.2.1, h.2.2.1, h.2.2.2] at this
  exact this
theorem seal_one (w : World) : Calls Try.prog 12 #[.int .i64 1, .slice none 0 0] w (fun e w' => ∃ g cap, e = .returned (.tuple #[.slice (some ⟨g, 0, none⟩) 7 cap, .int .i64 0]) ∧
    (Bytes w' (some ⟨g, 0, none⟩) [76, 1, 0, 247, 156, 218, 159] ∧ w'.cell? ⟨g, 0, none⟩ = some (.int .u8 76) ∧ w'.cell? ⟨g, 1, none⟩ = some (.int .u8 1) ∧ w'.cell? ⟨g, 2, none⟩ = some (.int .u8 0)) ∧ Below w.heap.size w w') := by
  have := seal_any 1 ⟨by decide, by decide⟩ [] none 0 w (Bytes.nil_ _ _) (by decide)
  rw [x1] at this
  refine this.mono ?_
  rintro e w1 ⟨A, cap, rfl, hown, hb⟩
  obtain ⟨g, cap', hv, _, _⟩ := hown.form (by decide)
  injection hv with h1 h2 h3
  subst h1 h3
  have hc := hown.cells (g := g) rfl
  have hy := Bytes.of_own (l := [76, 1, 0, 247, 156, 218, 159]) rfl hown
  refine ⟨g, cap, rfl, ⟨hy, ?_, ?_, ?_⟩, hb⟩
  · exact hc 0 _ rfl
  · have := hc 1 _ rfl
    simpa [Addr.add] using this
  · have := hc 2 _ rfl
    simpa [Addr.add] using this

set_option maxHeartbeats 2000000 in
theorem awake_any (w : World) : Calls Try.prog 11 #[] w (Ret (.bool true) w) := by
  obtain ⟨i0, hi0, hz0, hz1, hz2⟩ := info_parts info_u8
  go_enter Try.func11, Try.ntmps11
  go_wp2_with fail
  refine (seal_one _).mono ?_
  rintro e w1 ⟨g, c1, rfl, ⟨y1, d0, d1, d2⟩, h1⟩
  have Y1 := Lib.hid y1
  clear y1
  go_wp2_with (at_builtin; refine wpList_append_any _ rfl _ _ _ rfl w1.heap.size 5 i0 _ 1 1 Try.underlying22 hi0 hz0 hz1 hz2 rfl (by omega) _ 0 [] rfl (own_empty w1 _) w1.heap.size (some ⟨g, 0, none⟩) 7 c1 _ rfl (Reads.alloc Y1.out (Nat.le_refl _) _) (one_u8 _) (by simp only [maxLen]; omega) (by omega) (by simp) ?_; intro v2 w2 hown2 hg2 hat2; obtain ⟨A2, c2, rfl⟩ := own_form hown2)
  have hb2 : Below w1.heap.size w1 w2 := ((Below.refl _ _).alloc (Nat.le_refl _) _).trans ((Below.refl _ _).grown hg2 (by simp) (fun k hk => by have h : some w1.heap.size = some k := hk; injection h with h; omega))
  have H2 := Below.step h1 hb2
  have hy2 : Bytes w2 A2 [76, 1, 0, 247, 156, 218, 159] := Bytes.of_own (n := 0 + 7) (by simp) (by simpa [u8s] using hown2)
  have hc2 := own_cap hown2
  clear hown2 hg2 hat2
  refine (open_is x2 A2 c2 (by simpa using hc2) w2 hy2 (by decide)).mono ?_
  rintro e w3 ⟨A3, c3, rfl, y3, h3⟩
  have H3 := Below.step H2 h3
  clear hc2 hy2 y3
  go_wp2_with fail
  refine (open_is x3 none 0 (by decide) _ (Bytes.nil_ _ _) (by decide)).mono ?_
  rintro e w4 ⟨A4, c4, rfl, y4, h4⟩
  have H4 := Below.step H3 h4
  clear y4
  go_wp2_with fail
  refine (open_is x4 none 0 (by decide) _ (Bytes.nil_ _ _) (by decide)).mono ?_
  rintro e w5 ⟨A5, c5, rfl, y5, h5⟩
  have H5 := Below.step H4 h5
  clear y5
  go_wp2_with fail
  refine (open_is x5 (some ⟨w5.heap.size, 0, none⟩) 2 (by decide) _ (by simpa using Bytes.new w5 [76, 0] 5) (by decide)).mono ?_
  rintro e w6 ⟨A6, c6, rfl, y6, h6⟩
  have H6 : Below w.heap.size w w6 := Below.step (H5.alloc H5.size _) h6
  clear y6
  go_wp2_with fail
  refine (open_is x6 (some ⟨w6.heap.size, 0, none⟩) 3 (by decide) _ (by simpa using Bytes.new w6 [76, 1, 1] 5) (by decide)).mono ?_
  rintro e w7 ⟨A7, c7, rfl, y7, h7⟩
  have H7 : Below w.heap.size w w7 := Below.step (H6.alloc H6.size _) h7
  clear y7
  go_wp2_with fail
  refine (seal_kind 0 (by omega) _ _ _ _).mono ?_
  rintro e w8 ⟨rfl, h8⟩
  go_wp2
  go_ret
  exact Ret.mk rfl (Below.step H7 h8)
end Go.Proofs.Ytefjjjclgcidnaa
