/- Seal's errors; the reference's Seal. -/
import Derived.Test.YtefjjjclgcidnaaFrB
namespace Go.Proofs.Ytefjjjclgcidnaa
open Go.RowKit

def kindB (kind : Int) : Bool := decide (1 ≤ kind) && decide (kind ≤ 255)
set_option maxHeartbeats 1000000 in
theorem seal_kind (kind : Int) (hk : kind < 1 ∨ 255 < kind) (B : Option Addr) (n cb : Nat) (w : World) :
    Calls Try.prog 12 #[.int .i64 kind, .slice B n cb] w (Ret (.tuple #[.slice none 0 0, .int .i64 1]) w) := by
  by_cases h1 : kind < 1
  · have hd1 : decide (kind < 1) = true := by simpa using h1
    go_enter Try.func12, Try.ntmps12
    go_wp2
    go_ret2
    exact Ret.mk rfl (by repeat (first | assumption | exact Below.refl _ _ | refine Below.alloc ?_ (by first | omega | (simp; done) | (simp; omega)) _ | refine Below.setCell ?_ (by first | omega | (simp; done) | (simp; omega)) _ | refine Below.drew ?_ | refine Below.drewN_ ?_ _ | refine Below.step ?_ (by assumption)))
  · have hd1 : decide (kind < 1) = false := by simpa using h1
    have h2 : 255 < kind := by omega
    have hd2 : decide ((255 : Int) < kind) = true := by simpa using h2
    go_enter Try.func12, Try.ntmps12
    go_wp2
    go_ret2
    exact Ret.mk rfl (by repeat (first | assumption | exact Below.refl _ _ | refine Below.alloc ?_ (by first | omega | (simp; done) | (simp; omega)) _ | refine Below.setCell ?_ (by first | omega | (simp; done) | (simp; omega)) _ | refine Below.drew ?_ | refine Below.drewN_ ?_ _ | refine Below.step ?_ (by assumption)))
set_option maxHeartbeats 1000000 in
theorem seal_long (kind : Int) (hk1 : 1 ≤ kind) (hk2 : kind ≤ 255) (B : Option Addr) (n cb : Nat) (hn : 1048576 < n) (w : World) :
    Calls Try.prog 12 #[.int .i64 kind, .slice B n cb] w (Ret (.tuple #[.slice none 0 0, .int .i64 5]) w) := by
  have h1 : ¬ kind < 1 := by omega
  have h2 : ¬ (255 : Int) < kind := by omega
  have hd1 : decide (kind < 1) = false := by simpa using h1
  have hd2 : decide ((255 : Int) < kind) = false := by simpa using h2
  have h3 : (1048576 : Int) < n := by omega
  go_enter Try.func12, Try.ntmps12
  go_wp2
  go_ret2
  exact Ret.mk rfl (by repeat (first | assumption | exact Below.refl _ _ | refine Below.alloc ?_ (by first | omega | (simp; done) | (simp; omega)) _ | refine Below.setCell ?_ (by first | omega | (simp; done) | (simp; omega)) _ | refine Below.drew ?_ | refine Below.drewN_ ?_ _ | refine Below.step ?_ (by assumption)))
set_option maxHeartbeats 1000000 in
theorem rseal_kind (kind : Int) (hk : kind < 1 ∨ 255 < kind) (B : Option Addr) (n cb : Nat) (w : World) :
    Calls Try.prog 14 #[.int .i64 kind, .slice B n cb] w (Ret (.tuple #[.slice none 0 0, .int .i64 1]) w) := by
  by_cases h1 : kind < 1
  · have hd1 : decide (kind < 1) = true := by simpa using h1
    go_enter Try.func14, Try.ntmps14
    go_wp2
    go_ret2
    exact Ret.mk rfl (by repeat (first | assumption | exact Below.refl _ _ | refine Below.alloc ?_ (by first | omega | (simp; done) | (simp; omega)) _ | refine Below.setCell ?_ (by first | omega | (simp; done) | (simp; omega)) _ | refine Below.drew ?_ | refine Below.drewN_ ?_ _ | refine Below.step ?_ (by assumption)))
  · have hd1 : decide (kind < 1) = false := by simpa using h1
    have h2 : 255 < kind := by omega
    have hd2 : decide ((255 : Int) < kind) = true := by simpa using h2
    go_enter Try.func14, Try.ntmps14
    go_wp2
    go_ret2
    exact Ret.mk rfl (by repeat (first | assumption | exact Below.refl _ _ | refine Below.alloc ?_ (by first | omega | (simp; done) | (simp; omega)) _ | refine Below.setCell ?_ (by first | omega | (simp; done) | (simp; omega)) _ | refine Below.drew ?_ | refine Below.drewN_ ?_ _ | refine Below.step ?_ (by assumption)))

set_option maxRecDepth 20000 in
set_option maxHeartbeats 4000000 in
theorem rseal_any (k : Nat) (hk : 1 ≤ k ∧ k ≤ 255) (b : List UInt8) (B : Option Addr) (cb : Nat) (w : World) (hb : Bytes w B b) (hl : b.length ≤ 10000) :
    Calls Try.prog 14 #[.int .i64 (k : Int), .slice B b.length cb] w (RetSeal (sealL k b) w) := by
  obtain ⟨i0, hi0, hz0, hz1, hz2⟩ := info_parts info_u8
  have h1 : ¬ ((k : Int) < 1) := by omega
  have h2 : ¬ ((255 : Int) < k) := by omega
  have h3 : ¬ ((1048576 : Int) < b.length) := by omega
  have h3' : ¬ (1048576 < b.length) := by omega
  have hd1 : decide ((k : Int) < 1) = false := by simp; omega
  have hd2 : decide ((255 : Int) < k) = false := by simp; omega
  have hkk : (k : Int) % 256 = ((UInt8.ofNat k).toNat : Int) := by rw [u8_of]
  have hkk2 : (k : Int) % 256 = (k : Int) := by omega
  go_enter Try.func14, Try.ntmps14
  have hkt : ((UInt8.ofNat k).toNat : Int) = (k : Int) := by rw [u8_of]; omega
  have hnew : Bytes (w.alloc (.cells #[.int .u8 76, .int .u8 (k : Int)] 5)) (some ⟨w.heap.size, 0, none⟩) [76, UInt8.ofNat k] := by
    have := Bytes.new w [76, UInt8.ofNat k] 5
    simp only [List.map_cons, List.map_nil, hkt] at this
    exact this
  have b0 : Below w.heap.size w (w.alloc (.cells #[.int .u8 76, .int .u8 (k : Int)] 5)) := (by repeat (first | assumption | exact Below.refl _ _ | refine Below.alloc ?_ (by first | omega | (simp; done) | (simp; omega)) _ | refine Below.setCell ?_ (by first | omega | (simp; done) | (simp; omega)) _ | refine Below.drew ?_ | refine Below.drewN_ ?_ _ | refine Below.step ?_ (by assumption)))
  have HB := Lib.hid (fun w' (h : Below w.heap.size w w') => hb.below h)
  have hP := rput_any [76, UInt8.ofNat k] (some ⟨w.heap.size, 0, none⟩) 2 b.length ⟨by omega, by omega⟩ _ hnew (by simp)
  clear hkt hnew hkk hkk2
  go_wp2_with fail
  refine hP.mono ?_
  clear hP
  generalize hw0 : w.alloc (.cells #[.int .u8 76, .int .u8 (k : Int)] 5) = w0 at *
  clear hw0
  rintro e w1 ⟨A1, c1, rfl, hown1, hB1⟩
  have H1 := Below.step b0 hB1
  have hp1 := Bytes.of_own rfl hown1
  have hml := sealM_len k b
  have hM : sealM k b = [76, UInt8.ofNat k] ++ encI b.length ++ b := rfl
  have hpl : ([76, UInt8.ofNat k] ++ encI b.length).length + b.length = (sealM k b).length := by rw [hM]; simp only [List.length_append]
  have hu : u8s ([76, UInt8.ofNat k] ++ encI b.length) ++ u8s b = u8s (sealM k b) := by rw [hM]; simp [u8s]
  have hpb : ([76, UInt8.ofNat k] ++ encI b.length).length ≤ 20 := by rw [List.length_append]; have := encI_len b.length; simp; omega
  generalize [76, UInt8.ofNat k] ++ encI b.length = p at *
  have HPL := Lib.hid hpl
  have HU := Lib.hid hu
  have HML := Lib.hid hml
  have HP1 := Lib.hid hp1
  clear hpl hu hml hM hown1 hp1
  go_wp2_with (first
    | (at_builtin
       refine wpList_append_any _ rfl _ _ _ rfl w1.heap.size 5 i0 _ 1 1 Try.underlying22 hi0 hz0 hz1 hz2 rfl (by omega) _ 0 [] rfl (own_empty w1 _) w1.heap.size A1 p.length c1 _ rfl (Reads.alloc HP1.out (Nat.le_refl _) _) (one_u8 p) (by simp only [maxLen]; omega) (by omega) (by simp) ?_
       intro v2 w2 hown2 hg2 hat2
       have hb2 : Below w1.heap.size w1 w2 := ((Below.refl _ _).alloc (Nat.le_refl _) _).trans ((Below.refl _ _).grown hg2 (by simp) (fun k hk => by have h : some w1.heap.size = some k := hk; injection h with h; omega)))
    | (at_builtin
       refine wpList_append_any _ rfl _ _ _ rfl w1.heap.size 5 i0 _ 1 1 Try.underlying22 hi0 hz0 hz1 hz2 rfl (by omega) v2 (0 + p.length) ([] ++ _) rfl
         hown2 w2.heap.size B b.length cb _ rfl (HB.out _ (Below.step H1 hb2)) (one_u8 b) (by simp only [maxLen]; omega) (by omega) hb2.size ?_
       intro v3 w3 hown3 hg3 hat3
       obtain ⟨A3, c3, rfl⟩ := own_form hown3
       rw [Nat.zero_add, HPL.out] at hown3
       rw [Nat.zero_add, HPL.out]))
  have hb3 : Below w1.heap.size w1 w3 := hb2.grown hg3 hb2.size (fun k hk => ((hown2.lt k hk).1))
  have Hown3 : Hid (w3.ownsRow w1.heap.size 5 1 (.slice A3 (sealM k b).length c3) (sealM k b).length (u8s (sealM k b))) := Lib.hid (by rw [← HU.out]; simpa [u8s] using hown3)
  clear hown2 hg2 hat2 hown3 hg3 hat3
  have hml := HML.out
  have hS : Hid (sealL k b = sealM k b ++ tail4 (crcZ (sealM k b))) := Lib.hid rfl
  generalize sealL k b = S at *
  generalize sealM k b = M at *
  have hC := rcrc_any M A3 c3 w3 (Bytes.of_own rfl Hown3.out) (by unfold maxLen; omega)
  have hn := crcZ_lt M
  rw [show crcL M ^^^ 4294967295 = crcZ M from rfl] at hC
  generalize crcZ M = n at *
  go_wp2_with fail
  refine hC.mono ?_
  clear hC
  rintro e w4 ⟨rfl, h4⟩
  go_wp2_with fail
  refine (rtail_any n hn _).mono ?_
  rintro e w5 ⟨A5, c5, rfl, y5, h5⟩
  have hb5 : Below w1.heap.size w1 w5 := hb3.trans ((h4.trans (h5.mono h4.size)).mono hb3.size)
  have Hown5 := Lib.hid (own_below (own_below Hown3.out h4) h5)
  have Y5 := Lib.hid y5
  clear y5
  rw [tail4_len] at *
  go_wp2_with (first
    | (at_builtin
       refine wpList_append_any _ rfl _ _ _ rfl w1.heap.size 5 i0 _ 1 1 Try.underlying22 hi0 hz0 hz1 hz2 rfl (by omega) _ M.length (u8s M) rfl Hown5.out _ A5 4 c5 _ rfl Y5.out (one_u8 _) (by simp only [maxLen]; omega) (by omega) hb5.size ?_
       intro v6 w6 hown6 hg6 hat6
       obtain ⟨A6, c6, rfl⟩ := own_form hown6))
  have hb6 : Below w1.heap.size w1 w6 := hb5.grown hg6 hb5.size (fun g hg => (Hown5.out.lt g hg).1)
  have HO := Lib.hid hown6
  have H6 := Below.step H1 hb6
  have e : M.length + 4 = S.length := by rw [hS.out]; simp [tail4_len]
  go_ret2
  refine ⟨A6, c6, by rw [← e]; rfl, ?_, H6⟩
  rw [← e, hS.out]
  refine own_base ?_ H1.size
  have := HO.out
  simpa [u8s] using this
end Go.Proofs.Ytefjjjclgcidnaa
