/- The bytes of a checksum: frame's checksum, the reference's tail. -/
import Derived.Test.YtefjjjclgcidnaaFrCrc
import Derived.Test.YtefjjjclgcidnaaFrW
import Derived.Test.YtefjjjclgcidnaaBlk
namespace Go.Proofs.Ytefjjjclgcidnaa
open Go.RowKit

/-- The four bytes of a number, the least significant first. -/
def tail4 (n : Nat) : List UInt8 := [UInt8.ofNat n, UInt8.ofNat (n / 256), UInt8.ofNat (n / 65536), UInt8.ofNat (n / 16777216)]
/-- The checksum of bytes. -/
def crcZ (l : List UInt8) : Nat := crcL l ^^^ 4294967295
theorem crcZ_lt (l : List UInt8) : crcZ l < 4294967296 := Nat.xor_lt_two_pow (n := 32) (crcL_lt l) (by omega)
theorem u8_of (n : Nat) : ((UInt8.ofNat n).toNat : Int) = (n : Int) % 256 := by simp
theorem wrap_u8 (n : Nat) : IntKind.u8.wrap (n : Int) = ((UInt8.ofNat n).toNat : Int) := by rw [u8_of, IntKind.wrap_u8]

set_option maxHeartbeats 1000000 in
theorem rtail_any (n : Nat) (hn : n < 4294967296) (w : World) : Calls Try.prog 24 #[.int .i64 (n : Int)] w (RetB (tail4 n) w) := by
  go_enter Try.func24, Try.ntmps24
  go_wp2
  go_ret
  refine ⟨_, 4, rfl, ?_, (by repeat (first | assumption | exact Below.refl _ _ | refine Below.alloc ?_ (by first | omega | (simp; done) | (simp; omega)) _ | refine Below.setCell ?_ (by first | omega | (simp; done) | (simp; omega)) _ | refine Below.drew ?_ | refine Below.drewN_ ?_ _ | refine Below.step ?_ (by assumption)))⟩
  have hB := Bytes.new w (tail4 n) 5
  have e : (tail4 n).map (fun c => Value.int .u8 (c.toNat : Int)) = [.int .u8 ((n : Int) % 256), .int .u8 ((n : Int) / 256 % 256), .int .u8 ((n : Int) / 65536 % 256), .int .u8 ((n : Int) / 16777216)] := by
    simp only [tail4, List.map_cons, List.map_nil, u8_of]
    have : ((n / 16777216 : Nat) : Int) % 256 = (n : Int) / 16777216 := by omega
    rw [this]
    rfl
  rw [e] at hB
  exact hB

/-- The array behind k rounds. -/
def sumK (n k : Nat) : List Value := ((tail4 n).take k).map (fun c => Value.int .u8 (c.toNat : Int)) ++ (List.replicate 4 (Value.int .u8 0)).drop k

set_option maxHeartbeats 2000000 in
theorem checksum_any (l : List UInt8) (A : Option Addr) (cap : Nat) (w : World) (hv : Bytes w A l) (hl : l.length ≤ maxLen) :
    Calls Try.prog 22 #[.slice A l.length cap] w (Ret (.agg ((tail4 (crcZ l)).map fun c => Value.int .u8 (c.toNat : Int)).toArray) w) := by
  have hC := fun w' (h : Below w.heap.size w w') => crc_any l A cap w' (hv.below h) hl
  have hlt := crcZ_lt l
  unfold crcZ at *
  generalize crcL l ^^^ 4294967295 = n at *
  go_enter Try.func22, Try.ntmps22
  go_wp2_with fail
  have b0 : Below w.heap.size w ((w.alloc (.cells #[.int .u8 0, .int .u8 0, .int .u8 0, .int .u8 0] 48)).alloc (.cells #[.int .u8 0, .int .u8 0, .int .u8 0, .int .u8 0] 48)) := (by repeat (first | assumption | exact Below.refl _ _ | refine Below.alloc ?_ (by first | omega | (simp; done) | (simp; omega)) _ | refine Below.setCell ?_ (by first | omega | (simp; done) | (simp; omega)) _ | refine Below.drew ?_ | refine Below.drewN_ ?_ _ | refine Below.step ?_ (by assumption)))
  have B0 : Blk ((w.alloc (.cells #[.int .u8 0, .int .u8 0, .int .u8 0, .int .u8 0] 48)).alloc (.cells #[.int .u8 0, .int .u8 0, .int .u8 0, .int .u8 0] 48)) (w.heap.size + 1) 48 #[.int .u8 0, .int .u8 0, .int .u8 0, .int .u8 0] := by
    have := Blk.new (w.alloc (.cells #[.int .u8 0, .int .u8 0, .int .u8 0, .int .u8 0] 48)) 48 #[.int .u8 0, .int .u8 0, .int .u8 0, .int .u8 0]
    simpa using this
  have R0 : Blk ((w.alloc (.cells #[.int .u8 0, .int .u8 0, .int .u8 0, .int .u8 0] 48)).alloc (.cells #[.int .u8 0, .int .u8 0, .int .u8 0, .int .u8 0] 48)) w.heap.size 48 #[.int .u8 0, .int .u8 0, .int .u8 0, .int .u8 0] :=
    (Blk.new w 48 #[.int .u8 0, .int .u8 0, .int .u8 0, .int .u8 0]).below ((Below.refl _ _).alloc (Nat.le_refl _) _) (by simp)
  refine (hC _ b0).mono ?_
  rintro e w2 ⟨rfl, h2⟩
  have H2 := Below.step b0 h2
  have B2 := B0.below h2 B0.lt
  have R2 := R0.below h2 R0.lt
  clear hC B0 R0 b0
  go_wp2
  go_loopw [5, 8] (fun _ i wr => ∃ k : Nat, k ≤ 4 ∧ i = .int .i64 (k : Int) ∧ Blk wr (w.heap.size + 1) 48 (sumK n k).toArray ∧ Blk wr w.heap.size 48 #[.int .u8 0, .int .u8 0, .int .u8 0, .int .u8 0] ∧ Below w.heap.size w wr) (fun _ i _ => 5 - (intOf i).toNat)
  case atStart => exact ⟨0, by omega, rfl, B2, R2, H2⟩
  case round =>
    obtain ⟨k, hk, rfl, hblk, hres, hbw⟩ := hrel
    have HRES := Lib.hid hres
    by_cases h4 : k < 4
    · have hfro := hblk.frozen k
      have hB := Lib.hid hblk
      obtain rfl | rfl | rfl | rfl : k = 0 ∨ k = 1 ∨ k = 2 ∨ k = 3 := by omega
      · clear hres
        have hcell : wr.cell? ⟨w.heap.size + 1, 0, none⟩ = some (.int .u8 0) := by rw [hB.out.cell]; rfl
        clear hblk
        go_wp2
        go_roundw
        case rel =>
          refine ⟨1, by omega, rfl, ?_, HRES.out.other (p := ⟨w.heap.size + 1, 0, none⟩) (by show w.heap.size + 1 ≠ w.heap.size; omega) _, hbw.setCell (p := ⟨w.heap.size + 1, 0, none⟩) (by show w.heap.size ≤ w.heap.size + 1; omega) _⟩
          have := hB.out.set_ 0 (.int .u8 ((UInt8.ofNat n).toNat : Int))
          rw [u8_of] at this
          exact this
        case measure => simp [intOf]
      · clear hres
        have hcell : wr.cell? ⟨w.heap.size + 1, 1, none⟩ = some (.int .u8 0) := by rw [hB.out.cell]; rfl
        clear hblk
        go_wp2
        go_roundw
        case rel =>
          refine ⟨2, by omega, rfl, ?_, HRES.out.other (p := ⟨w.heap.size + 1, 1, none⟩) (by show w.heap.size + 1 ≠ w.heap.size; omega) _, hbw.setCell (p := ⟨w.heap.size + 1, 1, none⟩) (by show w.heap.size ≤ w.heap.size + 1; omega) _⟩
          have := hB.out.set_ 1 (.int .u8 ((UInt8.ofNat (n / 256)).toNat : Int))
          rw [u8_of] at this
          exact this
        case measure => simp [intOf]
      · clear hres
        have hcell : wr.cell? ⟨w.heap.size + 1, 2, none⟩ = some (.int .u8 0) := by rw [hB.out.cell]; rfl
        clear hblk
        go_wp2
        go_roundw
        case rel =>
          refine ⟨3, by omega, rfl, ?_, HRES.out.other (p := ⟨w.heap.size + 1, 2, none⟩) (by show w.heap.size + 1 ≠ w.heap.size; omega) _, hbw.setCell (p := ⟨w.heap.size + 1, 2, none⟩) (by show w.heap.size ≤ w.heap.size + 1; omega) _⟩
          have := hB.out.set_ 2 (.int .u8 ((UInt8.ofNat (n / 65536)).toNat : Int))
          rw [u8_of] at this
          exact this
        case measure => simp [intOf]
      · clear hres
        have hcell : wr.cell? ⟨w.heap.size + 1, 3, none⟩ = some (.int .u8 0) := by rw [hB.out.cell]; rfl
        clear hblk
        go_wp2
        go_roundw
        case rel =>
          refine ⟨4, by omega, rfl, ?_, HRES.out.other (p := ⟨w.heap.size + 1, 3, none⟩) (by show w.heap.size + 1 ≠ w.heap.size; omega) _, hbw.setCell (p := ⟨w.heap.size + 1, 3, none⟩) (by show w.heap.size ≤ w.heap.size + 1; omega) _⟩
          have e : ((UInt8.ofNat (n / 16777216)).toNat : Int) = (n : Int) / 16777216 := by rw [u8_of]; omega
          rw [← e]
          exact hB.out.set_ 3 (.int .u8 ((UInt8.ofNat (n / 16777216)).toNat : Int))
        case measure => simp [intOf]
    · obtain rfl : k = 4 := by omega
      have k0 : wr.cell? ⟨w.heap.size + 1, 0, none⟩ = some (.int .u8 ((UInt8.ofNat n).toNat : Int)) := by rw [hblk.cell]; rfl
      have k1 : wr.cell? ⟨w.heap.size + 1, 1, none⟩ = some (.int .u8 ((UInt8.ofNat (n / 256)).toNat : Int)) := by rw [hblk.cell]; rfl
      have k2 : wr.cell? ⟨w.heap.size + 1, 2, none⟩ = some (.int .u8 ((UInt8.ofNat (n / 65536)).toNat : Int)) := by rw [hblk.cell]; rfl
      have k3 : wr.cell? ⟨w.heap.size + 1, 3, none⟩ = some (.int .u8 ((UInt8.ofNat (n / 16777216)).toNat : Int)) := by rw [hblk.cell]; rfl
      have z0 : wr.cell? ⟨w.heap.size, 0, none⟩ = some (.int .u8 0) := by rw [hres.cell]; rfl
      have z1 : wr.cell? ⟨w.heap.size, 1, none⟩ = some (.int .u8 0) := by rw [hres.cell]; rfl
      have z2 : wr.cell? ⟨w.heap.size, 2, none⟩ = some (.int .u8 0) := by rw [hres.cell]; rfl
      have z3 : wr.cell? ⟨w.heap.size, 3, none⟩ = some (.int .u8 0) := by rw [hres.cell]; rfl
      have zf0 := hres.frozen 0
      have zf1 := hres.frozen 1
      have zf2 := hres.frozen 2
      have zf3 := hres.frozen 3
      clear hblk hres
      obtain ⟨a0, h0⟩ : ∃ a, a = UInt8.ofNat n := ⟨_, rfl⟩
      rw [← h0] at k0
      have HH0 := Lib.hid h0
      clear h0
      obtain ⟨a1, h1⟩ : ∃ a, a = UInt8.ofNat (n / 256) := ⟨_, rfl⟩
      rw [← h1] at k1
      have HH1 := Lib.hid h1
      clear h1
      obtain ⟨a2, h2⟩ : ∃ a, a = UInt8.ofNat (n / 65536) := ⟨_, rfl⟩
      rw [← h2] at k2
      have HH2 := Lib.hid h2
      clear h2
      obtain ⟨a3, h3⟩ : ∃ a, a = UInt8.ofNat (n / 16777216) := ⟨_, rfl⟩
      rw [← h3] at k3
      have HH3 := Lib.hid h3
      clear h3
      go_wp2
      refine bodyPost_ret (v := .agg #[.int .u8 (a0.toNat : Int), .int .u8 (a1.toNat : Int), .int .u8 (a2.toNat : Int), .int .u8 (a3.toNat : Int)]) (by simp [results, Try.results22, go_sem, *]) rfl ?_
      exact Ret.mk (by rw [HH0.out, HH1.out, HH2.out, HH3.out]; rfl) ((((hbw.setCell (p := ⟨w.heap.size, 0, none⟩) (Nat.le_refl _) _).setCell (p := ⟨w.heap.size, 1, none⟩) (Nat.le_refl _) _).setCell (p := ⟨w.heap.size, 2, none⟩) (Nat.le_refl _) _).setCell (p := ⟨w.heap.size, 3, none⟩) (Nat.le_refl _) _)
end Go.Proofs.Ytefjjjclgcidnaa
