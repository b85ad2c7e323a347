/- The examples of the chapter. -/
import Derived.Test.YtopedbkefncfnaaSumsE
import Derived.Lib.SlBytesConst
namespace Go.Proofs.Ytopedbkefncfnaa
open Go.RowKit

theorem Bytes.nil_ (w : World) (A : Option Addr) : Bytes w A [] := ⟨by simp, fun h => absurd h (by simp)⟩
theorem unhex_is (l : List UInt8) {n : Int} {x : Bool} (hz : unhexZ l = n) (hx : unhexB l = x) (w : World) : Calls Try.prog 21 #[.string ⟨l.toArray⟩] w (Ret (.tuple #[.int .i64 n, .bool x]) w) := by
  subst hz hx
  exact unhex_any l w
theorem hex_is (h : Int) {l : List UInt8} (e : hexS h = l) (w : World) : Calls Try.prog 19 #[.int .i64 h] w (Ret (.string ⟨l.toArray⟩) w) := e ▸ hex_any h w
theorem crc_is {l : List UInt8} {n : Nat} (e : crcL l ^^^ 4294967295 = n) (A : Option Addr) (cap : Nat) (w : World) (hv : Bytes w A l) (hl : l.length ≤ maxLen) :
    Calls Try.prog 13 #[.slice A l.length cap] w (Ret (.int .i64 (n : Int)) w) := e ▸ crc_any l A cap w hv hl
theorem hash_is {l : List UInt8} {n : Nat} (e : moreZ 860922984064492325 l = n) (A : Option Addr) (cap : Nat) (w : World) (hv : Bytes w A l) (hl : l.length ≤ maxLen) :
    Calls Try.prog 15 #[.slice A l.length cap] w (Ret (.int .i64 (n : Int)) w) := e ▸ hash_any l A cap w hv hl

theorem e1 : unhexZ [52, 48, 48, 48, 48, 48, 48, 48, 48, 48, 48, 48, 48, 48, 48, 48] = 0 := by decide +kernel
theorem e2 : unhexB [52, 48, 48, 48, 48, 48, 48, 48, 48, 48, 48, 48, 48, 48, 48, 48] = false := by decide +kernel
theorem e3 : unhexZ [50, 70, 54, 51, 100, 99, 52, 99, 56, 54, 48, 49, 101, 99, 56, 99] = 0 := by decide +kernel
theorem e4 : unhexB [50, 70, 54, 51, 100, 99, 52, 99, 56, 54, 48, 49, 101, 99, 56, 99] = false := by decide +kernel
theorem e5 : unhexZ [50, 102, 54, 51, 100, 99, 52, 99, 56, 54, 48, 49, 101, 99, 56, 99] = 3414815163700866188 := by decide +kernel
theorem e6 : unhexB [50, 102, 54, 51, 100, 99, 52, 99, 56, 54, 48, 49, 101, 99, 56, 99] = true := by decide +kernel
theorem e7 : crcL [49, 50, 51, 52, 53, 54, 55, 56, 57] ^^^ 4294967295 = 3421780262 := by decide +kernel
theorem e8 : crcL [] ^^^ 4294967295 = 0 := by decide +kernel
theorem e9 : moreZ 860922984064492325 [97] = 3414815163700866188 := by decide +kernel
theorem e10 : moreZ 860922984064492325 [] = 860922984064492325 := by decide +kernel
theorem e11 : hexS 3414815163700866188 = [50, 102, 54, 51, 100, 99, 52, 99, 56, 54, 48, 49, 101, 99, 56, 99] := by decide +kernel
theorem e12 : hexS (-1) = [51, 102, 102, 102, 102, 102, 102, 102, 102, 102, 102, 102, 102, 102, 102, 102] := by decide +kernel

theorem Bytes.newf (w : World) (l : List UInt8) (T : TypeId) (f : Nat × Nat) : Bytes (w.alloc (.cells (l.map fun c => Value.int .u8 c.toNat).toArray T f)) (some ⟨w.heap.size, 0, none⟩) l :=
  ⟨by simp, fun _ => ⟨_, rfl, by simp, fun j u hu => by
    rw [show ((⟨w.heap.size, 0, none⟩ : Addr).add j) = ⟨w.heap.size, j, none⟩ by unfold Addr.add; split <;> simp_all]
    rw [cell_of_row _ w.heap.size j _ T f (heap_alloc_new w _), List.getElem?_toArray]
    exact hu⟩⟩

set_option maxHeartbeats 1000000 in
theorem awake_any (w : World) : Calls Try.prog 12 #[] w (Ret (.bool true) w) := by
  have kc := fun (w : World) (C : Array Value) (n c : Nat) => Lib.run_convert_bytes_const (P := Try.prog) w 22 5 C n c Try.underlying22 Try.underlying5
  go_enter Try.func12, Try.ntmps12
  go_wp2_with fail
  refine (unhex_is _ e1 e2 _).mono ?_
  rintro e w1 ⟨rfl, h1⟩
  go_wp2_with fail
  refine (unhex_is _ e3 e4 _).mono ?_
  rintro e w2 ⟨rfl, h2⟩
  have H2 := Below.step h1 h2
  go_wp2_with fail
  refine (unhex_is _ e5 e6 _).mono ?_
  rintro e w3 ⟨rfl, h3⟩
  have H3 := Below.step H2 h3
  go_wp2_with fail
  refine (crc_is e7 (some ⟨w3.heap.size, 0, none⟩) 9 _ (by simpa using Bytes.newf w3 [49, 50, 51, 52, 53, 54, 55, 56, 57] 5 (9, 10)) (by decide)).mono ?_
  rintro e w4 ⟨rfl, h4⟩
  have H4 : Below w.heap.size w w4 := Below.step (H3.alloc H3.size _) h4
  go_wp2_with fail
  refine (crc_is e8 none 0 _ (Bytes.nil_ _ _) (by decide)).mono ?_
  rintro e w5 ⟨rfl, h5⟩
  have H5 := Below.step H4 h5
  go_wp2_with fail
  refine (hash_is e9 (some ⟨w5.heap.size, 0, none⟩) 1 _ (by simpa using Bytes.newf w5 [97] 5 (1, 2)) (by decide)).mono ?_
  rintro e w6 ⟨rfl, h6⟩
  have H6 : Below w.heap.size w w6 := Below.step (H5.alloc H5.size _) h6
  go_wp2_with fail
  refine (hash_is e10 none 0 _ (Bytes.nil_ _ _) (by decide)).mono ?_
  rintro e w7 ⟨rfl, h7⟩
  have H7 := Below.step H6 h7
  go_wp2_with fail
  refine (hex_is _ e11 _).mono ?_
  rintro e w8 ⟨rfl, h8⟩
  have H8 := Below.step H7 h8
  go_wp2_with fail
  refine (hex_is _ e12 _).mono ?_
  rintro e w9 ⟨rfl, h9⟩
  have H9 := Below.step H8 h9
  go_wp2
  go_ret
  exact Ret.mk rfl H9
end Go.Proofs.Ytopedbkefncfnaa
