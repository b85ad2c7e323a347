/- Contracts of Hex. -/
import Derived.Test.YtopedbkefncfnaaSumsB
namespace Go.Proofs.Ytopedbkefncfnaa
open Go.RowKit

def hexNat (d : Nat) : Nat := if d < 10 then 48 + d else 87 + d
def hexDigit (d : Nat) : UInt8 := UInt8.ofNat (hexNat d)
theorem hexDigit_nat {d : Nat} (h : d < 16) : (hexDigit d).toNat = hexNat d := by
  unfold hexDigit hexNat
  split <;> simp <;> omega
/-- The last n digits. -/
def hexTo (x : Nat) : Nat → List UInt8
  | 0 => []
  | n + 1 => hexDigit (x / 16 ^ n % 16) :: hexTo x n
theorem hexTo_len (x : Nat) : ∀ n, (hexTo x n).length = n
  | 0 => rfl
  | n + 1 => by simp [hexTo, hexTo_len x n]
def hexS (h : Int) : List UInt8 := hexTo (word h % 4611686018427387904) 16
theorem div_pow (x n : Nat) : x / 16 ^ n / 16 = x / 16 ^ (n + 1) := by rw [Nat.div_div_eq_div_mul, Nat.pow_succ]

/-- The bytes of a slice as a string. -/
theorem run_bytes_string (w : World) (A : Option Addr) (l : List UInt8) (cap : Nat) (h : Bytes w A l) : (convert 22 9 (.slice A l.length cap)).run Try.prog w = .ok (.string ⟨l.toArray⟩) w := by
  rw [run_convert_bytes_string w _ _ 5 A _ _ Try.underlying22 Try.underlying5 Try.underlying9]
  have hfold : ∀ (l : List UInt8) (r : ByteArray), (l.map fun c => (c.toNat : Int)).foldl (fun r n => r.push (UInt8.ofNat n.toNat)) r = ⟨r.data ++ l.toArray⟩ := by
    intro l
    induction l with
    | nil => intro r; simp
    | cons c l ih =>
      intro r
      rw [List.map_cons, List.foldl_cons, ih]
      simp [ByteArray.push]
  cases l with
  | nil =>
    cases A with
    | none => simp [Conv.bytesToString, go_sem]; rfl
    | some a =>
      rw [run_bytesToString w a _ cap ((([] : List UInt8)).map fun c => (c.toNat : Int)) (by
        have := run_loadCells_list (P := Try.prog) (w := w) a ((([] : List UInt8).map fun c => (c.toNat : Int)).map (Value.int .u8)) (by simp)
        simpa using this), hfold]
      rfl
  | cons c l =>
    obtain ⟨ad, rfl, hb, hc⟩ := h.2 (by simp)
    rw [run_bytesToString w ad _ cap ((c :: l).map fun c => (c.toNat : Int)) (by
      have := run_loadCells_list (P := Try.prog) (w := w) ad (((c :: l).map fun c => (c.toNat : Int)).map (Value.int .u8)) (fun j v hv => hc j v (by rw [← hv, List.map_map]; rfl))
      simpa [Function.comp] using this), hfold, show ByteArray.empty.data = #[] from rfl, Array.empty_append]
theorem Bytes.new (w : World) (l : List UInt8) (T : TypeId) : Bytes (w.alloc (.cells (l.map fun c => Value.int .u8 c.toNat).toArray T)) (some ⟨w.heap.size, 0, none⟩) l :=
  ⟨by simp, fun _ => ⟨_, rfl, by simp, fun j u hu => by
    rw [show ((⟨w.heap.size, 0, none⟩ : Addr).add j) = ⟨w.heap.size, j, none⟩ by unfold Addr.add; split <;> simp_all, World.cell?_alloc_at _ _ _ _ rfl]
    simpa using hu⟩⟩
/-- One new byte as a string. -/
theorem run_byte_string (w : World) (c : UInt8) (x : Int) (hx : x = c.toNat) : (convert 22 9 (.slice (some ⟨w.heap.size, 0, none⟩) 1 1)).run Try.prog (w.alloc (.cells #[.int .u8 x] 5)) = .ok (.string ⟨#[c]⟩) (w.alloc (.cells #[.int .u8 x] 5)) := by
  subst hx
  exact run_bytes_string _ _ [c] 1 (Bytes.new w [c] 5)

set_option maxHeartbeats 400000 in
theorem rhex_any (h : Int) (w : World) : Calls Try.prog 20 #[.int .i64 h] w (Ret (.string ⟨(hexS h).toArray⟩) w) := by
  have H0 : Hid (bits .and .u64 (IntKind.u64.wrap h) 4611686018427387903 = ((word h % 4611686018427387904 : Nat) : Int)) := Lib.hid (by
    rw [show IntKind.u64.wrap h = (word h : Int) by rw [IntKind.wrap_u64]; unfold word; omega]
    exact and_mask64 (word_lt h))
  unfold hexS
  have hx : word h % 4611686018427387904 < 4611686018427387904 := Nat.mod_lt _ (by omega)
  generalize word h % 4611686018427387904 = x at *
  go_enter Try.func20, Try.ntmps20
  go_wp2
  go_loopw [3, 4, 5, 6] (fun u s i d wr => ∃ n : Nat, n ≤ 16 ∧ i = .int .i64 (n : Int) ∧ u = .int .u64 ((x / 16 ^ n : Nat) : Int) ∧ s = .string ⟨(hexTo x n).toArray⟩ ∧ Below w.heap.size w wr) (fun _ _ i _ _ => 17 - (intOf i).toNat)
  case atStart => exact ⟨0, by omega, rfl, congrArg (Value.int .u64) (by rw [H0.out]; simp), rfl, Below.refl _ _⟩
  case round =>
    obtain ⟨n, hn, rfl, rfl, rfl, hbw⟩ := hrel
    by_cases h16 : n < 16
    · have hlt : (n : Int) < 16 := by omega
      have HD := Lib.hid (div_pow x n)
      have HT : Hid (hexTo x (n + 1) = hexDigit (x / 16 ^ n % 16) :: hexTo x n) := Lib.hid rfl
      have hX : x / 16 ^ n < 4611686018427387904 := Nat.lt_of_le_of_lt (Nat.div_le_self _ _) hx
      have hSl : (hexTo x n).length ≤ 16 := by rw [hexTo_len]; exact hn
      generalize x / 16 ^ n = X at *
      generalize hexTo x n = S at *
      by_cases hd : (X : Int) % 16 < 10
      · have hcv := fun w : World => run_byte_string w (hexDigit (X % 16)) (48 + (X : Int) % 16) (by rw [hexDigit_nat (Nat.mod_lt _ (by omega))]; unfold hexNat; rw [if_pos (by omega)]; omega)
        go_wp2
        go_roundw
        case rel => exact ⟨n + 1, by omega, by go_num, congrArg (Value.int .u64) (by rw [← HD.out]; omega), congrArg Value.string (by rw [HT.out]; apply ByteArray.ext; simp), hbw.alloc hbw.size _⟩
        case measure => simp [intOf]; omega
      · have hcv := fun w : World => run_byte_string w (hexDigit (X % 16)) (97 + (X : Int) % 16 - 10) (by rw [hexDigit_nat (Nat.mod_lt _ (by omega))]; unfold hexNat; rw [if_neg (by omega)]; omega)
        go_wp2
        go_roundw
        case rel => exact ⟨n + 1, by omega, by go_num, congrArg (Value.int .u64) (by rw [← HD.out]; omega), congrArg Value.string (by rw [HT.out]; apply ByteArray.ext; simp), hbw.alloc hbw.size _⟩
        case measure => simp [intOf]; omega
    · obtain rfl : n = 16 := by omega
      go_wp2
      go_ret
      exact Ret.mk rfl hbw
end Go.Proofs.Ytopedbkefncfnaa
