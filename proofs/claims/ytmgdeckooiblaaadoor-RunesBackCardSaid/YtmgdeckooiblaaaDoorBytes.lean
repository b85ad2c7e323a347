/- Slices of bytes, and their strings. -/
import Derived.Test.YtmgdeckooiblaaaDoorBase
namespace Go.Proofs.YtmgdeckooiblaaaDoor
open Go.RowKit

/-- A slice of bytes reads as the list l. -/
def Bytes (w : World) (A : Option Addr) (l : List UInt8) : Prop := Reads w w.heap.size 1 A l.length (l.map fun c => Value.int .u8 c.toNat)
theorem Bytes.below {w w' : World} {A : Option Addr} {l : List UInt8} (h : Bytes w A l) (hb : Below w.heap.size w w') : Bytes w' A l := (Reads.below h hb).more hb.size
theorem Bytes.at_ {w : World} {A : Option Addr} {l : List UInt8} (h : Bytes w A l) {k : Nat} (hk : k < l.length) :
    ∃ ad, A = some ad ∧ ad.block < w.heap.size ∧ w.cell? (ad.add k) = some (.int .u8 l[k].toNat) := by
  obtain ⟨ad, u, e, hb, hx, hc⟩ := Reads.at_ h hk
  refine ⟨ad, e, hb, ?_⟩
  rw [hc]
  simpa [hk] using hx.symm

/-- The bytes of a slice as a string. -/
theorem run_bytes_string (w : World) (A : Option Addr) (l : List UInt8) (cap : Nat) (h : Bytes w A l) : (convert 45 9 (.slice A l.length cap)).run Tryd.prog w = .ok (.string ⟨l.toArray⟩) w := by
  rw [run_convert_bytes_string w _ _ 5 A _ _ Tryd.underlying45 Tryd.underlying5 Tryd.underlying9]
  have hfold : ∀ (l : List UInt8) (r : ByteArray), (l.map fun c => (c.toNat : Int)).foldl (fun r n => r.push (UInt8.ofNat n.toNat)) r = ⟨r.data ++ l.toArray⟩ := by
    intro l
    induction l with
    | nil => intro r; simp
    | cons c l ih =>
      intro r
      rw [List.map_cons, List.foldl_cons, ih]
      simp [ByteArray.push]
  cases l with
  | nil =>
    cases A with
    | none => simp [Conv.bytesToString, go_sem]; rfl
    | some a =>
      rw [run_bytesToString w a _ cap ((([] : List UInt8)).map fun c => (c.toNat : Int)) (by
        have := run_loadCells_list (P := Tryd.prog) (w := w) a ((([] : List UInt8).map fun c => (c.toNat : Int)).map (Value.int .u8)) (by simp)
        simpa using this), hfold]
      rfl
  | cons c l =>
    obtain ⟨ad, rfl, hb, hc⟩ := h.2 (by simp)
    rw [run_bytesToString w ad _ cap ((c :: l).map fun c => (c.toNat : Int)) (by
      have := run_loadCells_list (P := Tryd.prog) (w := w) ad (((c :: l).map fun c => (c.toNat : Int)).map (Value.int .u8)) (fun j v hv => hc j v (by rw [← hv, List.map_map]; rfl))
      simpa [Function.comp] using this), hfold, show ByteArray.empty.data = #[] from rfl, Array.empty_append]
theorem Bytes.new (w : World) (l : List UInt8) (T : TypeId) : Bytes (w.alloc (.cells (l.map fun c => Value.int .u8 c.toNat).toArray T)) (some ⟨w.heap.size, 0, none⟩) l :=
  ⟨by simp, fun _ => ⟨_, rfl, by simp, fun j u hu => by
    rw [show ((⟨w.heap.size, 0, none⟩ : Addr).add j) = ⟨w.heap.size, j, none⟩ by unfold Addr.add; split <;> simp_all, World.cell?_alloc_at _ _ _ _ rfl]
    simpa using hu⟩⟩
theorem Bytes.newf (w : World) (l : List UInt8) (T : TypeId) (f : Nat × Nat) : Bytes (w.alloc (.cells (l.map fun c => Value.int .u8 c.toNat).toArray T f)) (some ⟨w.heap.size, 0, none⟩) l :=
  ⟨by simp, fun _ => ⟨_, rfl, by simp, fun j u hu => by
    rw [show ((⟨w.heap.size, 0, none⟩ : Addr).add j) = ⟨w.heap.size, j, none⟩ by unfold Addr.add; split <;> simp_all]
    rw [cell_of_row _ w.heap.size j _ T f (heap_alloc_new w _), List.getElem?_toArray]
    exact hu⟩⟩

theorem Bytes.nil_ (w : World) (A : Option Addr) : Bytes w A [] := ⟨by simp, fun h => absurd h (by simp)⟩
end Go.Proofs.YtmgdeckooiblaaaDoor
