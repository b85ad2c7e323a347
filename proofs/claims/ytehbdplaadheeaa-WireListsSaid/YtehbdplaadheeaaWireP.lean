/- Writing a number: new rows of bytes. -/
import Derived.Test.YtehbdplaadheeaaWireL
import Derived.Test.YtehbdplaadheeaaAppend
import Derived.WalkSpells
import Derived.Lib.LazyBuf
namespace Go.Proofs.Ytehbdplaadheeaa
open Go.RowKit


theorem Bytes.of_own {w : World} {base : Nat} {T : TypeId} {A : Option Addr} {n c : Nat} {l : List UInt8} (hn : l.length = n) (h : w.ownsRow base T 1 (.slice A n c) n (l.map fun c => Value.int .u8 c.toNat)) : Bytes w A l := by
  subst hn
  exact Reads.of_own h
theorem info_u8 : (Try.prog.info? 5).map (fun i => (i.zero, i.size, i.bytes)) = some (some (.int .u8 0), 1, 1) := by kernel_rfl
theorem one_u8 (l : List UInt8) : ∀ u ∈ l.map fun c => Value.int .u8 (c.toNat : Int), u.oneCell' = true := by
  intro u hu
  obtain ⟨c, _, rfl⟩ := List.mem_map.1 hu
  rfl
theorem own_empty (w : World) (T : TypeId) : (w.alloc (.cells #[] T)).ownsRow w.heap.size T 1 (.slice (some ⟨w.heap.size, 0, none⟩) 0 0) 0 [] :=
  ⟨rfl, .inr ⟨_, 0, #[], rfl, Nat.le_refl _, heap_alloc_new w _, Nat.le_refl _, by simp [maxLen], rfl, rfl⟩⟩
/-- The bytes of a list, as cells. -/
def u8s (l : List UInt8) : List Value := l.map fun c => Value.int .u8 c.toNat
/-- The call returns a row of its own that reads as l. -/
def RetOwn (base : Nat) (l : List UInt8) (w : World) (e : Ending) (w' : World) : Prop := ∃ A cap, e = .returned (.slice A l.length cap) ∧ w'.ownsRow base 5 1 (.slice A l.length cap) l.length (u8s l) ∧ Below base w w'

set_option maxHeartbeats 1000000 in
theorem clone_any (l : List UInt8) (A : Option Addr) (cap : Nat) (w : World) (hv : Bytes w A l) (hl : l.length ≤ 100000) :
    Calls Try.prog 26 #[.slice A l.length cap] w (RetOwn w.heap.size l w) := by
  have hq := fun (w : World) (a : Option Addr) (l c : Nat) => Lib.run_eql_slice_nil (P := Try.prog) w 22 5 a l c 0 0 Try.underlying22
  obtain ⟨i0, hi0, hz0, hz1, hz2⟩ := info_parts info_u8
  rcases A with _ | ad
  · have hl0 : l = [] := by
      cases l with
      | nil => rfl
      | cons c l => obtain ⟨ad, h, _⟩ := hv.at_ (k := 0) (by simp); cases h
    subst hl0
    go_enter Try.func26, Try.ntmps26
    go_wp2
    go_ret
    exact ⟨none, 0, rfl, ⟨rfl, .inl ⟨rfl, rfl⟩⟩, Below.refl _ _⟩
  · go_enter Try.func26, Try.ntmps26
    go_wp2_with (at_builtin; refine wpList_append_any _ rfl (.tmp 5) (.tmp 6) _ rfl w.heap.size 5 i0 _ 1 1 Try.underlying22 hi0 hz0 hz1 hz2 rfl (by omega) _ 0 [] rfl (own_empty w _) w.heap.size (some ad) l.length cap _ rfl (Reads.alloc hv (Nat.le_refl _) _) (one_u8 l) (by simp only [maxLen]; omega) (by omega) (by simp) ?_; intro v1 w1 hown1 hg1 hat1)
    obtain ⟨A1, c1, rfl⟩ := own_form hown1
    have hB : Below w.heap.size w w1 := ((Below.refl _ _).alloc (Nat.le_refl _) _).trans ((Below.refl _ _).grown hg1 (by simp) (fun k hk => by have h : some w.heap.size = some k := hk; injection h with h; omega))
    have HO := Lib.hid hown1
    clear hown1 hg1 hat1 hi0 hz0 hz1 hz2
    go_wp2
    go_ret
    exact ⟨A1, c1, by rw [Nat.zero_add]; rfl, by simpa [u8s] using HO.out, hB⟩
end Go.Proofs.Ytehbdplaadheeaa
