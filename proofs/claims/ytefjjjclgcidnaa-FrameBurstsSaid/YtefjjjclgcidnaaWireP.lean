/- Writing a number: new rows of bytes. -/
import Derived.Test.YtefjjjclgcidnaaWireL
import Derived.Test.YtefjjjclgcidnaaAppend
import Derived.WalkSpells
import Derived.Lib.LazyBuf
namespace Go.Proofs.Ytefjjjclgcidnaa
open Go.RowKit


theorem Bytes.of_own {w : World} {base : Nat} {T : TypeId} {A : Option Addr} {n c : Nat} {l : List UInt8} (hn : l.length = n) (h : w.ownsRow base T 1 (.slice A n c) n (l.map fun c => Value.int .u8 c.toNat)) : Bytes w A l := by
  subst hn
  exact Reads.of_own h
theorem info_u8 : (Try.prog.info? 5).map (fun i => (i.zero, i.size, i.bytes)) = some (some (.int .u8 0), 1, 1) := by kernel_rfl
theorem one_u8 (l : List UInt8) : ∀ u ∈ l.map fun c => Value.int .u8 (c.toNat : Int), u.oneCell' = true := by
  intro u hu
  obtain ⟨c, _, rfl⟩ := List.mem_map.1 hu
  rfl
theorem own_empty (w : World) (T : TypeId) : (w.alloc (.cells #[] T)).ownsRow w.heap.size T 1 (.slice (some ⟨w.heap.size, 0, none⟩) 0 0) 0 [] :=
  ⟨rfl, .inr ⟨_, 0, #[], rfl, Nat.le_refl _, heap_alloc_new w _, Nat.le_refl _, by simp [maxLen], rfl, rfl⟩⟩
/-- The bytes of a list, as cells. -/
def u8s (l : List UInt8) : List Value := l.map fun c => Value.int .u8 c.toNat
/-- The call returns a row of its own that reads as l. -/
def RetOwn (base : Nat) (l : List UInt8) (w : World) (e : Ending) (w' : World) : Prop := ∃ A cap, e = .returned (.slice A l.length cap) ∧ w'.ownsRow base 5 1 (.slice A l.length cap) l.length (u8s l) ∧ Below base w w'
/-- What a row of the call's own may do when it grows: other blocks stay, and the new row's block is the old one's or new. -/
structure Grew (w : World) (v : Value) (w' : World) (v' : Value) : Prop where
  size : w.heap.size ≤ w'.heap.size
  blk : ∀ k, k < w.heap.size → some k ≠ v.ownBlock → w'.heap[k]? = w.heap[k]? ∧ some k ≠ v'.ownBlock
theorem Grew.refl (w : World) (v : Value) : Grew w v w v := ⟨Nat.le_refl _, fun _ _ h => ⟨rfl, h⟩⟩
theorem Grew.trans {w w1 w2 : World} {v v1 v2 : Value} (h : Grew w v w1 v1) (k : Grew w1 v1 w2 v2) : Grew w v w2 v2 :=
  ⟨Nat.le_trans h.size k.size, fun i hi hv => by
    obtain ⟨a, b⟩ := h.blk i hi hv
    obtain ⟨c, d⟩ := k.blk i (Nat.lt_of_lt_of_le hi h.size) b
    exact ⟨c.trans a, d⟩⟩
theorem Grew.below {w w1 w2 : World} {v v1 : Value} (h : Grew w v w1 v1) (k : Below w1.heap.size w1 w2) : Grew w v w2 v1 :=
  h.trans ⟨k.size, fun i hi hv => ⟨k.block i hi, hv⟩⟩
theorem Grew.alloc {w w1 : World} {v v1 : Value} (h : Grew w v w1 v1) (o : Obj) : Grew w v (w1.alloc o) v1 := h.below ((Below.refl _ _).alloc (Nat.le_refl _) o)
theorem Grew.grown {w w1 w2 : World} {v v1 v2 : Value} (h : Grew w v w1 v1) (hg : w1.grownBy w2 v1.ownBlock) (hat : v2.ownBlock = v1.ownBlock ∨ v2.ownBlock = some w1.heap.size) : Grew w v w2 v2 :=
  h.trans ⟨hg.size, fun i hi hv => ⟨hg.block i hi hv, by
    rcases hat with e | e
    · rw [e]; exact hv
    · rw [e]; intro h; injection h with h; omega⟩⟩
theorem Grew.cap {w w' : World} {A A' : Option Addr} {n c n' c' m d m' d' : Nat} (h : Grew w (.slice A n c) w' (.slice A' n' c')) : Grew w (.slice A m d) w' (.slice A' m' d') := by
  refine ⟨h.size, fun k hk hv => ?_⟩
  obtain ⟨a, b⟩ := h.blk k hk (by cases A <;> exact hv)
  exact ⟨a, by cases A' <;> exact b⟩
theorem Bytes.grew {w w' : World} {v v' : Value} {B : Option Addr} {L : List UInt8} (h : Bytes w B L) (hg : Grew w v w' v') (hne : ∀ ad, B = some ad → some ad.block ≠ v.ownBlock) : Bytes w' B L :=
  ⟨h.1, fun hn => by
    obtain ⟨ad, e, hb, hc⟩ := h.2 hn
    obtain ⟨h1, h2⟩ := hg.blk ad.block hb (hne ad e)
    exact ⟨ad, e, Nat.lt_of_lt_of_le hb hg.size, fun j u hu => (World.cell?_of_block (by rw [block_of_add]; exact h1)).trans (hc j u hu)⟩⟩
/-- As RetOwn, and what the row did to other blocks. -/
def RetGrow (v : Value) (base : Nat) (l : List UInt8) (w : World) (e : Ending) (w' : World) : Prop := ∃ A cap, e = .returned (.slice A l.length cap) ∧ w'.ownsRow base 5 1 (.slice A l.length cap) l.length (u8s l) ∧ Below base w w' ∧ Grew w v w' (.slice A l.length cap)
theorem RetGrow.own {v : Value} {base : Nat} {l : List UInt8} {w : World} {e : Ending} {w' : World} (h : RetGrow v base l w e w') : RetOwn base l w e w' := by
  obtain ⟨A, c, h1, h2, h3, _⟩ := h
  exact ⟨A, c, h1, h2, h3⟩

set_option maxHeartbeats 1000000 in
theorem clone_any (l : List UInt8) (A : Option Addr) (cap : Nat) (w : World) (hv : Bytes w A l) (hl : l.length ≤ 100000) :
    Calls Try.prog 31 #[.slice A l.length cap] w (RetOwn w.heap.size l w) := by
  have hq := fun (w : World) (a : Option Addr) (l c : Nat) => Lib.run_eql_slice_nil (P := Try.prog) w 22 5 a l c 0 0 Try.underlying22
  obtain ⟨i0, hi0, hz0, hz1, hz2⟩ := info_parts info_u8
  rcases A with _ | ad
  · have hl0 : l = [] := by
      cases l with
      | nil => rfl
      | cons c l => obtain ⟨ad, h, _⟩ := hv.at_ (k := 0) (by simp); cases h
    subst hl0
    go_enter Try.func31, Try.ntmps31
    go_wp2
    go_ret
    exact ⟨none, 0, rfl, ⟨rfl, .inl ⟨rfl, rfl⟩⟩, Below.refl _ _⟩
  · go_enter Try.func31, Try.ntmps31
    go_wp2_with (at_builtin; refine wpList_append_any _ rfl (.tmp 5) (.tmp 6) _ rfl w.heap.size 5 i0 _ 1 1 Try.underlying22 hi0 hz0 hz1 hz2 rfl (by omega) _ 0 [] rfl (own_empty w _) w.heap.size (some ad) l.length cap _ rfl (Reads.alloc hv (Nat.le_refl _) _) (one_u8 l) (by simp only [maxLen]; omega) (by omega) (by simp) ?_; intro v1 w1 hown1 hg1 hat1)
    obtain ⟨A1, c1, rfl⟩ := own_form hown1
    have hB : Below w.heap.size w w1 := ((Below.refl _ _).alloc (Nat.le_refl _) _).trans ((Below.refl _ _).grown hg1 (by simp) (fun k hk => by have h : some w.heap.size = some k := hk; injection h with h; omega))
    have HO := Lib.hid hown1
    clear hown1 hg1 hat1 hi0 hz0 hz1 hz2
    go_wp2
    go_ret
    exact ⟨A1, c1, by rw [Nat.zero_add]; rfl, by simpa [u8s] using HO.out, hB⟩
end Go.Proofs.Ytefjjjclgcidnaa
