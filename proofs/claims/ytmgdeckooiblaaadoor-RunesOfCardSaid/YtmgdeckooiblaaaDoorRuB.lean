/- The encoding of a scalar, and the first scalar of a string. -/
import Derived.Test.YtmgdeckooiblaaaDoorRuM
import Derived.Test.YtmgdeckooiblaaaDoorRuA
import Derived.Test.YtmgdeckooiblaaaDoorBytes
namespace Go.Proofs.YtmgdeckooiblaaaDoor
open Go.RowKit

theorem u8w (x : Int) (n : Nat) (h : x = (n : Int)) (hn : n < 256) : IntKind.u8.wrap x = ((UInt8.ofNat n).toNat : Int) := by
  rw [ofNat_toNat' n hn, IntKind.wrap_u8, h]; omega
theorem some_string (w : World) (l : List UInt8) (vs : Array Value) (n : Nat) (hn : n = l.length) (h : (l.map fun c => Value.int .u8 (c.toNat : Int)).toArray = vs) : (convert 45 9 (.slice (some ⟨w.heap.size, 0, none⟩) n n)).run Tryd.prog (w.alloc (.cells vs 5)) = .ok (.string ⟨l.toArray⟩) (w.alloc (.cells vs 5)) := by
  subst h hn
  exact run_bytes_string _ _ l _ (Bytes.new w l 5)

set_option maxRecDepth 20000 in
set_option maxHeartbeats 2000000 in
theorem encoded_any {p : Nat} (h : scal p) (w : World) : Calls Tryd.prog 35 #[.int .i64 (p : Int)] w (Ret (.string ⟨(enc p).toArray⟩) w) := by
  have hs : (p : Int) ≤ 1114111 := h.2.1
  clear h
  obtain ⟨x, hx⟩ : ∃ x : Int, x = (p : Int) := ⟨_, rfl⟩
  rw [← hx]
  by_cases h128 : p < 128
  · have f0 : decide (x < 128) = true := decide_eq_true (by omega)
    have e : enc p = [UInt8.ofNat (p)] := by unfold enc encN; rw [if_pos (by omega)]; rfl
    have u0 := u8w (x) (p) (by omega) (by omega)
    rw [e]
    generalize UInt8.ofNat (p) = c0 at *
    have k := some_string w [c0] _ 1 rfl rfl
    simp only [List.map_cons, List.map_nil] at k
    have h0 : 0 ≤ x := by omega
    have h1 : x ≤ 1114111 := by omega
    clear e hx hs h128 
    go_enter Tryd.func35, Tryd.ntmps35
    go_wp2
    go_ret
    exact Ret.mk rfl ((Below.refl _ _).alloc (Nat.le_refl _) _)
  by_cases h2048 : p < 2048
  · obtain ⟨v, ev⟩ : ∃ v : Int, x / 64 = v := ⟨_, rfl⟩
    have tv : x.tdiv 64 = v := by rw [Int.tdiv_eq_ediv_of_nonneg (by omega)]; exact ev
    obtain ⟨y, ey⟩ : ∃ y : Int, x % 64 = y := ⟨_, rfl⟩
    have ty : x.tmod 64 = y := by rw [Int.tmod_eq_emod_of_nonneg (by omega)]; exact ey
    have f0 : decide (x < 128) = false := decide_eq_false (by omega)
    have f1 : decide (x < 2048) = true := decide_eq_true (by omega)
    have e : enc p = [UInt8.ofNat (192 + p / 64), UInt8.ofNat (128 + p % 64)] := by unfold enc encN; rw [if_neg (by omega), if_pos (by omega)]; rfl
    have u0 := u8w (192 + v) (192 + p / 64) (by omega) (by omega)
    have u1 := u8w (128 + y) (128 + p % 64) (by omega) (by omega)
    rw [e]
    generalize UInt8.ofNat (192 + p / 64) = c0 at *
    generalize UInt8.ofNat (128 + p % 64) = c1 at *
    have k := some_string w [c0, c1] _ 2 rfl rfl
    simp only [List.map_cons, List.map_nil] at k
    have h0 : 0 ≤ x := by omega
    have h1 : x ≤ 1114111 := by omega
    have h0v : 0 ≤ v := by omega
    have h1v : v ≤ 1114111 := by omega
    have h0y : 0 ≤ y := by omega
    have h1y : y ≤ 1114111 := by omega
    clear e hx hs h128 h2048 ev ey
    go_enter Tryd.func35, Tryd.ntmps35
    go_wp2
    go_ret
    exact Ret.mk rfl ((Below.refl _ _).alloc (Nat.le_refl _) _)
  by_cases h65536 : p < 65536
  · obtain ⟨v, ev⟩ : ∃ v : Int, x / 4096 = v := ⟨_, rfl⟩
    have tv : x.tdiv 4096 = v := by rw [Int.tdiv_eq_ediv_of_nonneg (by omega)]; exact ev
    obtain ⟨q, eq⟩ : ∃ q : Int, x / 64 = q := ⟨_, rfl⟩
    have tq : x.tdiv 64 = q := by rw [Int.tdiv_eq_ediv_of_nonneg (by omega)]; exact eq
    obtain ⟨z, ez⟩ : ∃ z : Int, q % 64 = z := ⟨_, rfl⟩
    have tz : q.tmod 64 = z := by rw [Int.tmod_eq_emod_of_nonneg (by omega)]; exact ez
    obtain ⟨y, ey⟩ : ∃ y : Int, x % 64 = y := ⟨_, rfl⟩
    have ty : x.tmod 64 = y := by rw [Int.tmod_eq_emod_of_nonneg (by omega)]; exact ey
    have f0 : decide (x < 128) = false := decide_eq_false (by omega)
    have f1 : decide (x < 2048) = false := decide_eq_false (by omega)
    have f2 : decide (x < 65536) = true := decide_eq_true (by omega)
    have e : enc p = [UInt8.ofNat (224 + p / 4096), UInt8.ofNat (128 + p / 64 % 64), UInt8.ofNat (128 + p % 64)] := by unfold enc encN; rw [if_neg (by omega), if_neg (by omega), if_pos (by omega)]; rfl
    have u0 := u8w (224 + v) (224 + p / 4096) (by omega) (by omega)
    have u1 := u8w (128 + z) (128 + p / 64 % 64) (by omega) (by omega)
    have u2 := u8w (128 + y) (128 + p % 64) (by omega) (by omega)
    rw [e]
    generalize UInt8.ofNat (224 + p / 4096) = c0 at *
    generalize UInt8.ofNat (128 + p / 64 % 64) = c1 at *
    generalize UInt8.ofNat (128 + p % 64) = c2 at *
    have k := some_string w [c0, c1, c2] _ 3 rfl rfl
    simp only [List.map_cons, List.map_nil] at k
    have h0 : 0 ≤ x := by omega
    have h1 : x ≤ 1114111 := by omega
    have h0v : 0 ≤ v := by omega
    have h1v : v ≤ 1114111 := by omega
    have h0q : 0 ≤ q := by omega
    have h1q : q ≤ 1114111 := by omega
    have h0z : 0 ≤ z := by omega
    have h1z : z ≤ 1114111 := by omega
    have h0y : 0 ≤ y := by omega
    have h1y : y ≤ 1114111 := by omega
    clear e hx hs h128 h2048 h65536 ev eq ez ey
    go_enter Tryd.func35, Tryd.ntmps35
    go_wp2
    go_ret
    exact Ret.mk rfl ((Below.refl _ _).alloc (Nat.le_refl _) _)
  · obtain ⟨t, et⟩ : ∃ t : Int, x / 262144 = t := ⟨_, rfl⟩
    have tt : x.tdiv 262144 = t := by rw [Int.tdiv_eq_ediv_of_nonneg (by omega)]; exact et
    obtain ⟨v, ev⟩ : ∃ v : Int, x / 4096 = v := ⟨_, rfl⟩
    have tv : x.tdiv 4096 = v := by rw [Int.tdiv_eq_ediv_of_nonneg (by omega)]; exact ev
    obtain ⟨u, eu⟩ : ∃ u : Int, v % 64 = u := ⟨_, rfl⟩
    have tu : v.tmod 64 = u := by rw [Int.tmod_eq_emod_of_nonneg (by omega)]; exact eu
    obtain ⟨q, eq⟩ : ∃ q : Int, x / 64 = q := ⟨_, rfl⟩
    have tq : x.tdiv 64 = q := by rw [Int.tdiv_eq_ediv_of_nonneg (by omega)]; exact eq
    obtain ⟨z, ez⟩ : ∃ z : Int, q % 64 = z := ⟨_, rfl⟩
    have tz : q.tmod 64 = z := by rw [Int.tmod_eq_emod_of_nonneg (by omega)]; exact ez
    obtain ⟨y, ey⟩ : ∃ y : Int, x % 64 = y := ⟨_, rfl⟩
    have ty : x.tmod 64 = y := by rw [Int.tmod_eq_emod_of_nonneg (by omega)]; exact ey
    have f0 : decide (x < 128) = false := decide_eq_false (by omega)
    have f1 : decide (x < 2048) = false := decide_eq_false (by omega)
    have f2 : decide (x < 65536) = false := decide_eq_false (by omega)
    have e : enc p = [UInt8.ofNat (240 + p / 262144), UInt8.ofNat (128 + p / 4096 % 64), UInt8.ofNat (128 + p / 64 % 64), UInt8.ofNat (128 + p % 64)] := by unfold enc encN; rw [if_neg (by omega), if_neg (by omega), if_neg (by omega)]; rfl
    have u0 := u8w (240 + t) (240 + p / 262144) (by omega) (by omega)
    have u1 := u8w (128 + u) (128 + p / 4096 % 64) (by omega) (by omega)
    have u2 := u8w (128 + z) (128 + p / 64 % 64) (by omega) (by omega)
    have u3 := u8w (128 + y) (128 + p % 64) (by omega) (by omega)
    rw [e]
    generalize UInt8.ofNat (240 + p / 262144) = c0 at *
    generalize UInt8.ofNat (128 + p / 4096 % 64) = c1 at *
    generalize UInt8.ofNat (128 + p / 64 % 64) = c2 at *
    generalize UInt8.ofNat (128 + p % 64) = c3 at *
    have k := some_string w [c0, c1, c2, c3] _ 4 rfl rfl
    simp only [List.map_cons, List.map_nil] at k
    have h0 : 0 ≤ x := by omega
    have h1 : x ≤ 1114111 := by omega
    have h0t : 0 ≤ t := by omega
    have h1t : t ≤ 1114111 := by omega
    have h0v : 0 ≤ v := by omega
    have h1v : v ≤ 1114111 := by omega
    have h0u : 0 ≤ u := by omega
    have h1u : u ≤ 1114111 := by omega
    have h0q : 0 ≤ q := by omega
    have h1q : q ≤ 1114111 := by omega
    have h0z : 0 ≤ z := by omega
    have h1z : z ≤ 1114111 := by omega
    have h0y : 0 ≤ y := by omega
    have h1y : y ≤ 1114111 := by omega
    clear e hx hs h128 h2048 h65536 et ev eu eq ez ey
    go_enter Tryd.func35, Tryd.ntmps35
    go_wp2
    go_ret
    exact Ret.mk rfl ((Below.refl _ _).alloc (Nat.le_refl _) _)
end Go.Proofs.YtmgdeckooiblaaaDoor
