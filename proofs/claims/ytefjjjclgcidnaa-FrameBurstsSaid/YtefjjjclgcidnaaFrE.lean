/- The copy of a content; bytes.Equal. -/
import Derived.Test.YtefjjjclgcidnaaFrD
namespace Go.Proofs.Ytefjjjclgcidnaa
open Go.RowKit

/-- A piece of a slice of bytes. -/
theorem Bytes.piece {w : World} {ad : Addr} {l : List UInt8} (h : Bytes w (some ad) l) {i n : Nat} (hi : i + n ≤ l.length) : Bytes w (some (ad.add i)) ((l.drop i).take n) := by
  have hlen : ((l.drop i).take n).length = n := by rw [List.length_take, List.length_drop]; omega
  refine ⟨by simp, fun h0 => ?_⟩
  rw [hlen] at h0
  obtain ⟨ad', e, hb, hc⟩ := h.2 (by omega)
  injection e with e
  subst e
  refine ⟨_, rfl, by rw [block_of_add]; exact hb, fun j u hu => ?_⟩
  rw [add_of_add]
  refine hc (i + j) u ?_
  rw [← hu, List.getElem?_map, List.getElem?_map, List.getElem?_take, List.getElem?_drop]
  have hj : j < n := by
    rcases Nat.lt_or_ge j n with h1 | h1
    · exact h1
    · rw [List.getElem?_eq_none (by rw [List.length_map, hlen]; exact h1)] at hu; cases hu
  rw [if_pos hj]

set_option maxHeartbeats 1000000 in
theorem bclone_any (l : List UInt8) (A : Option Addr) (cap : Nat) (w : World) (hv : Bytes w A l) (hl : l.length ≤ 100000) :
    Calls Try.prog 35 #[.slice A l.length cap] w (RetB l w) := by
  have hq := fun (w : World) (a : Option Addr) (l c : Nat) => Lib.run_eql_slice_nil (P := Try.prog) w 22 5 a l c 0 0 Try.underlying22
  obtain ⟨i0, hi0, hz0, hz1, hz2⟩ := info_parts info_u8
  rcases A with _ | ad
  · have hl0 : l = [] := by
      cases l with
      | nil => rfl
      | cons c l => obtain ⟨ad, h, _⟩ := hv.at_ (k := 0) (by simp); cases h
    subst hl0
    go_enter Try.func35, Try.ntmps35
    go_wp2
    go_ret
    exact ⟨none, 0, rfl, Bytes.nil_ _ _, Below.refl _ _⟩
  · go_enter Try.func35, Try.ntmps35
    go_wp2_with (at_builtin; refine wpList_append_any _ rfl _ _ _ rfl w.heap.size 5 i0 _ 1 1 Try.underlying22 hi0 hz0 hz1 hz2 rfl (by omega) _ 0 [] rfl (own_empty w _) w.heap.size (some ad) l.length cap _ rfl (Reads.alloc hv (Nat.le_refl _) _) (one_u8 l) (by simp only [maxLen]; omega) (by omega) (by simp) ?_; intro v1 w1 hown1 hg1 hat1)
    obtain ⟨A1, c1, rfl⟩ := own_form hown1
    have hB : Below w.heap.size w w1 := ((Below.refl _ _).alloc (Nat.le_refl _) _).trans ((Below.refl _ _).grown hg1 (by simp) (fun k hk => by have h : some w.heap.size = some k := hk; injection h with h; omega))
    have HO := Lib.hid (Bytes.of_own (l := l) (n := 0 + l.length) (by simp) (by simpa [u8s] using hown1))
    clear hown1 hg1 hat1 hi0 hz0 hz1 hz2
    go_wp2
    go_ret
    exact ⟨A1, c1, by rw [Nat.zero_add]; rfl, HO.out, hB⟩

set_option maxHeartbeats 1000000 in
theorem content_any (l : List UInt8) (ad : Addr) (cap : Nat) (hcap : l.length ≤ cap) (f t : Nat) (hf : f ≤ t) (ht : t ≤ l.length) (w : World) (hv : Bytes w (some ad) l) (hl : l.length ≤ 90000) :
    Calls Try.prog 28 #[.slice (some ad) l.length cap, .int .i64 (f : Int), .int .i64 (t : Int)] w (RetB ((l.drop f).take (t - f)) w) := by
  have hlen : ((l.drop f).take (t - f)).length = t - f := by rw [List.length_take, List.length_drop]; omega
  have h1 : (f : Int) ≤ (t : Int) := by omega
  have h2 : (t : Int) ≤ (cap : Int) := by omega
  have h3 : (0 : Int) ≤ (f : Int) := by omega
  have h4 : t ≤ cap := by omega
  by_cases he : f = t
  · subst he
    have hc := bclone_any [] (some ad) 0 w (Bytes.nil_ _ _) (by simp)
    rw [show (l.drop f).take (f - f) = [] by simp]
    go_enter Try.func28, Try.ntmps28
    go_wp2_with fail
    refine hc.mono ?_
    rintro e w1 ⟨A1, c1, rfl, y1, b1⟩
    have Y1 := Lib.hid y1
    clear y1 hc
    go_wp2
    go_ret
    exact ⟨A1, c1, rfl, Y1.out, b1⟩
  · have hc := bclone_any ((l.drop f).take (t - f)) (some (ad.add f)) (t - f) w (hv.piece (by omega)) (by omega)
    rw [hlen] at hc
    have h5 : 0 < t - f := by omega
    have h6 : ¬ t - f = 0 := by omega
    have h7 : ¬ t ≤ f := by omega
    generalize (l.drop f).take (t - f) = r at *
    go_enter Try.func28, Try.ntmps28
    go_wp2_with fail
    refine hc.mono ?_
    rintro e w1 ⟨A1, c1, rfl, y1, b1⟩
    have Y1 := Lib.hid y1
    clear y1 hc
    go_wp2
    go_ret
    exact ⟨A1, c1, by rw [hlen]; rfl, Y1.out, b1⟩

set_option maxHeartbeats 1000000 in
theorem equal_any (a b : List UInt8) (A B : Option Addr) (ca cb : Nat) (w : World) (ha : Bytes w A a) (hb : Bytes w B b) :
    Calls Try.prog 27 #[.slice A a.length ca, .slice B b.length cb] w (Ret (.bool (decide (a = b))) w) := by
  have h1 := run_bytes_string w A a ca ha
  have h2 := run_bytes_string w B b cb hb
  go_enter Try.func27, Try.ntmps27
  go_wp2
  go_ret
  exact Ret.mk (congrArg Value.bool (show (a == b) = decide (a = b) by rw [Bool.eq_iff_iff]; simp)) (Below.refl _ _)
end Go.Proofs.Ytefjjjclgcidnaa
