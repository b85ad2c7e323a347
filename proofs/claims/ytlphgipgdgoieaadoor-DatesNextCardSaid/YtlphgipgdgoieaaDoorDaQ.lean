/- The reference's Parse. -/
import Derived.Test.YtlphgipgdgoieaaDoorDaP
import Derived.Test.YtlphgipgdgoieaaDoorDaF
namespace Go.Proofs.YtlphgipgdgoieaaDoor
open Go.RowKit

theorem numC_dig {l : List UInt8} (hne : l ≠ []) (hd : ∀ c ∈ l, isDig c) (hv : val 0 l < 9223372036854775808) : numC l = val 0 l := by
  have hm : Lib.parseMag l = .ok (val 0 l) := by
    unfold Lib.parseMag
    rw [if_neg hne, parse_dig 18446744073709551616 (Nat.le_refl _) l 0 hd (by omega)]
  unfold numC
  match l, hne with
  | c :: r, _ =>
    have hc : 48 ≤ c.toNat ∧ c.toNat ≤ 57 := hd c (by simp)
    unfold Lib.atoiAll
    simp only
    rw [if_neg (show ¬ (c.toNat = 43 ∨ c.toNat = 45) by omega), hm]
    simp only
    rw [if_neg (by omega), if_neg (by omega), if_neg (by omega)]
theorem numC_d2 {n : Nat} (h : n < 100) : numC (d2 n) = n := by rw [numC_dig (by simp [d2]) (dig_d2 h) (by rw [val_d2 h]; omega), val_d2 h]

def parV (l : List UInt8) : Int := (parR l).getD 0
def parB (l : List UInt8) : Bool := (parR l).isSome
theorem par_none {l : List UInt8} (h : parR l = none) : parV l = 0 ∧ parB l = false := by unfold parV parB; rw [h]; exact ⟨rfl, rfl⟩
theorem par_some {l : List UInt8} {n : Int} (h : parR l = some n) : parV l = n ∧ parB l = true := by unfold parV parB; rw [h]; exact ⟨rfl, rfl⟩
theorem parR_len {l : List UInt8} (h : l.length ≠ 10) : parR l = none := by
  unfold parR
  split
  · exact absurd rfl h
  · rfl
theorem parR_sep {a b c d s e f t g k : UInt8} (h : ¬ (s = 45 ∧ t = 45)) : parR [a, b, c, d, s, e, f, t, g, k] = none := by
  show (if s = 45 ∧ t = 45 ∧ _ then _ else _) = _
  rw [if_neg fun hc => h ⟨hc.1, hc.2.1⟩]
theorem parR_day {a b c d e f g k : UInt8} : parV [a, b, c, d, 45, e, f, 45, g, k] = dayV (numR [a, b, c, d]) (numR [e, f]) (numR [g, k]) ∧ parB [a, b, c, d, 45, e, f, 45, g, k] = dayB (numR [a, b, c, d]) (numR [e, f]) (numR [g, k]) := by
  have e1 : parR [a, b, c, d, 45, e, f, 45, g, k] = if (45 : UInt8) = 45 ∧ (45 : UInt8) = 45 ∧ Valid (numR [a, b, c, d]) (numR [e, f]) (numR [g, k]) then some (dayN (numR [a, b, c, d]) (numR [e, f]) (numR [g, k])) else none := rfl
  by_cases hv : Valid (numR [a, b, c, d]) (numR [e, f]) (numR [g, k])
  · rw [if_pos ⟨rfl, rfl, hv⟩] at e1
    rw [(par_some e1).1, (par_some e1).2, (day_yes hv).1, (day_yes hv).2]; exact ⟨rfl, rfl⟩
  · rw [if_neg fun h => hv h.2.2] at e1
    rw [(par_none e1).1, (par_none e1).2, (day_no hv).1, (day_no hv).2]; exact ⟨rfl, rfl⟩
theorem ten {l : List UInt8} (h : l.length = 10) : ∃ a b c d s e f t g k, l = [a, b, c, d, s, e, f, t, g, k] := by
  match l, h with
  | [a, b, c, d, s, e, f, t, g, k], _ => exact ⟨a, b, c, d, s, e, f, t, g, k, rfl⟩

set_option maxRecDepth 20000 in
set_option maxHeartbeats 2000000 in
theorem rparse_any (l : List UInt8) (hl : l.length ≤ 300) (w : World) : Calls Tryd.prog 22 #[.string ⟨l.toArray⟩] w (Ret (.tuple #[.int .i64 (parV l), .bool (parB l)]) w) := by
  by_cases h10 : l.length = 10
  rotate_left
  · have hV := Lib.hid (par_none (parR_len h10))
    have hb : ((l.length : Int) != 10) = true := by simp; omega
    clear h10
    go_enter Tryd.func22, Tryd.ntmps22
    go_wp2
    go_ret2
    exact Ret.mk (by rw [hV.out.1, hV.out.2]; rfl) (Below.refl _ _)
  · obtain ⟨a, b, c, d, s, e, f, t, g, k, rfl⟩ := ten h10
    clear hl h10
    by_cases hs : s = 45 ∧ t = 45
    · obtain ⟨rfl, rfl⟩ := hs
      have hV := Lib.hid (parR_day (a := a) (b := b) (c := c) (d := d) (e := e) (f := f) (g := g) (k := k))
      have x1 : (⟨#[a, b, c, d, 45, e, f, 45, g, k]⟩ : ByteArray).extract 0 4 = ⟨[a, b, c, d].toArray⟩ := by rfl
      have x2 : (⟨#[a, b, c, d, 45, e, f, 45, g, k]⟩ : ByteArray).extract 5 7 = ⟨[e, f].toArray⟩ := by rfl
      have x3 : (⟨#[a, b, c, d, 45, e, f, 45, g, k]⟩ : ByteArray).extract 8 10 = ⟨[g, k].toArray⟩ := by rfl
      have k1 := fun w' => rnumber_any [a, b, c, d] (by simp) w'
      have k2 := fun w' => rnumber_any [e, f] (by simp) w'
      have k3 := fun w' => rnumber_any [g, k] (by simp) w'
      rw [← x1] at k1
      rw [← x2] at k2
      rw [← x3] at k3
      clear x1 x2 x3
      have k4 := fun w' => rday_any (numR [a, b, c, d]) (numR [e, f]) (numR [g, k]) w'
      generalize numR [a, b, c, d] = n1 at *
      generalize numR [e, f] = n2 at *
      generalize numR [g, k] = n3 at *
      go_enter Tryd.func22, Tryd.ntmps22
      go_wp2_with fail
      refine region_past (by kernel_rfl) (by kernel_rfl) ?_
      repeat (go_big_quiet_step (first | with_reducible exact Calls.past (k1 _) | with_reducible exact Calls.past (k2 _) | with_reducible exact Calls.past (k3 _) | with_reducible exact Calls.past (k4 _)))
      refine wpQuiet_nil ?_
      rintro w1 ⟨⟨_, hb1⟩, rfl⟩
      go_wp2
      go_ret2
      exact Ret.mk (by rw [hV.out.1, hV.out.2]; rfl) hb1
    · have hV := Lib.hid (par_none (parR_sep (a := a) (b := b) (c := c) (d := d) (e := e) (f := f) (g := g) (k := k) hs))
      by_cases h4 : s = 45
      · have ht : ¬ t = 45 := fun h => hs ⟨h4, h⟩
        subst h4
        have h7 : (((((⟨#[a, b, c, d, 45, e, f, t, g, k]⟩ : ByteArray)[7]'(show 7 < 10 by omega)).toNat : Nat) : Int) != 45) = true := by
          show (((t.toNat : Nat) : Int) != 45) = true
          rw [bne_iff_ne]
          intro h
          exact ht (UInt8.toNat_inj.1 (by rw [show (45 : UInt8).toNat = 45 from rfl]; omega))
        clear hs ht
        go_enter Tryd.func22, Tryd.ntmps22
        go_wp2
        go_ret2
        exact Ret.mk (by rw [hV.out.1, hV.out.2]; rfl) (Below.refl _ _)
      · have h5 : (((s.toNat : Nat) : Int) != 45) = true := by
          rw [bne_iff_ne]
          intro h
          exact h4 (UInt8.toNat_inj.1 (by rw [show (45 : UInt8).toNat = 45 from rfl]; omega))
        have h6 : (((((⟨#[a, b, c, d, s, e, f, t, g, k]⟩ : ByteArray)[4]'(show 4 < 10 by omega)).toNat : Nat) : Int) != 45) = true := h5
        clear hs h4
        go_enter Tryd.func22, Tryd.ntmps22
        go_wp2
        go_ret2
        exact Ret.mk (by rw [hV.out.1, hV.out.2]; rfl) (Below.refl _ _)
end Go.Proofs.YtlphgipgdgoieaaDoor
