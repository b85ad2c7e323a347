/- PutInts. -/
import Derived.Test.YthfcegfmciaajaaWireU
namespace Go.Proofs.Ythfcegfmciaajaa
open Go.RowKit

/-- The bytes of numbers. -/
def encs (L : List Int) : List UInt8 := L.flatMap encI
theorem encs_take (L : List Int) (k : Nat) (h : k < L.length) : encs (L.take (k + 1)) = encs (L.take k) ++ encI L[k] := by
  unfold encs
  rw [List.take_succ_eq_append_getElem h, List.flatMap_append]
  simp
theorem encI_len (n : Int) : (encI n).length ≤ 10 := encU_len 9 _
theorem encs_len : ∀ L : List Int, (encs L).length ≤ 10 * L.length
  | [] => by simp [encs]
  | n :: L => by
    have h1 := encI_len n
    have h2 := encs_len L
    unfold encs at *
    rw [List.flatMap_cons, List.length_append, List.length_cons]
    omega

theorem Ints.keep_ {w w' : World} {A : Option Addr} {l : List Int} {base : Nat} (h : Reads w base 1 A l.length (l.map (Value.int .i64))) (hb : Below base w w') (hs : base ≤ w'.heap.size) : Ints w' A l := (h.below hb).more hs

set_option maxRecDepth 20000 in
set_option maxHeartbeats 1000000 in
theorem list_any (base : Nat) (l : List UInt8) (A : Option Addr) (cap : Nat) (L : List Int) (B : Option Addr) (cb : Nat) (hL : Fit L) (hLl : L.length ≤ 1000) (w : World) (hv : w.ownsRow base 5 1 (.slice A l.length cap) l.length (u8s l)) (hB : Reads w base 1 B L.length (L.map (Value.int .i64))) (hb : base ≤ w.heap.size) (hl : l.length ≤ 80000) :
    Calls Try.prog 29 #[.slice A l.length cap, .slice B L.length cb, .func (.func 25) #[] #[]] w (RetOwn base (l ++ encI L.length ++ encs L) w) := by
  go_enter Try.func29, Try.ntmps29
  go_wp2_with fail
  refine (appint_any base l A cap L.length ⟨by omega, by omega⟩ w hv hb (by omega)).mono ?_
  rintro e w1 ⟨A1, c1, rfl, hown1, hB1⟩
  have hp : (l ++ encI L.length).length ≤ 80010 := by have := encI_len L.length; rw [List.length_append]; omega
  generalize l ++ encI L.length = p at *
  have Hown1 := Lib.hid hown1
  have hLl' : (L.length : Int) ≤ 1000 := by omega
  clear hown1 hv
  go_wp2
  go_loopw [0, 8, 15] (fun b x i wr => ∃ (k : Nat) (Ar : Option Addr) (cr : Nat), k ≤ L.length ∧ i = .int .i64 (k : Int) ∧ b = .slice Ar (p ++ encs (L.take k)).length cr ∧ wr.ownsRow base 5 1 (.slice Ar (p ++ encs (L.take k)).length cr) (p ++ encs (L.take k)).length (u8s (p ++ encs (L.take k))) ∧ Below base w wr) (fun _ _ i _ => L.length + 1 - (intOf i).toNat)
  case atStart => exact ⟨0, A1, c1, by omega, rfl, by simp [encs], by simpa [encs] using Hown1.out, hB1⟩
  case round =>
    obtain ⟨k, Ar, cr, hk, rfl, rfl, hown, hbw⟩ := hrel
    have Hown := Lib.hid hown
    clear hown
    have hsz : base ≤ wr.heap.size := Nat.le_trans hb hbw.size
    by_cases hlt : k < L.length
    · have hlt' : (k : Int) < L.length := by omega
      have hq : (p ++ encs (L.take k)).length ≤ 100000 := by
        have := encs_len (L.take k)
        rw [List.length_append]
        rw [List.length_take] at this
        omega
      have HE := Lib.hid (encs_take L k hlt)
      have hfit : Fits L[k] := hL _ (List.getElem_mem hlt)
      obtain ⟨ad, rfl, hab, hcell⟩ := (Ints.keep_ hB hbw hsz).at_ hlt
      generalize hq2 : p ++ encs (L.take k) = q at *
      have HQ := Lib.hid hq2
      clear hq2
      generalize L[k] = z at *
      go_wp2_with fail
      refine (appint_any base q Ar cr z hfit wr Hown.out hsz hq).mono ?_
      rintro e w2 ⟨A2, c2, rfl, hown2, hB2⟩
      have HO2 := Lib.hid hown2
      clear hown2
      have hb2 := hbw.trans hB2
      generalize hr : q ++ encI z = r at *
      have HRr := Lib.hid hr
      clear hr
      go_wp2
      go_roundw
      case rel =>
        have e : p ++ encs (L.take (k + 1)) = r := by rw [HE.out, ← List.append_assoc, HQ.out, HRr.out]
        exact ⟨k + 1, A2, c2, by omega, by go_num, by rw [e], by rw [e]; exact HO2.out, hb2⟩
      case measure => simp [intOf]; omega
    · obtain rfl : k = L.length := by omega
      rw [List.take_of_length_le (Nat.le_refl _)] at Hown
      rw [List.take_of_length_le (Nat.le_refl _)]
      generalize p ++ encs L = r at *
      go_wp2
      go_ret
      exact ⟨Ar, cr, rfl, Hown.out, hbw⟩
end Go.Proofs.Ythfcegfmciaajaa
