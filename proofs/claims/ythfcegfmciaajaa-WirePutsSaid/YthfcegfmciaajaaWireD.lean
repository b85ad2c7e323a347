/- The reference's PutInts and PutText. -/
import Derived.Test.YthfcegfmciaajaaWireC
namespace Go.Proofs.Ythfcegfmciaajaa
open Go.RowKit

set_option maxRecDepth 20000 in
set_option maxHeartbeats 1000000 in
theorem rputs_any (l : List UInt8) (A : Option Addr) (cap : Nat) (L : List Int) (B : Option Addr) (cb : Nat) (hL : Fit L) (hLl : L.length ≤ 1000) (w : World) (hv : Bytes w A l) (hB : Ints w B L) (hl : l.length ≤ 60000) :
    Calls Try.prog 17 #[.slice A l.length cap, .slice B L.length cb] w (RetB (l ++ encI L.length ++ encs L) w) := by
  have hp : (l ++ encI L.length).length ≤ 60010 := by have := encI_len L.length; rw [List.length_append]; omega
  have h0 := rput_any l A cap L.length ⟨by omega, by omega⟩ w hv (by omega)
  generalize l ++ encI L.length = p at *
  have hLl' : (L.length : Int) ≤ 1000 := by omega
  go_enter Try.func17, Try.ntmps17
  go_wp2_with fail
  refine h0.mono ?_
  rintro e w1 ⟨A1, c1, rfl, hown1, hB1⟩
  have hy1 : Bytes w1 A1 p := Bytes.of_own rfl hown1
  clear hown1 h0
  go_wp2
  go_loopw [5, 6, 13] (fun b _ i wr => ∃ (k : Nat) (Ar : Option Addr) (cr : Nat), k ≤ L.length ∧ i = .int .i64 (k : Int) ∧ b = .slice Ar (p ++ encs (L.take k)).length cr ∧ Bytes wr Ar (p ++ encs (L.take k)) ∧ Below w.heap.size w wr) (fun _ _ i _ => L.length + 1 - (intOf i).toNat)
  case atStart => exact ⟨0, A1, c1, by omega, rfl, by simp [encs], by simpa [encs] using hy1, hB1⟩
  case round =>
    obtain ⟨k, Ar, cr, hk, rfl, rfl, hby, hbw⟩ := hrel
    have Hby := Lib.hid hby
    clear hby hy1 hv
    by_cases hlt : k < L.length
    · have hlt' : (k : Int) < L.length := by omega
      have hq : (p ++ encs (L.take k)).length ≤ 80000 := by
        have := encs_len (L.take k)
        rw [List.length_append]
        rw [List.length_take] at this
        omega
      have HE := Lib.hid (encs_take L k hlt)
      have hfit : Fits L[k] := hL _ (List.getElem_mem hlt)
      obtain ⟨ad, rfl, hab, hcell⟩ := (hB.below hbw).at_ hlt
      generalize hq2 : p ++ encs (L.take k) = q at *
      have HQ := Lib.hid hq2
      clear hq2
      generalize L[k] = z at *
      go_wp2_with fail
      refine (rput_any q Ar cr z hfit wr Hby.out hq).mono ?_
      rintro e w2 ⟨A2, c2, rfl, hown2, hB2⟩
      have HO2 := Lib.hid (Bytes.of_own rfl hown2)
      clear hown2
      have hb2 := Below.step hbw hB2
      generalize hr : q ++ encI z = r at *
      have HRr := Lib.hid hr
      clear hr
      go_wp2
      go_roundw
      case rel =>
        have e : p ++ encs (L.take (k + 1)) = r := by rw [HE.out, ← List.append_assoc, HQ.out, HRr.out]
        exact ⟨k + 1, A2, c2, by omega, by go_num, by rw [e], by rw [e]; exact HO2.out, hb2⟩
      case measure => simp [intOf]; omega
    · obtain rfl : k = L.length := by omega
      rw [List.take_of_length_le (Nat.le_refl _)] at Hby
      rw [List.take_of_length_le (Nat.le_refl _)]
      generalize p ++ encs L = r at *
      go_wp2
      go_ret
      exact ⟨Ar, cr, rfl, Hby.out, hbw⟩

set_option maxHeartbeats 1000000 in
theorem rptext_any (l : List UInt8) (A : Option Addr) (cap : Nat) (s : List UInt8) (hs : s.length ≤ 1000) (w : World) (hv : Bytes w A l) (hl : l.length ≤ 60000) :
    Calls Try.prog 15 #[.slice A l.length cap, .string ⟨s.toArray⟩] w (RetOwn w.heap.size (l ++ encI s.length ++ s) w) := by
  obtain ⟨i0, hi0, hz0, hz1, hz2⟩ := info_parts info_u8
  have kc := fun (w : World) => Lib.run_convert_string_bytes (P := Try.prog) w 9 22 5 ⟨s.toArray⟩ Try.underlying9 Try.underlying22 Try.underlying5
  have hp : (l ++ encI s.length).length ≤ 60010 := by have := encI_len s.length; rw [List.length_append]; omega
  have h0 := rput_any l A cap s.length ⟨by omega, by omega⟩ w hv (by omega)
  generalize l ++ encI s.length = p at *
  go_enter Try.func15, Try.ntmps15
  go_wp2_with fail
  refine h0.mono ?_
  rintro e w1 ⟨A1, c1, rfl, hown1, hB1⟩
  clear h0
  have hsz := hB1.size
  have hbw := bytesWorld_below w1 5 ⟨s.toArray⟩
  have hby := Lib.hid (bytesWorld_bytes w1 5 s)
  have hB2 : Below w.heap.size w (Lib.bytesWorld w1 5 ⟨s.toArray⟩) := hB1.trans (hbw.mono hsz)
  have hown2 := Lib.hid (own_below hown1 hbw)
  have hss : w1.heap.size ≤ (Lib.bytesWorld w1 5 ⟨s.toArray⟩).heap.size := hbw.size
  clear hown1
  go_wp2_with (at_builtin; refine wpList_append_any _ rfl _ _ _ rfl w.heap.size 5 i0 _ 1 1 Try.underlying22 hi0 hz0 hz1 hz2 rfl (by omega) _ p.length (u8s p) rfl hown2.out _ (some ⟨w1.heap.size, 0, none⟩) s.length _ _ rfl hby.out (one_u8 s) (by simp only [maxLen]; omega) (by omega) (by omega) ?_; intro v2 w3 hown3 hg3 hat3)
  have hb3 : Below w.heap.size w w3 := hB2.grown hg3 (by omega) (fun g hg => (hown2.out.lt g hg).1)
  obtain ⟨A3, c3, rfl⟩ := own_form hown3
  have HO := Lib.hid hown3
  clear hown3 hg3 hat3
  go_wp2
  go_ret
  exact ⟨A3, c3, by rw [List.length_append]; rfl, by rw [List.length_append]; simpa [u8s] using HO.out, hb3⟩
end Go.Proofs.Ythfcegfmciaajaa
