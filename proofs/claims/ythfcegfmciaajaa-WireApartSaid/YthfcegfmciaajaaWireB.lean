/- PutText. -/
import Derived.Test.YthfcegfmciaajaaWireO
import Derived.Lib.ConvBytes
namespace Go.Proofs.Ythfcegfmciaajaa
open Go.RowKit

set_option maxRecDepth 20000 in
set_option maxHeartbeats 1000000 in
theorem appbyte_grow (base : Nat) (l : List UInt8) (A : Option Addr) (cap : Nat) (c : UInt8) (w : World) (hv : w.ownsRow base 5 1 (.slice A l.length cap) l.length (u8s l)) (hb : base ≤ w.heap.size) (hl : l.length ≤ 100000) :
    Calls Try.prog 28 #[.slice A l.length cap, .int .u8 (c.toNat : Int)] w (RetGrow (.slice A l.length cap) base (l ++ [c]) w) := by
  obtain ⟨i0, hi0, hz0, hz1, hz2⟩ := info_parts info_u8
  have Hown := Lib.hid hv
  clear hv
  go_enter Try.func28, Try.ntmps28
  go_wp2_with (at_builtin; refine wpList_append_own_at _ rfl _ _ 22 rfl base 5 i0 (.int .u8 0) 1 1 Try.underlying22 hi0 hz0 hz1 hz2 rfl (by decide) _ _ _ rfl (Hown.out.alloc _) ⟨w.heap.size, 0, none⟩ 1 1 [.int .u8 (c.toNat : Int)] rfl rfl (cell_one_new _ _ _) (fun x hx => by simp at hx; subst hx; rfl) (by unfold maxLen; omega) (by omega) (by simp; omega) ?_; intro v' w4 hown4 hgrow4 _ hat4)
  have hb4 : Below base w w4 := ((Below.refl _ _).alloc hb _).grown hgrow4 (by simp; omega) (fun g hg => (Hown.out.lt g hg).1)
  obtain ⟨A4, c4, rfl⟩ := own_form hown4
  have hG4 := Lib.hid (((Grew.refl w (.slice A l.length cap)).alloc _).grown hgrow4 hat4)
  have Hown4 : Hid (w4.ownsRow base 5 1 (.slice A4 (l.length + 1) c4) (l.length + 1) (u8s (l ++ [c]))) := Lib.hid (by rw [← u8s_snoc]; exact hown4)
  clear hown4 hgrow4 hat4
  go_wp2
  go_ret
  exact ⟨A4, c4, by rw [List.length_append]; rfl, by rw [List.length_append]; exact Hown4.out, hb4, hG4.out.cap⟩

theorem Bytes.keep_ {w w' : World} {A : Option Addr} {l : List UInt8} {base : Nat} (h : Reads w base 1 A l.length (u8s l)) (hb : Below base w w') (hs : base ≤ w'.heap.size) : Bytes w' A l := (h.below hb).more hs

set_option maxRecDepth 20000 in
set_option maxHeartbeats 1000000 in
theorem blist_any (base : Nat) (l : List UInt8) (A : Option Addr) (cap : Nat) (L : List UInt8) (B : Option Addr) (cb : Nat) (hLl : L.length ≤ 1000) (w : World) (hv : w.ownsRow base 5 1 (.slice A l.length cap) l.length (u8s l)) (hB : Bytes w B L) (hne : ∀ ad, B = some ad → some ad.block ≠ (Value.slice A l.length cap).ownBlock) (hb : base ≤ w.heap.size) (hl : l.length ≤ 80000) :
    Calls Try.prog 27 #[.slice A l.length cap, .slice B L.length cb, .func (.func 28) #[] #[]] w (RetOwn base (l ++ encI L.length ++ L) w) := by
  go_enter Try.func27, Try.ntmps27
  go_wp2_with fail
  refine (appint_grow base l A cap L.length ⟨by omega, by omega⟩ w hv hb (by omega)).mono ?_
  rintro e w1 ⟨A1, c1, rfl, hown1, hB1, hG1⟩
  have hp : (l ++ encI L.length).length ≤ 80010 := by have := encI_len L.length; rw [List.length_append]; omega
  generalize l ++ encI L.length = p at *
  have Hown1 := Lib.hid hown1
  have hLl' : (L.length : Int) ≤ 1000 := by omega
  clear hown1 hv
  go_wp2
  go_loopw [0, 8, 15] (fun b x i wr => ∃ (k : Nat) (Ar : Option Addr) (cr : Nat), k ≤ L.length ∧ i = .int .i64 (k : Int) ∧ b = .slice Ar (p ++ L.take k).length cr ∧ wr.ownsRow base 5 1 (.slice Ar (p ++ L.take k).length cr) (p ++ L.take k).length (u8s (p ++ L.take k)) ∧ Below base w wr ∧ Grew w (.slice A l.length cap) wr (.slice Ar (p ++ L.take k).length cr)) (fun _ _ i _ => L.length + 1 - (intOf i).toNat)
  case atStart => exact ⟨0, A1, c1, by omega, rfl, by simp, by simpa using Hown1.out, hB1, hG1.cap⟩
  case round =>
    obtain ⟨k, Ar, cr, hk, rfl, rfl, hown, hbw, hgr⟩ := hrel
    have Hown := Lib.hid hown
    clear hown
    have hsz : base ≤ wr.heap.size := Nat.le_trans hb hbw.size
    by_cases hlt : k < L.length
    · have hlt' : (k : Int) < L.length := by omega
      have hq : (p ++ L.take k).length ≤ 100000 := by
        rw [List.length_append, List.length_take]
        omega
      have HE := Lib.hid (List.take_succ_eq_append_getElem hlt)
      obtain ⟨ad, rfl, hab, hcell⟩ := (hB.grew hgr hne).at_ hlt
      generalize hq2 : p ++ L.take k = q at *
      have HQ := Lib.hid hq2
      clear hq2
      generalize L[k] = z at *
      go_wp2_with fail
      refine (appbyte_grow base q Ar cr z wr Hown.out hsz hq).mono ?_
      rintro e w2 ⟨A2, c2, rfl, hown2, hB2, hG2⟩
      have hg2 := Lib.hid (hgr.trans hG2)
      have HO2 := Lib.hid hown2
      clear hown2
      have hb2 := hbw.trans hB2
      generalize hr : q ++ [z] = r at *
      have HRr := Lib.hid hr
      clear hr
      go_wp2
      go_roundw
      case rel =>
        have e : p ++ L.take (k + 1) = r := by rw [HE.out, ← List.append_assoc, HQ.out, HRr.out]
        exact ⟨k + 1, A2, c2, by omega, by go_num, by rw [e], by rw [e]; exact HO2.out, hb2, hg2.out.cap⟩
      case measure => simp [intOf]; omega
    · obtain rfl : k = L.length := by omega
      rw [List.take_of_length_le (Nat.le_refl _)] at Hown
      rw [List.take_of_length_le (Nat.le_refl _)]
      generalize p ++ L = r at *
      go_wp2
      go_ret
      exact ⟨Ar, cr, rfl, Hown.out, hbw⟩

theorem bytesWorld_below (w : World) (e : TypeId) (s : ByteArray) : Below w.heap.size w (Lib.bytesWorld w e s) :=
  ⟨rfl, rfl, rfl, by rw [Lib.bytesWorld_size]; omega, fun b hb => Lib.bytesWorld_at_old w e s b hb⟩
theorem bytesWorld_bytes (w : World) (e : TypeId) (s : List UInt8) : Bytes (Lib.bytesWorld w e ⟨s.toArray⟩) (some ⟨w.heap.size, 0, none⟩) s := by
  refine ⟨by simp, fun _ => ⟨_, rfl, by rw [Lib.bytesWorld_size]; show w.heap.size < _; omega, fun j u hu => ?_⟩⟩
  have hj : j < s.length := by
    rcases Nat.lt_or_ge j s.length with h | h
    · exact h
    · rw [List.getElem?_eq_none (by simpa using h)] at hu; cases hu
  rw [show ((⟨w.heap.size, 0, none⟩ : Addr).add j) = ⟨w.heap.size, j, none⟩ by unfold Addr.add; split <;> simp_all]
  rw [Lib.bytesWorld_cell w e ⟨s.toArray⟩ j hj, ← hu]
  simp [List.getD, hj]
end Go.Proofs.Ythfcegfmciaajaa
