/- Parse of the code and of the reference. -/
import Derived.Test.YtoegkojomgellaaDoorNumG
namespace Go.Proofs.YtoegkojomgellaaDoor
open Go.RowKit

def pz (l : List UInt8) : Int := (parseS l).getD 0
def pb (l : List UInt8) : Bool := (parseS l).isSome
theorem p_none {l : List UInt8} (h : parseS l = none) : pz l = 0 ∧ pb l = false := by unfold pz pb; rw [h]; exact ⟨rfl, rfl⟩
theorem p_some {l : List UInt8} {v : Int} (h : parseS l = some v) : pz l = v ∧ pb l = true := by unfold pz pb; rw [h]; exact ⟨rfl, rfl⟩

theorem lim_cells {w : World} (hL : Laid w) : w.cell? ⟨0, 0, none⟩ = some (.int .i64 (-1099511627776)) ∧ w.cell? ⟨0, 1, none⟩ = some (.int .i64 1099511627776) :=
  ⟨hL.lim.cell (by kernel_rfl : (Tryd.prog).globalNamed "langdoc/num.limits" = some 0) 0 (by decide), hL.lim.cell (by kernel_rfl : (Tryd.prog).globalNamed "langdoc/num.limits" = some 0) 1 (by decide)⟩

set_option maxRecDepth 20000 in
set_option maxHeartbeats 1000000 in
theorem parse_any (l : List UInt8) (hl : l.length ≤ 300) (w : World) (hL : Laid w) : Calls Tryd.prog 14 #[.string ⟨l.toArray⟩] w (Ret (.tuple #[.int .i64 (pz l), .bool (pb l)]) w) := by
  rcases ha : Lib.atoiAll l with v | _ | _
  · have hk := Tryd.strconv_Atoi_ok ⟨l.toArray⟩ (by simp [ByteArray.size]; omega) v (by simpa using ha) w
    have hv : Fits v := Lib.atoiAll_bounds ha
    have hk' : Calls Tryd.prog 31 #[.string ⟨l.toArray⟩] w fun e w' => e = .returned (.tuple #[.int .i64 v, .nilIface]) ∧ Below w.heap.size w w' := hk.mono fun e w' ⟨h1, h2⟩ => ⟨h1, by
      rcases h2 with rfl | ⟨t, rfl⟩
      · exact Below.refl _ _
      · exact Lib.bytesWorld_below _ _ _⟩
    clear hk
    have hv' := hv
    unfold Fits at hv'
    have ht := fun w' (h : Below w.heap.size w w') => text_any v hv w' (hL.below h)
    by_cases hlo : v < -1099511627776
    · have hP := Lib.hid (p_none (l := l) (by unfold parseS; rw [ha]; exact if_neg fun h => by have := h.1; unfold lim at this; omega))
      clear ha ht
      go_enter Tryd.func14, Tryd.ntmps14
      go_wp2_with fail
      refine hk'.mono ?_
      rintro e w1 ⟨rfl, h1⟩
      obtain ⟨c0, c1⟩ := lim_cells (hL.below h1)
      go_wp2
      go_ret2
      exact Ret.mk (by rw [hP.out.1, hP.out.2]; rfl) h1
    · by_cases hhi : 1099511627776 < v
      · have hP := Lib.hid (p_none (l := l) (by unfold parseS; rw [ha]; exact if_neg fun h => by have := h.2.1; unfold lim at this; omega))
        clear ha ht
        go_enter Tryd.func14, Tryd.ntmps14
        go_wp2_with fail
        refine hk'.mono ?_
        rintro e w1 ⟨rfl, h1⟩
        obtain ⟨c0, c1⟩ := lim_cells (hL.below h1)
        go_wp2
        go_ret2
        exact Ret.mk (by rw [hP.out.1, hP.out.2]; rfl) h1
      · by_cases he : Lib.itoa v = l
        · have hP := Lib.hid (p_some (l := l) (v := v) (by unfold parseS; rw [ha]; exact if_pos ⟨by unfold lim; omega, by unfold lim; omega, he⟩))
          rw [he] at ht
          clear ha he
          go_enter Tryd.func14, Tryd.ntmps14
          go_wp2_with fail
          refine hk'.mono ?_
          rintro e w1 ⟨rfl, h1⟩
          obtain ⟨c0, c1⟩ := lim_cells (hL.below h1)
          have ht1 := ht w1 h1
          clear ht
          go_wp2_with fail
          refine ht1.mono ?_
          rintro e w2 ⟨rfl, h2⟩
          go_wp2
          go_ret2
          exact Ret.mk (by rw [hP.out.1, hP.out.2]; rfl) (Below.step h1 h2)
        · have hP := Lib.hid (p_none (l := l) (by unfold parseS; rw [ha]; exact if_neg fun h => he h.2.2))
          have hne : (Lib.itoa v == l) = false := by simpa using he
          have HE := Lib.hid he
          generalize Lib.itoa v = T at *
          clear ha he
          go_enter Tryd.func14, Tryd.ntmps14
          go_wp2_with fail
          refine hk'.mono ?_
          rintro e w1 ⟨rfl, h1⟩
          obtain ⟨c0, c1⟩ := lim_cells (hL.below h1)
          have ht1 := ht w1 h1
          clear ht
          go_wp2_with fail
          refine ht1.mono ?_
          rintro e w2 ⟨rfl, h2⟩
          go_wp2
          go_ret2
          exact Ret.mk (by rw [hP.out.1, hP.out.2]; rfl) (Below.step h1 h2)
  · obtain ⟨tp, p, hvar⟩ := hL.syn
    have hk : Calls Tryd.prog 31 #[.string ⟨l.toArray⟩] w fun e w' => ∃ N, e = .returned (.tuple #[.int .i64 0, .iface 58 (.pointer (some ⟨N, 0, none⟩))]) ∧ w.heap.size ≤ N ∧ w'.heap[N]? = some (.cells #[.string ⟨#[65, 116, 111, 105]⟩, .string ⟨l.toArray⟩, .iface tp p] 78 (0, 0)) ∧ Below w.heap.size w w' :=
      Any.strconv_Atoi_syntax_var Tryd.laysC172 ⟨l.toArray⟩ (by simp [ByteArray.size]; omega) (by simpa using ha) tp p w hvar
    have hP := Lib.hid (p_none (l := l) (by unfold parseS; rw [ha]))
    clear ha
    go_enter Tryd.func14, Tryd.ntmps14
    go_wp2_with fail
    refine hk.mono ?_
    rintro e w1 ⟨N, rfl, _, _, h1⟩
    go_wp2
    go_ret2
    exact Ret.mk (by rw [hP.out.1, hP.out.2]; rfl) h1
  · obtain ⟨tp, p, hvar⟩ := hL.rng
    have hk := Tryd.strconv_Atoi_range_var ⟨l.toArray⟩ (by simp [ByteArray.size]; omega) (by simpa using ha) tp p w hvar
    have hP := Lib.hid (p_none (l := l) (by unfold parseS; rw [ha]))
    clear ha
    generalize Lib.atoiSat _ = sat at *
    go_enter Tryd.func14, Tryd.ntmps14
    go_wp2_with fail
    refine hk.mono ?_
    rintro e w1 ⟨N, rfl, _, _, h1⟩
    go_wp2
    go_ret2
    exact Ret.mk (by rw [hP.out.1, hP.out.2]; rfl) h1

theorem refP_at {l : List UInt8} {acc : Nat} (h : refL 0 (l.drop (atOf l)) = some acc) : parseS l = if Lib.itoa (signed l acc) = l then some (signed l acc) else none := by
  rw [← refP_eq]
  unfold refP
  rw [h]
theorem refP_no {l : List UInt8} (h : refL 0 (l.drop (atOf l)) = none) : parseS l = none := by
  rw [← refP_eq]
  unfold refP
  rw [h]
theorem drop_at {l : List UInt8} {k : Nat} (h : k < l.length) : l.drop k = l[k] :: l.drop (k + 1) := List.drop_eq_getElem_cons h

/-- What the loop of the reference's Parse holds. -/
def PRel (l : List UInt8) (a : Nat) (w wr : World) (n i : Value) : Prop := ∃ k acc : Nat, a ≤ k ∧ k ≤ l.length ∧ i = .int .i64 (k : Int) ∧ n = .int .i64 (acc : Int) ∧ acc ≤ lim ∧ refL 0 (l.drop a) = refL acc (l.drop k) ∧ Below w.heap.size w wr

theorem rparse_none (w : World) : Calls Tryd.prog 15 #[.string ⟨#[]⟩] w (Ret (.tuple #[.int .i64 (pz []), .bool (pb [])]) w) := by
  have hP := Lib.hid (p_none (l := []) (by rw [refP_at (acc := 0) rfl]; exact if_neg (by decide +kernel)))
  have ht := fun w' => rtext_any 0 (by unfold Fits; omega) w'
  have hn : ((Lib.itoa 0) == []) = false := by decide +kernel
  have hn2 : Hid (Lib.itoa 0 ≠ []) := Lib.hid (by decide +kernel)
  generalize Lib.itoa 0 = T at *
  go_enter Tryd.func15, Tryd.ntmps15
  go_wp2
  go_loopw [5, 6] (fun n i wr => n = .int .i64 0 ∧ i = .int .i64 0 ∧ Below w.heap.size w wr) (fun _ _ _ => 0)
  case atStart => exact ⟨rfl, rfl, Below.refl _ _⟩
  case round =>
    obtain ⟨rfl, rfl, hbw⟩ := hrel
    go_wp2_with fail
    refine (ht wr).mono ?_
    rintro e w2 ⟨rfl, h2⟩
    go_wp2
    go_ret2
    exact Ret.mk (by rw [hP.out.1, hP.out.2]; rfl) (Below.step hbw h2)

set_option maxRecDepth 20000 in
set_option maxHeartbeats 2000000 in
theorem rparse_neg (l : List UInt8) (hl : l.length ≤ 300) (h0 : 0 < l.length) (hm : l[0] = 45) (w : World) : Calls Tryd.prog 15 #[.string ⟨l.toArray⟩] w (Ret (.tuple #[.int .i64 (pz l), .bool (pb l)]) w) := by
  have hhead : l.head? = some l[0] := by rw [List.head?_eq_getElem?, List.getElem?_eq_getElem h0]
  have hc : ((((⟨l.toArray⟩ : ByteArray)[0]'(by simpa [ByteArray.size] using h0)).toNat : Int) == 45) = true := by
    show ((l[0].toNat : Int) == 45) = true
    rw [hm]; rfl
  have HA : Hid (atOf l = 1) := Lib.hid (if_pos (by rw [hhead, hm]))
  have HS : Hid (∀ m : Nat, signed l m = -(m : Int)) := Lib.hid fun m => if_pos (by rw [hhead, hm])
  clear hm
  have h0' : (0 : Int) < l.length := by omega
  clear hhead
  go_enter Tryd.func15, Tryd.ntmps15
  go_wp2
  go_loopw [5, 6] (fun n i wr => PRel l 1 w wr n i) (fun _ i _ => l.length - (intOf i).toNat)
  case atStart => exact ⟨1, 0, Nat.le_refl _, by omega, rfl, rfl, Nat.zero_le _, rfl, Below.refl _ _⟩
  case round =>
    obtain ⟨k, acc, hak, hk, rfl, rfl, hacc, hr, hbw⟩ := hrel
    have HR := Lib.hid hr
    clear hr
    have hacc' : acc ≤ 1099511627776 := hacc
    by_cases hlt : k < l.length
    · have hkl : (k : Int) < l.length := by omega
      have HD := Lib.hid (drop_at hlt)
      have hc256 : l[k].toNat < 256 := l[k].toNat_lt
      have hx : ((⟨l.toArray⟩ : ByteArray)[k]'(by simpa [ByteArray.size] using hlt)) = l[k] := rfl
      by_cases h48 : l[k].toNat < 48
      · have hP := Lib.hid (p_none (refP_no (by rw [HA.out, HR.out, HD.out, refL, if_neg (fun h => by have := h.1; omega)])))
        have h48' : (l[k].toNat : Int) < 48 := by omega
        go_wp2
        go_ret2
        exact Ret.mk (by rw [hP.out.1, hP.out.2]; rfl) hbw
      · have h48' : ¬ (l[k].toNat : Int) < 48 := by omega
        by_cases h57 : 57 < l[k].toNat
        · have hP := Lib.hid (p_none (refP_no (by rw [HA.out, HR.out, HD.out, refL, if_neg (fun h => by have := h.2; omega)])))
          have h57' : (57 : Int) < l[k].toNat := by omega
          go_wp2
          go_ret2
          exact Ret.mk (by rw [hP.out.1, hP.out.2]; rfl) hbw
        · have h57' : ¬ (57 : Int) < l[k].toNat := by omega
          have hdig : Hid (isDig l[k]) := Lib.hid ⟨by omega, by omega⟩
          by_cases hbig : 1099511627776 < acc * 10 + (l[k].toNat - 48)
          · have hP := Lib.hid (p_none (refP_no (by rw [HA.out, HR.out, HD.out, refL, if_pos hdig.out, if_pos (by unfold lim; exact hbig)])))
            have hb' : (1099511627776 : Int) < (acc : Int) * 10 + ((l[k].toNat : Int) - 48) := by omega
            go_wp2
            go_ret2
            exact Ret.mk (by rw [hP.out.1, hP.out.2]; rfl) hbw
          · have HN : Hid (refL 0 (l.drop 1) = refL (acc * 10 + (l[k].toNat - 48)) (l.drop (k + 1))) := Lib.hid (by rw [HR.out, HD.out, refL, if_pos hdig.out, if_neg (by unfold lim; exact hbig)])
            have hb' : ¬ (1099511627776 : Int) < (acc : Int) * 10 + ((l[k].toNat : Int) - 48) := by omega
            go_wp2
            go_roundw
            case rel => exact ⟨k + 1, acc * 10 + (l[k].toNat - 48), by omega, by omega, by go_num, congrArg (Value.int .i64) (by omega), by unfold lim; omega, HN.out, hbw⟩
            case measure => simp [intOf]; omega
    · have hkl : ¬ (k : Int) < l.length := by omega
      have HE : Hid (refL 0 (l.drop (atOf l)) = some acc) := Lib.hid (by rw [HA.out, HR.out, List.drop_eq_nil_of_le (by omega)]; rfl)
      have ht := fun w' => rtext_any (-(acc : Int)) (by unfold Fits; omega) w'
      by_cases he : Lib.itoa (-(acc : Int)) = l
      · have hP := Lib.hid (p_some (l := l) (v := -(acc : Int)) (by rw [refP_at HE.out, HS.out, if_pos he]))
        rw [he] at ht
        clear he
        go_wp2_with fail
        refine (ht wr).mono ?_
        rintro e w2 ⟨rfl, h2⟩
        go_wp2
        go_ret2
        exact Ret.mk (by rw [hP.out.1, hP.out.2]; rfl) (Below.step hbw h2)
      · have hP := Lib.hid (p_none (l := l) (by rw [refP_at HE.out, HS.out, if_neg he]))
        have hne : (Lib.itoa (-(acc : Int)) == l) = false := by simpa using he
        generalize Lib.itoa (-(acc : Int)) = T at *
        clear he
        go_wp2_with fail
        refine (ht wr).mono ?_
        rintro e w2 ⟨rfl, h2⟩
        go_wp2
        go_ret2
        exact Ret.mk (by rw [hP.out.1, hP.out.2]; rfl) (Below.step hbw h2)

set_option maxRecDepth 20000 in
set_option maxHeartbeats 2000000 in
theorem rparse_pos (l : List UInt8) (hl : l.length ≤ 300) (h0 : 0 < l.length) (hm : l[0] ≠ 45) (w : World) : Calls Tryd.prog 15 #[.string ⟨l.toArray⟩] w (Ret (.tuple #[.int .i64 (pz l), .bool (pb l)]) w) := by
  have hhead : l.head? = some l[0] := by rw [List.head?_eq_getElem?, List.getElem?_eq_getElem h0]
  have hc : ((((⟨l.toArray⟩ : ByteArray)[0]'(by simpa [ByteArray.size] using h0)).toNat : Int) == 45) = false := by
    show ((l[0].toNat : Int) == 45) = false
    rw [Bool.eq_false_iff]; intro h; apply hm
    have h1 : l[0].toNat = 45 := by have := eq_of_beq h; omega
    exact UInt8.toNat_inj.1 (by rw [h1]; rfl)
  have HA : Hid (atOf l = 0) := Lib.hid (if_neg (by rw [hhead]; intro h; exact hm (by injection h)))
  have HS : Hid (∀ m : Nat, signed l m = (m : Int)) := Lib.hid fun m => if_neg (by rw [hhead]; intro h; exact hm (by injection h))
  clear hm
  have h0' : (0 : Int) < l.length := by omega
  clear hhead
  go_enter Tryd.func15, Tryd.ntmps15
  go_wp2
  go_loopw [5, 6] (fun n i wr => PRel l 0 w wr n i) (fun _ i _ => l.length - (intOf i).toNat)
  case atStart => exact ⟨0, 0, Nat.le_refl _, by omega, rfl, rfl, Nat.zero_le _, rfl, Below.refl _ _⟩
  case round =>
    obtain ⟨k, acc, hak, hk, rfl, rfl, hacc, hr, hbw⟩ := hrel
    have HR := Lib.hid hr
    clear hr
    have hacc' : acc ≤ 1099511627776 := hacc
    by_cases hlt : k < l.length
    · have hkl : (k : Int) < l.length := by omega
      have HD := Lib.hid (drop_at hlt)
      have hc256 : l[k].toNat < 256 := l[k].toNat_lt
      have hx : ((⟨l.toArray⟩ : ByteArray)[k]'(by simpa [ByteArray.size] using hlt)) = l[k] := rfl
      by_cases h48 : l[k].toNat < 48
      · have hP := Lib.hid (p_none (refP_no (by rw [HA.out, HR.out, HD.out, refL, if_neg (fun h => by have := h.1; omega)])))
        have h48' : (l[k].toNat : Int) < 48 := by omega
        go_wp2
        go_ret2
        exact Ret.mk (by rw [hP.out.1, hP.out.2]; rfl) hbw
      · have h48' : ¬ (l[k].toNat : Int) < 48 := by omega
        by_cases h57 : 57 < l[k].toNat
        · have hP := Lib.hid (p_none (refP_no (by rw [HA.out, HR.out, HD.out, refL, if_neg (fun h => by have := h.2; omega)])))
          have h57' : (57 : Int) < l[k].toNat := by omega
          go_wp2
          go_ret2
          exact Ret.mk (by rw [hP.out.1, hP.out.2]; rfl) hbw
        · have h57' : ¬ (57 : Int) < l[k].toNat := by omega
          have hdig : Hid (isDig l[k]) := Lib.hid ⟨by omega, by omega⟩
          by_cases hbig : 1099511627776 < acc * 10 + (l[k].toNat - 48)
          · have hP := Lib.hid (p_none (refP_no (by rw [HA.out, HR.out, HD.out, refL, if_pos hdig.out, if_pos (by unfold lim; exact hbig)])))
            have hb' : (1099511627776 : Int) < (acc : Int) * 10 + ((l[k].toNat : Int) - 48) := by omega
            go_wp2
            go_ret2
            exact Ret.mk (by rw [hP.out.1, hP.out.2]; rfl) hbw
          · have HN : Hid (refL 0 (l.drop 0) = refL (acc * 10 + (l[k].toNat - 48)) (l.drop (k + 1))) := Lib.hid (by rw [HR.out, HD.out, refL, if_pos hdig.out, if_neg (by unfold lim; exact hbig)])
            have hb' : ¬ (1099511627776 : Int) < (acc : Int) * 10 + ((l[k].toNat : Int) - 48) := by omega
            go_wp2
            go_roundw
            case rel => exact ⟨k + 1, acc * 10 + (l[k].toNat - 48), by omega, by omega, by go_num, congrArg (Value.int .i64) (by omega), by unfold lim; omega, HN.out, hbw⟩
            case measure => simp [intOf]; omega
    · have hkl : ¬ (k : Int) < l.length := by omega
      have HE : Hid (refL 0 (l.drop (atOf l)) = some acc) := Lib.hid (by rw [HA.out, HR.out, List.drop_eq_nil_of_le (by omega)]; rfl)
      have ht := fun w' => rtext_any ((acc : Int)) (by unfold Fits; omega) w'
      by_cases he : Lib.itoa ((acc : Int)) = l
      · have hP := Lib.hid (p_some (l := l) (v := (acc : Int)) (by rw [refP_at HE.out, HS.out, if_pos he]))
        rw [he] at ht
        clear he
        go_wp2_with fail
        refine (ht wr).mono ?_
        rintro e w2 ⟨rfl, h2⟩
        go_wp2
        go_ret2
        exact Ret.mk (by rw [hP.out.1, hP.out.2]; rfl) (Below.step hbw h2)
      · have hP := Lib.hid (p_none (l := l) (by rw [refP_at HE.out, HS.out, if_neg he]))
        have hne : (Lib.itoa ((acc : Int)) == l) = false := by simpa using he
        generalize Lib.itoa ((acc : Int)) = T at *
        clear he
        go_wp2_with fail
        refine (ht wr).mono ?_
        rintro e w2 ⟨rfl, h2⟩
        go_wp2
        go_ret2
        exact Ret.mk (by rw [hP.out.1, hP.out.2]; rfl) (Below.step hbw h2)

theorem rparse_any (l : List UInt8) (hl : l.length ≤ 300) (w : World) : Calls Tryd.prog 15 #[.string ⟨l.toArray⟩] w (Ret (.tuple #[.int .i64 (pz l), .bool (pb l)]) w) := by
  rcases Nat.eq_zero_or_pos l.length with h | h
  · obtain rfl : l = [] := List.eq_nil_of_length_eq_zero h
    exact rparse_none w
  · by_cases hm : l[0] = 45
    · exact rparse_neg l hl h hm w
    · exact rparse_pos l hl h hm w
end Go.Proofs.YtoegkojomgellaaDoor
