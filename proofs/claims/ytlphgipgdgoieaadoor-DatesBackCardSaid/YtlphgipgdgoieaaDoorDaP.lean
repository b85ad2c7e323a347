/- number, both sides. -/
import Derived.Test.YtlphgipgdgoieaaDoorDaH
namespace Go.Proofs.YtlphgipgdgoieaaDoor
open Go.RowKit

def pw : Nat → Nat
  | 0 => 1
  | k + 1 => 10 * pw k
theorem pw_small : ∀ k, k < 11 → pw k ≤ 10000000000 := by decide
theorem val_bound (l : List UInt8) (h : ∀ c ∈ l, isDig c) : ∀ acc : Nat, val acc l < (acc + 1) * pw l.length := by
  induction l with
  | nil => intro acc; rw [show val acc [] = acc from rfl, List.length_nil, show pw 0 = 1 from rfl]; omega
  | cons c r ih =>
    intro acc
    obtain ⟨h1, h2⟩ := h c (List.mem_cons_self ..)
    have h3 := ih (fun x hx => h x (List.mem_cons_of_mem _ hx)) (acc * 10 + (c.toNat - 48))
    rw [show val acc (c :: r) = val (acc * 10 + (c.toNat - 48)) r from rfl, List.length_cons, show pw (r.length + 1) = 10 * pw r.length from rfl, ← Nat.mul_assoc]
    exact Nat.lt_of_lt_of_le h3 (Nat.mul_le_mul_right _ (by omega))
theorem val_take {l : List UInt8} {k : Nat} (hk : k < l.length) : val 0 (l.take (k + 1)) = val 0 (l.take k) * 10 + (l[k].toNat - 48) := by
  rw [List.take_succ_eq_append_getElem hk, val_append]; rfl
theorem numR_no {l : List UInt8} {k : Nat} (hk : k < l.length) (h : ¬ isDig l[k]) : numR l = -1 := by
  unfold numR; rw [if_neg fun hc => h (hc _ (List.getElem_mem hk))]
theorem numR_yes {l : List UInt8} (h : ∀ k (hk : k < l.length), isDig l[k]) : numR l = val 0 l := by
  unfold numR
  rw [if_pos fun c hc => by obtain ⟨k, hk, rfl⟩ := List.getElem_of_mem hc; exact h k hk]
theorem val_lim {l : List UInt8} {k : Nat} (hl : l.length ≤ 10) (hk : k ≤ l.length) (h : ∀ j (hj : j < l.length), j < k → isDig l[j]) : val 0 (l.take k) < 10000000000 := by
  have h1 := val_bound (l.take k) (fun c hc => by
    obtain ⟨j, hj, rfl⟩ := List.getElem_of_mem hc
    rw [List.getElem_take]
    rw [List.length_take] at hj
    exact h j (by omega) (by omega)) 0
  have h2 : (l.take k).length < 11 := by rw [List.length_take]; omega
  have h3 := pw_small _ h2
  omega

set_option maxRecDepth 20000 in
set_option maxHeartbeats 2000000 in
theorem rnumber_any (l : List UInt8) (hl : l.length ≤ 10) (w : World) : Calls Tryd.prog 31 #[.string ⟨l.toArray⟩] w (Ret (.int .i64 (numR l)) w) := by
  have HNO := Lib.hid (fun k hk h => numR_no (l := l) (k := k) hk h)
  have HYES := Lib.hid (fun h => numR_yes (l := l) h)
  generalize numR l = R at *
  go_enter Tryd.func31, Tryd.ntmps31
  go_wp2
  go_loopw [3, 4] (fun n i wr => ∃ k : Nat, k ≤ l.length ∧ i = .int .i64 (k : Int) ∧ n = .int .i64 ((val 0 (l.take k) : Nat) : Int) ∧ Hid (∀ j (hj : j < l.length), j < k → isDig l[j]) ∧ Below w.heap.size w wr) (fun _ i _ => l.length + 1 - (intOf i).toNat)
  case atStart => exact ⟨0, by omega, rfl, rfl, Lib.hid fun j hj h => by omega, Below.refl _ _⟩
  case round =>
    obtain ⟨k, hk, rfl, rfl, HD, hbw⟩ := hrel
    have hv := val_lim hl hk HD.out
    by_cases hlt : k < l.length
    · have hkl : (k : Int) < l.length := by omega
      have hc256 : l[k].toNat < 256 := l[k].toNat_lt
      have hx : ((⟨l.toArray⟩ : ByteArray)[k]'(by simpa [ByteArray.size] using hlt)) = l[k] := rfl
      have HT := Lib.hid (val_take hlt)
      generalize val 0 (l.take k) = acc at *
      by_cases h48 : l[k].toNat < 48
      · have hP := Lib.hid (HNO.out k hlt (fun h => by have := h.1; omega))
        have h48' : (l[k].toNat : Int) < 48 := by omega
        go_wp2
        go_ret
        exact Ret.mk (by rw [hP.out]; rfl) hbw
      · have h48' : ¬ (l[k].toNat : Int) < 48 := by omega
        by_cases h57 : 57 < l[k].toNat
        · have hP := Lib.hid (HNO.out k hlt (fun h => by have := h.2; omega))
          have h57' : (57 : Int) < l[k].toNat := by omega
          go_wp2
          go_ret
          exact Ret.mk (by rw [hP.out]; rfl) hbw
        · have h57' : ¬ (57 : Int) < l[k].toNat := by omega
          have HDN : Hid (∀ j (hj : j < l.length), j < k + 1 → isDig l[j]) := Lib.hid fun j hj h => by
            rcases Nat.lt_or_ge j k with h' | h'
            · exact HD.out j hj h'
            · have : j = k := by omega
              subst this; exact ⟨by omega, by omega⟩
          go_wp2
          go_roundw
          case rel => exact ⟨k + 1, by omega, by go_num, by rw [HT.out]; congr 1; omega, HDN, hbw⟩
          case measure => simp [intOf]; omega
    · have hkl : ¬ (k : Int) < l.length := by omega
      obtain rfl : k = l.length := by omega
      have hP := Lib.hid (HYES.out fun j hj => HD.out j hj hj)
      rw [List.take_length] at *
      go_wp2
      go_ret
      exact Ret.mk (by rw [hP.out]; rfl) hbw

/-- What the code reads as a number: 0 if it is none. -/
def numC (l : List UInt8) : Int := match Lib.atoiAll l with | .ok v => v | _ => 0
set_option maxRecDepth 20000 in
set_option maxHeartbeats 2000000 in
theorem number_any (l : List UInt8) (hl : l.length ≤ 300) (w : World) (hL : Laid w) : Calls Tryd.prog 30 #[.string ⟨l.toArray⟩] w (Ret (.int .i64 (numC l)) w) := by
  rcases ha : Lib.atoiAll l with v | _ | _
  · have hk := Tryd.strconv_Atoi_ok ⟨l.toArray⟩ (by simp [ByteArray.size]; omega) v (by simpa using ha) w
    have hk' : Calls Tryd.prog 36 #[.string ⟨l.toArray⟩] w fun e w' => e = .returned (.tuple #[.int .i64 v, .nilIface]) ∧ Below w.heap.size w w' := hk.mono fun e w' ⟨h1, h2⟩ => ⟨h1, by
      rcases h2 with rfl | ⟨t, rfl⟩
      · exact Below.refl _ _
      · exact Lib.bytesWorld_below _ _ _⟩
    clear hk
    have hV := Lib.hid (show numC l = v by unfold numC; rw [ha])
    clear ha
    go_enter Tryd.func30, Tryd.ntmps30
    go_wp2_with fail
    refine hk'.mono ?_
    rintro e w1 ⟨rfl, h1⟩
    go_wp2
    go_ret
    exact Ret.mk (by rw [hV.out]; rfl) h1
  · obtain ⟨tp, p, hvar⟩ := hL.syn
    have hk : Calls Tryd.prog 36 #[.string ⟨l.toArray⟩] w fun e w' => ∃ N, e = .returned (.tuple #[.int .i64 0, .iface 56 (.pointer (some ⟨N, 0, none⟩))]) ∧ w.heap.size ≤ N ∧ w'.heap[N]? = some (.cells #[.string ⟨#[65, 116, 111, 105]⟩, .string ⟨l.toArray⟩, .iface tp p] 70 (0, 0)) ∧ Below w.heap.size w w' :=
      Any.strconv_Atoi_syntax_var Tryd.laysC172 ⟨l.toArray⟩ (by simp [ByteArray.size]; omega) (by simpa using ha) tp p w hvar
    have hV := Lib.hid (show numC l = 0 by unfold numC; rw [ha])
    clear ha
    go_enter Tryd.func30, Tryd.ntmps30
    go_wp2_with fail
    refine hk.mono ?_
    rintro e w1 ⟨N, rfl, _, _, h1⟩
    go_wp2
    go_ret
    exact Ret.mk (by rw [hV.out]; rfl) h1
  · obtain ⟨tp, p, hvar⟩ := hL.rng
    have hk := Tryd.strconv_Atoi_range_var ⟨l.toArray⟩ (by simp [ByteArray.size]; omega) (by simpa using ha) tp p w hvar
    have hV := Lib.hid (show numC l = 0 by unfold numC; rw [ha])
    clear ha
    generalize Lib.atoiSat _ = sat at *
    go_enter Tryd.func30, Tryd.ntmps30
    go_wp2_with fail
    refine hk.mono ?_
    rintro e w1 ⟨N, rfl, _, _, h1⟩
    go_wp2
    go_ret
    exact Ret.mk (by rw [hV.out]; rfl) h1
/-- A number's digits are read as this number. -/
theorem numC_d4 {n : Nat} (h1 : 1000 ≤ n) (h2 : n < 10000) : numC (d4 n) = n := by
  rw [← dec_d4 h1 h2, ← itoa_pos]
  unfold numC
  rw [atoi_itoa (by omega) (by omega)]
end Go.Proofs.YtlphgipgdgoieaaDoor
