/- The laws SumsBurst and SumsApart: their walks. -/
import Derived.Test.YtopedbkefncfnaaSumsP
namespace Go.Proofs.Ytopedbkefncfnaa
open Go.RowKit

theorem beq_of_iff {n1 n2 : Nat} {b c : List UInt8} (h : n1 = n2 ↔ b = c) : ((n1 : Int) == (n2 : Int)) = (b == c) := by
  rw [Bool.eq_iff_iff, beq_iff_eq, beq_iff_eq, ← h]
  omega
theorem equal_is {a b : List UInt8} {x : Bool} (h : (a == b) = x) {A B : Option Addr} (ca cb : Nat) {w : World} (ha : Bytes w A a) (hb : Bytes w B b) :
    Calls Try.prog 24 #[.slice A a.length ca, .slice B b.length cb] w (Ret (.bool x) w) := h ▸ equal_any a b A B ca cb w ha hb

set_option maxHeartbeats 1000000 in
theorem burst_walk (w : World) (b : List UInt8) (B : Option Addr) (cb : Nat) (hlb : b.length ≤ maxLen) (hb : Bytes w B b) (at_ : Int) (hat : Fits at_) (x0 x1 x2 x3 : UInt8) :
    Calls Try.prog 9 #[.slice B b.length cb, .int .i64 at_, .agg #[.int .u8 (x0.toNat : Int), .int .u8 (x1.toNat : Int), .int .u8 (x2.toNat : Int), .int .u8 (x3.toNat : Int)]] w (Ret (.bool true) w) := by
  rcases Bool.eq_false_or_eq_true (fewB b []) with hf | hf
  · have HF := Lib.hid hf
    have hl5 : b.length ≤ 5000 := by simpa [fewB] using hf
    have HB := Lib.hid (burst_iff b at_ (sel x0 x1 x2 x3))
    have HL := Lib.hid (chg_len b at_ (sel x0 x1 x2 x3) 4)
    clear hf
    have hb0 : Bytes (w.alloc (.cells #[.int .u8 (x0.toNat : Int), .int .u8 (x1.toNat : Int), .int .u8 (x2.toNat : Int), .int .u8 (x3.toNat : Int)] 38)) B b := hb.below ((Below.refl _ _).alloc (Nat.le_refl _) _)
    go_enter Try.func9, Try.ntmps9
    go_wp2_with fail
    refine (few_nil HF.out _ _ _).mono ?_
    rintro e w1 ⟨rfl, h1⟩
    have hc := (bcell h1).1
    have c0 : w1.cell? ⟨w.heap.size, 0, none⟩ = some (.int .u8 (x0.toNat : Int)) := (hc _ _ (by simp)).trans (by simp [go_sem])
    have c1 : w1.cell? ⟨w.heap.size, 1, none⟩ = some (.int .u8 (x1.toNat : Int)) := (hc _ _ (by simp)).trans (by simp [go_sem])
    have c2 : w1.cell? ⟨w.heap.size, 2, none⟩ = some (.int .u8 (x2.toNat : Int)) := (hc _ _ (by simp)).trans (by simp [go_sem])
    have c3 : w1.cell? ⟨w.heap.size, 3, none⟩ = some (.int .u8 (x3.toNat : Int)) := (hc _ _ (by simp)).trans (by simp [go_sem])
    clear hc
    go_wp2_with fail
    refine (changed_any b B cb at_ hat x0 x1 x2 x3 _ (hb0.below h1) hl5).mono ?_
    generalize chg b at_ (sel x0 x1 x2 x3) 4 = c at *
    rintro e w2 ⟨C, cc, rfl, hC, h2⟩
    have H2 : Below w.heap.size w w2 := (by repeat (first | assumption | exact Below.refl _ _ | refine Below.alloc ?_ (by first | omega | (simp; done) | (simp; omega)) _ | refine Below.setCell ?_ (by first | omega | (simp; done) | (simp; omega)) _ | refine Below.drew ?_ | refine Below.drewN_ ?_ _ | refine Below.step ?_ (by assumption)))
    clear c0 c1 c2 c3
    generalize hX : (b == c) = X
    have HX := Lib.hid hX
    have hlc : c.length ≤ maxLen := by rw [HL.out]; exact hlb
    go_wp2_with fail
    refine (equal_is HX.out cb cc (hb.below H2) hC).mono ?_
    rintro e w3 ⟨rfl, h3⟩
    have H3 := Below.step H2 h3
    go_wp2_with fail
    refine (crc_any b B cb _ (hb.below H3) hlb).mono ?_
    rintro e w4 ⟨rfl, h4⟩
    have H4 := Below.step H3 h4
    go_wp2_with fail
    refine (crc_any c C cc _ ((hC.below h3).below h4) hlc).mono ?_
    rintro e w5 ⟨rfl, h5⟩
    have hq := beq_of_iff HB.out
    rw [HX.out] at hq
    generalize crcL b ^^^ 4294967295 = n1 at *
    generalize crcL c ^^^ 4294967295 = n2 at *
    clear hX
    go_wp2_with fail
    refine (awake_any _).mono ?_
    rintro e w6 ⟨rfl, h6⟩
    go_wp2
    go_ret
    exact Ret.mk rfl (Below.step (Below.step H4 h5) h6)
  · have HF := Lib.hid hf
    clear hf
    go_enter Try.func9, Try.ntmps9
    go_wp2_with fail
    refine (few_nil HF.out _ _ _).mono ?_
    rintro e w1 ⟨rfl, h1⟩
    go_wp2_with fail
    refine (awake_any _).mono ?_
    rintro e w4 ⟨rfl, h4⟩
    go_wp2
    go_ret
    exact Ret.mk rfl (by repeat (first | assumption | exact Below.refl _ _ | refine Below.alloc ?_ (by first | omega | (simp; done) | (simp; omega)) _ | refine Below.setCell ?_ (by first | omega | (simp; done) | (simp; omega)) _ | refine Below.drew ?_ | refine Below.drewN_ ?_ _ | refine Below.step ?_ (by assumption)))

theorem word_wrap (h : Int) : IntKind.u64.wrap h = (word h : Int) := by rw [IntKind.wrap_u64]; unfold word; omega
theorem shl_nat (x : Nat) : (((x : Int) * 4) % 18446744073709551616) = ((4 * (x % 4611686018427387904) : Nat) : Int) := by
  have : (4 * x) % (4 * 4611686018427387904) = 4 * (x % 4611686018427387904) := Nat.mul_mod_mul_left 4 x 4611686018427387904
  omega
theorem shl_same (g h : Int) : (IntKind.u64.wrap (IntKind.u64.wrap g * 4) == IntKind.u64.wrap (IntKind.u64.wrap h * 4)) = decide (word g % 4611686018427387904 = word h % 4611686018427387904) := by
  rw [word_wrap g, word_wrap h, IntKind.wrap_u64, IntKind.wrap_u64, shl_nat, shl_nat, Bool.eq_iff_iff, beq_iff_eq, decide_eq_true_eq]
  generalize word g % 4611686018427387904 = y
  generalize word h % 4611686018427387904 = z
  omega

theorem apart_iff' (b : List UInt8) (at_ : Int) (x : UInt8) (h : b.length = 0 ∨ 0 ≤ at_ ∧ at_ < b.length) : (moreZ 860922984064492325 b = moreZ 860922984064492325 (chg b at_ (sel x 0 0 0) 4)) ↔ b = chg b at_ (sel x 0 0 0) 4 := by
  rcases h with h | ⟨h1, h2⟩
  · have e : chg b at_ (sel x 0 0 0) 4 = b := by
      obtain rfl := List.length_eq_zero_iff.1 h
      rfl
    rw [e]
    simp
  · exact apart_iff b at_ x h1 h2
theorem changed_one (b : List UInt8) (B : Option Addr) (cb : Nat) (at_ : Int) (hat : Fits at_) (x : UInt8) (w : World) (hb : Bytes w B b) (hl : b.length ≤ 5000) :
    Calls Try.prog 23 #[.slice B b.length cb, .int .i64 at_, .agg #[.int .u8 (x.toNat : Int), .int .u8 0, .int .u8 0, .int .u8 0]] w (RetBytes (chg b at_ (sel x 0 0 0) 4) w) :=
  changed_any b B cb at_ hat x 0 0 0 w hb hl
theorem mod_in (h : Int) {n : Nat} (hn : 0 < n) (hl : n ≤ 5000) : 0 ≤ wrap64 ((IntKind.u64.wrap h).tmod n) ∧ wrap64 ((IntKind.u64.wrap h).tmod n) < n := by
  rw [word_wrap, Int.tmod_eq_emod_of_nonneg (by omega)]
  have h1 := Int.emod_nonneg (word h : Int) (show (n : Int) ≠ 0 by omega)
  have h2 := Int.emod_lt_of_pos (word h : Int) (show (0 : Int) < n by omega)
  generalize (word h : Int) % n = y at *
  unfold wrap64
  omega

set_option maxHeartbeats 1000000 in
theorem apart_walk (w : World) (g : Int) (_ : Fits g) (h : Int) (_ : Fits h) (b : List UInt8) (B : Option Addr) (cb : Nat) (hlb : b.length ≤ maxLen) (hb : Bytes w B b) (x : UInt8) :
    Calls Try.prog 10 #[.int .i64 g, .int .i64 h, .slice B b.length cb, .int .u8 (x.toNat : Int)] w (Ret (.bool true) w) := by
  rcases Bool.eq_false_or_eq_true (fewB b []) with hf | hf
  · have HF := Lib.hid hf
    have hl5 : b.length ≤ 5000 := by simpa [fewB] using hf
    have hq1 : ((moreZ g b : Int) == (moreZ h b : Int)) = decide (word g % 4611686018427387904 = word h % 4611686018427387904) := by
      rw [Bool.eq_iff_iff, beq_iff_eq, decide_eq_true_eq, ← more_same g h b]
      omega
    have hq2 := shl_same g h
    have HW := Lib.hid (word_wrap h)
    generalize decide (word g % 4611686018427387904 = word h % 4611686018427387904) = Y at *
    clear hf
    go_enter Try.func10, Try.ntmps10
    go_wp2_with fail
    refine (few_nil HF.out _ _ _).mono ?_
    rintro e w1 ⟨rfl, h1⟩
    go_wp2_with fail
    refine (more_any g b B cb _ (hb.below h1) hlb).mono ?_
    rintro e w2 ⟨rfl, h2⟩
    have H2 := Below.step h1 h2
    go_wp2_with fail
    refine (more_any h b B cb _ (hb.below H2) hlb).mono ?_
    rintro e w3 ⟨rfl, h3⟩
    have H3 := Below.step H2 h3
    generalize moreZ g b = n1 at *
    generalize moreZ h b = n2 at *
    by_cases h0 : b.length = 0
    · obtain rfl := List.length_eq_zero_iff.1 h0
      have hfit : Fits 0 := ⟨by decide, by decide⟩
      have HB := Lib.hid (apart_iff' [] 0 x (.inl rfl))
      have HL := Lib.hid (chg_len [] 0 (sel x 0 0 0) 4)
      go_wp2_with (fail_if_success skip)
      refine (changed_one [] B cb 0 hfit x _ (hb.below H3) hl5).mono ?_
      generalize chg [] 0 (sel x 0 0 0) 4 = c at *
      rintro e w4 ⟨C, cc, rfl, hC, h4⟩
      have H4 := Below.step H3 h4
      generalize hX : (([] : List UInt8) == c) = X
      have HX := Lib.hid hX
      have hlc : c.length ≤ maxLen := by rw [HL.out]; exact hlb
      go_wp2_with fail
      refine (equal_is HX.out cb cc (hb.below H4) hC).mono ?_
      rintro e w5 ⟨rfl, h5⟩
      have H5 := Below.step H4 h5
      go_wp2_with fail
      refine (hash_any [] B cb _ (hb.below H5) hlb).mono ?_
      rintro e w6 ⟨rfl, h6⟩
      have H6 := Below.step H5 h6
      go_wp2_with fail
      refine (hash_any c C cc _ ((hC.below h5).below h6) hlc).mono ?_
      rintro e w7 ⟨rfl, h7⟩
      have H7 := Below.step H6 h7
      have hq := beq_of_iff HB.out
      rw [HX.out] at hq
      generalize moreZ 860922984064492325 [] = n3 at *
      generalize moreZ 860922984064492325 c = n4 at *
      clear hX
      go_wp2_with fail
      refine (awake_any _).mono ?_
      rintro e w8 ⟨rfl, h8⟩
      go_wp2
      go_ret
      exact Ret.mk rfl (Below.step H7 h8)
    · have h0' : (0 : Int) < b.length := by omega
      obtain ⟨hat1, hat2⟩ := mod_in h (show 0 < b.length by omega) hl5
      have hfit := Lib.hid (show Fits (wrap64 ((IntKind.u64.wrap h).tmod b.length)) from ⟨by omega, by omega⟩)
      have HB := Lib.hid (apart_iff' b _ x (.inr ⟨hat1, hat2⟩))
      have HL := Lib.hid (chg_len b (wrap64 ((IntKind.u64.wrap h).tmod b.length)) (sel x 0 0 0) 4)
      clear hat1 hat2
      go_wp2_with (fail_if_success skip)
      have hfit := hfit.out
      generalize wrap64 ((IntKind.u64.wrap h).tmod b.length) = at_ at *
      refine (changed_one b B cb at_ hfit x _ (hb.below H3) hl5).mono ?_
      generalize chg b at_ (sel x 0 0 0) 4 = c at *
      rintro e w4 ⟨C, cc, rfl, hC, h4⟩
      have H4 := Below.step H3 h4
      generalize hX : (b == c) = X
      have HX := Lib.hid hX
      have hlc : c.length ≤ maxLen := by rw [HL.out]; exact hlb
      go_wp2_with fail
      refine (equal_is HX.out cb cc (hb.below H4) hC).mono ?_
      rintro e w5 ⟨rfl, h5⟩
      have H5 := Below.step H4 h5
      go_wp2_with fail
      refine (hash_any b B cb _ (hb.below H5) hlb).mono ?_
      rintro e w6 ⟨rfl, h6⟩
      have H6 := Below.step H5 h6
      go_wp2_with fail
      refine (hash_any c C cc _ ((hC.below h5).below h6) hlc).mono ?_
      rintro e w7 ⟨rfl, h7⟩
      have H7 := Below.step H6 h7
      have hq := beq_of_iff HB.out
      rw [HX.out] at hq
      generalize moreZ 860922984064492325 b = n3 at *
      generalize moreZ 860922984064492325 c = n4 at *
      clear hX
      go_wp2_with fail
      refine (awake_any _).mono ?_
      rintro e w8 ⟨rfl, h8⟩
      go_wp2
      go_ret
      exact Ret.mk rfl (Below.step H7 h8)
  · have HF := Lib.hid hf
    clear hf
    go_enter Try.func10, Try.ntmps10
    go_wp2_with fail
    refine (few_nil HF.out _ _ _).mono ?_
    rintro e w1 ⟨rfl, h1⟩
    go_wp2_with fail
    refine (awake_any _).mono ?_
    rintro e w4 ⟨rfl, h4⟩
    go_wp2
    go_ret
    exact Ret.mk rfl (by repeat (first | assumption | exact Below.refl _ _ | refine Below.alloc ?_ (by first | omega | (simp; done) | (simp; omega)) _ | refine Below.setCell ?_ (by first | omega | (simp; done) | (simp; omega)) _ | refine Below.drew ?_ | refine Below.drewN_ ?_ _ | refine Below.step ?_ (by assumption)))
end Go.Proofs.Ytopedbkefncfnaa
