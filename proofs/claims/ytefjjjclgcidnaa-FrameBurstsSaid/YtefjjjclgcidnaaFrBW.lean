/- The law FrameBursts: its walk. -/
import Derived.Test.YtefjjjclgcidnaaFrBN
import Derived.Test.YtefjjjclgcidnaaFrN
import Derived.Test.YtefjjjclgcidnaaRegion
namespace Go.Proofs.Ytefjjjclgcidnaa
open Go.RowKit

/-- Block g holds bytes. -/
def Row (w : World) (g : Nat) (xl : List UInt8) : Prop := g < w.heap.size ∧ (∀ j c, xl[j]? = some c → w.cell? ⟨g, j, none⟩ = some (.int .u8 (c.toNat : Int))) ∧ ∀ j, w.frozen? ⟨g, j, none⟩ = false
theorem Row.below {w w' : World} {g : Nat} {xl : List UInt8} (h : Row w g xl) (hb : Below w.heap.size w w') : Row w' g xl :=
  ⟨Nat.lt_of_lt_of_le h.1 hb.size, fun j c hj => ((bcell hb).1 g j h.1).trans (h.2.1 j c hj), fun j => ((bcell hb).2 g j h.1).trans (h.2.2 j)⟩
theorem Row.set_ {w : World} {g k : Nat} {xl : List UInt8} (h : Row w g xl) (hk : k < xl.length) (c : UInt8) : Row (w.setCell ⟨g, k, none⟩ (.int .u8 (c.toNat : Int))) g (xl.set k c) := by
  refine ⟨by simpa using h.1, fun j d hj => ?_, fun j => (World.frozen?_setCell _ _ _ _).trans (h.2.2 j)⟩
  by_cases e : k = j
  · subst e
    rw [List.getElem?_set_self hk] at hj
    injection hj with hj
    subst hj
    have h0 := h.2.1 k xl[k] (List.getElem?_eq_getElem hk)
    exact World.cell?_setCell_same _ _ _ h0
  · rw [List.getElem?_set_ne e] at hj
    exact (World.cell?_setCell_other w _ _ _ (fun e2 => e (by simp at e2))).trans (h.2.1 j d hj)
theorem Row.bytes {w : World} {g : Nat} {xl : List UInt8} (h : Row w g xl) : Bytes w (some ⟨g, 0, none⟩) xl := by
  refine ⟨by simp, fun _ => ⟨_, rfl, h.1, fun j u hu => ?_⟩⟩
  rw [show ((⟨g, 0, none⟩ : Addr).add j) = ⟨g, j, none⟩ by unfold Addr.add; split <;> simp_all]
  rw [List.getElem?_map] at hu
  cases hx : xl[j]? with
  | none => rw [hx] at hu; cases hu
  | some c =>
    rw [hx] at hu
    injection hu with hu
    rw [← hu]
    exact h.2.1 j c hx
theorem Row.of_own {w : World} {base n c : Nat} {A : Option Addr} {l : List UInt8} (h : w.ownsRow base 5 1 (.slice A n c) n (u8s l)) (hn : l.length = n) (h0 : 0 < n) : ∃ g, A = some ⟨g, 0, none⟩ ∧ base ≤ g ∧ Row w g l := by
  rcases h.2 with ⟨e1, h1⟩ | ⟨g, cap, cur, e1, hb, hk, hc, _, hs, ht⟩
  · omega
  · injection e1 with e1 e2 e3
    have hB : Blk w g 5 cur := hk
    refine ⟨g, e1, hb, hB.lt, fun j d hj => ?_, fun j => hB.frozen j⟩
    have := h.cells (g := g) (by rw [e1]; rfl) j (.int .u8 (d.toNat : Int)) (by unfold u8s; rw [List.getElem?_map, hj]; rfl)
    rw [show ((⟨g, 0, none⟩ : Addr).add j) = ⟨g, j, none⟩ by unfold Addr.add; split <;> simp_all] at this
    exact this
theorem xor_flip (c : UInt8) {j : Nat} (hj : j ≤ 7) : bits .xor .u8 (c.toNat : Int) ((2 ^ j : Nat) : Int) = ((flipB c j).toNat : Int) := by
  have h : ∀ c : Fin 256, ∀ j : Fin 8, bits .xor .u8 (c.val : Int) ((2 ^ j.val : Nat) : Int) = ((c.val ^^^ 2 ^ j.val : Nat) : Int) := by decide +kernel
  rw [flipB_nat c (by omega)]
  exact h ⟨c.toNat, c.toNat_lt⟩ ⟨j, by omega⟩
theorem keep_len {xl : List UInt8} {k n : Nat} {c : UInt8} {e : List UInt8} (h : (xl.drop 2).take n = e) (hk : k < 2 ∨ 2 + n ≤ k) : ((xl.set k c).drop 2).take n = e := by
  rw [← h]
  apply List.ext_getElem?
  intro j
  rw [List.getElem?_take, List.getElem?_take]
  by_cases hj : j < n
  · rw [if_pos hj, if_pos hj, List.getElem?_drop, List.getElem?_drop, List.getElem?_set_ne (by omega)]
  · rw [if_neg hj, if_neg hj]

set_option maxHeartbeats 1000000 in
theorem power_pure (n : Nat) (hn : n ≤ 7) (w : World) : Calls Try.prog 20 #[.int .i64 (n : Int)] w (fun e w' => e = .returned (.int .u8 ((2 ^ n : Nat) : Int)) ∧ w' = w) := by
  go_enter Try.func20, Try.ntmps20
  go_wp2
  go_loop [3, 4] (fun p i => ∃ k : Nat, k ≤ n ∧ i = .int .i64 (k : Int) ∧ p = .int .u8 ((2 ^ k : Nat) : Int)) (fun _ i => n + 1 - (intOf i).toNat)
  case atStart => exact ⟨0, by omega, rfl, rfl⟩
  case round =>
    obtain ⟨k, hk, rfl, rfl⟩ := hrel
    by_cases hlt : k < n
    · have hlt' : (k : Int) < n := by omega
      have h2 : 2 ^ k < 2 ^ 7 := Nat.pow_lt_pow_right (by decide) (by omega)
      have HE : Hid (2 ^ (k + 1) = 2 ^ k * 2) := Lib.hid (Nat.pow_succ 2 k)
      generalize 2 ^ k = X at *
      have hX : (X : Int) * 2 < 256 := by omega
      go_wp2
      go_round
      case rel => exact ⟨k + 1, by omega, by go_num, congrArg (Value.int .u8) (by rw [HE.out]; omega)⟩
      case measure => simp [intOf]; omega
    · obtain rfl : k = n := by omega
      go_wp2
      go_ret
      exact ⟨rfl, rfl⟩

set_option maxHeartbeats 1000000 in
theorem bursts_no0 (w : World) (kind : Int) (b : List UInt8) (B : Option Addr) (cb : Nat) (a : Int) (p : Nat)  (h0 : kind < 1) :
    Calls Try.prog 9 #[.int .i64 kind, .slice B b.length cb, .int .i64 a, .int .u32 (p : Int)] w (Ret (.bool true) w) := by
  have d0 : decide (kind < 1) = true := by simpa using h0
  go_enter Try.func9, Try.ntmps9
  go_wp2_with fail
  refine (awake_any _).mono ?_
  rintro e w1 ⟨rfl, g1⟩
  go_wp2
  go_ret
  exact Ret.mk rfl g1
set_option maxHeartbeats 1000000 in
theorem bursts_no1 (w : World) (kind : Int) (b : List UInt8) (B : Option Addr) (cb : Nat) (a : Int) (p : Nat) (h0 : ¬ kind < 1) (h1 : (255 : Int) < kind) :
    Calls Try.prog 9 #[.int .i64 kind, .slice B b.length cb, .int .i64 a, .int .u32 (p : Int)] w (Ret (.bool true) w) := by
  have d0 : decide (kind < 1) = false := by simpa using h0
  have d1 : decide ((255 : Int) < kind) = true := by simpa using h1
  go_enter Try.func9, Try.ntmps9
  go_wp2_with fail
  refine (awake_any _).mono ?_
  rintro e w1 ⟨rfl, g1⟩
  go_wp2
  go_ret
  exact Ret.mk rfl g1
set_option maxHeartbeats 1000000 in
theorem bursts_no2 (w : World) (kind : Int) (b : List UInt8) (B : Option Addr) (cb : Nat) (a : Int) (p : Nat) (h0 : ¬ kind < 1) (h1 : ¬ (255 : Int) < kind) (h2 : (300 : Int) < (b.length : Int)) :
    Calls Try.prog 9 #[.int .i64 kind, .slice B b.length cb, .int .i64 a, .int .u32 (p : Int)] w (Ret (.bool true) w) := by
  have d0 : decide (kind < 1) = false := by simpa using h0
  have d1 : decide ((255 : Int) < kind) = false := by simpa using h1
  have d2 : decide ((300 : Int) < (b.length : Int)) = true := by simpa using h2
  go_enter Try.func9, Try.ntmps9
  go_wp2_with fail
  refine (awake_any _).mono ?_
  rintro e w1 ⟨rfl, g1⟩
  go_wp2
  go_ret
  exact Ret.mk rfl g1
set_option maxHeartbeats 1000000 in
theorem bursts_no3 (w : World) (kind : Int) (b : List UInt8) (B : Option Addr) (cb : Nat) (a : Int) (p : Nat) (h0 : ¬ kind < 1) (h1 : ¬ (255 : Int) < kind) (h2 : ¬ (300 : Int) < (b.length : Int)) (h3 : a < 0) :
    Calls Try.prog 9 #[.int .i64 kind, .slice B b.length cb, .int .i64 a, .int .u32 (p : Int)] w (Ret (.bool true) w) := by
  have d0 : decide (kind < 1) = false := by simpa using h0
  have d1 : decide ((255 : Int) < kind) = false := by simpa using h1
  have d2 : decide ((300 : Int) < (b.length : Int)) = false := by simpa using h2
  have d3 : decide (a < 0) = true := by simpa using h3
  go_enter Try.func9, Try.ntmps9
  go_wp2_with fail
  refine (awake_any _).mono ?_
  rintro e w1 ⟨rfl, g1⟩
  go_wp2
  go_ret
  exact Ret.mk rfl g1
set_option maxHeartbeats 1000000 in
theorem bursts_no4 (w : World) (kind : Int) (b : List UInt8) (B : Option Addr) (cb : Nat) (a : Int) (p : Nat) (h0 : ¬ kind < 1) (h1 : ¬ (255 : Int) < kind) (h2 : ¬ (300 : Int) < (b.length : Int)) (h3 : ¬ a < 0) (h4 : p = 0) :
    Calls Try.prog 9 #[.int .i64 kind, .slice B b.length cb, .int .i64 a, .int .u32 (p : Int)] w (Ret (.bool true) w) := by
  have d0 : decide (kind < 1) = false := by simpa using h0
  have d1 : decide ((255 : Int) < kind) = false := by simpa using h1
  have d2 : decide ((300 : Int) < (b.length : Int)) = false := by simpa using h2
  have d3 : decide (a < 0) = false := by simpa using h3
  have d4 : ((p : Int) == 0) = true := by simpa using h4
  subst h4
  go_enter Try.func9, Try.ntmps9
  go_wp2_with fail
  refine (awake_any _).mono ?_
  rintro e w1 ⟨rfl, g1⟩
  go_wp2
  go_ret
  exact Ret.mk rfl g1

set_option maxRecDepth 20000 in
set_option maxHeartbeats 8000000 in
theorem bursts_in (w : World) (k : Nat) (hk : 1 ≤ k ∧ k ≤ 255) (b : List UInt8) (B : Option Addr) (cb : Nat) (hb : Bytes w B b) (l1 : b.length ≤ 300) (a : Nat) (ha63 : (a : Int) ≤ 9223372036854775807) (p : Nat) (hp : p < 4294967296) (hp0 : p ≠ 0) :
    Calls Try.prog 9 #[.int .i64 (k : Int), .slice B b.length cb, .int .i64 (a : Int), .int .u32 (p : Int)] w (Ret (.bool true) w) := by
  have h0 : ¬ (k : Int) < 1 := by omega
  have h1 : ¬ (255 : Int) < k := by omega
  have h2 : ¬ (300 : Int) < (b.length : Int) := by omega
  have d0 : decide ((k : Int) < 1) = false := by simpa using h0
  have d1 : decide ((255 : Int) < k) = false := by simpa using h1
  have d2 : decide ((300 : Int) < (b.length : Int)) = false := by simpa using h2
  have d3 : decide ((a : Int) < 0) = false := by simp
  have d4 : ((p : Int) == 0) = false := by simp; omega
  have d5 : (p == 0) = false := by simpa using hp0
  have hc := copied_any b B cb w hb (by omega)
  have hs := fun A cap w' h => (seal_any k hk b A cap w' h (by omega)).mono fun _ _ => RetSeal.b
  have HBu := Lib.hid (fun x hl hx hp h0 ha hn => op_burst k b x (by omega) hl (p := p) (a := a) hx hp h0 ha hn)
  have hsl : b.length + 7 ≤ (sealL k b).length ∧ (sealL k b).length ≤ b.length + 16 := by have := sealL_len k b; have := sealM_len k b; omega
  have hml : (sealM k b).length = 2 + (encI b.length).length + b.length := by simp [sealM]; omega
  have hf1 : (sealL k b).length = 6 + (encI b.length).length + b.length := by have := sealL_len k b; omega
  clear hml
  have hst : ((sealL k b).drop 2).take (encI b.length).length = encI b.length := by
    have e : sealL k b = 76 :: UInt8.ofNat k :: (encI b.length ++ (b ++ tail4 (crcZ (sealM k b)))) := by simp [sealL, sealM]
    rw [e]
    simp
  obtain ⟨s1, s2⟩ := hsl
  generalize sealL k b = s at *
  obtain ⟨en, hen⟩ : ∃ en, (encI b.length).length = en := ⟨_, rfl⟩
  rw [hen] at hf1 hst
  have HEN := Lib.hid hen
  have HST := Lib.hid hst
  clear hen hst
  have e1 : ¬ ((s.length : Int) < (b.length : Int) + 7) := by omega
  have f1 : decide ((s.length : Int) < (b.length : Int) + 7) = false := by simp; omega
  have f2 : decide (s.length < b.length + 7) = false := by simp; omega
  have hcs := fun A cap w' h => copied_own s A cap w' h (by omega)
  by_cases g0 : 8 * s.length ≤ a
  · have q0 : (8 : Int) * (s.length : Int) ≤ (a : Int) := by omega
    have q1 : decide ((8 : Int) * (s.length : Int) ≤ (a : Int)) = true := by simpa using q0
    clear hcs hf1
    go_enter Try.func9, Try.ntmps9
    go_wp2_with fail
    refine hc.mono ?_
    rintro e w1 ⟨A1, c1, rfl, y1, _, g1⟩
    go_wp2_with fail
    refine (hs _ _ _ y1).mono ?_
    rintro e w2 ⟨A2, c2, rfl, y2, g2⟩
    have H2 := Below.step g1 g2
    clear hc hs y1 y2
    go_wp2_with fail
    refine (awake_any _).mono ?_
    rintro e w3 ⟨rfl, g3⟩
    go_wp2
    go_ret
    exact Ret.mk rfl (Below.step H2 g3)
  have q0 : ¬ (8 : Int) * (s.length : Int) ≤ (a : Int) := by omega
  have q1 : decide ((8 : Int) * (s.length : Int) ≤ (a : Int)) = false := by simpa using q0
  have hfi : (s.length : Int) - 4 - (b.length : Int) = ((2 + en : Nat) : Int) := by omega
  have HFI := Lib.hid hf1
  clear hf1
  go_enter Try.func9, Try.ntmps9
  go_wp2_with fail
  refine hc.mono ?_
  rintro e w1 ⟨A1, c1, rfl, y1, _, g1⟩
  go_wp2_with fail
  refine (hs _ _ _ y1).mono ?_
  rintro e w2 ⟨A2, c2, rfl, y2, g2⟩
  have H2 := Below.step g1 g2
  clear hc hs y1
  go_wp2_with fail
  refine (hcs _ _ _ y2).mono ?_
  rintro e w3 ⟨A3, c3, rfl, o3, g3⟩
  have H3 := Below.step H2 g3
  have hc3 := own_cap o3
  obtain ⟨g, rfl, hgb, hrow⟩ := Row.of_own o3 rfl (by omega)
  have hgw : w.heap.size ≤ g := Nat.le_trans H2.size hgb
  have HR3 := Lib.hid hrow
  clear hcs y2 o3 hrow
  have hal : a < 2600 := by omega
  have H3' := Lib.hid H3
  clear q0 H3 H2 g1 g2 g3
  go_wp2
  go_loopw [3, 13] (fun pat ii wr => ∃ (n : Nat) (xl : List UInt8), n ≤ 32 ∧ ii = .int .i64 (n : Int) ∧ pat = .int .u32 ((p / 2 ^ n : Nat) : Int) ∧ xl.length = s.length ∧ Row wr g xl ∧ Hid (numL xl = numL s ^^^ ((p % 2 ^ n) * 2 ^ a)) ∧ Hid ((xl.drop 2).take en = encI b.length) ∧ Below w.heap.size w wr) (fun _ ii _ => 33 - (intOf ii).toNat)
  case atStart => exact ⟨0, s, by omega, rfl, by simp, rfl, HR3.out, Lib.hid (by simp [Nat.mod_one]), HST, H3'.out⟩
  case round =>
    obtain ⟨n, xl, hn, rfl, rfl, hxl, hrow, HNum, HLen, hbw⟩ := hrel
    have HRow := Lib.hid hrow
    have HXL := Lib.hid hxl
    clear hrow hxl
    by_cases hlt : n < 32
    · have hlt' : (n : Int) < 32 := by omega
      have HD : Hid (p / 2 ^ n / 2 = p / 2 ^ (n + 1)) := Lib.hid (by rw [Nat.div_div_eq_div_mul, Nat.pow_succ])
      have hq : p / 2 ^ n < 4294967296 := Nat.lt_of_le_of_lt (Nat.div_le_self _ _) hp
      have HM := Lib.hid (bits_more p n a)
      generalize hqq : p / 2 ^ n = q at *
      clear hqq
      by_cases hbit : q % 2 = 1
      rotate_left
      · have m1 : (q : Int) % 2 = 0 := by omega
        have HB := Lib.hid hbit
        clear hbit
        go_wp2
        go_roundw
        case rel => exact ⟨n + 1, xl, by omega, by go_num, congrArg (Value.int .u32) (by rw [← HD.out]; omega), HXL.out, HRow.out, Lib.hid (by rw [HNum.out, HM.out, if_neg HB.out, Nat.xor_zero]), HLen, hbw⟩
        case measure => simp [intOf]; omega
      · have m1 : (q : Int) % 2 = 1 := by omega
        have HB := Lib.hid hbit
        clear hbit
        obtain ⟨kk, hkk⟩ : ∃ kk : Nat, (a + n) / 8 = kk := ⟨_, rfl⟩
        obtain ⟨j, hj⟩ : ∃ j : Nat, (a + n) % 8 = j := ⟨_, rfl⟩
        have kI : ((a : Int) + (n : Int)) / 8 = (kk : Int) := by omega
        have jI : ((a : Int) + (n : Int)) % 8 = (j : Int) := by omega
        have jT : ((a : Int) + (n : Int)).tmod 8 = (j : Int) := by rw [Int.tmod_eq_emod_of_nonneg (by omega)]; omega
        have kT : ((a : Int) + (n : Int)).tdiv 8 = (kk : Int) := by rw [Int.tdiv_eq_ediv_of_nonneg (by omega)]; omega
        have hj7 : j ≤ 7 := by omega
        have hwa : IntKind.i64.wrap ((a : Int) + (n : Int)) = (a : Int) + (n : Int) := by rw [IntKind.wrap_i64]; omega
        have HKJ : Hid (8 * kk + j = a + n) := Lib.hid (by omega)
        clear hkk hj
        by_cases c1 : s.length ≤ kk
        · have k1 : decide ((s.length : Int) ≤ (kk : Int)) = true := by simp; omega
          have k2 : (s.length : Int) ≤ (kk : Int) := by omega
          go_wp2_with fail
          refine (awake_any _).mono ?_
          rintro e w5 ⟨rfl, g5⟩
          go_wp2
          go_ret
          exact Ret.mk rfl (Below.step hbw g5)
        have k1 : decide ((s.length : Int) ≤ (kk : Int)) = false := by simp; omega
        have k2 : ¬ (s.length : Int) ≤ (kk : Int) := by omega
        by_cases c2 : 2 ≤ kk ∧ kk < 2 + en
        · have k3 : decide ((2 : Int) ≤ (kk : Int)) = true := by simp; omega
          have k4 : decide ((kk : Int) < 2 + (en : Int)) = true := by simp; omega
          have k5 : (kk : Int) < 2 + (en : Int) := by omega
          have k6 : (2 : Int) ≤ (kk : Int) := by omega
          go_wp2_with fail
          refine (awake_any _).mono ?_
          rintro e w5 ⟨rfl, g5⟩
          go_wp2
          go_ret
          exact Ret.mk rfl (Below.step hbw g5)
        have hks : kk < s.length := by omega
        have hks' : (kk : Int) < (s.length : Int) := by omega
        have hk0 : (0 : Int) ≤ (kk : Int) := by omega
        have hkx : kk < xl.length := by rw [HXL.out]; exact hks
        have hcell : wr.cell? ⟨g, kk, none⟩ = some (.int .u8 (xl[kk].toNat : Int)) := HRow.out.2.1 kk _ (List.getElem?_eq_getElem hkx)
        have hfro := HRow.out.2.2 kk
        have HG : Hid (xl.getD kk 0 = xl[kk]) := Lib.hid (by rw [List.getD_eq_getElem?_getD, List.getElem?_eq_getElem hkx]; rfl)
        have HF := Lib.hid (numL_flip xl kk j hkx (by omega))
        rw [HG.out] at HF
        have HS := Lib.hid (HRow.out.set_ hkx (flipB xl[kk] j))
        have hxf := xor_flip xl[kk] hj7
        have hpow := fun w' => power_pure j hj7 w'
        generalize 2 ^ j = pj at hxf hpow
        have hlk : kk < 2 ∨ 2 + en ≤ kk := by omega
        have HK := Lib.hid (keep_len (c := flipB xl[kk] j) HLen.out hlk)
        have HXL2 : Hid ((xl.set kk (flipB xl[kk] j)).length = s.length) := Lib.hid (by rw [List.length_set, HXL.out])
        generalize xl.set kk (flipB xl[kk] j) = xl2 at *
        generalize flipB xl[kk] j = fc at *
        generalize xl[kk] = c at *
        have k3 : (decide ((2 : Int) ≤ (kk : Int)) && decide ((kk : Int) < 2 + (en : Int))) = false := by simp; omega
        have hcell' : wr.drew.cell? ⟨g, kk, none⟩ = some (.int .u8 (c.toNat : Int)) := hcell
        have hfro' : wr.drew.frozen? ⟨g, kk, none⟩ = false := hfro
        rcases hlk with hlk | hlk
        · have k4 : decide ((2 : Int) ≤ (kk : Int)) = false := by simp; omega
          have k5 : ¬ (2 : Int) ≤ (kk : Int) := by omega
          go_wp2_with fail
          refine wp_region_held_drew (S := (fun _ => True)) (by kernel_rfl) (by exact trivial) (fun hHeld => ?_)
          refine wpAnyH_take (i := 0) (oi := _) (v := ?_) (by simp only [List.getElem?_toArray, List.getElem?_cons_zero]; rfl) (by kernel_rfl) (by kernel_rfl) (by kernel_rfl) (by intro _ _ _ h; exact h) (Or.inl ⟨by rfl, ?_⟩) (by assumption) ?_
          rotate_left
          · (intro w hSw; (try dsimp only at hSw); go_simp; try with_reducible rfl)
          try simp only [Act.put, List.setIfInBounds_toArray, List.set_cons_zero, List.set_cons_succ]
          refine wpAnyH_take (i := 1) (oi := _) (v := ?_) (by simp only [List.getElem?_toArray, List.getElem?_cons_succ, List.getElem?_cons_zero]; rfl) (by kernel_rfl) (by kernel_rfl) (by kernel_rfl) (by intro _ _ _ h; exact h) (Or.inl ⟨by rfl, ?_⟩) (by assumption) ?_
          rotate_left
          · (intro w hSw; (try dsimp only at hSw); go_simp; try with_reducible rfl)
          try simp only [Act.put, List.setIfInBounds_toArray, List.set_cons_zero, List.set_cons_succ]
          refine wpAnyH_take (i := 2) (oi := _) (v := ?_) (by simp only [List.getElem?_toArray, List.getElem?_cons_succ, List.getElem?_cons_zero]; rfl) (by kernel_rfl) (by kernel_rfl) (by kernel_rfl) (by intro _ _ _ h; exact h) (Or.inl ⟨by rfl, ?_⟩) (by assumption) ?_
          rotate_left
          · (intro w hSw; (try dsimp only at hSw); go_simp; try with_reducible rfl)
          try simp only [Act.put, List.setIfInBounds_toArray, List.set_cons_zero, List.set_cons_succ]
          refine wpAnyH_take (i := 3) (oi := _) (v := ?_) (by simp only [List.getElem?_toArray, List.getElem?_cons_succ, List.getElem?_cons_zero]; rfl) (by kernel_rfl) (by kernel_rfl) (by kernel_rfl) (by intro _ _ _ h; exact h) (Or.inl ⟨by rfl, ?_⟩) (by assumption) ?_
          rotate_left
          · (intro w hSw; (try dsimp only at hSw); go_simp; try with_reducible rfl)
          try simp only [Act.put, List.setIfInBounds_toArray, List.set_cons_zero, List.set_cons_succ]
          refine wpAnyH_take (i := 4) (oi := _) (v := ?_) (by simp only [List.getElem?_toArray, List.getElem?_cons_succ, List.getElem?_cons_zero]; rfl) (by kernel_rfl) (by kernel_rfl) (by kernel_rfl) (by intro _ _ _ h; exact h) (Or.inl ⟨by rfl, ?_⟩) (by assumption) ?_
          rotate_left
          · (intro w hSw; (try dsimp only at hSw); go_simp; try with_reducible rfl)
          try simp only [Act.put, List.setIfInBounds_toArray, List.set_cons_zero, List.set_cons_succ]
          refine wpAnyH_take (i := 6) (oi := _) (v := ?_) (by simp only [List.getElem?_toArray, List.getElem?_cons_succ, List.getElem?_cons_zero]; rfl) (by kernel_rfl) (by kernel_rfl) (by kernel_rfl) (by intro _ _ _ h; exact h) (Or.inl ⟨by rfl, ?_⟩) (by assumption) ?_
          rotate_left
          · (intro w hSw; (try dsimp only at hSw); go_simp; try with_reducible rfl)
          try simp only [Act.put, List.setIfInBounds_toArray, List.set_cons_zero, List.set_cons_succ]
          refine wpAnyH_take (i := 7) (oi := _) (v := ?_) (by simp only [List.getElem?_toArray, List.getElem?_cons_succ, List.getElem?_cons_zero]; rfl) (by kernel_rfl) (by kernel_rfl) (by kernel_rfl) (by intro _ _ _ h; exact h) (Or.inl ⟨by rfl, ?_⟩) (by assumption) ?_
          rotate_left
          · (intro w hSw; (try dsimp only at hSw); go_simp; try with_reducible rfl)
          try simp only [Act.put, List.setIfInBounds_toArray, List.set_cons_zero, List.set_cons_succ]
          refine wpAnyH_take (i := 8) (oi := _) (v := ?_) (by simp only [List.getElem?_toArray, List.getElem?_cons_succ, List.getElem?_cons_zero]; rfl) (by kernel_rfl) (by kernel_rfl) (by kernel_rfl) (by intro _ _ _ h; exact h) (Or.inl ⟨by rfl, ?_⟩) (by assumption) ?_
          rotate_left
          · (intro w hSw; (try dsimp only at hSw); go_simp; try with_reducible rfl)
          try simp only [Act.put, List.setIfInBounds_toArray, List.set_cons_zero, List.set_cons_succ]
          refine wpAnyH_take (i := 9) (oi := _) (v := ?_) (by simp only [List.getElem?_toArray, List.getElem?_cons_succ, List.getElem?_cons_zero]; rfl) (by kernel_rfl) (by kernel_rfl) (by kernel_rfl) (by intro _ _ _ h; exact h) (Or.inl ⟨by rfl, ?_⟩) (by assumption) ?_
          rotate_left
          · (intro w hSw; (try dsimp only at hSw); go_simp; try with_reducible rfl)
          try simp only [Act.put, List.setIfInBounds_toArray, List.set_cons_zero, List.set_cons_succ]
          refine wpAnyH_ready (rs := [5, 10]) (by kernel_rfl) (by simp) ?_
          refine AllReadyH.cons (o := _) (by simp only [List.getElem?_toArray, List.getElem?_cons_succ, List.getElem?_cons_zero]; rfl) (fun K hK => ?_) ?_
          · go_simp
            refine hK.out _ _ trivial (fun hHeld2 => ?_)
            clear hHeld hK K
            try simp only [Act.put, List.setIfInBounds_toArray, List.set_cons_zero, List.set_cons_succ]
            have hHeld := hHeld2
            clear hHeld2
            refine wpAnyH_ready (rs := [10]) (by kernel_rfl) (by simp) ?_
            refine AllReadyH.cons (o := _) (by simp only [List.getElem?_toArray, List.getElem?_cons_succ, List.getElem?_cons_zero]; rfl) (fun K hK => ?_) AllReadyH.nil
            go_simp
            refine (hpow _).mono ?_
            rintro e w' ⟨rfl, rfl⟩
            refine hK.out _ _ trivial (fun hHeld2 => ?_)
            clear hHeld hK K
            try simp only [Act.put, List.setIfInBounds_toArray, List.set_cons_zero, List.set_cons_succ]
            have hHeld := hHeld2
            clear hHeld2
            refine wpAnyH_take (i := 11) (oi := _) (v := ?_) (by simp only [List.getElem?_toArray, List.getElem?_cons_succ, List.getElem?_cons_zero]; rfl) (by kernel_rfl) (by kernel_rfl) (by kernel_rfl) (by intro _ _ _ h; exact h) (Or.inl ⟨by rfl, ?_⟩) (by assumption) ?_
            rotate_left
            · (intro w hSw; (try dsimp only at hSw); go_simp; try with_reducible rfl)
            try simp only [Act.put, List.setIfInBounds_toArray, List.set_cons_zero, List.set_cons_succ]
            refine wpAnyH_take (i := 12) (oi := _) (v := ?_) (by simp only [List.getElem?_toArray, List.getElem?_cons_succ, List.getElem?_cons_zero]; rfl) (by kernel_rfl) (by kernel_rfl) (by kernel_rfl) (by intro _ _ _ h; exact h) (Or.inl ⟨by rfl, ?_⟩) (by assumption) ?_
            rotate_left
            · (intro w hSw; (try dsimp only at hSw); go_simp; try with_reducible rfl)
            try simp only [Act.put, List.setIfInBounds_toArray, List.set_cons_zero, List.set_cons_succ]
            refine wpAnyH_ready (rs := [13]) (by kernel_rfl) (by simp) ?_
            refine AllReadyH.cons (o := _) (by simp only [List.getElem?_toArray, List.getElem?_cons_succ, List.getElem?_cons_zero]; rfl) (fun K hK => ?_) AllReadyH.nil
            go_simp
            refine hK.out _ _ trivial (fun hHeld2 => ?_)
            clear hHeld hK K
            try simp only [Act.put, List.setIfInBounds_toArray, List.set_cons_zero, List.set_cons_succ]
            have hHeld := hHeld2
            clear hHeld2
            refine wpAnyH_done (by kernel_rfl) ?_ _
            go_wp2
            go_roundw
            case rel => exact ⟨n + 1, xl2, by omega, by go_num, congrArg (Value.int .u32) (by rw [← HD.out]; omega), HXL2.out, HS.out, Lib.hid (by rw [HF.out, HNum.out, HM.out, if_pos HB.out, Nat.xor_assoc, HKJ.out]), HK, (hbw.setCell (p := ⟨g, kk, none⟩) hgw _).drew⟩
            case measure => simp [intOf]; omega
          refine AllReadyH.cons (o := _) (by simp only [List.getElem?_toArray, List.getElem?_cons_succ, List.getElem?_cons_zero]; rfl) (fun K hK => ?_) AllReadyH.nil
          go_simp
          refine (hpow _).mono ?_
          rintro e w' ⟨rfl, rfl⟩
          refine hK.out _ _ trivial (fun hHeld2 => ?_)
          clear hHeld hK K
          try simp only [Act.put, List.setIfInBounds_toArray, List.set_cons_zero, List.set_cons_succ]
          have hHeld := hHeld2
          clear hHeld2
          refine wpAnyH_ready (rs := [5]) (by kernel_rfl) (by simp) ?_
          refine AllReadyH.cons (o := _) (by simp only [List.getElem?_toArray, List.getElem?_cons_succ, List.getElem?_cons_zero]; rfl) (fun K hK => ?_) AllReadyH.nil
          go_simp
          refine hK.out _ _ trivial (fun hHeld2 => ?_)
          clear hHeld hK K
          try simp only [Act.put, List.setIfInBounds_toArray, List.set_cons_zero, List.set_cons_succ]
          have hHeld := hHeld2
          clear hHeld2
          refine wpAnyH_take (i := 11) (oi := _) (v := ?_) (by simp only [List.getElem?_toArray, List.getElem?_cons_succ, List.getElem?_cons_zero]; rfl) (by kernel_rfl) (by kernel_rfl) (by kernel_rfl) (by intro _ _ _ h; exact h) (Or.inl ⟨by rfl, ?_⟩) (by assumption) ?_
          rotate_left
          · (intro w hSw; (try dsimp only at hSw); go_simp; try with_reducible rfl)
          try simp only [Act.put, List.setIfInBounds_toArray, List.set_cons_zero, List.set_cons_succ]
          refine wpAnyH_take (i := 12) (oi := _) (v := ?_) (by simp only [List.getElem?_toArray, List.getElem?_cons_succ, List.getElem?_cons_zero]; rfl) (by kernel_rfl) (by kernel_rfl) (by kernel_rfl) (by intro _ _ _ h; exact h) (Or.inl ⟨by rfl, ?_⟩) (by assumption) ?_
          rotate_left
          · (intro w hSw; (try dsimp only at hSw); go_simp; try with_reducible rfl)
          try simp only [Act.put, List.setIfInBounds_toArray, List.set_cons_zero, List.set_cons_succ]
          refine wpAnyH_ready (rs := [13]) (by kernel_rfl) (by simp) ?_
          refine AllReadyH.cons (o := _) (by simp only [List.getElem?_toArray, List.getElem?_cons_succ, List.getElem?_cons_zero]; rfl) (fun K hK => ?_) AllReadyH.nil
          go_simp
          refine hK.out _ _ trivial (fun hHeld2 => ?_)
          clear hHeld hK K
          try simp only [Act.put, List.setIfInBounds_toArray, List.set_cons_zero, List.set_cons_succ]
          have hHeld := hHeld2
          clear hHeld2
          refine wpAnyH_done (by kernel_rfl) ?_ _
          go_wp2
          go_roundw
          case rel => exact ⟨n + 1, xl2, by omega, by go_num, congrArg (Value.int .u32) (by rw [← HD.out]; omega), HXL2.out, HS.out, Lib.hid (by rw [HF.out, HNum.out, HM.out, if_pos HB.out, Nat.xor_assoc, HKJ.out]), HK, (hbw.setCell (p := ⟨g, kk, none⟩) hgw _).drew⟩
          case measure => simp [intOf]; omega
        · have k4 : decide ((2 : Int) ≤ (kk : Int)) = true := by simp; omega
          have k5 : decide ((kk : Int) < 2 + (en : Int)) = false := by simp; omega
          have k6 : ¬ (kk : Int) < 2 + (en : Int) := by omega
          go_wp2_with fail
          refine wp_region_held_drew (S := (fun _ => True)) (by kernel_rfl) (by exact trivial) (fun hHeld => ?_)
          refine wpAnyH_take (i := 0) (oi := _) (v := ?_) (by simp only [List.getElem?_toArray, List.getElem?_cons_zero]; rfl) (by kernel_rfl) (by kernel_rfl) (by kernel_rfl) (by intro _ _ _ h; exact h) (Or.inl ⟨by rfl, ?_⟩) (by assumption) ?_
          rotate_left
          · (intro w hSw; (try dsimp only at hSw); go_simp; try with_reducible rfl)
          try simp only [Act.put, List.setIfInBounds_toArray, List.set_cons_zero, List.set_cons_succ]
          refine wpAnyH_take (i := 1) (oi := _) (v := ?_) (by simp only [List.getElem?_toArray, List.getElem?_cons_succ, List.getElem?_cons_zero]; rfl) (by kernel_rfl) (by kernel_rfl) (by kernel_rfl) (by intro _ _ _ h; exact h) (Or.inl ⟨by rfl, ?_⟩) (by assumption) ?_
          rotate_left
          · (intro w hSw; (try dsimp only at hSw); go_simp; try with_reducible rfl)
          try simp only [Act.put, List.setIfInBounds_toArray, List.set_cons_zero, List.set_cons_succ]
          refine wpAnyH_take (i := 2) (oi := _) (v := ?_) (by simp only [List.getElem?_toArray, List.getElem?_cons_succ, List.getElem?_cons_zero]; rfl) (by kernel_rfl) (by kernel_rfl) (by kernel_rfl) (by intro _ _ _ h; exact h) (Or.inl ⟨by rfl, ?_⟩) (by assumption) ?_
          rotate_left
          · (intro w hSw; (try dsimp only at hSw); go_simp; try with_reducible rfl)
          try simp only [Act.put, List.setIfInBounds_toArray, List.set_cons_zero, List.set_cons_succ]
          refine wpAnyH_take (i := 3) (oi := _) (v := ?_) (by simp only [List.getElem?_toArray, List.getElem?_cons_succ, List.getElem?_cons_zero]; rfl) (by kernel_rfl) (by kernel_rfl) (by kernel_rfl) (by intro _ _ _ h; exact h) (Or.inl ⟨by rfl, ?_⟩) (by assumption) ?_
          rotate_left
          · (intro w hSw; (try dsimp only at hSw); go_simp; try with_reducible rfl)
          try simp only [Act.put, List.setIfInBounds_toArray, List.set_cons_zero, List.set_cons_succ]
          refine wpAnyH_take (i := 4) (oi := _) (v := ?_) (by simp only [List.getElem?_toArray, List.getElem?_cons_succ, List.getElem?_cons_zero]; rfl) (by kernel_rfl) (by kernel_rfl) (by kernel_rfl) (by intro _ _ _ h; exact h) (Or.inl ⟨by rfl, ?_⟩) (by assumption) ?_
          rotate_left
          · (intro w hSw; (try dsimp only at hSw); go_simp; try with_reducible rfl)
          try simp only [Act.put, List.setIfInBounds_toArray, List.set_cons_zero, List.set_cons_succ]
          refine wpAnyH_take (i := 6) (oi := _) (v := ?_) (by simp only [List.getElem?_toArray, List.getElem?_cons_succ, List.getElem?_cons_zero]; rfl) (by kernel_rfl) (by kernel_rfl) (by kernel_rfl) (by intro _ _ _ h; exact h) (Or.inl ⟨by rfl, ?_⟩) (by assumption) ?_
          rotate_left
          · (intro w hSw; (try dsimp only at hSw); go_simp; try with_reducible rfl)
          try simp only [Act.put, List.setIfInBounds_toArray, List.set_cons_zero, List.set_cons_succ]
          refine wpAnyH_take (i := 7) (oi := _) (v := ?_) (by simp only [List.getElem?_toArray, List.getElem?_cons_succ, List.getElem?_cons_zero]; rfl) (by kernel_rfl) (by kernel_rfl) (by kernel_rfl) (by intro _ _ _ h; exact h) (Or.inl ⟨by rfl, ?_⟩) (by assumption) ?_
          rotate_left
          · (intro w hSw; (try dsimp only at hSw); go_simp; try with_reducible rfl)
          try simp only [Act.put, List.setIfInBounds_toArray, List.set_cons_zero, List.set_cons_succ]
          refine wpAnyH_take (i := 8) (oi := _) (v := ?_) (by simp only [List.getElem?_toArray, List.getElem?_cons_succ, List.getElem?_cons_zero]; rfl) (by kernel_rfl) (by kernel_rfl) (by kernel_rfl) (by intro _ _ _ h; exact h) (Or.inl ⟨by rfl, ?_⟩) (by assumption) ?_
          rotate_left
          · (intro w hSw; (try dsimp only at hSw); go_simp; try with_reducible rfl)
          try simp only [Act.put, List.setIfInBounds_toArray, List.set_cons_zero, List.set_cons_succ]
          refine wpAnyH_take (i := 9) (oi := _) (v := ?_) (by simp only [List.getElem?_toArray, List.getElem?_cons_succ, List.getElem?_cons_zero]; rfl) (by kernel_rfl) (by kernel_rfl) (by kernel_rfl) (by intro _ _ _ h; exact h) (Or.inl ⟨by rfl, ?_⟩) (by assumption) ?_
          rotate_left
          · (intro w hSw; (try dsimp only at hSw); go_simp; try with_reducible rfl)
          try simp only [Act.put, List.setIfInBounds_toArray, List.set_cons_zero, List.set_cons_succ]
          refine wpAnyH_ready (rs := [5, 10]) (by kernel_rfl) (by simp) ?_
          refine AllReadyH.cons (o := _) (by simp only [List.getElem?_toArray, List.getElem?_cons_succ, List.getElem?_cons_zero]; rfl) (fun K hK => ?_) ?_
          · go_simp
            refine hK.out _ _ trivial (fun hHeld2 => ?_)
            clear hHeld hK K
            try simp only [Act.put, List.setIfInBounds_toArray, List.set_cons_zero, List.set_cons_succ]
            have hHeld := hHeld2
            clear hHeld2
            refine wpAnyH_ready (rs := [10]) (by kernel_rfl) (by simp) ?_
            refine AllReadyH.cons (o := _) (by simp only [List.getElem?_toArray, List.getElem?_cons_succ, List.getElem?_cons_zero]; rfl) (fun K hK => ?_) AllReadyH.nil
            go_simp
            refine (hpow _).mono ?_
            rintro e w' ⟨rfl, rfl⟩
            refine hK.out _ _ trivial (fun hHeld2 => ?_)
            clear hHeld hK K
            try simp only [Act.put, List.setIfInBounds_toArray, List.set_cons_zero, List.set_cons_succ]
            have hHeld := hHeld2
            clear hHeld2
            refine wpAnyH_take (i := 11) (oi := _) (v := ?_) (by simp only [List.getElem?_toArray, List.getElem?_cons_succ, List.getElem?_cons_zero]; rfl) (by kernel_rfl) (by kernel_rfl) (by kernel_rfl) (by intro _ _ _ h; exact h) (Or.inl ⟨by rfl, ?_⟩) (by assumption) ?_
            rotate_left
            · (intro w hSw; (try dsimp only at hSw); go_simp; try with_reducible rfl)
            try simp only [Act.put, List.setIfInBounds_toArray, List.set_cons_zero, List.set_cons_succ]
            refine wpAnyH_take (i := 12) (oi := _) (v := ?_) (by simp only [List.getElem?_toArray, List.getElem?_cons_succ, List.getElem?_cons_zero]; rfl) (by kernel_rfl) (by kernel_rfl) (by kernel_rfl) (by intro _ _ _ h; exact h) (Or.inl ⟨by rfl, ?_⟩) (by assumption) ?_
            rotate_left
            · (intro w hSw; (try dsimp only at hSw); go_simp; try with_reducible rfl)
            try simp only [Act.put, List.setIfInBounds_toArray, List.set_cons_zero, List.set_cons_succ]
            refine wpAnyH_ready (rs := [13]) (by kernel_rfl) (by simp) ?_
            refine AllReadyH.cons (o := _) (by simp only [List.getElem?_toArray, List.getElem?_cons_succ, List.getElem?_cons_zero]; rfl) (fun K hK => ?_) AllReadyH.nil
            go_simp
            refine hK.out _ _ trivial (fun hHeld2 => ?_)
            clear hHeld hK K
            try simp only [Act.put, List.setIfInBounds_toArray, List.set_cons_zero, List.set_cons_succ]
            have hHeld := hHeld2
            clear hHeld2
            refine wpAnyH_done (by kernel_rfl) ?_ _
            go_wp2
            go_roundw
            case rel => exact ⟨n + 1, xl2, by omega, by go_num, congrArg (Value.int .u32) (by rw [← HD.out]; omega), HXL2.out, HS.out, Lib.hid (by rw [HF.out, HNum.out, HM.out, if_pos HB.out, Nat.xor_assoc, HKJ.out]), HK, (hbw.setCell (p := ⟨g, kk, none⟩) hgw _).drew⟩
            case measure => simp [intOf]; omega
          refine AllReadyH.cons (o := _) (by simp only [List.getElem?_toArray, List.getElem?_cons_succ, List.getElem?_cons_zero]; rfl) (fun K hK => ?_) AllReadyH.nil
          go_simp
          refine (hpow _).mono ?_
          rintro e w' ⟨rfl, rfl⟩
          refine hK.out _ _ trivial (fun hHeld2 => ?_)
          clear hHeld hK K
          try simp only [Act.put, List.setIfInBounds_toArray, List.set_cons_zero, List.set_cons_succ]
          have hHeld := hHeld2
          clear hHeld2
          refine wpAnyH_ready (rs := [5]) (by kernel_rfl) (by simp) ?_
          refine AllReadyH.cons (o := _) (by simp only [List.getElem?_toArray, List.getElem?_cons_succ, List.getElem?_cons_zero]; rfl) (fun K hK => ?_) AllReadyH.nil
          go_simp
          refine hK.out _ _ trivial (fun hHeld2 => ?_)
          clear hHeld hK K
          try simp only [Act.put, List.setIfInBounds_toArray, List.set_cons_zero, List.set_cons_succ]
          have hHeld := hHeld2
          clear hHeld2
          refine wpAnyH_take (i := 11) (oi := _) (v := ?_) (by simp only [List.getElem?_toArray, List.getElem?_cons_succ, List.getElem?_cons_zero]; rfl) (by kernel_rfl) (by kernel_rfl) (by kernel_rfl) (by intro _ _ _ h; exact h) (Or.inl ⟨by rfl, ?_⟩) (by assumption) ?_
          rotate_left
          · (intro w hSw; (try dsimp only at hSw); go_simp; try with_reducible rfl)
          try simp only [Act.put, List.setIfInBounds_toArray, List.set_cons_zero, List.set_cons_succ]
          refine wpAnyH_take (i := 12) (oi := _) (v := ?_) (by simp only [List.getElem?_toArray, List.getElem?_cons_succ, List.getElem?_cons_zero]; rfl) (by kernel_rfl) (by kernel_rfl) (by kernel_rfl) (by intro _ _ _ h; exact h) (Or.inl ⟨by rfl, ?_⟩) (by assumption) ?_
          rotate_left
          · (intro w hSw; (try dsimp only at hSw); go_simp; try with_reducible rfl)
          try simp only [Act.put, List.setIfInBounds_toArray, List.set_cons_zero, List.set_cons_succ]
          refine wpAnyH_ready (rs := [13]) (by kernel_rfl) (by simp) ?_
          refine AllReadyH.cons (o := _) (by simp only [List.getElem?_toArray, List.getElem?_cons_succ, List.getElem?_cons_zero]; rfl) (fun K hK => ?_) AllReadyH.nil
          go_simp
          refine hK.out _ _ trivial (fun hHeld2 => ?_)
          clear hHeld hK K
          try simp only [Act.put, List.setIfInBounds_toArray, List.set_cons_zero, List.set_cons_succ]
          have hHeld := hHeld2
          clear hHeld2
          refine wpAnyH_done (by kernel_rfl) ?_ _
          go_wp2
          go_roundw
          case rel => exact ⟨n + 1, xl2, by omega, by go_num, congrArg (Value.int .u32) (by rw [← HD.out]; omega), HXL2.out, HS.out, Lib.hid (by rw [HF.out, HNum.out, HM.out, if_pos HB.out, Nat.xor_assoc, HKJ.out]), HK, (hbw.setCell (p := ⟨g, kk, none⟩) hgw _).drew⟩
          case measure => simp [intOf]; omega
    · obtain rfl : n = 32 := by omega
      have hne : opE xl 0 ≠ 0 := HBu.out xl HXL.out (by rw [HNum.out, Nat.mod_eq_of_lt (show p < 2 ^ 32 from hp)]) hp hp0 (by omega) (by rw [HEN.out]; exact HLen.out)
      obtain ⟨b1, b2, b3, _⟩ := op_bad rfl hne
      have hop := open_any xl (some ⟨g, 0, none⟩) c3 (by rw [HXL.out]; exact hc3) 0 wr HRow.out.bytes (by rw [HXL.out]; omega)
      unfold RetOpen at hop
      rw [b1, b2, b3, HXL.out] at hop
      have f5 : (opE xl 0 == 0) = false := by simpa using hne
      have f6 : (opE xl 0 != 0) = true := by simpa using hne
      clear b1 b2 b3 hne
      generalize opE xl 0 = E at *
      go_wp2_with fail
      refine hop.mono ?_
      clear hop
      rintro e w5 ⟨A5, c5, rfl, y5, g5⟩
      clear y5
      go_wp2_with fail
      refine (awake_any _).mono ?_
      rintro e w6 ⟨rfl, g6⟩
      go_wp2
      go_ret
      exact Ret.mk rfl (Below.step (Below.step hbw g5) g6)
end Go.Proofs.Ytefjjjclgcidnaa
