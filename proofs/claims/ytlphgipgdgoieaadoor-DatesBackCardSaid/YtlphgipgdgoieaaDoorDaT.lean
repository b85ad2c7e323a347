/- The texts of days: plain mathematics, of no program. -/
import Derived.Test.YtlphgipgdgoieaaDoorDaM
import Derived.Test.YtlphgipgdgoieaaDoorNumT
namespace Go.Proofs.YtlphgipgdgoieaaDoor
open Go.Lib

def dg (n : Nat) : UInt8 := UInt8.ofNat (48 + n)
theorem dg_nat {n : Nat} (h : n < 10) : (dg n).toNat = 48 + n := dig_toNat h
theorem dg_isDig {n : Nat} (h : n < 10) : isDig (dg n) := isDig_of h
theorem dg_inj {a b : Nat} (ha : a < 10) (hb : b < 10) (h : dg a = dg b) : a = b := by
  have := congrArg UInt8.toNat h
  rw [dg_nat ha, dg_nat hb] at this
  omega
theorem dg_of {c : UInt8} (h : isDig c) : dg (c.toNat - 48) = c := by
  obtain ⟨h1, h2⟩ := h
  apply UInt8.toNat_inj.1
  rw [dg_nat (by omega)]
  omega
theorem dg_ne {n : Nat} (h : n < 10) : dg n ≠ 45 := fun e => by
  have := congrArg UInt8.toNat e
  rw [dg_nat h] at this
  have : (45 : UInt8).toNat = 45 := rfl
  omega
def d2 (n : Nat) : List UInt8 := [dg (n / 10), dg (n % 10)]
def d4 (n : Nat) : List UInt8 := [dg (n / 1000), dg (n / 100 % 10), dg (n / 10 % 10), dg (n % 10)]
def txt (y m d : Nat) : List UInt8 := d4 y ++ 45 :: (d2 m ++ 45 :: d2 d)
theorem txt_len (y m d : Nat) : (txt y m d).length = 10 := rfl
theorem val_d2 {n : Nat} (h : n < 100) : val 0 (d2 n) = n := by
  show val (val 0 [dg (n / 10)]) [dg (n % 10)] = n
  rw [val_c (d := n / 10) (dg_nat (by omega)), val_c (d := n % 10) (dg_nat (by omega))]
  omega
theorem val_d4 {n : Nat} (h : n < 10000) : val 0 (d4 n) = n := by
  show val (val (val (val 0 [dg (n / 1000)]) [dg (n / 100 % 10)]) [dg (n / 10 % 10)]) [dg (n % 10)] = n
  rw [val_c (d := n / 1000) (dg_nat (by omega)), val_c (d := n / 100 % 10) (dg_nat (by omega)), val_c (d := n / 10 % 10) (dg_nat (by omega)), val_c (d := n % 10) (dg_nat (by omega))]
  omega
theorem dig_d2 {n : Nat} (h : n < 100) : ∀ c ∈ d2 n, isDig c := by
  intro c hc
  simp [d2] at hc
  rcases hc with rfl | rfl <;> exact dg_isDig (by omega)
theorem dig_d4 {n : Nat} (h : n < 10000) : ∀ c ∈ d4 n, isDig c := by
  intro c hc
  simp [d4] at hc
  rcases hc with rfl | rfl | rfl | rfl <;> exact dg_isDig (by omega)
/-- The decimal digits of a number of four. -/
theorem dec_d4 {n : Nat} (h1 : 1000 ≤ n) (h2 : n < 10000) : decDigits n = d4 n := by
  rw [dec_big (by omega), dec_big (u := n / 10) (by omega), dec_big (u := n / 10 / 10) (by omega), dec_small (u := n / 10 / 10 / 10) (by omega)]
  simp only [d4, dg, Nat.div_div_eq_div_mul, List.cons_append, List.nil_append]
theorem dec_d2 {n : Nat} (h1 : 10 ≤ n) (h2 : n < 100) : decDigits n = d2 n := by
  rw [dec_big (by omega), dec_small (u := n / 10) (by omega)]
  rfl
theorem dec_d1 {n : Nat} (h : n < 10) : 48 :: decDigits n = d2 n := by
  rw [dec_small h]
  simp only [d2, dg]
  rw [Nat.div_eq_of_lt h, Nat.mod_eq_of_lt h]
  rfl

/-- Two and four digits are what their numbers' digits are. -/
theorem d2_val {a b : UInt8} (ha : isDig a) (hb : isDig b) : val 0 [a, b] < 100 ∧ d2 (val 0 [a, b]) = [a, b] := by
  obtain ⟨a1, a2⟩ := ha
  obtain ⟨b1, b2⟩ := hb
  have e : val 0 [a, b] = (a.toNat - 48) * 10 + (b.toNat - 48) := by
    show val (val 0 [a]) [b] = _
    rw [val_c (c := a) (d := a.toNat - 48) (by omega), val_c (c := b) (d := b.toNat - 48) (by omega)]
    omega
  rw [e]
  refine ⟨by omega, ?_⟩
  unfold d2
  rw [show ((a.toNat - 48) * 10 + (b.toNat - 48)) / 10 = a.toNat - 48 by omega, show ((a.toNat - 48) * 10 + (b.toNat - 48)) % 10 = b.toNat - 48 by omega, dg_of ⟨a1, a2⟩, dg_of ⟨b1, b2⟩]
theorem d4_val {a b c d : UInt8} (ha : isDig a) (hb : isDig b) (hc : isDig c) (hd : isDig d) : val 0 [a, b, c, d] < 10000 ∧ d4 (val 0 [a, b, c, d]) = [a, b, c, d] := by
  obtain ⟨a1, a2⟩ := ha
  obtain ⟨b1, b2⟩ := hb
  obtain ⟨c1, c2⟩ := hc
  obtain ⟨e1, e2⟩ := hd
  have e : val 0 [a, b, c, d] = (a.toNat - 48) * 1000 + (b.toNat - 48) * 100 + (c.toNat - 48) * 10 + (d.toNat - 48) := by
    show val (val (val (val 0 [a]) [b]) [c]) [d] = _
    rw [val_c (c := a) (d := a.toNat - 48) (by omega), val_c (c := b) (d := b.toNat - 48) (by omega), val_c (c := c) (d := c.toNat - 48) (by omega), val_c (c := d) (d := d.toNat - 48) (by omega)]
    omega
  rw [e]
  refine ⟨by omega, ?_⟩
  unfold d4
  generalize hA : a.toNat - 48 = A at *
  generalize hB : b.toNat - 48 = B at *
  generalize hC : c.toNat - 48 = C at *
  generalize hD : d.toNat - 48 = D at *
  rw [show (A * 1000 + B * 100 + C * 10 + D) / 1000 = A by omega, show (A * 1000 + B * 100 + C * 10 + D) / 100 % 10 = B by omega, show (A * 1000 + B * 100 + C * 10 + D) / 10 % 10 = C by omega, show (A * 1000 + B * 100 + C * 10 + D) % 10 = D by omega]
  rw [← hA, ← hB, ← hC, ← hD, dg_of ⟨a1, a2⟩, dg_of ⟨b1, b2⟩, dg_of ⟨c1, c2⟩, dg_of ⟨e1, e2⟩]

/-- The reference's number: -1 if another byte than a digit is there. -/
def numR (l : List UInt8) : Int := if ∀ c ∈ l, isDig c then (val 0 l : Int) else -1
theorem numR_d2 {n : Nat} (h : n < 100) : numR (d2 n) = n := by unfold numR; rw [if_pos (dig_d2 h), val_d2 h]
theorem numR_d4 {n : Nat} (h : n < 10000) : numR (d4 n) = n := by unfold numR; rw [if_pos (dig_d4 h), val_d4 h]
theorem numR_pos {l : List UInt8} (h : 0 ≤ numR l) : (∀ c ∈ l, isDig c) ∧ numR l = val 0 l := by
  unfold numR at h ⊢
  by_cases c : ∀ c ∈ l, isDig c
  · rw [if_pos c]; exact ⟨c, rfl⟩
  · rw [if_neg c] at h; omega

/-- The reference's Parse. -/
def parR (l : List UInt8) : Option Int :=
  match l with
  | [a, b, c, d, s, e, f, t, g, h] => if s = 45 ∧ t = 45 ∧ Valid (numR [a, b, c, d]) (numR [e, f]) (numR [g, h]) then some (dayN (numR [a, b, c, d]) (numR [e, f]) (numR [g, h])) else none
  | _ => none
theorem parR_txt {y m d : Nat} (h : Valid y m d) : parR (txt y m d) = some (dayN y m d) := by
  obtain ⟨h1, h2, h3, h4, h5, h6⟩ := h
  have h7 := (dim_pos y m).2
  have e1 := numR_d4 (n := y) (by omega)
  have e2 := numR_d2 (n := m) (by omega)
  have e3 := numR_d2 (n := d) (by omega)
  simp only [d4, d2] at e1 e2 e3
  show (if (45 : UInt8) = 45 ∧ (45 : UInt8) = 45 ∧ Valid (numR [_, _, _, _]) (numR [_, _]) (numR [_, _]) then _ else _) = _
  rw [e1, e2, e3, if_pos ⟨rfl, rfl, h1, h2, h3, h4, h5, h6⟩]
theorem parR_some {l : List UInt8} {n : Int} (h : parR l = some n) : ∃ y m d : Nat, Valid y m d ∧ n = dayN y m d ∧ l = txt y m d := by
  unfold parR at h
  split at h
  · rename_i a b c d s e f t g k
    split at h
    · rename_i hc
      obtain ⟨rfl, rfl, hv⟩ := hc
      have hv' := hv
      obtain ⟨v1, _, v3, _, v5, _⟩ := hv'
      obtain ⟨q1, r1⟩ := numR_pos (l := [a, b, c, d]) (by omega)
      obtain ⟨q2, r2⟩ := numR_pos (l := [e, f]) (by omega)
      obtain ⟨q3, r3⟩ := numR_pos (l := [g, k]) (by omega)
      rw [r1, r2, r3] at hv h
      refine ⟨_, _, _, hv, (Option.some.inj h).symm, ?_⟩
      have z1 := (d4_val (q1 a (by simp)) (q1 b (by simp)) (q1 c (by simp)) (q1 d (by simp))).2
      have z2 := (d2_val (q2 e (by simp)) (q2 f (by simp))).2
      have z3 := (d2_val (q3 g (by simp)) (q3 k (by simp))).2
      unfold txt
      rw [z1, z2, z3]
      rfl
    · cases h
  · cases h

/-- The text of a number of a day. -/
noncomputable def txtN (n : Int) : List UInt8 := if 1 ≤ n ∧ n ≤ 109573 then txt (civ n).1.toNat (civ n).2.1.toNat (civ n).2.2.toNat else []
theorem txtN_day {y m d : Nat} (h : Valid y m d) : txtN (dayN y m d) = txt y m d := by
  have hc : IsC (dayN y m d) y m d := ⟨h, rfl⟩
  unfold txtN
  rw [if_pos (valid_range hc), civ_is hc]
  rfl
theorem parR_txtN {n : Int} (h1 : 1 ≤ n) (h2 : n ≤ 109573) : parR (txtN n) = some n := by
  have hc := civ_ok h1 h2
  unfold txtN
  rw [if_pos ⟨h1, h2⟩]
  obtain ⟨hv, hn⟩ := hc
  obtain ⟨v1, v2, v3, v4, v5, v6⟩ := hv
  have e1 : (((civ n).1.toNat : Nat) : Int) = (civ n).1 := by omega
  have e2 : (((civ n).2.1.toNat : Nat) : Int) = (civ n).2.1 := by omega
  have e3 : (((civ n).2.2.toNat : Nat) : Int) = (civ n).2.2 := by omega
  rw [parR_txt (by rw [e1, e2, e3]; exact ⟨v1, v2, v3, v4, v5, v6⟩), e1, e2, e3, hn]
/-- What is parsed has this text. -/
theorem parR_iff {l : List UInt8} {n : Int} : parR l = some n ↔ 1 ≤ n ∧ n ≤ 109573 ∧ txtN n = l := by
  constructor
  · intro h
    obtain ⟨y, m, d, hv, rfl, rfl⟩ := parR_some h
    have hr := valid_range (n := dayN y m d) ⟨hv, rfl⟩
    exact ⟨hr.1, hr.2, txtN_day hv⟩
  · rintro ⟨h1, h2, rfl⟩
    exact parR_txtN h1 h2
end Go.Proofs.YtlphgipgdgoieaaDoor
