/- Numerals: what is written and what is read; plain mathematics, of no program. -/
import Derived.Lib.ItoaNum
import Derived.Lib.ItoaMem
import Derived.Lib.AtoiAll
import Derived.Lib.ItoaLen
namespace Go.Proofs.YtlphgipgdgoieaaDoor
open Go.Lib (decDigits itoa atoiAll parseUint10 parseMag NumEnd)

/-- The limit MaxNum. -/
def lim : Nat := 1099511627776

def isDig (c : UInt8) : Prop := 48 ≤ c.toNat ∧ c.toNat ≤ 57
instance (c : UInt8) : Decidable (isDig c) := by unfold isDig; infer_instance

/-- The value of digits behind a value. -/
def val (acc : Nat) : List UInt8 → Nat
  | [] => acc
  | c :: r => val (acc * 10 + (c.toNat - 48)) r

theorem val_append (a b : List UInt8) : ∀ acc, val acc (a ++ b) = val (val acc a) b := by
  induction a with
  | nil => intro acc; rfl
  | cons c a ih => intro acc; exact ih _
theorem val_le (l : List UInt8) : ∀ acc, acc ≤ val acc l := by
  induction l with
  | nil => intro acc; exact Nat.le_refl _
  | cons c l ih => intro acc; refine Nat.le_trans ?_ (ih _); omega

theorem dig_toNat {d : Nat} (h : d < 10) : (UInt8.ofNat (48 + d)).toNat = 48 + d := by simp; omega

theorem dec_small {u : Nat} (h : u < 10) : decDigits u = [UInt8.ofNat (48 + u)] := by rw [decDigits, dif_pos h]
theorem dec_big {u : Nat} (h : ¬ u < 10) : decDigits u = decDigits (u / 10) ++ [UInt8.ofNat (48 + u % 10)] := by rw [decDigits, dif_neg h]

theorem val_c {acc d : Nat} {c : UInt8} (e : c.toNat = 48 + d) : val acc [c] = acc * 10 + d := by
  have h : val acc [c] = acc * 10 + (c.toNat - 48) := rfl
  rw [h, e]
  omega
theorem val_one {acc d : Nat} (h : d < 10) : val acc [UInt8.ofNat (48 + d)] = acc * 10 + d := val_c (dig_toNat h)
theorem dec_val (u : Nat) : val 0 (decDigits u) = u := by
  induction u using Nat.strongRecOn with
  | _ u ih =>
    by_cases h : u < 10
    · rw [dec_small h, val_one h, Nat.zero_mul, Nat.zero_add]
    · rw [dec_big h, val_append, ih (u / 10) (by omega), val_one (Nat.mod_lt _ (by decide))]
      omega
theorem isDig_c {d : Nat} {c : UInt8} (h : d < 10) (e : c.toNat = 48 + d) : isDig c := ⟨by omega, by omega⟩
theorem isDig_of {d : Nat} (h : d < 10) : isDig (UInt8.ofNat (48 + d)) := isDig_c h (dig_toNat h)
theorem dec_dig (u : Nat) : ∀ c ∈ decDigits u, isDig c := by
  induction u using Nat.strongRecOn with
  | _ u ih =>
    by_cases h : u < 10
    · rw [dec_small h]; intro c hc; rw [List.mem_singleton.1 hc]; exact isDig_of h
    · rw [dec_big h]
      intro c hc
      rcases List.mem_append.1 hc with hc | hc
      · exact ih _ (by omega) c hc
      · rw [List.mem_singleton.1 hc]; exact isDig_of (Nat.mod_lt _ (by decide))
theorem dec_ne (u : Nat) : decDigits u ≠ [] := by
  by_cases h : u < 10
  · rw [dec_small h]; simp
  · rw [dec_big h]; simp

theorem parse_step (c : UInt8) (r : List UInt8) (acc N : Nat) (hN : N ≤ 18446744073709551616) (hc : isDig c) (h : acc * 10 + (c.toNat - 48) < N) : parseUint10 acc (c :: r) = parseUint10 (acc * 10 + (c.toNat - 48)) r := by
  have hc' : 48 ≤ c.toNat ∧ c.toNat ≤ 57 := hc
  simp only [parseUint10, if_pos hc']
  rw [if_neg (by omega), if_neg (by omega)]
/-- Digits whose value a uint64 holds are parsed. -/
theorem parse_dig (N : Nat) (hN : N ≤ 18446744073709551616) (l : List UInt8) : ∀ acc : Nat, (∀ c ∈ l, isDig c) → val acc l < N → parseUint10 acc l = .ok (val acc l) := by
  induction l with
  | nil => intro acc _ _; rfl
  | cons c r ih =>
    intro acc hd hv
    have e : val acc (c :: r) = val (acc * 10 + (c.toNat - 48)) r := rfl
    have h1 := val_le r (acc * 10 + (c.toNat - 48))
    rw [e] at hv
    rw [parse_step c r acc N hN (hd c List.mem_cons_self) (Nat.lt_of_le_of_lt h1 hv), ih _ (fun x hx => hd x (List.mem_cons_of_mem _ hx)) hv, e]

theorem mag_dec {u : Nat} (h : u < 18446744073709551616) : parseMag (decDigits u) = .ok u := by
  unfold parseMag
  rw [if_neg (dec_ne u), parse_dig _ (Nat.le_refl _) _ 0 (dec_dig u) (by rw [dec_val]; exact h), dec_val]

theorem itoa_pos (u : Nat) : itoa (u : Int) = decDigits u := Lib.itoa_nonneg u
theorem itoa_minus {u : Nat} (h : 1 ≤ u) : itoa (-(u : Int)) = 45 :: decDigits u := Lib.itoa_neg u h

theorem atoi_itoa {n : Int} (h0 : -9223372036854775808 ≤ n) (h1 : n ≤ 9223372036854775807) : atoiAll (itoa n) = .ok n := by
  by_cases hn : 0 ≤ n
  · obtain ⟨u, rfl⟩ := Int.eq_ofNat_of_zero_le hn
    rw [itoa_pos]
    have hne := dec_ne u
    have hd := dec_dig u
    have hm := mag_dec (u := u) (by omega)
    match h : decDigits u, hne with
    | c :: r, _ =>
      rw [h] at hd hm
      have hc : 48 ≤ c.toNat ∧ c.toNat ≤ 57 := hd c (by simp)
      unfold atoiAll
      simp only
      rw [if_neg (show ¬ (c.toNat = 43 ∨ c.toNat = 45) by omega), hm]
      simp only
      rw [if_neg (by omega), if_neg (by omega), if_neg (by omega)]
  · obtain ⟨u, rfl⟩ : ∃ u : Nat, n = -(u : Int) := ⟨n.natAbs, by omega⟩
    rw [itoa_minus (by omega)]
    have hm := mag_dec (u := u) (by omega)
    unfold atoiAll
    simp only
    have h45 : (45 : UInt8).toNat = 45 := rfl
    rw [if_pos (Or.inr h45), hm]
    simp only
    rw [if_neg (by simp), if_neg (by omega), if_pos h45]

/-- What Parse gives. -/
def parseS (s : List UInt8) : Option Int :=
  match atoiAll s with
  | .ok v => if -(lim : Int) ≤ v ∧ v ≤ lim ∧ itoa v = s then some v else none
  | _ => none

theorem parseS_some {s : List UInt8} {v : Int} (h : parseS s = some v) : -(lim : Int) ≤ v ∧ v ≤ lim ∧ itoa v = s := by
  unfold parseS at h
  split at h
  · split at h
    · injection h with h; subst h; assumption
    · cases h
  · cases h
theorem parseS_itoa {v : Int} (h0 : -(lim : Int) ≤ v) (h1 : v ≤ lim) : parseS (itoa v) = some v := by
  unfold parseS
  rw [atoi_itoa (by unfold lim at h0; omega) (by unfold lim at h1; omega)]
  exact if_pos ⟨h0, h1, rfl⟩
theorem parseS_big {v : Int} (h0 : -9223372036854775808 ≤ v) (h1 : v ≤ 9223372036854775807) (h : ¬ (-(lim : Int) ≤ v ∧ v ≤ lim)) : parseS (itoa v) = none := by
  unfold parseS
  rw [atoi_itoa h0 h1]
  exact if_neg fun h' => h ⟨h'.1, h'.2.1⟩

/-! ### The reference -/
/-- The reference's loop over the digits. -/
def refL (acc : Nat) : List UInt8 → Option Nat
  | [] => some acc
  | c :: r => if isDig c then (if lim < acc * 10 + (c.toNat - 48) then none else refL (acc * 10 + (c.toNat - 48)) r) else none

theorem refL_step (c : UInt8) (r : List UInt8) (acc : Nat) (hc : isDig c) (h : acc * 10 + (c.toNat - 48) ≤ lim) : refL acc (c :: r) = refL (acc * 10 + (c.toNat - 48)) r := by
  rw [refL, if_pos hc, if_neg (Nat.not_lt.2 h)]
theorem refL_dig (l : List UInt8) : ∀ acc : Nat, (∀ c ∈ l, isDig c) → val acc l ≤ lim → refL acc l = some (val acc l) := by
  induction l with
  | nil => intro acc _ _; rfl
  | cons c r ih =>
    intro acc hd hv
    have e : val acc (c :: r) = val (acc * 10 + (c.toNat - 48)) r := rfl
    have h1 := val_le r (acc * 10 + (c.toNat - 48))
    rw [e] at hv
    rw [refL_step c r acc (hd c List.mem_cons_self) (Nat.le_trans h1 hv), ih _ (fun x hx => hd x (List.mem_cons_of_mem _ hx)) hv, e]
theorem refL_le (l : List UInt8) : ∀ acc m : Nat, acc ≤ lim → refL acc l = some m → m ≤ lim := by
  induction l with
  | nil => intro acc m ha h; injection h with h; rw [← h]; exact ha
  | cons c r ih =>
    intro acc m ha h
    rw [refL] at h
    by_cases hc : isDig c
    · rw [if_pos hc] at h
      by_cases hb : lim < acc * 10 + (c.toNat - 48)
      · rw [if_pos hb] at h; cases h
      · rw [if_neg hb] at h; exact ih _ m (Nat.not_lt.1 hb) h
    · rw [if_neg hc] at h; cases h

/-- Where the digits begin. -/
def atOf (s : List UInt8) : Nat := if s.head? = some 45 then 1 else 0
/-- The sign. -/
def signed (s : List UInt8) (m : Nat) : Int := if s.head? = some 45 then -(m : Int) else m

def refP (s : List UInt8) : Option Int :=
  match refL 0 (s.drop (atOf s)) with
  | none => none
  | some m => if itoa (signed s m) = s then some (signed s m) else none

theorem refP_eq (s : List UInt8) : refP s = parseS s := by
  have key : ∀ v : Int, -(lim : Int) ≤ v → v ≤ lim → refP (itoa v) = some v := by
    intro v h0 h1
    by_cases hn : 0 ≤ v
    · obtain ⟨u, rfl⟩ := Int.eq_ofNat_of_zero_le hn
      have hne := dec_ne u
      have hd := dec_dig u
      have hv := dec_val u
      have hh : (decDigits u).head? ≠ some 45 := by
        intro h
        have : isDig 45 := hd 45 (List.mem_of_head? h)
        revert this; decide
      rw [itoa_pos]
      unfold refP
      have e1 : atOf (decDigits u) = 0 := if_neg hh
      have e2 : signed (decDigits u) u = u := if_neg hh
      rw [e1, List.drop_zero, refL_dig _ _ hd (by rw [hv]; omega), hv]
      simp only
      rw [e2, if_pos (itoa_pos u)]
    · obtain ⟨u, rfl⟩ : ∃ u : Nat, v = -(u : Int) := ⟨v.natAbs, by omega⟩
      have hd := dec_dig u
      have hv := dec_val u
      rw [itoa_minus (by omega)]
      unfold refP
      have e1 : atOf (45 :: decDigits u) = 1 := if_pos rfl
      have e2 : signed (45 :: decDigits u) u = -(u : Int) := if_pos rfl
      rw [e1, List.drop_one, List.tail_cons, refL_dig _ _ hd (by rw [hv]; omega), hv]
      simp only
      rw [e2, if_pos (itoa_minus (by omega))]
  cases h : parseS s with
  | some v =>
    obtain ⟨h0, h1, rfl⟩ := parseS_some h
    exact key v h0 h1
  | none =>
    unfold refP
    cases hr : refL 0 (s.drop (atOf s)) with
    | none => rfl
    | some m =>
      simp only
      have hm := refL_le _ _ _ (Nat.zero_le _) hr
      by_cases he : itoa (signed s m) = s
      · exfalso
        have hb : -(lim : Int) ≤ signed s m ∧ signed s m ≤ lim := by unfold signed; split <;> constructor <;> omega
        have := parseS_itoa hb.1 hb.2
        rw [he, h] at this
        cases this
      · exact if_neg he

/-- The digits of a number, of 0 none: what the reference's Text has written. -/
def decT (u : Nat) : List UInt8 := if u = 0 then [] else decDigits u
theorem decT_zero : decT 0 = [] := rfl
theorem decT_pos {u : Nat} (h : u ≠ 0) : decT u = decDigits u := if_neg h
theorem decT_step {u : Nat} (h : u ≠ 0) : decT u = decT (u / 10) ++ [UInt8.ofNat (48 + u % 10)] := by
  rw [decT_pos h]
  by_cases h1 : u < 10
  · rw [dec_small h1, show u / 10 = 0 by omega, decT_zero, show u % 10 = u by omega]; rfl
  · rw [dec_big h1, decT_pos (by omega)]
theorem itoa_length {n : Int} (h0 : -9223372036854775808 ≤ n) (h1 : n ≤ 9223372036854775807) : (itoa n).length ≤ 21 := Lib.itoa_length_le n h0 h1
end Go.Proofs.YtlphgipgdgoieaaDoor
