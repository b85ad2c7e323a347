/- Words and lines: plain mathematics. -/
import Derived.Test.YtdjlfbfipkalbaaDoorBase
import Derived.Lib.Split
import Derived.Lib.IndexBytes
import Derived.Lib.Join
namespace Go.Proofs.YtdjlfbfipkalbaaDoor

/-! ### Single bytes -/
def plainB (c : UInt8) : Bool := decide (32 < c.toNat) && decide (c.toNat ≠ 37) && decide (c.toNat ≠ 127)
/-- The hexadecimal digits. -/
def hexL : List UInt8 := [48, 49, 50, 51, 52, 53, 54, 55, 56, 57, 97, 98, 99, 100, 101, 102]
def hx (n : Nat) : UInt8 := hexL.getD n 0
/-- The value of a digit, or -1. -/
def ix (c : UInt8) : Int := Lib.indexByte hexL c
def q1 (c : UInt8) : List UInt8 := if plainB c then [c] else [37, hx (c.toNat / 16), hx (c.toNat % 16)]
def qs (s : List UInt8) : List UInt8 := s.flatMap q1
/-- The word of a string. -/
def quote (s : List UInt8) : List UInt8 := if s = [] then [37, 45] else qs s

theorem all_u8 {p : UInt8 → Prop} (h : ∀ n, n < 256 → p (UInt8.ofNat n)) (c : UInt8) : p c := by
  have := h c.toNat c.toNat_lt
  rwa [UInt8.ofNat_toNat] at this

theorem ix_hx : ∀ n, n < 16 → ix (hx n) = (n : Int) := by decide +kernel
theorem hx_ne : ∀ n, n < 16 → hx n ≠ 37 ∧ hx n ≠ 32 ∧ hx n ≠ 10 ∧ hx n ≠ 45 := by decide +kernel
theorem ix_range : ∀ c : UInt8, -1 ≤ ix c ∧ ix c < 16 := all_u8 (by decide +kernel)
theorem hx_ix : ∀ c : UInt8, 0 ≤ ix c → hx (ix c).toNat = c := all_u8 (by decide +kernel)
theorem plain_ne {c : UInt8} (h : plainB c = true) : c ≠ 37 ∧ c ≠ 32 ∧ c ≠ 10 := by
  refine ⟨?_, ?_, ?_⟩ <;> (rintro rfl; exact absurd h (by decide))
theorem plain_true {c : UInt8} (h1 : 32 < c.toNat) (h2 : c.toNat ≠ 37) (h3 : c.toNat ≠ 127) : plainB c = true := by
  unfold plainB; rw [decide_eq_true h1, decide_eq_true h2, decide_eq_true h3]; rfl

theorem qs_nil : qs [] = [] := rfl
theorem qs_cons (c : UInt8) (s : List UInt8) : qs (c :: s) = q1 c ++ qs s := rfl
theorem qs_append (a b : List UInt8) : qs (a ++ b) = qs a ++ qs b := by simp [qs]
theorem q1_plain {c : UInt8} (h : plainB c = true) : q1 c = [c] := by unfold q1; rw [h]; rfl
theorem q1_not {c : UInt8} (h : plainB c = false) : q1 c = [37, hx (c.toNat / 16), hx (c.toNat % 16)] := by unfold q1; rw [h]; rfl
theorem q1_len (c : UInt8) : 1 ≤ (q1 c).length ∧ (q1 c).length ≤ 3 := by unfold q1; split <;> simp
theorem qs_len (s : List UInt8) : s.length ≤ (qs s).length ∧ (qs s).length ≤ 3 * s.length := by
  induction s with
  | nil => simp [qs]
  | cons c s ih => have := q1_len c; rw [qs_cons, List.length_append, List.length_cons]; omega
theorem qs_ne {s : List UInt8} (h : s ≠ []) : qs s ≠ [] := by
  intro e
  have := (qs_len s).1
  rw [e] at this
  exact h (List.eq_nil_of_length_eq_zero (by simpa using this))
theorem quote_len (s : List UInt8) : 1 ≤ (quote s).length ∧ (quote s).length ≤ 3 * s.length + 2 := by
  unfold quote
  split
  · simp
  · rename_i h
    have := qs_len s
    have h2 : 0 < s.length := List.length_pos_iff.2 h
    omega

/-! ### Reading a word -/
def unq : List UInt8 → Option (List UInt8)
  | [] => some []
  | c :: r =>
    if c = 37 then
      match r with
      | h :: l :: t =>
        if ix h < 0 ∨ ix l < 0 then none
        else if plainB (UInt8.ofNat (16 * (ix h).toNat + (ix l).toNat)) then none
        else (unq t).map (UInt8.ofNat (16 * (ix h).toNat + (ix l).toNat) :: ·)
      | _ => none
    else if plainB c then (unq r).map (c :: ·) else none

theorem unq_plain {c : UInt8} (h : plainB c = true) (r : List UInt8) : unq (c :: r) = (unq r).map (c :: ·) := by
  have h37 := (plain_ne h).1
  rw [unq.eq_def]
  simp only [h37, if_false, h, if_true]
theorem unq_bad {c : UInt8} (hc : c ≠ 37) (h : plainB c = false) (r : List UInt8) : unq (c :: r) = none := by
  rw [unq.eq_def]
  simp [hc, h]
theorem unq_short (r : List UInt8) (h : r.length < 2) : unq (37 :: r) = none := by
  match r, h with
  | [], _ => rfl
  | [a], _ => rfl
theorem unq_esc (h l : UInt8) (t : List UInt8) : unq (37 :: h :: l :: t) = if ix h < 0 ∨ ix l < 0 then none else if plainB (UInt8.ofNat (16 * (ix h).toNat + (ix l).toNat)) then none else (unq t).map (UInt8.ofNat (16 * (ix h).toNat + (ix l).toNat) :: ·) := by
  rw [unq.eq_def]; rfl

theorem byte_parts (c : UInt8) : UInt8.ofNat (16 * (c.toNat / 16) + c.toNat % 16) = c := by
  rw [show 16 * (c.toNat / 16) + c.toNat % 16 = c.toNat by omega, UInt8.ofNat_toNat]
theorem unq_q1 (c : UInt8) (r : List UInt8) : unq (q1 c ++ r) = (unq r).map (c :: ·) := by
  cases hp : plainB c with
  | true => rw [q1_plain hp]; exact unq_plain hp r
  | false =>
    have hlt := c.toNat_lt
    rw [q1_not hp]
    show unq (37 :: hx (c.toNat / 16) :: hx (c.toNat % 16) :: r) = _
    rw [unq_esc, ix_hx _ (by omega), ix_hx _ (by omega), if_neg (by omega), Int.toNat_natCast, Int.toNat_natCast, byte_parts, hp, if_neg (by decide)]
theorem unq_qs (s : List UInt8) : unq (qs s) = some s := by
  induction s with
  | nil => rfl
  | cons c s ih => rw [qs_cons, unq_q1, ih]; rfl
theorem esc_is {h l : UInt8} (h1 : 0 ≤ ix h) (h2 : 0 ≤ ix l) : [37, h, l] = [37, hx ((UInt8.ofNat (16 * (ix h).toNat + (ix l).toNat)).toNat / 16), hx ((UInt8.ofNat (16 * (ix h).toNat + (ix l).toNat)).toNat % 16)] := by
  have r1 := ix_range h
  have r2 := ix_range l
  have e : (UInt8.ofNat (16 * (ix h).toNat + (ix l).toNat)).toNat = 16 * (ix h).toNat + (ix l).toNat := by
    rw [UInt8.toNat_ofNat']; omega
  rw [e, show (16 * (ix h).toNat + (ix l).toNat) / 16 = (ix h).toNat by omega, show (16 * (ix h).toNat + (ix l).toNat) % 16 = (ix l).toNat by omega, hx_ix h h1, hx_ix l h2]
theorem qs_unq : ∀ (n : Nat) (w s : List UInt8), w.length ≤ n → unq w = some s → qs s = w := by
  intro n
  induction n with
  | zero =>
    intro w s hn h
    obtain rfl : w = [] := List.eq_nil_of_length_eq_zero (by omega)
    have : s = [] := by simpa [unq] using h.symm
    rw [this]; rfl
  | succ n ih =>
    intro w s hn h
    match w, h with
    | [], h =>
      have : s = [] := by simpa [unq] using h.symm
      rw [this]; rfl
    | c :: r, h =>
      by_cases hc : c = 37
      · subst hc
        match r, h with
        | [], h => exact absurd h (by simp [unq])
        | [a], h => exact absurd h (by simp [unq])
        | a :: b :: t, h =>
          rw [unq_esc] at h
          by_cases hn' : ix a < 0 ∨ ix b < 0
          · rw [if_pos hn'] at h; cases h
          rw [if_neg hn'] at h
          by_cases hp : plainB (UInt8.ofNat (16 * (ix a).toNat + (ix b).toNat)) = true
          · rw [if_pos hp] at h; cases h
          rw [if_neg hp] at h
          cases ht : unq t with
          | none => rw [ht] at h; cases h
          | some u =>
            rw [ht] at h
            have hs : s = UInt8.ofNat (16 * (ix a).toNat + (ix b).toNat) :: u := by simpa using h.symm
            rw [hs, qs_cons, q1_not (by simpa using hp), ← esc_is (by omega) (by omega), ih t u (by simp at hn; omega) ht]
            rfl
      · cases hp : plainB c with
        | false => rw [unq_bad hc hp] at h; cases h
        | true =>
          rw [unq_plain hp] at h
          cases ht : unq r with
          | none => rw [ht] at h; cases h
          | some u =>
            rw [ht] at h
            have hs : s = c :: u := by simpa using h.symm
            rw [hs, qs_cons, q1_plain hp, ih r u (by simp at hn; omega) ht]
            rfl

/-- The string of a word. -/
def unquote (w : List UInt8) : Option (List UInt8) := if w = [37, 45] then some [] else if w = [] then none else unq w

theorem unq_mark : unq [37, 45] = none := rfl
theorem unquote_quote (s : List UInt8) : unquote (quote s) = some s := by
  unfold quote unquote
  by_cases h : s = []
  · rw [if_pos h, if_pos rfl, h]
  · rw [if_neg h, if_neg (fun e => by have := unq_qs s; rw [e, unq_mark] at this; cases this), if_neg (qs_ne h), unq_qs]
theorem quote_unquote {w s : List UInt8} (h : unquote w = some s) : quote s = w := by
  unfold unquote at h
  by_cases h1 : w = [37, 45]
  · rw [if_pos h1] at h
    have : s = [] := by simpa using h.symm
    rw [this, h1]; rfl
  · rw [if_neg h1] at h
    by_cases h2 : w = []
    · rw [if_pos h2] at h; cases h
    · rw [if_neg h2] at h
      have := qs_unq w.length w s (Nat.le_refl _) h
      unfold quote
      rw [if_neg (fun e => by subst e; exact h2 this.symm), this]
theorem quote_inj {a b : List UInt8} (h : quote a = quote b) : a = b := by
  have := unquote_quote a
  rw [h, unquote_quote] at this
  exact (Option.some.inj this).symm
theorem unquote_none {w d : List UInt8} (h : unquote w = none) : quote d ≠ w := by
  intro e
  rw [← e, unquote_quote] at h
  cases h
theorem qs_clean (s : List UInt8) : ∀ c ∈ qs s, c ≠ 32 ∧ c ≠ 10 := by
  intro c hc
  obtain ⟨x, _, hx'⟩ := List.mem_flatMap.1 hc
  have hlt := x.toNat_lt
  cases hp : plainB x with
  | true =>
    rw [q1_plain hp] at hx'
    obtain rfl : c = x := by simpa using hx'
    exact (plain_ne hp).2
  | false =>
    rw [q1_not hp] at hx'
    have a := hx_ne (x.toNat / 16) (by omega)
    have b := hx_ne (x.toNat % 16) (by omega)
    simp at hx'
    rcases hx' with rfl | rfl | rfl
    · decide
    · exact ⟨a.2.1, a.2.2.1⟩
    · exact ⟨b.2.1, b.2.2.1⟩
theorem quote_clean (s : List UInt8) : ∀ c ∈ quote s, c ≠ 32 ∧ c ≠ 10 := by
  unfold quote
  split
  · decide
  · exact qs_clean s

/-! ### Pieces -/
def pcs (c : UInt8) : List UInt8 → List (List UInt8)
  | [] => [[]]
  | b :: r => if b = c then [] :: pcs c r else (match pcs c r with | p :: ps => (b :: p) :: ps | [] => [[b]])

theorem pcs_ne (c : UInt8) (l : List UInt8) : pcs c l ≠ [] := by
  cases l with
  | nil => simp [pcs]
  | cons b r =>
    unfold pcs
    split
    · simp
    · split <;> simp
theorem pcs_some (c : UInt8) (l : List UInt8) : ∃ p ps, pcs c l = p :: ps := by
  cases h : pcs c l with
  | nil => exact absurd h (pcs_ne c l)
  | cons p ps => exact ⟨p, ps, rfl⟩
theorem pcs_eq (c : UInt8) (r : List UInt8) : pcs c (c :: r) = [] :: pcs c r := by rw [pcs, if_pos rfl]
theorem pcs_other {c b : UInt8} (h : b ≠ c) {r p : List UInt8} {ps : List (List UInt8)} (hp : pcs c r = p :: ps) : pcs c (b :: r) = (b :: p) :: ps := by rw [pcs, if_neg h, hp]
theorem pcs_none {c : UInt8} {p : List UInt8} (h : ∀ b ∈ p, b ≠ c) : pcs c p = [p] := by
  induction p with
  | nil => rfl
  | cons b p ih => exact pcs_other (h b (by simp)) (ih fun x hx => h x (by simp [hx]))
theorem pcs_hit {c : UInt8} {p : List UInt8} (h : ∀ b ∈ p, b ≠ c) (r : List UInt8) : pcs c (p ++ c :: r) = p :: pcs c r := by
  induction p with
  | nil => exact pcs_eq c r
  | cons b p ih => exact pcs_other (h b (by simp)) (ih fun x hx => h x (by simp [hx]))
theorem pcs_mem (c : UInt8) : ∀ (l : List UInt8), ∀ p ∈ pcs c l, ∀ b ∈ p, b ≠ c
  | [], p, hp, b, hb => by simp [pcs] at hp; subst hp; simp at hb
  | a :: r, p, hp, b, hb => by
    obtain ⟨q, qs', hq⟩ := pcs_some c r
    have ih := pcs_mem c r
    by_cases ha : a = c
    · subst ha
      rw [pcs_eq] at hp
      simp only [List.mem_cons] at hp
      rcases hp with rfl | hp
      · simp at hb
      · exact ih p hp b hb
    · rw [pcs_other ha hq] at hp
      rw [hq] at ih
      simp only [List.mem_cons] at hp
      rcases hp with rfl | hp
      · simp only [List.mem_cons] at hb
        rcases hb with rfl | hb
        · exact ha
        · exact ih q (by simp) b hb
      · exact ih p (by simp [hp]) b hb
/-- Words, joined. -/
def joinC (c : UInt8) : List (List UInt8) → List UInt8
  | [] => []
  | [p] => p
  | p :: q :: r => p ++ c :: joinC c (q :: r)
theorem join_pcs (c : UInt8) : ∀ l, joinC c (pcs c l) = l
  | [] => rfl
  | b :: r => by
    obtain ⟨q, qs', hq⟩ := pcs_some c r
    have ih := join_pcs c r
    rw [hq] at ih
    by_cases hb : b = c
    · subst hb
      rw [pcs_eq, hq]
      show [] ++ b :: joinC b (q :: qs') = _
      rw [ih]; rfl
    · rw [pcs_other hb hq]
      cases qs' with
      | nil =>
        show b :: q = b :: r
        rw [show q = r from ih]
      | cons x xs =>
        show b :: (q ++ c :: joinC c (x :: xs)) = b :: r
        rw [show q ++ c :: joinC c (x :: xs) = r from ih]
theorem pcs_join (c : UInt8) : ∀ l : List (List UInt8), l ≠ [] → (∀ p ∈ l, ∀ b ∈ p, b ≠ c) → pcs c (joinC c l) = l
  | [], h, _ => absurd rfl h
  | [p], _, h => pcs_none (h p (by simp))
  | p :: q :: r, _, h => by
    show pcs c (p ++ c :: joinC c (q :: r)) = _
    rw [pcs_hit (h p (by simp)), pcs_join c (q :: r) (by simp) fun x hx => h x (by simp [hx])]
theorem lib_join (c : UInt8) : ∀ l : List (List UInt8), Lib.join l [c] = joinC c l
  | [] => rfl
  | [p] => by simp [Lib.join, joinC]
  | p :: q :: r => by
    have ih := lib_join c (q :: r)
    unfold Lib.join at ih ⊢
    rw [List.intercalate_cons_cons, ih]
    simp [joinC]

/-- The strings of a line. -/
def allU : List (List UInt8) → Option (List (List UInt8))
  | [] => some []
  | w :: ws => match unquote w with | none => none | some s => (allU ws).map (s :: ·)
theorem allU_quote (l : List (List UInt8)) : allU (l.map quote) = some l := by
  induction l with
  | nil => rfl
  | cons s l ih => rw [List.map_cons, allU, unquote_quote]; simp [ih]
theorem quote_allU : ∀ (ws m : List (List UInt8)), allU ws = some m → m.map quote = ws
  | [], m, h => by have : m = [] := by simpa [allU] using h.symm
                   rw [this]; rfl
  | w :: ws, m, h => by
    rw [allU] at h
    cases hu : unquote w with
    | none => rw [hu] at h; cases h
    | some s =>
      rw [hu] at h
      cases ha : allU ws with
      | none => simp [ha] at h
      | some k =>
        have : m = s :: k := by simpa [ha] using h.symm
        rw [this, List.map_cons, quote_unquote hu, quote_allU ws k ha]
def splitL (line : List UInt8) : Option (List (List UInt8)) := if line = [] then some [] else allU (pcs 32 line)
def joinL (l : List (List UInt8)) : List UInt8 := joinC 32 (l.map quote)
theorem joinC_ne {c : UInt8} {p : List UInt8} {l : List (List UInt8)} (h : p ≠ []) : joinC c (p :: l) ≠ [] := by
  cases l with
  | nil => exact h
  | cons q r => show p ++ _ ≠ []; simp [h]
theorem quote_ne (s : List UInt8) : quote s ≠ [] := by
  intro e; have := (quote_len s).1; rw [e] at this; simp at this
theorem split_join (l : List (List UInt8)) : splitL (joinL l) = some l := by
  unfold splitL joinL
  cases l with
  | nil => rfl
  | cons s l =>
    rw [if_neg (by rw [List.map_cons]; exact joinC_ne (quote_ne s)), pcs_join 32 _ (by simp) ?_, allU_quote]
    intro p hp b hb
    obtain ⟨x, _, rfl⟩ := List.mem_map.1 hp
    exact (quote_clean x b hb).1
theorem join_split {line : List UInt8} {m : List (List UInt8)} (h : splitL line = some m) : joinL m = line := by
  unfold splitL at h
  by_cases h1 : line = []
  · rw [if_pos h1] at h
    have : m = [] := by simpa using h.symm
    rw [this, h1]; rfl
  · rw [if_neg h1] at h
    unfold joinL
    rw [quote_allU _ _ h, join_pcs]

/-! ### Lines -/
def lns : List UInt8 → Option (List (List UInt8))
  | [] => some []
  | b :: r => if b = 10 then (lns r).map ([] :: ·) else (match lns r with | some (p :: ps) => some ((b :: p) :: ps) | _ => none)
def textL (l : List (List UInt8)) : List UInt8 := l.flatMap (· ++ [10])
theorem lns_hit {p : List UInt8} (h : ∀ b ∈ p, b ≠ 10) (r : List UInt8) : lns (p ++ 10 :: r) = (lns r).map (p :: ·) := by
  induction p with
  | nil => show lns (10 :: r) = _; rw [lns, if_pos rfl]
  | cons b p ih =>
    show lns (b :: (p ++ 10 :: r)) = _
    rw [lns, if_neg (h b (by simp)), ih fun x hx => h x (by simp [hx])]
    cases lns r <;> rfl
theorem lns_miss {p : List UInt8} (hp : p ≠ []) (h : ∀ b ∈ p, b ≠ 10) : lns p = none := by
  induction p with
  | nil => exact absurd rfl hp
  | cons b p ih =>
    rw [lns, if_neg (h b (by simp))]
    by_cases hq : p = []
    · rw [hq]; rfl
    · rw [ih hq fun x hx => h x (by simp [hx])]
theorem lns_end (p : List UInt8) : lns (p ++ [10]) = some (pcs 10 p) := by
  induction p with
  | nil => rfl
  | cons b p ih =>
    show lns (b :: (p ++ [10])) = _
    obtain ⟨q, ps, hq⟩ := pcs_some 10 p
    by_cases hb : b = 10
    · subst hb; rw [lns, if_pos rfl, ih, pcs_eq]; rfl
    · rw [lns, if_neg hb, ih, pcs_other hb hq, hq]
theorem lns_no {x : UInt8} (hx : x ≠ 10) (p : List UInt8) : lns (p ++ [x]) = none := by
  induction p with
  | nil => show lns [x] = none; rw [lns, if_neg hx]; rfl
  | cons b p ih =>
    show lns (b :: (p ++ [x])) = _
    rw [lns, ih]
    split <;> rfl
theorem text_lns : ∀ (s : List UInt8) (l : List (List UInt8)), lns s = some l → textL l = s
  | [], l, h => by have : l = [] := by simpa [lns] using h.symm
                   rw [this]; rfl
  | b :: r, l, h => by
    rw [lns] at h
    by_cases hb : b = 10
    · rw [if_pos hb] at h
      cases hr : lns r with
      | none => rw [hr] at h; cases h
      | some k =>
        rw [hr] at h
        have : l = [] :: k := by simpa using h.symm
        rw [this, hb]
        show [] ++ [10] ++ textL k = _
        rw [text_lns r k hr]; rfl
    · rw [if_neg hb] at h
      cases hr : lns r with
      | none => rw [hr] at h; cases h
      | some k =>
        rw [hr] at h
        cases k with
        | nil => cases h
        | cons p ps =>
          have : l = (b :: p) :: ps := by simpa using h.symm
          have ih := text_lns r _ hr
          rw [this]
          show b :: (p ++ [10] ++ textL ps) = _
          rw [show p ++ [10] ++ textL ps = r from ih]
theorem lns_text (l : List (List UInt8)) (h : ∀ p ∈ l, ∀ b ∈ p, b ≠ 10) : lns (textL l) = some l := by
  induction l with
  | nil => rfl
  | cons p l ih =>
    show lns (p ++ [10] ++ textL l) = _
    rw [List.append_assoc]
    show lns (p ++ 10 :: textL l) = _
    rw [lns_hit (h p (by simp)), ih fun x hx => h x (by simp [hx])]
    rfl
theorem text_append (a b : List (List UInt8)) : textL (a ++ b) = textL a ++ textL b := by simp [textL]
end Go.Proofs.YtdjlfbfipkalbaaDoor
