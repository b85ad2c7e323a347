/- Consents: what the laws say of the functions; plain mathematics. -/
import Derived.Test.YthbagggcfdgnfaaCnM
import Derived.Test.YthbagggcfdgnfaaNumM
namespace Go.Proofs.Ythbagggcfdgnfaa

/-! ### Right consents -/
def SortedC (l : List Cn) : Prop := ∀ i j (hi : i < l.length) (hj : j < l.length), i ≤ j → l[i].d ≤ l[j].d
/-- A consent that is right for the persons, by itself. -/
def GoodC (ps : List Pn) (c : Cn) : Prop := hasP ps c.p = true ∧ (0 ≤ c.r ∧ c.r ≤ 1099511627776) ∧ (1 ≤ c.d ∧ c.d ≤ 109573) ∧ 0 ≤ c.k ∧ c.k ≤ 2
theorem sorted_of_steps {l : List Cn} (h : ∀ j (hj : j + 1 < l.length), l[j].d ≤ l[j + 1].d) : SortedC l := by
  intro i j hi hj hij
  obtain ⟨q, rfl⟩ : ∃ q, j = i + q := ⟨j - i, by omega⟩
  clear hij
  induction q with
  | zero => exact Int.le_refl _
  | succ q ih => exact Int.le_trans (ih (by omega)) (h (i + q) (by omega))
theorem one_ok {ps : List Pn} {c : Cn} {b : Int} (h : GoodC ps c) (hb : b ≤ c.d) : oneE ps c b = 0 := by
  obtain ⟨h1, h2, h3, h4, h5⟩ := h
  unfold oneE
  rw [if_neg (by rw [h1]; simp), if_neg (by omega), if_neg (by omega), if_neg (by omega), if_neg (by omega)]
theorem dayB_zero (l : List Cn) : dayB l 0 = 0 := rfl
theorem dayB_succ {l : List Cn} {j : Nat} (hj : j < l.length) : dayB l (j + 1) = l[j].d := by unfold dayB; simp [hj]
theorem right_of {ps : List Pn} {l : List Cn} (h : checkE ps l = 0) : l.length ≤ 60 ∧ SortedC l ∧ ∀ c ∈ l, GoodC ps c := by
  obtain ⟨h1, h2⟩ := check_zero h
  have h3 : ∀ j (hj : j < l.length), GoodC ps l[j] ∧ dayB l j ≤ l[j].d := fun j hj => by
    have := h2 j hj
    rw [oneAt_eq hj] at this
    obtain ⟨a, b, c, d, e⟩ := one_zero this
    exact ⟨⟨a, b, c, d.1, d.2⟩, e⟩
  refine ⟨h1, sorted_of_steps fun j hj => ?_, fun c hc => ?_⟩
  · have := (h3 (j + 1) hj).2
    rwa [dayB_succ (by omega)] at this
  · obtain ⟨j, hj, rfl⟩ := List.mem_iff_getElem.1 hc
    exact (h3 j hj).1
theorem check_of {ps : List Pn} {l : List Cn} (h1 : l.length ≤ 60) (h2 : SortedC l) (h3 : ∀ c ∈ l, GoodC ps c) : checkE ps l = 0 := by
  refine check_ok (by omega) fun j hj => ?_
  rw [oneAt_eq hj]
  refine one_ok (h3 _ (List.getElem_mem hj)) ?_
  cases j with
  | zero => rw [dayB_zero]; have := (h3 _ (List.getElem_mem hj)).2.2.1.1; omega
  | succ j => rw [dayB_succ (by omega)]; exact h2 j (j + 1) (by omega) hj (by omega)

/-! ### Where a consent is inserted -/
theorem giveAt_spec (l : List Cn) (d : Int) : (∀ j (hj : j < l.length), giveAt l d ≤ j → d < l[j].d) ∧ ∀ h : 0 < giveAt l d, ¬ d < (l[giveAt l d - 1]'(by have := giveAt_le l d; omega)).d := by
  have key : ∀ n, n ≤ l.length → (∀ j (hj : j < l.length), n ≤ j → d < l[j].d) → ∃ a, ∃ ha : a ≤ l.length, (∀ j (hj : j < l.length), a ≤ j → d < l[j].d) ∧ ∀ h : 0 < a, ¬ d < (l[a - 1]'(by omega)).d := by
    intro n
    induction n with
    | zero => intro _ h; exact ⟨0, by omega, h, fun h => by omega⟩
    | succ n ih =>
      intro hn h
      by_cases hd : d < (l[n]'(by omega)).d
      · refine ih (by omega) fun j hj hnj => ?_
        rcases Nat.lt_or_ge n j with h1 | h1
        · exact h j hj h1
        · have : j = n := by omega
          subst this; exact hd
      · exact ⟨n + 1, hn, h, fun _ => hd⟩
  obtain ⟨a, ha, h1, h2⟩ := key l.length (Nat.le_refl _) (fun j hj h => by omega)
  have e := giveAt_is ha h1 h2
  simp only [e]
  exact ⟨h1, h2⟩
theorem give_hi {l : List Cn} {d : Int} {x : Cn} (hx : x ∈ l.drop (giveAt l d)) : d < x.d := by
  obtain ⟨j, hj, rfl⟩ := List.mem_iff_getElem.1 hx
  rw [List.getElem_drop]
  rw [List.length_drop] at hj
  exact (giveAt_spec l d).1 _ (by omega) (by omega)
theorem give_lo {l : List Cn} {d : Int} (hs : SortedC l) {x : Cn} (hx : x ∈ l.take (giveAt l d)) : x.d ≤ d := by
  obtain ⟨j, hj, rfl⟩ := List.mem_iff_getElem.1 hx
  rw [List.length_take] at hj
  have h1 := giveAt_le l d
  have h2 := (giveAt_spec l d).2 (by omega)
  have h3 := hs j (giveAt l d - 1) (by omega) (by omega) (by omega)
  rw [List.getElem_take]
  omega
theorem mem_giveL {l : List Cn} {c x : Cn} : x ∈ giveL l c ↔ x ∈ l ∨ x = c := by
  unfold giveL
  rw [List.mem_append, List.mem_append, List.mem_singleton]
  conv => rhs; rw [← List.take_append_drop (giveAt l c.d) l, List.mem_append]
  constructor
  · rintro ((h | h) | h)
    · exact .inl (.inl h)
    · exact .inr h
    · exact .inl (.inr h)
  · rintro ((h | h) | h)
    · exact .inl (.inl h)
    · exact .inr h
    · exact .inl (.inr h)
theorem giveL_length (l : List Cn) (c : Cn) : (giveL l c).length = l.length + 1 := by
  have := giveAt_le l c.d
  unfold giveL
  simp
  omega
theorem sorted_pair {l : List Cn} : SortedC l ↔ l.Pairwise fun a b => a.d ≤ b.d := by
  rw [List.pairwise_iff_getElem]
  constructor
  · intro h i j hi hj hij; exact h i j hi hj (by omega)
  · intro h i j hi hj hij
    rcases Nat.lt_or_ge i j with h1 | h1
    · exact h i j hi hj h1
    · have : i = j := by omega
      subst this; exact Int.le_refl _
theorem sorted_give {l : List Cn} (c : Cn) (hs : SortedC l) : SortedC (giveL l c) := by
  have hp := sorted_pair.1 hs
  rw [← List.take_append_drop (giveAt l c.d) l, List.pairwise_append] at hp
  rw [sorted_pair]
  unfold giveL
  rw [List.append_assoc, List.pairwise_append]
  refine ⟨hp.1, ?_, ?_⟩
  · rw [List.singleton_append, List.pairwise_cons]
    exact ⟨fun x hx => Int.le_of_lt (give_hi hx), hp.2.1⟩
  · intro x hx y hy
    rw [List.singleton_append, List.mem_cons] at hy
    rcases hy with rfl | hy
    · exact give_lo hs hx
    · exact hp.2.2 x hx y hy
theorem check_give {ps : List Pn} {l : List Cn} {c : Cn} (h : checkE ps l = 0) (hl : l.length < 60) (hc : checkE ps [c] = 0) : checkE ps (giveL l c) = 0 := by
  obtain ⟨_, h2, h3⟩ := right_of h
  obtain ⟨_, _, h4⟩ := right_of hc
  refine check_of (by rw [giveL_length]; omega) (sorted_give c h2) fun x hx => ?_
  rcases mem_giveL.1 hx with h | rfl
  · exact h3 x h
  · exact h4 x (by simp)

/-! ### At -/
theorem fold_hits (p r d : Int) (ys : List Cn) : (∀ k, ys.foldl (stepK p r d) k = k) ∨ ∃ v, ∀ k, ys.foldl (stepK p r d) k = v := by
  induction ys with
  | nil => exact .inl fun _ => rfl
  | cons y ys ih =>
    rcases ih with h | ⟨v, h⟩
    · by_cases hy : (fits y p r && decide (y.d ≤ d)) = true
      · exact .inr ⟨y.k, fun k => by rw [List.foldl_cons, h, stepK, if_pos hy]⟩
      · exact .inl fun k => by rw [List.foldl_cons, h, stepK, if_neg hy]
    · exact .inr ⟨v, fun k => by rw [List.foldl_cons, h]⟩
theorem fold_none {p r d : Int} {ys : List Cn} (h : ∀ y ∈ ys, (fits y p r && decide (y.d ≤ d)) = false) (k : Int) : ys.foldl (stepK p r d) k = k := by
  induction ys generalizing k with
  | nil => rfl
  | cons y ys ih => rw [List.foldl_cons, stepK, if_neg (by rw [h y (by simp)]; simp), ih fun z hz => h z (by simp [hz])]
theorem at_give (l : List Cn) (c : Cn) (p r d : Int) : atK (giveL l c) p r d = (l.drop (giveAt l c.d)).foldl (stepK p r d) (stepK p r d ((l.take (giveAt l c.d)).foldl (stepK p r d) 0) c) := by
  unfold atK giveL
  rw [List.foldl_append, List.foldl_append]
  rfl
theorem at_cut (l : List Cn) (n : Nat) (p r d : Int) : atK l p r d = (l.drop n).foldl (stepK p r d) ((l.take n).foldl (stepK p r d) 0) := by
  unfold atK
  rw [← List.foldl_append, List.take_append_drop]
theorem later_no {l : List Cn} {c : Cn} {p r d : Int} (h : (fits c p r && decide (c.d ≤ d)) = false) : atK (giveL l c) p r d = atK l p r d := by
  rw [at_give, at_cut l (giveAt l c.d), stepK, if_neg (by rw [h]; simp)]
theorem later_or (l : List Cn) (c : Cn) (p r d : Int) : atK (giveL l c) p r d = atK l p r d ∨ atK (giveL l c) p r d = c.k := by
  rw [at_give, at_cut l (giveAt l c.d)]
  rcases fold_hits p r d (l.drop (giveAt l c.d)) with h | ⟨v, h⟩
  · rw [h, h, stepK]
    split
    · exact .inr rfl
    · exact .inl rfl
  · rw [h, h]; exact .inl rfl
theorem at_range {l : List Cn} (h : ∀ c ∈ l, 0 ≤ c.k ∧ c.k ≤ 2) (p r d : Int) : 0 ≤ atK l p r d ∧ atK l p r d ≤ 2 := by
  have : ∀ (l : List Cn), (∀ c ∈ l, 0 ≤ c.k ∧ c.k ≤ 2) → ∀ k : Int, 0 ≤ k ∧ k ≤ 2 → 0 ≤ l.foldl (stepK p r d) k ∧ l.foldl (stepK p r d) k ≤ 2 := by
    intro l
    induction l with
    | nil => intro _ k h; exact h
    | cons c l ih =>
      intro h k hk
      rw [List.foldl_cons]
      refine ih (fun x hx => h x (by simp [hx])) _ ?_
      unfold stepK
      split
      · exact h c (by simp)
      · exact hk
  exact this l h 0 ⟨by omega, by omega⟩
theorem at_zero {l : List Cn} {d : Int} (h : ∀ c ∈ l, d < c.d) (p r : Int) : atK l p r d = 0 :=
  fold_none (fun y hy => by have := h y hy; rw [Bool.and_eq_false_iff]; right; simpa using this) 0
theorem at_same {l : List Cn} {p r d : Int} (h : ∀ c ∈ l, fits c p r = true → c.d ≠ d) : atK l p r d = atK l p r (d - 1) := by
  have : ∀ (l : List Cn), (∀ c ∈ l, fits c p r = true → c.d ≠ d) → ∀ k : Int, l.foldl (stepK p r d) k = l.foldl (stepK p r (d - 1)) k := by
    intro l
    induction l with
    | nil => intro _ k; rfl
    | cons c l ih =>
      intro h k
      rw [List.foldl_cons, List.foldl_cons, ih fun x hx => h x (by simp [hx])]
      congr 1
      unfold stepK
      cases hf : fits c p r with
      | false => simp
      | true =>
        have := h c (by simp) hf
        by_cases h1 : c.d ≤ d - 1
        · rw [if_pos (by simp; omega), if_pos (by simp; omega)]
        · rw [if_neg (by simp; omega), if_neg (by simp; omega)]
  exact this l h 0
theorem withdrawn {l : List Cn} {p day r t : Int} (hp : ∀ x ∈ l, x.p = p → x.d ≤ day) (ht : 0 ≤ t) : atK (giveL l ⟨p, 0, day, 0⟩) p r (day + t) = 0 := by
  rw [at_give, fold_none fun y hy => ?_]
  · unfold stepK
    rw [if_pos (by simp [fits]; omega)]
  · have h1 := give_hi hy
    have h2 : y.p ≠ p := fun e => by have := hp y (List.mem_of_mem_drop hy) e; simp at h1; omega
    simp [fits, h2]

/-! ### Least -/
theorem leastF_le (l : List Cn) (rid d : Int) : ∀ (sp : List Int) (m : Int), sp.foldl (fun m s => min m (atK l s rid d)) m ≤ m ∧ ∀ s ∈ sp, sp.foldl (fun m s => min m (atK l s rid d)) m ≤ atK l s rid d := by
  intro sp
  induction sp with
  | nil => intro m; exact ⟨Int.le_refl _, fun s hs => by simp at hs⟩
  | cons x sp ih =>
    intro m
    rw [List.foldl_cons]
    obtain ⟨h1, h2⟩ := ih (min m (atK l x rid d))
    refine ⟨by omega, fun s hs => ?_⟩
    rcases List.mem_cons.1 hs with rfl | hs
    · omega
    · exact h2 s hs
theorem leastF_ge {l : List Cn} {rid d : Int} : ∀ (sp : List Int) (m b : Int), b ≤ m → (∀ s ∈ sp, b ≤ atK l s rid d) → b ≤ sp.foldl (fun m s => min m (atK l s rid d)) m := by
  intro sp
  induction sp with
  | nil => intro m b h _; exact h
  | cons x sp ih =>
    intro m b h hs
    rw [List.foldl_cons]
    have := hs x (by simp)
    exact ih _ b (by omega) fun s h => hs s (by simp [h])
theorem least_zero {l : List Cn} {rid d : Int} {sp : List Int} (hk : ∀ c ∈ l, 0 ≤ c.k ∧ c.k ≤ 2) {p : Int} (hp : p ∈ sp) (h0 : atK l p rid d = 0) : leastK l rid sp d = 0 := by
  unfold leastK leastF
  rw [if_neg (fun e => by rw [e] at hp; simp at hp)]
  have h1 := (leastF_le l rid d sp 2).2 p hp
  have h2 := leastF_ge (l := l) (rid := rid) (d := d) sp 2 0 (by omega) fun s _ => (at_range hk s rid d).1
  omega
theorem least_congr {l : List Cn} {rid d d' : Int} {sp : List Int} (h : ∀ s ∈ sp, atK l s rid d = atK l s rid d') : leastK l rid sp d = leastK l rid sp d' := by
  have : ∀ (sp : List Int), (∀ s ∈ sp, atK l s rid d = atK l s rid d') → ∀ m : Int, sp.foldl (fun m s => min m (atK l s rid d)) m = sp.foldl (fun m s => min m (atK l s rid d')) m := by
    intro sp
    induction sp with
    | nil => intro _ m; rfl
    | cons x sp ih => intro h m; rw [List.foldl_cons, List.foldl_cons, h x (by simp), ih fun s hs => h s (by simp [hs])]
  unfold leastK leastF
  rw [this sp h]

/-! ### Days -/
def changes (l : List Cn) (rid : Int) (sp : List Int) (d : Int) : Bool := !(leastK l rid sp d == leastK l rid sp (d - 1))
def givenDays (l : List Cn) (rid : Int) (sp : List Int) : List Int := sp.flatMap fun s => (l.filter fun c => fits c s rid).map Cn.d
def daysC (l : List Cn) (rid : Int) (sp : List Int) : List Int := (setOf (givenDays l rid sp)).filter (changes l rid sp)
theorem mem_given {l : List Cn} {rid : Int} {sp : List Int} {x : Int} : x ∈ givenDays l rid sp ↔ ∃ s ∈ sp, ∃ c ∈ l, fits c s rid = true ∧ c.d = x := by
  unfold givenDays
  simp only [List.mem_flatMap, List.mem_map, List.mem_filter]
  constructor
  · rintro ⟨s, hs, c, ⟨hc, hf⟩, e⟩; exact ⟨s, hs, c, hc, hf, e⟩
  · rintro ⟨s, hs, c, hc, hf, e⟩; exact ⟨s, hs, c, ⟨hc, hf⟩, e⟩
theorem change_given {l : List Cn} {rid : Int} {sp : List Int} {x : Int} (h : changes l rid sp x = true) : x ∈ givenDays l rid sp := by
  refine Classical.byContradiction fun hn => ?_
  have : leastK l rid sp x = leastK l rid sp (x - 1) := least_congr fun s hs => at_same fun c hc hf e => hn (mem_given.2 ⟨s, hs, c, hc, hf, e⟩)
  unfold changes at h
  rw [this] at h
  simp at h
theorem mem_daysC {l : List Cn} {rid : Int} {sp : List Int} {x : Int} : x ∈ daysC l rid sp ↔ changes l rid sp x = true := by
  unfold daysC
  rw [List.mem_filter, mem_setOf]
  exact ⟨fun h => h.2, fun h => ⟨change_given h, h⟩⟩
theorem inc_daysC (l : List Cn) (rid : Int) (sp : List Int) : Inc (daysC l rid sp) := List.Pairwise.filter _ (inc_setOf _)
theorem daysC_in {l : List Cn} {rid : Int} {sp : List Int} {x : Int} (h : x ∈ daysC l rid sp) : ∃ c ∈ l, c.d = x := by
  obtain ⟨s, _, c, hc, _, e⟩ := mem_given.1 (change_given (mem_daysC.1 h))
  exact ⟨c, hc, e⟩

/-- What the reference has collected after k consents. -/
def refD (l : List Cn) (ch : Int → Bool) : Nat → List Int
  | 0 => []
  | k + 1 => if h : k < l.length then (if 0 < k ∧ dayB l k = l[k].d then refD l ch k else if ch l[k].d = true then refD l ch k ++ [l[k].d] else refD l ch k) else refD l ch k
theorem refD_skip {l : List Cn} {ch : Int → Bool} {k : Nat} (hk : k < l.length) (h : 0 < k ∧ dayB l k = l[k].d) : refD l ch (k + 1) = refD l ch k := by rw [refD, dif_pos hk, if_pos h]
theorem refD_yes {l : List Cn} {ch : Int → Bool} {k : Nat} (hk : k < l.length) (h : ¬ (0 < k ∧ dayB l k = l[k].d)) (hc : ch l[k].d = true) : refD l ch (k + 1) = refD l ch k ++ [l[k].d] := by rw [refD, dif_pos hk, if_neg h, if_pos hc]
theorem refD_no {l : List Cn} {ch : Int → Bool} {k : Nat} (hk : k < l.length) (h : ¬ (0 < k ∧ dayB l k = l[k].d)) (hc : ch l[k].d = false) : refD l ch (k + 1) = refD l ch k := by rw [refD, dif_pos hk, if_neg h, if_neg (by rw [hc]; simp)]
theorem refD_len (l : List Cn) (ch : Int → Bool) (k : Nat) : (refD l ch k).length ≤ k := by
  induction k with
  | zero => exact Nat.le_refl _
  | succ k ih =>
    unfold refD
    split
    · split
      · omega
      · split
        · simp; omega
        · omega
    · omega
theorem refD_facts {l : List Cn} {ch : Int → Bool} (hs : SortedC l) : ∀ k, k ≤ l.length → Inc (refD l ch k) ∧ (∀ x ∈ refD l ch k, ch x = true ∧ ∃ j, ∃ hj : j < l.length, j < k ∧ l[j].d = x) ∧ ∀ j (hj : j < l.length), j < k → ch l[j].d = true → l[j].d ∈ refD l ch k := by
  intro k
  induction k with
  | zero => intro _; exact ⟨List.Pairwise.nil, fun x hx => by simp [refD] at hx, fun j hj h => by omega⟩
  | succ k ih =>
    intro hk
    obtain ⟨h1, h2, h3⟩ := ih (by omega)
    have hkl : k < l.length := by omega
    by_cases hsk : 0 < k ∧ dayB l k = l[k].d
    · rw [refD_skip hkl hsk]
      refine ⟨h1, fun x hx => ?_, fun j hj hjk hc => ?_⟩
      · obtain ⟨a, j, hj, b, c⟩ := h2 x hx
        exact ⟨a, j, hj, by omega, c⟩
      · rcases Nat.lt_or_ge j k with h | h
        · exact h3 j hj h hc
        · have : j = k := by omega
          subst this
          obtain ⟨hp, he⟩ := hsk
          obtain ⟨q, rfl⟩ : ∃ q, j = q + 1 := ⟨j - 1, by omega⟩
          rw [dayB_succ (by omega)] at he
          rw [← he] at hc ⊢
          exact h3 q (by omega) (by omega) hc
    · have hlt : ∀ j (hj : j < l.length), j < k → l[j].d < l[k].d := fun j hj hjk => by
        obtain ⟨q, rfl⟩ : ∃ q, k = q + 1 := ⟨k - 1, by omega⟩
        have hne : l[q].d ≠ l[q + 1].d := fun e => hsk ⟨by omega, by rw [dayB_succ (by omega)]; exact e⟩
        have a := hs j q hj (by omega) (by omega)
        have b := hs q (q + 1) (by omega) hkl (by omega)
        omega
      cases hc : ch l[k].d with
      | true =>
        rw [refD_yes hkl hsk hc]
        refine ⟨?_, fun x hx => ?_, fun j hj hjk hcj => ?_⟩
        · unfold Inc at h1 ⊢
          rw [List.pairwise_append]
          refine ⟨h1, by simp, fun a ha b hb => ?_⟩
          simp at hb; subst hb
          obtain ⟨_, j, hj, hjk, rfl⟩ := h2 a ha
          exact hlt j hj hjk
        · rcases List.mem_append.1 hx with h | h
          · obtain ⟨a, j, hj, b, c⟩ := h2 x h
            exact ⟨a, j, hj, by omega, c⟩
          · simp at h; subst h
            exact ⟨hc, k, hkl, by omega, rfl⟩
        · rcases Nat.lt_or_ge j k with h | h
          · exact List.mem_append.2 (.inl (h3 j hj h hcj))
          · have : j = k := by omega
            subst this; simp
      | false =>
        rw [refD_no hkl hsk hc]
        refine ⟨h1, fun x hx => ?_, fun j hj hjk hcj => ?_⟩
        · obtain ⟨a, j, hj, b, c⟩ := h2 x hx
          exact ⟨a, j, hj, by omega, c⟩
        · rcases Nat.lt_or_ge j k with h | h
          · exact h3 j hj h hcj
          · have : j = k := by omega
            subst this; rw [hc] at hcj; cases hcj
theorem ref_days {l : List Cn} (hs : SortedC l) (rid : Int) (sp : List Int) : refD l (changes l rid sp) l.length = daysC l rid sp := by
  obtain ⟨h1, h2, h3⟩ := refD_facts (ch := changes l rid sp) hs l.length (Nat.le_refl _)
  refine inc_unique h1 (inc_daysC _ _ _) fun x => ?_
  rw [mem_daysC]
  refine ⟨fun hx => (h2 x hx).1, fun hx => ?_⟩
  obtain ⟨c, hc, e⟩ := daysC_in (mem_daysC.2 hx)
  obtain ⟨j, hj, rfl⟩ := List.mem_iff_getElem.1 hc
  rw [← e] at hx ⊢
  exact h3 j hj hj hx

/-! ### Between two changes -/
theorem least_const {l : List Cn} {rid : Int} {sp : List Int} {a b : Int} (hab : a ≤ b) (h : ∀ d, a < d → d ≤ b → changes l rid sp d = false) : leastK l rid sp a = leastK l rid sp b := by
  obtain ⟨n, rfl⟩ : ∃ n : Nat, b = a + n := ⟨(b - a).toNat, by omega⟩
  clear hab
  induction n with
  | zero => simp
  | succ n ih =>
    rw [ih fun d h1 h2 => h d h1 (by omega)]
    have := h (a + ↑(n + 1)) (by omega) (Int.le_refl _)
    unfold changes at this
    rw [show a + ((n + 1 : Nat) : Int) - 1 = a + n by omega] at this
    simp at this
    exact this.symm
theorem least_start {l : List Cn} {ps : List Pn} (h : ∀ c ∈ l, GoodC ps c) (rid : Int) (sp : List Int) : leastK l rid sp 0 = 0 := by
  unfold leastK
  split
  · rfl
  · rename_i hne
    obtain ⟨s, sp', rfl⟩ : ∃ s sp', sp = s :: sp' := by
      cases sp with
      | nil => exact absurd rfl hne
      | cons s sp' => exact ⟨s, sp', rfl⟩
    have hz : ∀ p, atK l p rid 0 = 0 := fun p => at_zero (fun c hc => by have := (h c hc).2.2.1.1; omega) p rid
    have h1 := (leastF_le l rid 0 (s :: sp') 2).2 s (by simp)
    have h2 := leastF_ge (l := l) (rid := rid) (d := 0) (s :: sp') 2 0 (by omega) fun p _ => by rw [hz]; exact Int.le_refl _
    rw [hz] at h1
    unfold leastF
    omega
/-- The kind before the i-th day of change. -/
def kindAt (l : List Cn) (rid : Int) (sp : List Int) (i : Nat) : Int := if h : 0 < i ∧ i - 1 < (daysC l rid sp).length then leastK l rid sp ((daysC l rid sp)[i - 1]'h.2) else 0
theorem kindAt_succ {l : List Cn} {rid : Int} {sp : List Int} {i : Nat} (hi : i < (daysC l rid sp).length) : kindAt l rid sp (i + 1) = leastK l rid sp (daysC l rid sp)[i] := by
  unfold kindAt
  rw [dif_pos ⟨by omega, by simpa using hi⟩]
  simp
theorem kindAt_zero (l : List Cn) (rid : Int) (sp : List Int) : kindAt l rid sp 0 = 0 := by unfold kindAt; simp
theorem kind_until {ps : List Pn} {l : List Cn} (hg : ∀ c ∈ l, GoodC ps c) (rid : Int) (sp : List Int) {i : Nat} (hi : i ≤ (daysC l rid sp).length) {b : Int} (hb : 0 ≤ b) (hlo : ∀ j (hj : j < (daysC l rid sp).length), j < i → (daysC l rid sp)[j] ≤ b)
    (hhi : ∀ j (hj : j < (daysC l rid sp).length), i ≤ j → b < (daysC l rid sp)[j]) : leastK l rid sp b = kindAt l rid sp i := by
  have hinc := inc_daysC l rid sp
  have lt : ∀ s t (hs : s < (daysC l rid sp).length) (ht : t < (daysC l rid sp).length), s < t → (daysC l rid sp)[s] < (daysC l rid sp)[t] := fun s t hs ht hst => List.pairwise_iff_getElem.1 hinc s t hs ht hst
  have hno : ∀ a, (∀ j (hj : j < (daysC l rid sp).length), j < i → (daysC l rid sp)[j] ≤ a) → ∀ d, a < d → d ≤ b → changes l rid sp d = false := fun a ha d h1 h2 => by
    rw [Bool.eq_false_iff]
    intro hc
    obtain ⟨j, hj, e⟩ := List.mem_iff_getElem.1 (mem_daysC.2 hc)
    rcases Nat.lt_or_ge j i with h | h
    · have := ha j hj h; omega
    · have := hhi j hj h; omega
  cases i with
  | zero =>
    rw [kindAt_zero, ← least_const (a := 0) hb (hno 0 fun j hj h => by omega)]
    exact least_start hg rid sp
  | succ i =>
    rw [kindAt_succ (by omega), ← least_const (hlo i (by omega) (by omega)) (hno _ fun j hj h => ?_)]
    rcases Nat.lt_or_ge j i with h' | h'
    · exact Int.le_of_lt (lt j i hj (by omega) h')
    · have : j = i := by omega
      subst this; exact Int.le_refl _
theorem kind_before {ps : List Pn} {l : List Cn} (hg : ∀ c ∈ l, GoodC ps c) (rid : Int) (sp : List Int) {i : Nat} (hi : i < (daysC l rid sp).length) : leastK l rid sp ((daysC l rid sp)[i] - 1) = kindAt l rid sp i := by
  have hinc := inc_daysC l rid sp
  have lt : ∀ s t (hs : s < (daysC l rid sp).length) (ht : t < (daysC l rid sp).length), s < t → (daysC l rid sp)[s] < (daysC l rid sp)[t] := fun s t hs ht hst => List.pairwise_iff_getElem.1 hinc s t hs ht hst
  obtain ⟨c, hc, e⟩ := daysC_in (List.getElem_mem hi)
  have h1 := (hg c hc).2.2.1.1
  refine kind_until hg rid sp (by omega) (by omega) (fun j hj h => ?_) (fun j hj h => ?_)
  · have := lt j i hj hi h; omega
  · rcases Nat.lt_or_ge i j with h' | h'
    · have := lt i j hi hj h'; omega
    · have : j = i := by omega
      subst this; omega
theorem kind_changes {l : List Cn} {rid : Int} {sp : List Int} {i : Nat} (hi : i < (daysC l rid sp).length) : leastK l rid sp (daysC l rid sp)[i] ≠ leastK l rid sp ((daysC l rid sp)[i] - 1) := by
  have := mem_daysC.1 (List.getElem_mem hi)
  unfold changes at this
  simpa using this
theorem kind_end {ps : List Pn} {l : List Cn} (hg : ∀ c ∈ l, GoodC ps c) (rid : Int) (sp : List Int) : leastK l rid sp 109573 = kindAt l rid sp (daysC l rid sp).length := by
  refine kind_until hg rid sp (Nat.le_refl _) (by omega) (fun j hj _ => ?_) (fun j hj h => by omega)
  obtain ⟨c, hc, e⟩ := daysC_in (List.getElem_mem hj)
  have h1 := (hg c hc).2.2.1.2
  omega
theorem has_days (l : List Cn) (rid : Int) (sp : List Int) (d : Int) : (daysC l rid sp).contains d = !(leastK l rid sp d == leastK l rid sp (d - 1)) := by
  have : (daysC l rid sp).contains d = changes l rid sp d := by
    rw [Bool.eq_iff_iff, List.contains_iff_mem, mem_daysC]
  rw [this]; rfl
end Go.Proofs.Ythbagggcfdgnfaa
