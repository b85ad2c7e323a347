/- Spans of time as sets of times: Both, Minus, Covers, Total. Plain mathematics, of no program. -/
import Derived.Test.YtofnbohcofgfkaaSpN
namespace Go.Proofs.Ytofnbohcofgfkaa

/-- What two spans have in common. -/
def meet (p q : Sp) : Sp := ⟨max p.f q.f, min p.t q.t⟩
/-- What two normal lists have in common, as the code goes through them. -/
def both2 : List Sp → List Sp → List Sp
  | [], _ => []
  | _ :: _, [] => []
  | p :: a, q :: b => (if rt (meet p q) then [meet p q] else []) ++ (if p.t < q.t then both2 a (q :: b) else both2 (p :: a) b)
termination_by a b => a.length + b.length
theorem both2_nil (a : List Sp) : both2 a [] = [] := by cases a <;> simp [both2]
theorem both2_cons (p : Sp) (a : List Sp) (q : Sp) (b : List Sp) : both2 (p :: a) (q :: b) = (if rt (meet p q) then [meet p q] else []) ++ (if p.t < q.t then both2 a (q :: b) else both2 (p :: a) b) := by rw [both2]
theorem both2_low : ∀ (a b : List Sp) (m : Int), (∀ p ∈ a, m < p.f) ∨ (∀ q ∈ b, m < q.f) → ∀ o ∈ both2 a b, m < o.f
  | [], _, _, _, o, h => by simp [both2] at h
  | _ :: _, [], _, _, o, h => by simp [both2] at h
  | p :: a, q :: b, m, hm, o, h => by
    rw [both2_cons] at h
    rcases List.mem_append.1 h with h | h
    · split at h
      · rw [List.mem_singleton.1 h]
        show m < max p.f q.f
        rcases hm with hm | hm
        · have := hm p (List.mem_cons_self ..); omega
        · have := hm q (List.mem_cons_self ..); omega
      · cases h
    · split at h
      · exact both2_low a (q :: b) m (hm.imp (fun k x hx => k x (List.mem_cons_of_mem _ hx)) id) o h
      · exact both2_low (p :: a) b m (hm.imp id (fun k x hx => k x (List.mem_cons_of_mem _ hx))) o h
termination_by a b => a.length + b.length
theorem both2_spec : ∀ (a b : List Sp), Nrm a → Nrm b → Nrm (both2 a b) ∧ ∀ x, Tin (both2 a b) x ↔ Tin a x ∧ Tin b x
  | [], b, _, _ => by
    simp only [both2]
    exact ⟨nrm_nil, fun x => ⟨fun h => (tin_nil h).elim, fun h => (tin_nil h.1).elim⟩⟩
  | p :: a, [], _, _ => by
    simp only [both2]
    exact ⟨nrm_nil, fun x => ⟨fun h => (tin_nil h).elim, fun h => (tin_nil h.2).elim⟩⟩
  | p :: a, q :: b, ha, hb => by
    obtain ⟨hp, hpa, ha'⟩ := nrm_cons.1 ha
    obtain ⟨hq, hqb, hb'⟩ := nrm_cons.1 hb
    have hpp := rt_iff.1 hp
    have hqq := rt_iff.1 hq
    have hmeet : ∀ x, Tin (if rt (meet p q) then [meet p q] else []) x ↔ (p.f ≤ x ∧ x < p.t) ∧ (q.f ≤ x ∧ x < q.t) := fun x => by
      rcases hm : rt (meet p q) with _ | _
      · have := rt_no hm
        simp only [meet] at this
        simp only [Bool.false_eq_true, if_false]
        exact ⟨fun h => (tin_nil h).elim, fun h => by omega⟩
      · simp only [if_true]
        rw [tin_one, hm]
        simp only [true_and, meet]
        omega
    rw [both2_cons]
    by_cases c : p.t < q.t
    · rw [if_pos c]
      obtain ⟨h1, h2⟩ := both2_spec a (q :: b) ha' hb
      refine ⟨nrm_append.2 ⟨?_, h1, fun u hu v hv => ?_⟩, fun x => ?_⟩
      · split
        · exact nrm_cons.2 ⟨by assumption, (fun u hu => by cases hu), nrm_nil⟩
        · exact nrm_nil
      · split at hu
        · rw [List.mem_singleton.1 hu]
          have := both2_low a (q :: b) p.t (.inl hpa) v hv
          show min p.t q.t < v.f
          omega
        · cases hu
      · rw [tin_append, hmeet, h2, tin_cons (s := p), tin_cons (s := q), hp, hq]
        simp only [true_and]
        constructor
        · rintro (⟨h3, h4⟩ | ⟨h3, h4⟩)
          · exact ⟨.inl h3, .inl h4⟩
          · exact ⟨.inr h3, h4⟩
        · rintro ⟨h3 | h3, h4⟩
          · rcases h4 with h4 | h4
            · exact .inl ⟨h3, h4⟩
            · have := tin_behind hb h4; omega
          · exact .inr ⟨h3, h4⟩
    · rw [if_neg c]
      obtain ⟨h1, h2⟩ := both2_spec (p :: a) b ha hb'
      refine ⟨nrm_append.2 ⟨?_, h1, fun u hu v hv => ?_⟩, fun x => ?_⟩
      · split
        · exact nrm_cons.2 ⟨by assumption, (fun u hu => by cases hu), nrm_nil⟩
        · exact nrm_nil
      · split at hu
        · rw [List.mem_singleton.1 hu]
          have := both2_low (p :: a) b q.t (.inr hqb) v hv
          show min p.t q.t < v.f
          omega
        · cases hu
      · rw [tin_append, hmeet, h2, tin_cons (s := p), tin_cons (s := q), hp, hq]
        simp only [true_and]
        constructor
        · rintro (⟨h3, h4⟩ | ⟨h3, h4⟩)
          · exact ⟨.inl h3, .inl h4⟩
          · exact ⟨h3, .inr h4⟩
        · rintro ⟨h3, h4 | h4⟩
          · rcases h3 with h3 | h3
            · exact .inl ⟨h3, h4⟩
            · have := tin_behind ha h3; omega
          · exact .inr ⟨h3, h4⟩
termination_by a b => a.length + b.length
/-- Both. -/
def bothN (a b : List Sp) : List Sp := both2 (norm a) (norm b)
theorem bothN_spec (a b : List Sp) : Nrm (bothN a b) ∧ ∀ x, Tin (bothN a b) x ↔ Tin a x ∧ Tin b x := by
  obtain ⟨h1, h2⟩ := both2_spec _ _ (norm_spec a).1 (norm_spec b).1
  exact ⟨h1, fun x => (h2 x).trans (and_congr ((norm_spec a).2 x) ((norm_spec b).2 x))⟩

/-- The gaps of a normal list from a time on. -/
def gapsR (from_ : Int) : List Sp → List Sp
  | [] => [⟨from_, 86400000⟩]
  | s :: l => ⟨from_, s.f⟩ :: gapsR s.t l
theorem gapsR_spec : ∀ (l : List Sp) (m : Int), 0 ≤ m → Nrm l → (∀ s ∈ l, m ≤ s.f) → ∀ x, Tin (gapsR m l) x ↔ m ≤ x ∧ x < 86400000 ∧ ¬ Tin l x
  | [], m, hm, _, _, x => by
    unfold gapsR
    rw [tin_one]
    constructor
    · rintro ⟨h1, h2, h3⟩
      exact ⟨h2, h3, tin_nil⟩
    · rintro ⟨h1, h2, _⟩
      exact ⟨rt_iff.2 ⟨hm, by simp only; omega, by simp only; omega⟩, h1, h2⟩
  | s :: l, m, hm, hl, hlow, x => by
    obtain ⟨hs, hsl, hl'⟩ := nrm_cons.1 hl
    have hss := rt_iff.1 hs
    have hms := hlow s (List.mem_cons_self ..)
    unfold gapsR
    rw [tin_cons, gapsR_spec l s.t (by omega) hl' (fun u hu => by have := hsl u hu; omega), tin_cons, hs]
    simp only [true_and]
    have hbeh : Tin l x → s.t < x := fun h => tin_behind hl h
    constructor
    · rintro (⟨h1, h2, h3⟩ | ⟨h1, h2, h3⟩)
      · exact ⟨h2, by omega, fun h => h.elim (fun k => by omega) (fun k => by have := hbeh k; omega)⟩
      · exact ⟨by omega, h2, fun h => h.elim (fun k => by omega) h3⟩
    · rintro ⟨h1, h2, h3⟩
      by_cases c : x < s.f
      · exact .inl ⟨rt_iff.2 ⟨hm, by simp only; omega, by simp only; omega⟩, h1, c⟩
      · refine .inr ⟨?_, h2, fun h => h3 (.inr h)⟩
        rcases Int.lt_or_le x s.t with h4 | h4
        · exact absurd (.inl ⟨by omega, h4⟩) h3
        · exact h4
theorem tin_range {l : List Sp} {x : Int} (h : Tin l x) : 0 ≤ x ∧ x < 86400000 := by
  obtain ⟨s, _, hs, h1, h2⟩ := h
  have := rt_iff.1 hs
  omega
/-- Minus. -/
def minusN (a b : List Sp) : List Sp := bothN a (gapsR 0 (norm b))
theorem minusN_spec (a b : List Sp) : Nrm (minusN a b) ∧ ∀ x, Tin (minusN a b) x ↔ Tin a x ∧ ¬ Tin b x := by
  obtain ⟨h1, h2⟩ := bothN_spec a (gapsR 0 (norm b))
  refine ⟨h1, fun x => (h2 x).trans ?_⟩
  rw [gapsR_spec _ 0 (by omega) (norm_spec b).1 (fun s hs => (rt_iff.1 ((norm_spec b).1.1 s hs)).1), (norm_spec b).2]
  constructor
  · rintro ⟨h3, _, _, h4⟩; exact ⟨h3, h4⟩
  · rintro ⟨h3, h4⟩; exact ⟨h3, (tin_range h3).1, (tin_range h3).2, h4⟩

/-! ### The reference's Both and Minus -/
/-- One pair. -/
def pairR (o : List Sp) (p q : Sp) : List Sp := if rt p && rt q && rt (meet p q) then ins o (meet p q) else o
theorem pairR_spec {o : List Sp} (p q : Sp) (h : Nrm o) : Nrm (pairR o p q) ∧ ∀ x, Tin (pairR o p q) x ↔ Tin o x ∨ (Tin [p] x ∧ Tin [q] x) := by
  unfold pairR
  rcases hc : (rt p && rt q && rt (meet p q)) with _ | _
  · simp only [Bool.false_eq_true, if_false]
    refine ⟨h, fun x => ⟨.inl, fun k => k.resolve_right ?_⟩⟩
    rintro ⟨k1, k2⟩
    rw [tin_one] at k1 k2
    rw [k1.1, k2.1] at hc
    have := rt_no (by simpa using hc)
    have h1 := rt_iff.1 k1.1
    have h2 := rt_iff.1 k2.1
    simp only [meet] at this
    omega
  · simp only [if_true]
    simp only [Bool.and_eq_true] at hc
    obtain ⟨h1, h2⟩ := ins_spec h hc.2
    refine ⟨h1, fun x => (h2 x).trans (or_congr Iff.rfl ?_)⟩
    rw [tin_one, tin_one, hc.1.1, hc.1.2]
    simp only [meet, true_and]
    omega
def rowR (o : List Sp) (p : Sp) (b : List Sp) : List Sp := b.foldl (fun o q => pairR o p q) o
theorem rowR_spec (p : Sp) : ∀ (b o : List Sp), Nrm o → Nrm (rowR o p b) ∧ ∀ x, Tin (rowR o p b) x ↔ Tin o x ∨ (Tin [p] x ∧ Tin b x)
  | [], o, h => ⟨h, fun x => ⟨.inl, fun k => k.resolve_right fun k => tin_nil k.2⟩⟩
  | q :: b, o, h => by
    obtain ⟨h1, h2⟩ := pairR_spec p q h
    obtain ⟨k1, k2⟩ := rowR_spec p b _ h1
    refine ⟨k1, fun x => (k2 x).trans ?_⟩
    rw [h2, tin_cons (s := q) (l := b), tin_one (s := q), or_assoc, and_or_left]
def bothR (a b : List Sp) : List Sp := a.foldl (fun o p => rowR o p b) []
theorem bothF_spec (b : List Sp) : ∀ (a o : List Sp), Nrm o → Nrm (a.foldl (fun o p => rowR o p b) o) ∧ ∀ x, Tin (a.foldl (fun o p => rowR o p b) o) x ↔ Tin o x ∨ (Tin a x ∧ Tin b x)
  | [], o, h => ⟨h, fun x => ⟨.inl, fun k => k.resolve_right fun k => tin_nil k.1⟩⟩
  | p :: a, o, h => by
    obtain ⟨h1, h2⟩ := rowR_spec p b o h
    obtain ⟨k1, k2⟩ := bothF_spec b a _ h1
    refine ⟨k1, fun x => (k2 x).trans ?_⟩
    rw [h2, tin_cons (s := p) (l := a), tin_one (s := p), or_assoc, or_and_right]
theorem bothR_eq (a b : List Sp) : bothR a b = bothN a b := by
  obtain ⟨h1, h2⟩ := bothF_spec b a [] nrm_nil
  refine nrm_unique h1 (bothN_spec a b).1 fun x => (h2 x).trans ?_
  rw [(bothN_spec a b).2]
  exact ⟨fun h => h.resolve_left tin_nil, .inr⟩

/-- One span less. -/
def cutR (s e : Sp) : List Sp := (if rt ⟨e.f, min e.t s.f⟩ then [⟨e.f, min e.t s.f⟩] else []) ++ (if rt ⟨max e.f s.t, e.t⟩ then [⟨max e.f s.t, e.t⟩] else [])
def withoutR (l : List Sp) (s : Sp) : List Sp := l.flatMap (cutR s)
theorem cutR_spec {s e : Sp} (hs : rt s = true) (he : rt e = true) : Nrm (cutR s e) ∧ (∀ x, Tin (cutR s e) x ↔ (e.f ≤ x ∧ x < e.t) ∧ ¬ (s.f ≤ x ∧ x < s.t)) ∧ ∀ o ∈ cutR s e, e.f ≤ o.f ∧ o.t ≤ e.t := by
  have hss := rt_iff.1 hs
  have hee := rt_iff.1 he
  have one : ∀ u : Sp, Nrm (if rt u then [u] else []) ∧ ∀ x, Tin (if rt u then [u] else []) x ↔ rt u = true ∧ u.f ≤ x ∧ x < u.t := fun u => by
    rcases hu : rt u with _ | _
    · simp only [Bool.false_eq_true, if_false, false_and]
      exact ⟨nrm_nil, fun x => ⟨fun h => tin_nil h, fun h => h.elim⟩⟩
    · simp only [if_true]
      exact ⟨nrm_cons.2 ⟨hu, (fun v hv => by cases hv), nrm_nil⟩, fun x => by rw [tin_one, hu]; simp⟩
  unfold cutR
  refine ⟨nrm_append.2 ⟨(one _).1, (one _).1, fun u hu v hv => ?_⟩, fun x => ?_, fun o ho => ?_⟩
  · split at hu
    · split at hv
      · rw [List.mem_singleton.1 hu, List.mem_singleton.1 hv]; simp only; omega
      · cases hv
    · cases hu
  · rw [tin_append, (one _).2, (one _).2, rt_iff, rt_iff]
    simp only
    omega
  · rcases List.mem_append.1 ho with ho | ho
    · split at ho
      · rw [List.mem_singleton.1 ho]; simp only; omega
      · cases ho
    · split at ho
      · rw [List.mem_singleton.1 ho]; simp only; omega
      · cases ho
theorem withoutR_spec {s : Sp} (hs : rt s = true) : ∀ (l : List Sp), Nrm l → Nrm (withoutR l s) ∧ (∀ x, Tin (withoutR l s) x ↔ Tin l x ∧ ¬ (s.f ≤ x ∧ x < s.t)) ∧ ∀ m, (∀ e ∈ l, m < e.f) → ∀ o ∈ withoutR l s, m < o.f
  | [], _ => ⟨nrm_nil, fun x => ⟨fun h => (tin_nil h).elim, fun h => (tin_nil h.1).elim⟩, fun m _ o ho => by cases ho⟩
  | e :: l, h => by
    obtain ⟨he, hel, hl⟩ := nrm_cons.1 h
    obtain ⟨h1, h2, h3⟩ := cutR_spec hs he
    obtain ⟨k1, k2, k3⟩ := withoutR_spec hs l hl
    have e1 : withoutR (e :: l) s = cutR s e ++ withoutR l s := by unfold withoutR; rw [List.flatMap_cons]
    rw [e1]
    refine ⟨nrm_append.2 ⟨h1, k1, fun u hu v hv => ?_⟩, fun x => ?_, fun m hm o ho => ?_⟩
    · have := k3 e.t hel v hv
      have := (h3 u hu).2
      omega
    · rw [tin_append, h2, k2, tin_cons, he]
      simp only [true_and]
      exact or_and_right.symm
    · rcases List.mem_append.1 ho with ho | ho
      · have := (h3 o ho).1
        have := hm e (List.mem_cons_self ..)
        omega
      · exact k3 m (fun u hu => hm u (List.mem_cons_of_mem _ hu)) o ho
def minusR (a b : List Sp) : List Sp := b.foldl (fun o s => if rt s then withoutR o s else o) (unionR a)
theorem minusF_spec : ∀ (b o : List Sp), Nrm o → Nrm (b.foldl (fun o s => if rt s then withoutR o s else o) o) ∧ ∀ x, Tin (b.foldl (fun o s => if rt s then withoutR o s else o) o) x ↔ Tin o x ∧ ¬ Tin b x
  | [], o, h => ⟨h, fun x => ⟨fun k => ⟨k, tin_nil⟩, fun k => k.1⟩⟩
  | s :: b, o, h => by
    rw [List.foldl_cons]
    rcases hs : rt s with _ | _
    · simp only [Bool.false_eq_true, if_false]
      obtain ⟨h1, h2⟩ := minusF_spec b o h
      refine ⟨h1, fun x => (h2 x).trans ?_⟩
      rw [tin_cons, hs]
      simp only [Bool.false_eq_true, false_and, false_or]
    · simp only [if_true]
      obtain ⟨k1, k2, _⟩ := withoutR_spec hs o h
      obtain ⟨h1, h2⟩ := minusF_spec b _ k1
      refine ⟨h1, fun x => (h2 x).trans ?_⟩
      rw [k2, tin_cons, hs]
      simp only [true_and, not_or, and_assoc]
theorem minusR_eq (a b : List Sp) : minusR a b = minusN a b := by
  unfold minusR
  rw [unionR_norm]
  obtain ⟨h1, h2⟩ := minusF_spec b _ (norm_spec a).1
  refine nrm_unique h1 (minusN_spec a b).1 fun x => (h2 x).trans ?_
  rw [(minusN_spec a b).2, (norm_spec a).2]

/-! ### Covers -/
def coversB (l : List Sp) (s : Sp) : Bool := rt s && (norm l).any fun u => decide (u.f ≤ s.f) && decide (s.t ≤ u.t)
theorem nrm_none {l : List Sp} (h : Nrm l) : l = [] ↔ ∀ x, ¬ Tin l x := by
  constructor
  · rintro rfl x; exact tin_nil
  · intro k
    match l, h with
    | [], _ => rfl
    | s :: l, h =>
      have hs := rt_iff.1 (nrm_cons.1 h).1
      exact absurd (tin_cons.2 (.inl ⟨(nrm_cons.1 h).1, by omega, by omega⟩)) (k s.f)
theorem nrm_inside {l : List Sp} (h : Nrm l) {s : Sp} (hs : rt s = true) : ((l.any fun u => decide (u.f ≤ s.f) && decide (s.t ≤ u.t)) = true) ↔ ∀ x, s.f ≤ x → x < s.t → Tin l x := by
  have hss := rt_iff.1 hs
  rw [List.any_eq_true]
  constructor
  · rintro ⟨u, hu, k⟩ x h1 h2
    simp only [Bool.and_eq_true, decide_eq_true_eq] at k
    exact ⟨u, hu, h.1 u hu, by omega, by omega⟩
  · intro k
    obtain ⟨u, hu, hur, h1, h2⟩ := k s.f (by omega) (by omega)
    refine ⟨u, hu, ?_⟩
    simp only [Bool.and_eq_true, decide_eq_true_eq]
    refine ⟨h1, ?_⟩
    rcases Int.lt_or_le u.t s.t with h3 | h3
    · exfalso
      obtain ⟨v, hv, hvr, h4, h5⟩ := k u.t (by omega) h3
      have hp := h.2
      obtain ⟨i, hi, rfl⟩ := List.getElem_of_mem hu
      obtain ⟨j, hj, rfl⟩ := List.getElem_of_mem hv
      rcases Nat.lt_trichotomy i j with h6 | h6 | h6
      · have := List.pairwise_iff_getElem.1 hp i j hi hj h6; omega
      · subst h6; omega
      · have := List.pairwise_iff_getElem.1 hp j i hj hi h6; omega
    · exact h3
theorem covers_iff (l : List Sp) (s : Sp) : coversB l s = true ↔ rt s = true ∧ ∀ x, s.f ≤ x → x < s.t → Tin l x := by
  unfold coversB
  rw [Bool.and_eq_true]
  constructor
  · rintro ⟨h1, h2⟩
    exact ⟨h1, fun x h3 h4 => ((norm_spec l).2 x).1 ((nrm_inside (norm_spec l).1 h1).1 h2 x h3 h4)⟩
  · rintro ⟨h1, h2⟩
    exact ⟨h1, (nrm_inside (norm_spec l).1 h1).2 fun x h3 h4 => ((norm_spec l).2 x).2 (h2 x h3 h4)⟩
theorem minus_one_nil {l : List Sp} {s : Sp} (hs : rt s = true) : minusN [s] l = [] ↔ ∀ x, s.f ≤ x → x < s.t → Tin l x := by
  rw [nrm_none (minusN_spec [s] l).1]
  constructor
  · intro k x h1 h2
    have := k x
    rw [(minusN_spec [s] l).2, tin_one, hs] at this
    exact Classical.byContradiction fun h => this ⟨⟨rfl, h1, h2⟩, h⟩
  · intro k x h
    rw [(minusN_spec [s] l).2, tin_one] at h
    exact h.2 (k x h.1.2.1 h.1.2.2)
theorem covers_ref (l : List Sp) (s : Sp) : coversB l s = (rt s && (minusN [s] l).length == 0) := by
  rw [Bool.eq_iff_iff, covers_iff, Bool.and_eq_true, beq_iff_eq, List.length_eq_zero_iff]
  constructor
  · rintro ⟨h1, h2⟩; exact ⟨h1, (minus_one_nil h1).2 h2⟩
  · rintro ⟨h1, h2⟩; exact ⟨h1, (minus_one_nil h1).1 h2⟩
theorem covers_part {l : List Sp} {s p : Sp} (h : coversB l s = true) (hp : rt p = true) (h1 : s.f ≤ p.f) (h2 : p.t ≤ s.t) : coversB l p = true :=
  (covers_iff l p).2 ⟨hp, fun x h3 h4 => ((covers_iff l s).1 h).2 x (by omega) (by omega)⟩

/-! ### Total -/
def total (l : List Sp) : Int := l.foldl (fun n s => n + (s.t - s.f)) 0
theorem total_from : ∀ (l : List Sp) (n : Int), l.foldl (fun n s => n + (s.t - s.f)) n = n + total l
  | [], n => by simp [total]
  | s :: l, n => by
    show l.foldl _ (n + (s.t - s.f)) = n + l.foldl _ (0 + (s.t - s.f))
    rw [total_from l, total_from l]
    omega
theorem total_cons (s : Sp) (l : List Sp) : total (s :: l) = (s.t - s.f) + total l := by
  show l.foldl _ (0 + (s.t - s.f)) = _
  rw [total_from]; omega
open Classical in
/-- How many times below n are in P. -/
noncomputable def cnt (P : Int → Prop) : Nat → Int
  | 0 => 0
  | n + 1 => cnt P n + if P (n : Int) then 1 else 0
theorem cnt_congr {P Q : Int → Prop} : ∀ (n : Nat), (∀ x, P x ↔ Q x) → cnt P n = cnt Q n
  | 0, _ => rfl
  | n + 1, h => by
    unfold cnt
    rw [cnt_congr n h]
    by_cases k : P (n : Int)
    · rw [if_pos k, if_pos ((h _).1 k)]
    · rw [if_neg k, if_neg fun k' => k ((h _).2 k')]
theorem cnt_split {P Q : Int → Prop} : ∀ (n : Nat), (∀ x, ¬ (P x ∧ Q x)) → cnt (fun x => P x ∨ Q x) n = cnt P n + cnt Q n
  | 0, _ => rfl
  | n + 1, h => by
    unfold cnt
    rw [cnt_split n h]
    have := h (n : Int)
    by_cases h1 : P (n : Int) <;> by_cases h2 : Q (n : Int)
    · exact absurd ⟨h1, h2⟩ this
    · simp only [h1, h2, true_or, if_true, if_false]; omega
    · simp only [h1, h2, or_true, if_true, if_false]; omega
    · simp only [h1, h2, or_self, if_false]; omega
theorem cnt_none {P : Int → Prop} : ∀ (n : Nat), (∀ x, ¬ P x) → cnt P n = 0
  | 0, _ => rfl
  | n + 1, h => by unfold cnt; rw [cnt_none n h, if_neg (h _)]; rfl
theorem cnt_span {a b : Int} (ha : 0 ≤ a) (hab : a ≤ b) : ∀ (n : Nat), cnt (fun x => a ≤ x ∧ x < b) n = min (n : Int) b - min (n : Int) a
  | 0 => by unfold cnt; omega
  | n + 1 => by
    unfold cnt
    rw [cnt_span ha hab n]
    by_cases h : a ≤ (n : Int) ∧ (n : Int) < b
    · rw [if_pos h]; omega
    · rw [if_neg h]; omega
theorem total_cnt : ∀ (l : List Sp), Nrm l → total l = cnt (Tin l) 86400000
  | [], _ => by rw [cnt_none _ fun _ => tin_nil]; rfl
  | s :: l, h => by
    obtain ⟨hs, hsl, hl⟩ := nrm_cons.1 h
    have hss := rt_iff.1 hs
    have e1 : cnt (Tin (s :: l)) 86400000 = cnt (fun x => (s.f ≤ x ∧ x < s.t) ∨ Tin l x) 86400000 := cnt_congr _ fun x => by rw [tin_cons, hs]; simp
    have e2 := cnt_split (P := fun x => s.f ≤ x ∧ x < s.t) (Q := Tin l) 86400000 fun x hx => by have := tin_behind h hx.2; omega
    have e3 := cnt_span hss.1 (Int.le_of_lt hss.2.1) 86400000
    rw [total_cons, total_cnt l hl, e1, e2, e3]
    have e4 : ((86400000 : Nat) : Int) = 86400000 := rfl
    rw [e4]
    omega
/-- The times of a list are those that another one has and those that it does not have. -/
theorem total_split (a b : List Sp) : total (norm a) = total (bothN a b) + total (minusN a b) := by
  rw [total_cnt _ (norm_spec a).1, total_cnt _ (bothN_spec a b).1, total_cnt _ (minusN_spec a b).1, ← cnt_split _ fun x hx => ?_]
  · refine cnt_congr _ fun x => ?_
    rw [(norm_spec a).2, (bothN_spec a b).2, (minusN_spec a b).2]
    exact ⟨fun h => (Classical.em (Tin b x)).imp (fun k => ⟨h, k⟩) fun k => ⟨h, k⟩, fun h => h.elim And.left And.left⟩
  · rw [(bothN_spec a b).2, (minusN_spec a b).2] at hx
    exact hx.2.2 hx.1.2
theorem union_split (a b : List Sp) : norm (bothN a b ++ minusN a b) = norm a := by
  refine (norm_of (norm_spec _).1 fun x => ?_)
  rw [(norm_spec _).2, tin_append, (bothN_spec a b).2, (minusN_spec a b).2]
  exact ⟨fun h => h.elim And.left And.left, fun h => (Classical.em (Tin b x)).imp (fun k => ⟨h, k⟩) fun k => ⟨h, k⟩⟩
theorem norm_bothN (a b : List Sp) : norm (bothN a b) = bothN a b := norm_norm (bothN_spec a b).1
theorem norm_minusN (a b : List Sp) : norm (minusN a b) = minusN a b := norm_norm (minusN_spec a b).1

/-! ### Relations -/
def firstR (a b : Sp) : Int :=
  if a.t < b.f then 1 else if a.t = b.f then 2 else if a.f < b.f ∧ b.f < a.t ∧ a.t < b.t then 3 else if a.f = b.f ∧ a.t < b.t then 4 else
  if a.f > b.f ∧ a.t < b.t then 5 else if a.f > b.f ∧ a.t = b.t then 6 else if a.f = b.f ∧ a.t = b.t then 7 else 0
def relI (a b : Sp) : Int := if rt a && rt b then (if firstR a b ≠ 0 then firstR a b else 14 - firstR b a) else 0
def flipI (r : Int) : Int := if r < 1 ∨ 13 < r then 0 else 14 - r
set_option maxHeartbeats 8000000 in
theorem firstR_sides {a b : Sp} (ha : rt a = true) (hb : rt b = true) : (firstR a b = 0 → 1 ≤ firstR b a ∧ firstR b a ≤ 6) ∧ 0 ≤ firstR a b ∧ firstR a b ≤ 7 ∧ (1 ≤ firstR a b → firstR a b ≤ 6 → firstR b a = 0) ∧ (firstR a b = 7 ↔ a.f = b.f ∧ a.t = b.t) := by
  have h1 := rt_iff.1 ha
  have h2 := rt_iff.1 hb
  unfold firstR
  refine ⟨?_, ?_, ?_, ?_, ?_⟩ <;> (repeat' split) <;> omega
theorem relI_inverse {a b : Sp} (ha : rt a = true) (hb : rt b = true) : 1 ≤ relI a b ∧ relI a b ≤ 13 ∧ relI b a = 14 - relI a b ∧ (relI a b = 7 ↔ a.f = b.f ∧ a.t = b.t) := by
  obtain ⟨h1, h2, h3, h4, h5⟩ := firstR_sides ha hb
  obtain ⟨k1, k2, k3, k4, k5⟩ := firstR_sides hb ha
  unfold relI
  rw [ha, hb]
  simp only [Bool.and_self, if_true]
  by_cases c : firstR a b = 0
  · have := h1 c
    rw [if_neg (by simpa using c), if_pos (by omega)]
    refine ⟨by omega, by omega, by omega, ?_⟩
    constructor
    · intro h; omega
    · intro h; have := h5.2 h; omega
  · rw [if_pos c]
    by_cases d : firstR a b = 7
    · have e := h5.1 d
      have : firstR b a = 7 := k5.2 ⟨e.1.symm, e.2.symm⟩
      rw [if_pos (by omega)]
      exact ⟨by omega, by omega, by omega, h5⟩
    · have := h4 (by omega) (by omega)
      rw [if_neg (by simpa using this)]
      exact ⟨by omega, by omega, by omega, h5⟩
end Go.Proofs.Ytofnbohcofgfkaa
