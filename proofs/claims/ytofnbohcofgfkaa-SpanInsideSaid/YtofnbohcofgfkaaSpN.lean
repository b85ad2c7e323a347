/- Spans of time as sets of times: plain mathematics, of no program. -/
import Derived.Test.YtofnbohcofgfkaaBase
namespace Go.Proofs.Ytofnbohcofgfkaa

/-- A span: from, to. -/
structure Sp where
  f : Int
  t : Int
instance : Inhabited Sp := ⟨⟨0, 0⟩⟩
theorem Sp.ext' {a b : Sp} (h1 : a.f = b.f) (h2 : a.t = b.t) : a = b := by cases a; cases b; simp_all

/-- A span is right. -/
def rt (s : Sp) : Bool := decide (0 ≤ s.f) && decide (s.f < s.t) && decide (s.t ≤ 86400000)
theorem rt_iff {s : Sp} : rt s = true ↔ 0 ≤ s.f ∧ s.f < s.t ∧ s.t ≤ 86400000 := by unfold rt; simp [and_assoc]
theorem rt_no {s : Sp} (h : rt s = false) : ¬ (0 ≤ s.f ∧ s.f < s.t ∧ s.t ≤ 86400000) := fun h' => by rw [rt_iff.2 h'] at h; cases h

/-- x is a time of the list: of one of its right spans. -/
def Tin (l : List Sp) (x : Int) : Prop := ∃ s ∈ l, rt s = true ∧ s.f ≤ x ∧ x < s.t
theorem tin_nil {x : Int} : ¬ Tin [] x := fun ⟨_, h, _⟩ => by cases h
theorem tin_append {a b : List Sp} {x : Int} : Tin (a ++ b) x ↔ Tin a x ∨ Tin b x := by
  constructor
  · rintro ⟨s, h, k⟩
    rcases List.mem_append.1 h with h | h
    · exact .inl ⟨s, h, k⟩
    · exact .inr ⟨s, h, k⟩
  · rintro (⟨s, h, k⟩ | ⟨s, h, k⟩)
    · exact ⟨s, List.mem_append.2 (.inl h), k⟩
    · exact ⟨s, List.mem_append.2 (.inr h), k⟩
theorem tin_cons {s : Sp} {l : List Sp} {x : Int} : Tin (s :: l) x ↔ (rt s = true ∧ s.f ≤ x ∧ x < s.t) ∨ Tin l x := by
  constructor
  · rintro ⟨u, h, k⟩
    rcases List.mem_cons.1 h with rfl | h
    · exact .inl k
    · exact .inr ⟨u, h, k⟩
  · rintro (k | ⟨u, h, k⟩)
    · exact ⟨s, List.mem_cons_self .., k⟩
    · exact ⟨u, List.mem_cons_of_mem _ h, k⟩
theorem tin_one {s : Sp} {x : Int} : Tin [s] x ↔ (rt s = true ∧ s.f ≤ x ∧ x < s.t) := by rw [tin_cons]; exact ⟨fun h => h.resolve_right tin_nil, .inl⟩
theorem tin_filter {l : List Sp} {x : Int} : Tin (l.filter rt) x ↔ Tin l x := by
  constructor
  · rintro ⟨s, h, k⟩; exact ⟨s, (List.mem_filter.1 h).1, k⟩
  · rintro ⟨s, h, k⟩; exact ⟨s, List.mem_filter.2 ⟨h, k.1⟩, k⟩
theorem tin_perm {a b : List Sp} (h : a.Perm b) {x : Int} : Tin a x ↔ Tin b x :=
  ⟨fun ⟨s, m, k⟩ => ⟨s, h.mem_iff.1 m, k⟩, fun ⟨s, m, k⟩ => ⟨s, h.mem_iff.2 m, k⟩⟩

/-- A normal list. -/
def Nrm (l : List Sp) : Prop := (∀ s ∈ l, rt s = true) ∧ l.Pairwise fun a b => a.t < b.f
theorem nrm_nil : Nrm [] := ⟨(fun s h => by cases h), List.Pairwise.nil⟩
theorem nrm_cons {s : Sp} {l : List Sp} : Nrm (s :: l) ↔ rt s = true ∧ (∀ u ∈ l, s.t < u.f) ∧ Nrm l := by
  unfold Nrm
  rw [List.pairwise_cons]
  constructor
  · rintro ⟨h1, h2, h3⟩
    exact ⟨h1 s (List.mem_cons_self ..), h2, fun u hu => h1 u (List.mem_cons_of_mem _ hu), h3⟩
  · rintro ⟨h1, h2, h3, h4⟩
    refine ⟨fun u hu => ?_, h2, h4⟩
    rcases List.mem_cons.1 hu with rfl | hu
    · exact h1
    · exact h3 u hu
theorem nrm_append {a b : List Sp} : Nrm (a ++ b) ↔ Nrm a ∧ Nrm b ∧ ∀ x ∈ a, ∀ y ∈ b, x.t < y.f := by
  unfold Nrm
  rw [List.pairwise_append]
  constructor
  · rintro ⟨h1, h2, h3, h4⟩
    exact ⟨⟨fun u hu => h1 u (List.mem_append.2 (.inl hu)), h2⟩, ⟨fun u hu => h1 u (List.mem_append.2 (.inr hu)), h3⟩, h4⟩
  · rintro ⟨⟨h1, h2⟩, ⟨h3, h4⟩, h5⟩
    refine ⟨fun u hu => ?_, h2, h4, h5⟩
    rcases List.mem_append.1 hu with hu | hu
    · exact h1 u hu
    · exact h3 u hu

/-- What lies behind the first span of a normal list begins behind it. -/
theorem tin_behind {s : Sp} {l : List Sp} (h : Nrm (s :: l)) {x : Int} (hx : Tin l x) : s.t < x := by
  obtain ⟨u, hu, _, h1, _⟩ := hx
  have := (nrm_cons.1 h).2.1 u hu
  omega
/-- Two normal lists with the same times are the same. -/
theorem nrm_unique : ∀ {a b : List Sp}, Nrm a → Nrm b → (∀ x, Tin a x ↔ Tin b x) → a = b
  | [], [], _, _, _ => rfl
  | [], u :: b, _, hb, h => by
    have hu := rt_iff.1 (nrm_cons.1 hb).1
    exact absurd ((h u.f).2 (tin_cons.2 (.inl ⟨(nrm_cons.1 hb).1, by omega, by omega⟩))) tin_nil
  | s :: a, [], ha, _, h => by
    have hs := rt_iff.1 (nrm_cons.1 ha).1
    exact absurd ((h s.f).1 (tin_cons.2 (.inl ⟨(nrm_cons.1 ha).1, by omega, by omega⟩))) tin_nil
  | s :: a, u :: b, ha, hb, h => by
    have hs := rt_iff.1 (nrm_cons.1 ha).1
    have hu := rt_iff.1 (nrm_cons.1 hb).1
    have low : ∀ {s : Sp} {a : List Sp} {x : Int}, Nrm (s :: a) → Tin (s :: a) x → s.f ≤ x := fun hn hx => by
      rcases tin_cons.1 hx with k | k
      · exact k.2.1
      · have := tin_behind hn k
        have := rt_iff.1 (nrm_cons.1 hn).1
        omega
    have e1 : s.f = u.f := by
      have h1 := low hb ((h s.f).1 (tin_cons.2 (.inl ⟨(nrm_cons.1 ha).1, by omega, by omega⟩)))
      have h2 := low ha ((h u.f).2 (tin_cons.2 (.inl ⟨(nrm_cons.1 hb).1, by omega, by omega⟩)))
      omega
    have e2 : s.t = u.t := by
      rcases Int.lt_trichotomy s.t u.t with h1 | h1 | h1
      · exfalso
        rcases tin_cons.1 ((h s.t).2 (tin_cons.2 (.inl ⟨(nrm_cons.1 hb).1, by omega, by omega⟩))) with k | k
        · omega
        · have := tin_behind ha k; omega
      · exact h1
      · exfalso
        rcases tin_cons.1 ((h u.t).1 (tin_cons.2 (.inl ⟨(nrm_cons.1 ha).1, by omega, by omega⟩))) with k | k
        · omega
        · have := tin_behind hb k; omega
    have e : s = u := Sp.ext' e1 e2
    subst e
    rw [nrm_unique (nrm_cons.1 ha).2.2 (nrm_cons.1 hb).2.2 fun x => ⟨fun hx => ?_, fun hx => ?_⟩]
    · rcases tin_cons.1 ((h x).1 (tin_cons.2 (.inr hx))) with k | k
      · have := tin_behind ha hx; omega
      · exact k
    · rcases tin_cons.1 ((h x).2 (tin_cons.2 (.inr hx))) with k | k
      · have := tin_behind hb hx; omega
      · exact k

/-! ### Merging spans that are ordered by their beginnings -/
/-- One more span. -/
def mrg1 (out : List Sp) (s : Sp) : List Sp :=
  match out.getLast? with
  | none => [s]
  | some l => if s.f ≤ l.t then out.dropLast ++ [⟨l.f, max l.t s.t⟩] else out ++ [s]
theorem mrg1_nil (s : Sp) : mrg1 [] s = [s] := rfl
theorem mrg1_snoc (o : List Sp) (l s : Sp) : mrg1 (o ++ [l]) s = if s.f ≤ l.t then o ++ [⟨l.f, max l.t s.t⟩] else o ++ [l] ++ [s] := by
  unfold mrg1
  rw [List.getLast?_append, List.dropLast_concat]
  rfl
theorem mrg1_spec {out : List Sp} {s : Sp} (ho : Nrm out) (hs : rt s = true) (hb : ∀ o ∈ out, o.f ≤ s.f) :
    Nrm (mrg1 out s) ∧ (∀ x, Tin (mrg1 out s) x ↔ Tin out x ∨ (s.f ≤ x ∧ x < s.t)) ∧ ∀ o ∈ mrg1 out s, o.f ≤ s.f := by
  have hr := rt_iff.1 hs
  rcases List.eq_nil_or_concat out with rfl | ⟨o, l, rfl⟩
  · rw [mrg1_nil]
    refine ⟨nrm_cons.2 ⟨hs, (fun u hu => by cases hu), nrm_nil⟩, fun x => ?_, fun o ho => ?_⟩
    · rw [tin_one]
      exact ⟨fun h => .inr h.2, fun h => ⟨hs, h.resolve_left tin_nil⟩⟩
    · rw [List.mem_singleton.1 ho]; exact Int.le_refl _
  · rw [List.concat_eq_append] at ho hb ⊢
    rw [mrg1_snoc]
    obtain ⟨h1, h2, h3⟩ := nrm_append.1 ho
    have hl := rt_iff.1 (h2.1 l (List.mem_singleton.2 rfl))
    have hlf := hb l (List.mem_append.2 (.inr (List.mem_singleton.2 rfl)))
    by_cases hle : s.f ≤ l.t
    · rw [if_pos hle]
      have hm : rt ⟨l.f, max l.t s.t⟩ = true := rt_iff.2 ⟨by simp only; omega, by simp only; omega, by simp only; omega⟩
      refine ⟨nrm_append.2 ⟨h1, nrm_cons.2 ⟨hm, (fun u hu => by cases hu), nrm_nil⟩, fun a ha y hy => ?_⟩, fun x => ?_, fun u hu => ?_⟩
      · rw [List.mem_singleton.1 hy]; exact h3 a ha l (List.mem_singleton.2 rfl)
      · rw [tin_append, tin_append, tin_one, tin_one, hm, h2.1 l (List.mem_singleton.2 rfl)]
        simp only [true_and]
        constructor
        · rintro (h | ⟨h4, h5⟩)
          · exact .inl (.inl h)
          · rcases Int.lt_or_le x l.t with h6 | h6
            · exact .inl (.inr ⟨h4, h6⟩)
            · exact .inr ⟨by omega, by omega⟩
        · rintro ((h | ⟨h4, h5⟩) | ⟨h4, h5⟩)
          · exact .inl h
          · exact .inr ⟨h4, by omega⟩
          · exact .inr ⟨by omega, by omega⟩
      · rcases List.mem_append.1 hu with hu | hu
        · exact hb u (List.mem_append.2 (.inl hu))
        · rw [List.mem_singleton.1 hu]; exact hlf
    · rw [if_neg hle]
      refine ⟨nrm_append.2 ⟨ho, nrm_cons.2 ⟨hs, (fun u hu => by cases hu), nrm_nil⟩, fun a ha y hy => ?_⟩, fun x => ?_, fun u hu => ?_⟩
      · rw [List.mem_singleton.1 hy]
        rcases List.mem_append.1 ha with ha | ha
        · have := h3 a ha l (List.mem_singleton.2 rfl); omega
        · rw [List.mem_singleton.1 ha]; omega
      · rw [tin_append, tin_one, hs]; simp only [true_and]
      · rcases List.mem_append.1 hu with hu | hu
        · exact hb u hu
        · rw [List.mem_singleton.1 hu]; exact Int.le_refl _
theorem mrg_spec : ∀ (l out : List Sp), (∀ s ∈ l, rt s = true) → l.Pairwise (fun a b => a.f ≤ b.f) → Nrm out → (∀ o ∈ out, ∀ s ∈ l, o.f ≤ s.f) →
    Nrm (l.foldl mrg1 out) ∧ ∀ x, Tin (l.foldl mrg1 out) x ↔ Tin out x ∨ Tin l x
  | [], out, _, _, ho, _ => ⟨ho, fun x => ⟨.inl, fun h => h.resolve_right tin_nil⟩⟩
  | s :: l, out, hr, hp, ho, hb => by
    rw [List.pairwise_cons] at hp
    obtain ⟨h1, h2, h3⟩ := mrg1_spec ho (hr s (List.mem_cons_self ..)) fun o m => hb o m s (List.mem_cons_self ..)
    obtain ⟨k1, k2⟩ := mrg_spec l (mrg1 out s) (fun u hu => hr u (List.mem_cons_of_mem _ hu)) hp.2 h1 fun o m u hu => Int.le_trans (h3 o m) (hp.1 u hu)
    refine ⟨k1, fun x => ?_⟩
    rw [List.foldl_cons, k2, h2, tin_cons, hr s (List.mem_cons_self ..)]
    simp only [true_and, or_assoc]

/-! ### The normal list of a list -/
def norm (l : List Sp) : List Sp := ((l.filter rt).mergeSort fun a b => decide (a.f ≤ b.f)).foldl mrg1 []
theorem norm_spec (l : List Sp) : Nrm (norm l) ∧ ∀ x, Tin (norm l) x ↔ Tin l x := by
  have hp := List.mergeSort_perm (l.filter rt) fun a b => decide (a.f ≤ b.f)
  have hs := List.pairwise_mergeSort (le := fun a b : Sp => decide (a.f ≤ b.f)) (fun a b c h1 h2 => by simp at *; omega) (fun a b => by simp; omega) (l.filter rt)
  obtain ⟨h1, h2⟩ := mrg_spec _ [] (fun s m => (List.mem_filter.1 (hp.mem_iff.1 m)).2) (hs.imp fun h => by simpa using h) nrm_nil fun o m => by cases m
  refine ⟨h1, fun x => (h2 x).trans ?_⟩
  rw [tin_perm hp, tin_filter]
  exact ⟨fun h => h.resolve_left tin_nil, .inr⟩
theorem norm_of {l r : List Sp} (h : Nrm r) (ht : ∀ x, Tin r x ↔ Tin l x) : r = norm l := nrm_unique h (norm_spec l).1 fun x => (ht x).trans ((norm_spec l).2 x).symm
/-- Whatever order of the beginnings: merged, the right spans are the normal list. -/
theorem mrg_norm {l q : List Sp} (hq : q.Perm (l.filter rt)) (hs : q.Pairwise fun a b => a.f ≤ b.f) : q.foldl mrg1 [] = norm l := by
  obtain ⟨h1, h2⟩ := mrg_spec q [] (fun s m => (List.mem_filter.1 (hq.mem_iff.1 m)).2) hs nrm_nil fun o m => by cases m
  refine norm_of h1 fun x => (h2 x).trans ?_
  rw [tin_perm hq, tin_filter]
  exact ⟨fun h => h.resolve_left tin_nil, .inr⟩
theorem norm_norm {l : List Sp} (h : Nrm l) : norm l = l := (norm_of h fun _ => Iff.rfl).symm

/-! ### The reference's insertion -/
/-- What lies before, the span, what lies behind. -/
def ins1 (p : List Sp × Sp × List Sp) (e : Sp) : List Sp × Sp × List Sp :=
  if e.t < p.2.1.f then (p.1 ++ [e], p.2.1, p.2.2) else if p.2.1.t < e.f then (p.1, p.2.1, p.2.2 ++ [e]) else (p.1, ⟨min p.2.1.f e.f, max p.2.1.t e.t⟩, p.2.2)
def insP (l : List Sp) (s : Sp) : List Sp × Sp × List Sp := l.foldl ins1 ([], s, [])
def ins (l : List Sp) (s : Sp) : List Sp := (insP l s).1 ++ [(insP l s).2.1] ++ (insP l s).2.2
theorem ins1_spec {B A : List Sp} {s e : Sp} (h : Nrm (B ++ [s] ++ A)) (he : rt e = true) (hB : ∀ b ∈ B, b.t < e.f) (hA : ∀ a ∈ A, a.t < e.f) :
    Nrm ((ins1 (B, s, A) e).1 ++ [(ins1 (B, s, A) e).2.1] ++ (ins1 (B, s, A) e).2.2) ∧ ∀ x, Tin ((ins1 (B, s, A) e).1 ++ [(ins1 (B, s, A) e).2.1] ++ (ins1 (B, s, A) e).2.2) x ↔ Tin (B ++ [s] ++ A) x ∨ (e.f ≤ x ∧ x < e.t) := by
  have hee := rt_iff.1 he
  obtain ⟨h1, h2, h3⟩ := nrm_append.1 h
  obtain ⟨h4, h5, h6⟩ := nrm_append.1 h1
  have hs := h5.1 s (List.mem_singleton.2 rfl)
  have hss := rt_iff.1 hs
  have bs : ∀ b ∈ B, b.t < s.f := fun b m => h6 b m s (List.mem_singleton.2 rfl)
  have sa : ∀ a ∈ A, s.t < a.f := fun a m => h3 s (List.mem_append.2 (.inr (List.mem_singleton.2 rfl))) a m
  have ba : ∀ b ∈ B, ∀ a ∈ A, b.t < a.f := fun b m a n => h3 b (List.mem_append.2 (.inl m)) a n
  have one : ∀ u : Sp, rt u = true → Nrm [u] := fun u hu => nrm_cons.2 ⟨hu, (fun v m => by cases m), nrm_nil⟩
  have three : ∀ (B' A' : List Sp) (u : Sp), Nrm B' → rt u = true → Nrm A' → (∀ b ∈ B', b.t < u.f) → (∀ a ∈ A', u.t < a.f) → (∀ b ∈ B', ∀ a ∈ A', b.t < a.f) → Nrm (B' ++ [u] ++ A') := fun B' A' u k1 k2 k3 k4 k5 k6 =>
    nrm_append.2 ⟨nrm_append.2 ⟨k1, one u k2, fun b m y n => by rw [List.mem_singleton.1 n]; exact k4 b m⟩, k3, fun b m a n => by
      rcases List.mem_append.1 m with m | m
      · exact k6 b m a n
      · rw [List.mem_singleton.1 m]; exact k5 a n⟩
  unfold ins1
  by_cases c1 : e.t < s.f
  · simp only [if_pos c1]
    refine ⟨three _ _ _ (nrm_append.2 ⟨h4, one e he, fun b m y n => by rw [List.mem_singleton.1 n]; exact hB b m⟩) hs h2 (fun b m => ?_) sa (fun b m a n => ?_), fun x => ?_⟩
    · rcases List.mem_append.1 m with m | m
      · exact bs b m
      · rw [List.mem_singleton.1 m]; exact c1
    · rcases List.mem_append.1 m with m | m
      · exact ba b m a n
      · have := sa a n; rw [List.mem_singleton.1 m]; omega
    · simp only [tin_append, tin_one, he, hs, true_and]
      constructor
      · rintro (((h | h) | h) | h)
        · exact .inl (.inl (.inl h))
        · exact .inr h
        · exact .inl (.inl (.inr h))
        · exact .inl (.inr h)
      · rintro (((h | h) | h) | h)
        · exact .inl (.inl (.inl h))
        · exact .inl (.inr h)
        · exact .inr h
        · exact .inl (.inl (.inr h))
  · by_cases c2 : s.t < e.f
    · simp only [if_neg c1, if_pos c2]
      refine ⟨three _ _ _ h4 hs (nrm_append.2 ⟨h2, one e he, fun b m y n => by rw [List.mem_singleton.1 n]; exact hA b m⟩) bs (fun a m => ?_) (fun b m a n => ?_), fun x => ?_⟩
      · rcases List.mem_append.1 m with m | m
        · exact sa a m
        · rw [List.mem_singleton.1 m]; exact c2
      · rcases List.mem_append.1 n with n | n
        · exact ba b m a n
        · rw [List.mem_singleton.1 n]; exact hB b m
      · simp only [tin_append, tin_one, he, hs, true_and, or_assoc]
    · simp only [if_neg c1, if_neg c2]
      have hA0 : ∀ a ∈ A, False := fun a m => by
        have h7 := sa a m
        have h8 := hA a m
        have h9 := rt_iff.1 (h2.1 a m)
        omega
      have hm : rt ⟨min s.f e.f, max s.t e.t⟩ = true := rt_iff.2 ⟨by simp only; omega, by simp only; omega, by simp only; omega⟩
      refine ⟨three _ _ _ h4 hm h2 (fun b m => ?_) (fun a m => (hA0 a m).elim) ba, fun x => ?_⟩
      · have h7 := bs b m
        have h8 := hB b m
        simp only; omega
      · simp only [tin_append, tin_one, hm, hs, true_and]
        constructor
        · rintro ((h | ⟨h7, h8⟩) | h)
          · exact .inl (.inl (.inl h))
          · by_cases h9 : s.f ≤ x ∧ x < s.t
            · exact .inl (.inl (.inr h9))
            · exact .inr ⟨by omega, by omega⟩
          · exact .inl (.inr h)
        · rintro (((h | ⟨h7, h8⟩) | h) | ⟨h7, h8⟩)
          · exact .inl (.inl h)
          · exact .inl (.inr ⟨by omega, by omega⟩)
          · exact .inr h
          · exact .inl (.inr ⟨by omega, by omega⟩)
theorem insP_spec : ∀ (l B A : List Sp) (s : Sp), Nrm (B ++ [s] ++ A) → Nrm l → (∀ b ∈ B, ∀ e ∈ l, b.t < e.f) → (∀ a ∈ A, ∀ e ∈ l, a.t < e.f) →
    Nrm ((l.foldl ins1 (B, s, A)).1 ++ [(l.foldl ins1 (B, s, A)).2.1] ++ (l.foldl ins1 (B, s, A)).2.2) ∧ ∀ x, Tin ((l.foldl ins1 (B, s, A)).1 ++ [(l.foldl ins1 (B, s, A)).2.1] ++ (l.foldl ins1 (B, s, A)).2.2) x ↔ Tin (B ++ [s] ++ A) x ∨ Tin l x
  | [], B, A, s, h, _, _, _ => ⟨h, fun x => ⟨.inl, fun k => k.resolve_right tin_nil⟩⟩
  | e :: l, B, A, s, h, hl, hB, hA => by
    obtain ⟨he, hel, hl'⟩ := nrm_cons.1 hl
    obtain ⟨k1, k2⟩ := ins1_spec h he (fun b m => hB b m e (List.mem_cons_self ..)) (fun a m => hA a m e (List.mem_cons_self ..))
    have hee := rt_iff.1 he
    have kB : ∀ b ∈ (ins1 (B, s, A) e).1, ∀ u ∈ l, b.t < u.f := fun b m u n => by
      unfold ins1 at m
      by_cases c1 : e.t < s.f
      · simp only [if_pos c1] at m
        rcases List.mem_append.1 m with m | m
        · exact hB b m u (List.mem_cons_of_mem _ n)
        · rw [List.mem_singleton.1 m]; exact hel u n
      · by_cases c2 : s.t < e.f
        · simp only [if_neg c1, if_pos c2] at m; exact hB b m u (List.mem_cons_of_mem _ n)
        · simp only [if_neg c1, if_neg c2] at m; exact hB b m u (List.mem_cons_of_mem _ n)
    have kA : ∀ a ∈ (ins1 (B, s, A) e).2.2, ∀ u ∈ l, a.t < u.f := fun a m u n => by
      unfold ins1 at m
      by_cases c1 : e.t < s.f
      · simp only [if_pos c1] at m; exact hA a m u (List.mem_cons_of_mem _ n)
      · by_cases c2 : s.t < e.f
        · simp only [if_neg c1, if_pos c2] at m
          rcases List.mem_append.1 m with m | m
          · exact hA a m u (List.mem_cons_of_mem _ n)
          · rw [List.mem_singleton.1 m]; exact hel u n
        · simp only [if_neg c1, if_neg c2] at m; exact hA a m u (List.mem_cons_of_mem _ n)
    rw [List.foldl_cons]
    obtain ⟨q1, q2⟩ := insP_spec l (ins1 (B, s, A) e).1 (ins1 (B, s, A) e).2.2 (ins1 (B, s, A) e).2.1 k1 hl' kB kA
    refine ⟨q1, fun x => (q2 x).trans ?_⟩
    rw [k2, tin_cons, he]
    simp only [true_and, or_assoc]
theorem ins_spec {l : List Sp} {s : Sp} (hl : Nrm l) (hs : rt s = true) : Nrm (ins l s) ∧ ∀ x, Tin (ins l s) x ↔ Tin l x ∨ (s.f ≤ x ∧ x < s.t) := by
  obtain ⟨h1, h2⟩ := insP_spec l [] [] s (nrm_cons.2 ⟨hs, (fun u m => by cases m), nrm_nil⟩) hl (fun b m => by cases m) (fun a m => by cases m)
  refine ⟨h1, fun x => (h2 x).trans ?_⟩
  have e : Tin ([] ++ [s] ++ []) x ↔ (s.f ≤ x ∧ x < s.t) := by
    show Tin [s] x ↔ _
    rw [tin_one, hs]; simp only [true_and]
  rw [e]
  exact or_comm
/-- The reference's Union. -/
def unionR (l : List Sp) : List Sp := l.foldl (fun o s => if rt s then ins o s else o) []
theorem insF_spec : ∀ (l o : List Sp), Nrm o → Nrm (l.foldl (fun o s => if rt s then ins o s else o) o) ∧ ∀ x, Tin (l.foldl (fun o s => if rt s then ins o s else o) o) x ↔ Tin o x ∨ Tin l x
  | [], o, h => ⟨h, fun x => ⟨.inl, fun k => k.resolve_right tin_nil⟩⟩
  | s :: l, o, h => by
    rw [List.foldl_cons]
    rcases hs : rt s with _ | _
    · simp only [Bool.false_eq_true, if_false]
      obtain ⟨h1, h2⟩ := insF_spec l o h
      refine ⟨h1, fun x => (h2 x).trans ?_⟩
      rw [tin_cons, hs]
      simp only [Bool.false_eq_true, false_and, false_or]
    · simp only [if_true]
      obtain ⟨k1, k2⟩ := ins_spec h hs
      obtain ⟨h1, h2⟩ := insF_spec l _ k1
      refine ⟨h1, fun x => (h2 x).trans ?_⟩
      rw [k2, tin_cons, hs]
      simp only [true_and, or_assoc]
theorem unionR_norm (l : List Sp) : unionR l = norm l := by
  obtain ⟨h1, h2⟩ := insF_spec l [] nrm_nil
  exact norm_of h1 fun x => (h2 x).trans ⟨fun h => h.resolve_left tin_nil, .inr⟩
end Go.Proofs.Ytofnbohcofgfkaa
