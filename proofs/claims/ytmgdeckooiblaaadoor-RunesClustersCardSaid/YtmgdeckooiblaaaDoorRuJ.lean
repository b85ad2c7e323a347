/- Clusters of the code. -/
import Derived.Test.YtmgdeckooiblaaaDoorRuI
import Derived.Test.YtmgdeckooiblaaaDoorRuF
namespace Go.Proofs.YtmgdeckooiblaaaDoor
open Go.RowKit Go.Shelf
attribute [local go_sem] Oper.semAt_some

/-- One scalar more, as the code goes. -/
def cst (s : List UInt8) (q : List (List UInt8) × Nat) (x : Nat × Nat) : List (List UInt8) × Nat :=
  if q.2 < x.1 ∧ markB (x.2 : Int) = false then (q.1 ++ [piece s q.2 x.1], x.1) else q
theorem piece_enc (a : List Nat) (p : Nat) (r : List Nat) : piece (encs (a ++ p :: r)) (encs a).length ((encs a).length + (enc p).length) = enc p := by
  unfold piece
  rw [encs_append, List.drop_left, encs_cons, Nat.add_sub_cancel_left, List.take_left]
theorem piece_join (s : List UInt8) (f k m : Nat) (h : f ≤ k) (h2 : k ≤ m) : piece s f m = piece s f k ++ piece s k m := by
  unfold piece
  rw [show m - f = (k - f) + (m - k) by omega, List.take_add, List.drop_drop, show f + (k - f) = k by omega]
theorem cst_inv (l : List Nat) : ∀ (done r : List Nat), l = done ++ r →
    (done = [] → (prs 0 done).foldl (cst (encs l)) ([], 0) = ([], 0)) ∧
    (done ≠ [] → ((prs 0 done).foldl (cst (encs l)) ([], 0)).2 < (encs done).length ∧ clu done = ((prs 0 done).foldl (cst (encs l)) ([], 0)).1 ++ [piece (encs l) ((prs 0 done).foldl (cst (encs l)) ([], 0)).2 (encs done).length]) := by
  intro done
  induction h : done.length generalizing done with
  | zero =>
    intro r _
    obtain rfl := List.eq_nil_of_length_eq_zero h
    exact ⟨fun _ => rfl, fun h => absurd rfl h⟩
  | succ k ih =>
    intro r hl
    have hne : done ≠ [] := by intro e; rw [e] at h; cases h
    obtain ⟨d, p, rfl⟩ : ∃ d p, done = d ++ [p] := ⟨done.dropLast, done.getLast hne, (List.dropLast_concat_getLast hne).symm⟩
    refine ⟨fun e => absurd e hne, fun _ => ?_⟩
    have hdl : d.length = k := by simpa using h
    obtain ⟨i1, i2⟩ := ih d hdl (p :: r) (by rw [hl]; simp)
    have hp := (enc_len p).1
    have hpc : piece (encs l) (encs d).length ((encs d).length + (enc p).length) = enc p := by rw [hl, List.append_assoc]; exact piece_enc d p r
    have hel : (encs (d ++ [p])).length = (encs d).length + (enc p).length := by rw [encs_append]; simp [encs]
    have hcl : clu (d ++ [p]) = cstep (clu d) p := by unfold clu; rw [List.foldl_append]; rfl
    rw [prs_snoc, List.foldl_append, Nat.zero_add, hel, hcl]
    show (cst _ _ _).2 < _ ∧ _ = (cst _ _ _).1 ++ [piece _ (cst _ _ _).2 _]
    by_cases hd : d = []
    · subst hd
      rw [i1 rfl]
      have e : cst (encs l) ([], 0) ((encs []).length, p) = ([], 0) := by unfold cst; rw [if_neg (by intro h; exact absurd h.1 (by simp [encs]))]
      rw [e]
      refine ⟨by simp [encs]; omega, ?_⟩
      show cstep [] p = [] ++ [_]
      rw [show cstep [] p = [enc p] by unfold cstep; rw [if_pos (.inl rfl)]; rfl]
      have : piece (encs l) 0 ((encs []).length + (enc p).length) = enc p := hpc
      rw [this]; rfl
    · obtain ⟨h1, h2⟩ := i2 hd
      generalize (prs 0 d).foldl (cst (encs l)) ([], 0) = q at *
      by_cases hm : markB (p : Int) = false
      · have e : cst (encs l) q ((encs d).length, p) = (q.1 ++ [piece (encs l) q.2 (encs d).length], (encs d).length) := by unfold cst; rw [if_pos ⟨h1, hm⟩]
        rw [e]
        refine ⟨by show (encs d).length < _; omega, ?_⟩
        unfold cstep
        rw [if_pos (.inr hm), h2, hpc]
      · have e : cst (encs l) q ((encs d).length, p) = q := by unfold cst; rw [if_neg (fun h => hm h.2)]
        rw [e]
        refine ⟨by omega, ?_⟩
        unfold cstep
        rw [if_neg (fun h => h.elim (fun h => by rw [h2] at h; simp at h) hm), h2, addLast_append, piece_join (encs l) q.2 (encs d).length ((encs d).length + (enc p).length) (by omega) (by omega), hpc]
theorem cst_end (l : List Nat) (hl : l ≠ []) : ((prs 0 l).foldl (cst (encs l)) ([], 0)).2 < (encs l).length ∧ clu l = ((prs 0 l).foldl (cst (encs l)) ([], 0)).1 ++ [piece (encs l) ((prs 0 l).foldl (cst (encs l)) ([], 0)).2 (encs l).length] :=
  (cst_inv l l [] (by simp)).2 hl
theorem prs_le (l : List Nat) : ∀ a, ∀ x ∈ prs a l, x.1 ≤ a + (encs l).length := by
  induction l with
  | nil => intro a x hx; cases hx
  | cons q l ih =>
    intro a x hx
    rw [encs_cons, List.length_append]
    rcases List.mem_cons.1 hx with rfl | hx
    · simp
    · have := ih _ x hx; omega
theorem cst_bound (s : List UInt8) (n : Nat) : ∀ (xs : List (Nat × Nat)) (q : List (List UInt8) × Nat), (∀ x ∈ xs, x.1 ≤ n) → q.2 ≤ n → (xs.foldl (cst s) q).2 ≤ n ∧ (xs.foldl (cst s) q).1.length ≤ q.1.length + xs.length
  | [], q, _, h => ⟨h, by simp⟩
  | x :: xs, q, hx, h => by
    have hc : (cst s q x).2 ≤ n ∧ (cst s q x).1.length ≤ q.1.length + 1 := by
      unfold cst
      split
      · exact ⟨hx x (by simp), by simp⟩
      · exact ⟨h, by omega⟩
    obtain ⟨h1, h2⟩ := cst_bound s n xs (cst s q x) (fun y hy => hx y (by simp [hy])) hc.1
    exact ⟨h1, by simp only [List.foldl_cons, List.length_cons]; omega⟩
end Go.Proofs.YtmgdeckooiblaaaDoor
