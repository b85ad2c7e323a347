/- Lists of contents; what All returns. -/
import Derived.Test.YtefjjjclgcidnaaFrM
namespace Go.Proofs.Ytefjjjclgcidnaa
open Go.RowKit

/-- A slice value that reads as a list, in a block apart from those of some rows. -/
def ContAt (w : World) (R : List Value) (v : Value) (C : List UInt8) : Prop :=
  ∃ A cap, v = .slice A C.length cap ∧ Bytes w A C ∧ ∀ ad, A = some ad → 0 < C.length → ad.block < w.heap.size ∧ ∀ r ∈ R, some ad.block ≠ r.ownBlock
theorem ContAt.below {w w' : World} {R : List Value} {v : Value} {C : List UInt8} (h : ContAt w R v C) (hb : Below w.heap.size w w') : ContAt w' R v C := by
  obtain ⟨A, cap, h1, h2, h3⟩ := h
  exact ⟨A, cap, h1, h2.below hb, fun ad e hp => ⟨Nat.lt_of_lt_of_le (h3 ad e hp).1 hb.size, (h3 ad e hp).2⟩⟩
theorem ContAt.grown {w w' : World} {R R' : List Value} {r r' v : Value} {C : List UInt8} (h : ContAt w R v C) (hg : w.grownBy w' r.ownBlock) (hr : r ∈ R) (hat : r'.ownBlock = r.ownBlock ∨ r'.ownBlock = some w.heap.size)
    (hR : ∀ x ∈ R', x = r' ∨ x ∈ R) : ContAt w' R' v C := by
  obtain ⟨A, cap, h1, h2, h3⟩ := h
  refine ⟨A, cap, h1, ⟨h2.1, fun hn => ?_⟩, fun ad e hp => ⟨Nat.lt_of_lt_of_le (h3 ad e hp).1 hg.size, fun x hx => ?_⟩⟩
  · obtain ⟨ad, e, hb, hc⟩ := h2.2 hn
    refine ⟨ad, e, Nat.lt_of_lt_of_le hb hg.size, fun j u hu => ?_⟩
    exact (World.cell?_of_block (by rw [block_of_add]; exact hg.block ad.block hb ((h3 ad e hn).2 r hr))).trans (hc j u hu)
  · rcases hR x hx with rfl | hx'
    · rcases hat with e2 | e2
      · rw [e2]; exact (h3 ad e hp).2 r hr
      · rw [e2]; intro e3; injection e3 with e3; have := (h3 ad e hp).1; omega
    · exact (h3 ad e hp).2 x hx'
/-- The contents of a list, one by one. -/
def ContsL (w : World) (R : List Value) : List Value → List (List UInt8) → Prop
  | [], [] => True
  | v :: vs, C :: Cs => ContAt w R v C ∧ ContsL w R vs Cs
  | _, _ => False
theorem ContsL.mono {w w' : World} {R R' : List Value} (h : ∀ v C, ContAt w R v C → ContAt w' R' v C) : ∀ {vs : List Value} {Cs : List (List UInt8)}, ContsL w R vs Cs → ContsL w' R' vs Cs
  | [], [], _ => trivial
  | _ :: _, _ :: _, k => ⟨h _ _ k.1, ContsL.mono h k.2⟩
  | [], _ :: _, k => k.elim
  | _ :: _, [], k => k.elim
theorem ContsL.snoc {w : World} {R : List Value} {v : Value} {C : List UInt8} (hc : ContAt w R v C) : ∀ {vs : List Value} {Cs : List (List UInt8)}, ContsL w R vs Cs → ContsL w R (vs ++ [v]) (Cs ++ [C])
  | [], [], _ => ⟨hc, trivial⟩
  | _ :: _, _ :: _, k => ⟨k.1, ContsL.snoc hc k.2⟩
  | [], _ :: _, k => k.elim
  | _ :: _, [], k => k.elim
theorem ContsL.at_ {w : World} {R : List Value} : ∀ {vs : List Value} {Cs : List (List UInt8)} {i : Nat} (h : i < Cs.length), ContsL w R vs Cs → ∃ v, vs[i]? = some v ∧ ContAt w R v Cs[i]
  | _ :: _, _ :: _, 0, _, k => ⟨_, rfl, k.1⟩
  | _ :: vs, _ :: Cs, i + 1, h, k => by
    obtain ⟨v, h1, h2⟩ := ContsL.at_ (i := i) (by simpa using h) k.2
    exact ⟨v, by simpa using h1, by simpa using h2⟩
  | [], _ :: _, _, _, k => k.elim
  | [], [], _, h, _ => by simp at h
  | _ :: _, [], _, h, _ => by simp at h
/-- The frames from a place on: the kinds, the contents, the end. -/
def allF (l : List UInt8) : Nat → Nat → List Int × List (List UInt8) × Nat
  | 0, a => ([], [], a)
  | n + 1, a => if opE l (a : Int) = 0 then (opK l a :: (allF l n (opN l a).toNat).1, opC l a :: (allF l n (opN l a).toNat).2.1, (allF l n (opN l a).toNat).2.2) else ([], [], a)
theorem allF_go {l : List UInt8} {n a : Nat} (h : opE l (a : Int) = 0) (ks : List Int) (cs : List (List UInt8)) {X : List Int × List (List UInt8) × Nat}
    (hX : X = (ks ++ (allF l (n + 1) a).1, cs ++ (allF l (n + 1) a).2.1, (allF l (n + 1) a).2.2)) : X = ((ks ++ [opK l a]) ++ (allF l n (opN l a).toNat).1, (cs ++ [opC l a]) ++ (allF l n (opN l a).toNat).2.1, (allF l n (opN l a).toNat).2.2) := by
  rw [hX, allF, if_pos h]
  simp
theorem allF_stop {l : List UInt8} {n a : Nat} (h : opE l (a : Int) ≠ 0) (ks : List Int) (cs : List (List UInt8)) {X : List Int × List (List UInt8) × Nat}
    (hX : X = (ks ++ (allF l (n + 1) a).1, cs ++ (allF l (n + 1) a).2.1, (allF l (n + 1) a).2.2)) : X = (ks, cs, a) := by
  rw [hX, allF, if_neg h]
  simp
theorem allF_len (l : List UInt8) : ∀ n a, (allF l n a).1.length = (allF l n a).2.1.length
  | 0, _ => rfl
  | n + 1, a => by
    rw [allF]
    split
    · simp [allF_len l n]
    · rfl
theorem op_end (l : List UInt8) : opE l (l.length : Int) = 4 := by
  have h : hdE l (l.length : Int) = 4 := by rw [hd_in (Nat.le_refl _)]; unfold hdN; rw [if_pos rfl]
  unfold opE
  rw [if_pos (by rw [h]; decide), h]
/-- The call returns frames. -/
def RetAll (X : List Int × List (List UInt8) × Nat) (w : World) (e : Ending) (w' : World) : Prop :=
  ∃ K ck C cc vs, e = .returned (.tuple #[.slice K X.1.length ck, .slice C X.1.length cc, .int .i64 (X.2.2 : Int)]) ∧ X.1.length = X.2.1.length ∧ Ints w' K X.1 ∧ Reads w' w'.heap.size 1 C X.1.length vs ∧ ContsL w' [] vs X.2.1 ∧ Below w.heap.size w w'
theorem info_int : (Try.prog.info? 3).map (fun i => (i.zero, i.size, i.bytes)) = some (some (.int .i64 0), 1, 8) := by kernel_rfl
theorem info_sl : (Try.prog.info? 22).map (fun i => (i.zero, i.size, i.bytes)) = some (some (.slice none 0 0), 1, 24) := by kernel_rfl
end Go.Proofs.Ytefjjjclgcidnaa
