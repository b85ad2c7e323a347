/- What was sealed is opened; what is opened was sealed. -/
import Derived.Test.YtefjjjclgcidnaaFrH
namespace Go.Proofs.Ytefjjjclgcidnaa
open Go.RowKit

theorem cB_at (p r : List UInt8) (c : UInt8) (j : Nat) (h : j = p.length) : cB (p ++ c :: r) j = c.toNat := by
  subst h
  rw [cB_in (by simp)]
  simp
/-- The header of a frame that was sealed. -/
theorem hd_back (p b t : List UInt8) (k : Nat) (hk : 1 ≤ k ∧ k ≤ 255) (hb : b.length ≤ 1048576) :
    hdE (p ++ sealM k b ++ t) (p.length : Int) = 0 ∧ hdK (p ++ sealM k b ++ t) (p.length : Int) = k ∧ hdF (p ++ sealM k b ++ t) (p.length : Int) = ((p.length + 2 + (encI b.length).length : Nat) : Int) ∧ hdT (p ++ sealM k b ++ t) (p.length : Int) = ((p.length + (sealM k b).length : Nat) : Int) := by
  have e0 : p ++ sealM k b ++ t = p ++ 76 :: (UInt8.ofNat k :: (encI b.length ++ b ++ t)) := by simp [sealM]
  have e1 : p ++ sealM k b ++ t = (p ++ [76]) ++ UInt8.ofNat k :: (encI b.length ++ b ++ t) := by simp [sealM]
  have e2 : p ++ sealM k b ++ t = (p ++ [76, UInt8.ofNat k]) ++ encI b.length ++ (b ++ t) := by simp [sealM]
  have hlen : (p ++ sealM k b ++ t).length = p.length + 2 + (encI b.length).length + b.length + t.length := by simp [sealM]; omega
  have hml : (sealM k b).length = 2 + (encI b.length).length + b.length := by simp [sealM]; omega
  have hpos : 0 < (encI b.length).length := encU_pos 9 _
  have c0 : cB (p ++ sealM k b ++ t) p.length = 76 := by rw [e0]; exact cB_at p _ 76 _ rfl
  have c1 : cB (p ++ sealM k b ++ t) (p.length + 1) = k := by
    rw [e1, cB_at (p ++ [76]) _ _ _ (by simp)]
    simp
    omega
  obtain ⟨i1, i2, i3⟩ := int_back (p ++ [76, UInt8.ofNat k]) (b ++ t) b.length ⟨by omega, by omega⟩
  rw [← e2] at i1 i2 i3
  have e3 : (p ++ [76, UInt8.ofNat k]).length = p.length + 2 := by simp
  have e4 : ((p ++ [76, UInt8.ofNat k] ++ encI b.length).length : Int) = ((p.length + 2 + (encI b.length).length : Nat) : Int) := by rw [List.length_append, e3]
  rw [e3] at i1 i2 i3
  rw [e4] at i3
  generalize p ++ sealM k b ++ t = l at *
  have h0 : hdE l (p.length : Int) = 0 := by
    rw [hd_in (by omega)]
    unfold hdN
    rw [if_neg (by omega), if_neg (by rw [c0]; decide), if_neg (by omega), if_neg (by omega), if_neg (by rw [i1]; decide), if_neg (by rw [i2]; omega)]
  obtain ⟨h1, h2, h3, _⟩ := hd_ok h0
  rw [Int.toNat_natCast] at h1 h2 h3
  refine ⟨h0, by rw [h1, c1], by rw [h2, i3], ?_⟩
  rw [h3, i2, i3, hml]
  omega
theorem take_mid (p m t : List UInt8) : ((p ++ m ++ t).drop p.length).take m.length = m := by
  rw [List.append_assoc, List.drop_append_of_le_length (Nat.le_refl _), List.drop_length, List.nil_append, List.take_append_of_le_length (Nat.le_refl _), List.take_length]
/-- What was sealed is opened. -/
theorem op_back (p b t : List UInt8) (k : Nat) (hk : 1 ≤ k ∧ k ≤ 255) (hb : b.length ≤ 1048576) :
    opK (p ++ sealL k b ++ t) (p.length : Int) = k ∧ opC (p ++ sealL k b ++ t) (p.length : Int) = b ∧ opN (p ++ sealL k b ++ t) (p.length : Int) = ((p.length + (sealL k b).length : Nat) : Int) ∧ opE (p ++ sealL k b ++ t) (p.length : Int) = 0 := by
  have e0 : p ++ sealL k b ++ t = p ++ sealM k b ++ (tail4 (crcZ (sealM k b)) ++ t) := by simp [sealL]
  obtain ⟨h0, h1, h2, h3⟩ := hd_back p b (tail4 (crcZ (sealM k b)) ++ t) k hk hb
  have m1 := take_mid p (sealM k b) (tail4 (crcZ (sealM k b)) ++ t)
  have m2 := take_mid (p ++ sealM k b) (tail4 (crcZ (sealM k b))) t
  have m3 := take_mid (p ++ [76, UInt8.ofNat k] ++ encI b.length) b (tail4 (crcZ (sealM k b)) ++ t)
  have e1 : p ++ sealM k b ++ tail4 (crcZ (sealM k b)) ++ t = p ++ sealM k b ++ (tail4 (crcZ (sealM k b)) ++ t) := by simp
  have e2 : p ++ [76, UInt8.ofNat k] ++ encI b.length ++ b ++ (tail4 (crcZ (sealM k b)) ++ t) = p ++ sealM k b ++ (tail4 (crcZ (sealM k b)) ++ t) := by simp [sealM]
  rw [e1, tail4_len] at m2
  rw [e2] at m3
  have hsl := sealL_len k b
  have hml : (sealM k b).length = 2 + (encI b.length).length + b.length := by simp [sealM]; omega
  have hlen : (p ++ sealM k b ++ (tail4 (crcZ (sealM k b)) ++ t)).length = p.length + (sealM k b).length + 4 + t.length := by simp [tail4_len]; omega
  rw [e0]
  have hk0 : opE (p ++ sealM k b ++ (tail4 (crcZ (sealM k b)) ++ t)) (p.length : Int) = 0 := by
    unfold opE
    rw [if_neg (by rw [h0]; decide), h3, if_neg (by rw [hlen]; omega), Int.toNat_natCast, Int.toNat_natCast]
    rw [show p.length + (sealM k b).length - p.length = (sealM k b).length by omega, m1]
    rw [show p.length + (sealM k b).length = (p ++ sealM k b).length by simp, m2, if_pos rfl]
  obtain ⟨g1, g2, g3, _⟩ := op_ok hk0
  refine ⟨by rw [g1, h1], ?_, ?_, hk0⟩
  · rw [g2, h2, h3, Int.toNat_natCast, Int.toNat_natCast]
    rw [show p.length + (sealM k b).length - (p.length + 2 + (encI b.length).length) = b.length by omega]
    rw [show p.length + 2 + (encI b.length).length = (p ++ [76, UInt8.ofNat k] ++ encI b.length).length by (simp; omega), m3]
  · rw [g3, h3, hsl]
    omega
/-- What is opened was sealed. -/
theorem op_again {l : List UInt8} {a : Int} (h : opE l a = 0) : ∃ x k : Nat, a = (x : Int) ∧ opK l a = (k : Int) ∧ 1 ≤ k ∧ k ≤ 255 ∧ (opC l a).length ≤ l.length ∧ x + 7 ≤ (opN l a).toNat ∧ 0 ≤ opN l a ∧ (opN l a).toNat ≤ l.length ∧ sealL k (opC l a) = (l.drop x).take ((opN l a).toNat - x) := by
  have h1 : hdE l a = 0 := by
    rcases Classical.em (hdE l a = 0) with e | e
    · exact e
    · have : opE l a = hdE l a := by unfold opE; rw [if_pos e]
      rw [this] at h; exact h
  obtain ⟨g1, g2, g3, _⟩ := op_ok h
  obtain ⟨x, f, t, rfl, hF, hT, b1, b2, b3, b4, b5⟩ := hd_bd h1
  obtain ⟨k1, k2, k3, _⟩ := hd_ok h1
  rw [Int.toNat_natCast] at k1 k2 k3
  have h2 : ¬ ((l.length : Int) < (t : Int) + 4) := by
    intro h2
    have : opE l (x : Int) = 4 := by unfold opE; rw [if_neg (by rw [h1]; decide), hT, if_pos h2]
    rw [this] at h; cases h
  have hq : tail4 (crcZ ((l.drop x).take (t - x))) = (l.drop t).take 4 := by
    rcases Classical.em (tail4 (crcZ ((l.drop x).take (t - x))) = (l.drop t).take 4) with e | e
    · exact e
    · have : opE l (x : Int) = 6 := by unfold opE; rw [if_neg (by rw [h1]; decide), hT, if_neg h2, Int.toNat_natCast, Int.toNat_natCast, if_neg e]
      rw [this] at h; cases h
  have hN : hdN l x = 0 := by rw [← hd_in (by omega)]; exact h1
  unfold hdN at hN
  split at hN
  · cases hN
  split at hN
  · cases hN
  split at hN
  · cases hN
  split at hN
  · cases hN
  rename_i c1 c2 c3 c4
  split at hN
  · exact absurd hN (by assumption)
  rename_i c5
  have c5' : intE l ((x + 2 : Nat) : Int) = 0 := by
    rcases Classical.em (intE l ((x + 2 : Nat) : Int) = 0) with e | e
    · exact e
    · exact absurd e c5
  have c2' : cB l x = 76 := by
    rcases Classical.em (cB l x = 76) with e | e
    · exact e
    · exact absurd e c2
  have hag := int_again c5'
  rw [hF] at k2
  rw [← k2] at hag k3
  rw [Int.toNat_natCast] at hag
  have hNn : intN l ((x + 2 : Nat) : Int) = ((t - f : Nat) : Int) := by omega
  rw [hNn] at hag
  have hC : opC l (x : Int) = (l.drop f).take (t - f) := by rw [g2, hF, hT, Int.toNat_natCast, Int.toNat_natCast]
  have hCl : (opC l (x : Int)).length = t - f := by rw [hC, List.length_take, List.length_drop]; omega
  have hNv : (opN l (x : Int)).toNat = t + 4 := by rw [g3, hT]; omega
  have hlt : cB l (x + 1) < 256 := cB_lt _ _
  refine ⟨x, cB l (x + 1), rfl, by rw [g1, k1], by omega, by omega, by rw [hCl]; omega, by omega, by rw [g3, hT]; omega, by omega, ?_⟩
  -- the bytes before the checksum
  have hM : sealM (cB l (x + 1)) (opC l (x : Int)) = (l.drop x).take (t - x) := by
    have d0 : l.drop x = 76 :: UInt8.ofNat (cB l (x + 1)) :: l.drop (x + 2) := by
      rw [drop_cB (show x < l.length by omega), drop_cB (show x + 1 < l.length by omega), c2']
      rfl
    have d1 : encI ((t - f : Nat) : Int) = (l.drop (x + 2)).take (f - (x + 2)) := by
      have e := congrArg (List.drop (x + 2)) hag
      rw [List.drop_append_of_le_length (by rw [List.length_take]; omega), List.drop_take, List.drop_take] at e
      simpa using e.symm
    unfold sealM
    rw [hCl, d1, hC, d0]
    have d2 : l.drop f = (l.drop (x + 2)).drop (f - (x + 2)) := by rw [List.drop_drop]; congr 1; omega
    rw [d2]
    rw [show t - x = 2 + ((f - (x + 2)) + (t - f)) by omega]
    rw [show (76 :: UInt8.ofNat (cB l (x + 1)) :: l.drop (x + 2)) = [76, UInt8.ofNat (cB l (x + 1))] ++ l.drop (x + 2) from rfl]
    rw [List.take_append (l₁ := [76, UInt8.ofNat (cB l (x + 1))]), List.take_of_length_le (l := [76, UInt8.ofNat (cB l (x + 1))]) (by simp)]
    simp only [List.length_cons, List.length_nil]
    rw [show 2 + ((f - (x + 2)) + (t - f)) - (0 + 1 + 1) = (f - (x + 2)) + (t - f) by omega, List.take_add]
    simp
  unfold sealL
  rw [hM, hq, hNv, show t + 4 - x = (t - x) + 4 by omega, List.take_add, List.drop_drop, show x + (t - x) = t by omega]
end Go.Proofs.Ytefjjjclgcidnaa
