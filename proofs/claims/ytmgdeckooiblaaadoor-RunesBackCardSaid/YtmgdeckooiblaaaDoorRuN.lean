/- The first scalar of a string, as the reference reckons it: plain mathematics. -/
import Derived.Test.YtmgdeckooiblaaaDoorRuM
namespace Go.Proofs.YtmgdeckooiblaaaDoor

/-- The number of bytes that a first byte announces. -/
def lnB (b : Nat) : Nat := if 240 ≤ b then 4 else if 224 ≤ b then 3 else if 192 ≤ b then 2 else 1
def hdB (b : Nat) : Nat := if 240 ≤ b then b - 240 else if 224 ≤ b then b - 224 else if 192 ≤ b then b - 192 else b
def accX (l : List UInt8) : Nat → Nat | 0 => hdB (bt l 0) | k + 1 => accX l k * 64 + bt l (k + 1) % 64
theorem accX_le (l : List UInt8) : accX l 0 ≤ 255 ∧ accX l 1 ≤ 20000 ∧ accX l 2 ≤ 2000000 ∧ accX l 3 ≤ 200000000 := by
  have h := bt_lt l 0
  have h0 : accX l 0 ≤ 255 := by show hdB _ ≤ _; unfold hdB; split; · omega
                                 split; · omega
                                 split <;> omega
  have e1 : accX l 1 = accX l 0 * 64 + bt l 1 % 64 := rfl
  have e2 : accX l 2 = accX l 1 * 64 + bt l 2 % 64 := rfl
  have e3 : accX l 3 = accX l 2 * 64 + bt l 3 % 64 := rfl
  omega
theorem enc_head {q : Nat} (h : scal q) (r : List UInt8) : lnB (bt (enc q ++ r) 0) = (enc q).length ∧ accX (enc q ++ r) ((enc q).length - 1) = q := by
  unfold scal at h
  unfold enc encN
  by_cases h1 : q < 128
  · rw [if_pos h1]
    have e0 : bt ([q].map UInt8.ofNat ++ r) 0 = q := ofNat_toNat' q (by omega)
    refine ⟨?_, ?_⟩
    · rw [e0]; unfold lnB; rw [if_neg (by omega), if_neg (by omega), if_neg (by omega)]; rfl
    · show hdB (bt _ 0) = q
      rw [e0]; unfold hdB; rw [if_neg (by omega), if_neg (by omega), if_neg (by omega)]
  · rw [if_neg h1]
    by_cases h2 : q < 2048
    · rw [if_pos h2]
      have e0 : bt ([192 + q / 64, 128 + q % 64].map UInt8.ofNat ++ r) 0 = 192 + q / 64 := ofNat_toNat' _ (by omega)
      have e1 : bt ([192 + q / 64, 128 + q % 64].map UInt8.ofNat ++ r) 1 = 128 + q % 64 := ofNat_toNat' _ (by omega)
      refine ⟨?_, ?_⟩
      · rw [e0]; unfold lnB; rw [if_neg (by omega), if_neg (by omega), if_pos (by omega)]; rfl
      · show hdB (bt _ 0) * 64 + bt _ 1 % 64 = q
        rw [e0, e1]; unfold hdB; rw [if_neg (by omega), if_neg (by omega), if_pos (by omega)]; omega
    · rw [if_neg h2]
      by_cases h3 : q < 65536
      · rw [if_pos h3]
        have e0 : bt ([224 + q / 4096, 128 + q / 64 % 64, 128 + q % 64].map UInt8.ofNat ++ r) 0 = 224 + q / 4096 := ofNat_toNat' _ (by omega)
        have e1 : bt ([224 + q / 4096, 128 + q / 64 % 64, 128 + q % 64].map UInt8.ofNat ++ r) 1 = 128 + q / 64 % 64 := ofNat_toNat' _ (by omega)
        have e2 : bt ([224 + q / 4096, 128 + q / 64 % 64, 128 + q % 64].map UInt8.ofNat ++ r) 2 = 128 + q % 64 := ofNat_toNat' _ (by omega)
        refine ⟨?_, ?_⟩
        · rw [e0]; unfold lnB; rw [if_neg (by omega), if_pos (by omega)]; rfl
        · show (hdB (bt _ 0) * 64 + bt _ 1 % 64) * 64 + bt _ 2 % 64 = q
          rw [e0, e1, e2]; unfold hdB; rw [if_neg (by omega), if_pos (by omega)]; omega
      · rw [if_neg h3]
        have e0 : bt ([240 + q / 262144, 128 + q / 4096 % 64, 128 + q / 64 % 64, 128 + q % 64].map UInt8.ofNat ++ r) 0 = 240 + q / 262144 := ofNat_toNat' _ (by omega)
        have e1 : bt ([240 + q / 262144, 128 + q / 4096 % 64, 128 + q / 64 % 64, 128 + q % 64].map UInt8.ofNat ++ r) 1 = 128 + q / 4096 % 64 := ofNat_toNat' _ (by omega)
        have e2 : bt ([240 + q / 262144, 128 + q / 4096 % 64, 128 + q / 64 % 64, 128 + q % 64].map UInt8.ofNat ++ r) 2 = 128 + q / 64 % 64 := ofNat_toNat' _ (by omega)
        have e3 : bt ([240 + q / 262144, 128 + q / 4096 % 64, 128 + q / 64 % 64, 128 + q % 64].map UInt8.ofNat ++ r) 3 = 128 + q % 64 := ofNat_toNat' _ (by omega)
        refine ⟨?_, ?_⟩
        · rw [e0]; unfold lnB; rw [if_pos (by omega)]; rfl
        · show ((hdB (bt _ 0) * 64 + bt _ 1 % 64) * 64 + bt _ 2 % 64) * 64 + bt _ 3 % 64 = q
          rw [e0, e1, e2, e3]; unfold hdB; rw [if_pos (by omega)]; omega
theorem gd_head {l : List UInt8} (hl : l ≠ []) {q m : Nat} (h : gd l = some (q, m)) : lnB (bt l 0) = m ∧ accX l (m - 1) = q ∧ m ≤ l.length ∧ scal q ∧ enc q = l.take m := by
  obtain ⟨h1, h2, h3, h4⟩ := gd_some hl h
  have k := enc_head h1 (l.drop m)
  rw [← h4, List.take_append_drop] at k
  rw [h4, ← h2] at k
  exact ⟨k.1, k.2, h3, h1, h4.symm⟩
theorem first_short {l : List UInt8} (hl : l ≠ []) {n : Nat} (hn : lnB (bt l 0) = n) (h : l.length < n) : gd l = none := by
  cases hg : gd l with
  | none => rfl
  | some q => obtain ⟨p, m⟩ := q; have := gd_head hl hg; omega
theorem first_yes {l : List UInt8} {n : Nat} (hln : n ≤ l.length) (hs : scal (accX l (n - 1) : Nat)) (he : enc (accX l (n - 1)) = l.take n) : gd l = some (accX l (n - 1), n) := by
  have k := gd_enc hs (l.drop n)
  rw [he, List.take_append_drop, List.length_take, Nat.min_eq_left hln] at k
  exact k
theorem first_no {l : List UInt8} (hl : l ≠ []) {n : Nat} (hn : lnB (bt l 0) = n) (h : scal (accX l (n - 1) : Nat) → enc (accX l (n - 1)) ≠ l.take n) : gd l = none := by
  cases hg : gd l with
  | none => rfl
  | some q =>
    obtain ⟨p, m⟩ := q
    obtain ⟨h1, h2, _, h4, h5⟩ := gd_head hl hg
    obtain rfl : m = n := by omega
    rw [h2] at h
    exact absurd h5 (h h4)
/-- What first answers. -/
def fstP (l : List UInt8) : Int := match gd l with | some (p, _) => (p : Int) | none => -1
def fstN (l : List UInt8) : Nat := match gd l with | some (_, n) => n | none => 0
theorem fst_none {l : List UInt8} (h : gd l = none) : fstP l = -1 ∧ fstN l = 0 := by unfold fstP fstN; rw [h]; exact ⟨rfl, rfl⟩
theorem fst_some {l : List UInt8} {p n : Nat} (h : gd l = some (p, n)) : fstP l = (p : Int) ∧ fstN l = n := by unfold fstP fstN; rw [h]; exact ⟨rfl, rfl⟩

/-- The bytes of s from f to k. -/
def piece (s : List UInt8) (f k : Nat) : List UInt8 := (s.drop f).take (k - f)
theorem extract_piece (s : List UInt8) (f k : Nat) : (⟨s.toArray⟩ : ByteArray).extract f k = ⟨(piece s f k).toArray⟩ := by
  apply ByteArray.ext
  rw [ByteArray.data_extract]
  simp [piece]
theorem bt_drop (s : List UInt8) (a i : Nat) (h : a + i < s.length) : bt (s.drop a) i = (s[a + i]).toNat := by
  unfold bt
  rw [List.getD_eq_getElem?_getD, List.getElem?_drop, List.getElem?_eq_getElem h]
  rfl
end Go.Proofs.YtmgdeckooiblaaaDoor
