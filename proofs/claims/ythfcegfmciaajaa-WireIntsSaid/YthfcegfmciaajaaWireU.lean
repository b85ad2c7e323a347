/- TextAt. -/
import Derived.Test.YthfcegfmciaajaaWireT
namespace Go.Proofs.Ythfcegfmciaajaa
open Go.RowKit

theorem kOf_ge (l : List UInt8) (a : Nat) : ∀ f i, i ≤ kOf l a i f ∧ kOf l a i f ≤ i + f
  | 0, i => by simp [kOf]
  | f + 1, i => by
    rw [kOf]
    split
    · have := kOf_ge l a f (i + 1); omega
    · omega
theorem sgn_fits {u : Nat} (h : u < 18446744073709551616) : Fits (sgn u) := by
  unfold sgn Fits
  split <;> omega
theorem int_bd {l : List UInt8} {at_ : Int} (h : intE l at_ = 0) : 0 < intTo l at_ ∧ intTo l at_ ≤ l.length ∧ Fits (intN l at_) := by
  have ht : intTo l at_ = at_ + kOf l at_.toNat 0 10 + 1 := by unfold intTo; rw [if_pos h]
  have hn : intN l at_ = sgn (valL l at_.toNat (kOf l at_.toNat 0 10 + 1)) := by unfold intN; rw [if_pos h]
  rw [ht, hn]
  unfold intE at h
  split at h
  · cases h
  · have hk := (kOf_ge l at_.toNat 10 0).2
    unfold errAt at h
    simp only [] at h
    split at h
    · cases h
    · split at h
      · cases h
      · split at h
        · cases h
        · rename_i h1 h2 h3
          generalize kOf l at_.toNat 0 10 = k at *
          refine ⟨by omega, by omega, sgn_fits (val_end l at_.toNat k (by omega) (by omega))⟩

/-- A piece of a slice of bytes. -/
theorem Bytes.piece {w : World} {ad : Addr} {l : List UInt8} (h : Bytes w (some ad) l) {i n : Nat} (hi : i + n ≤ l.length) : Bytes w (some (ad.add i)) ((l.drop i).take n) := by
  have hlen : ((l.drop i).take n).length = n := by rw [List.length_take, List.length_drop]; omega
  refine ⟨by simp, fun h0 => ?_⟩
  rw [hlen] at h0
  obtain ⟨ad', e, hb, hc⟩ := h.2 (by omega)
  injection e with e
  subst e
  refine ⟨_, rfl, by rw [block_of_add]; exact hb, fun j u hu => ?_⟩
  rw [add_of_add]
  refine hc (i + j) u ?_
  rw [← hu, List.getElem?_map, List.getElem?_map, List.getElem?_take, List.getElem?_drop]
  have hj : j < n := by
    rcases Nat.lt_or_ge j n with h1 | h1
    · exact h1
    · rw [List.getElem?_eq_none (by rw [List.length_map, hlen]; exact h1)] at hu; cases hu
  rw [if_pos hj]

def textE (l : List UInt8) (at_ : Int) : Int := if lenE l at_ = 0 then (if (l.length : Int) - lenTo l at_ < lenN l at_ then 4 else 0) else lenE l at_
def textS (l : List UInt8) (at_ : Int) : List UInt8 := if textE l at_ = 0 then (l.drop (lenTo l at_).toNat).take (lenN l at_).toNat else []
def textTo (l : List UInt8) (at_ : Int) : Int := if textE l at_ = 0 then lenTo l at_ + lenN l at_ else 0
theorem text_bad {l : List UInt8} {at_ e : Int} (h : textE l at_ = e) (he : e ≠ 0) : textE l at_ = e ∧ textS l at_ = [] ∧ textTo l at_ = 0 :=
  ⟨h, by unfold textS; rw [if_neg (by rw [h]; exact he)], by unfold textTo; rw [if_neg (by rw [h]; exact he)]⟩
theorem len_bd {l : List UInt8} {at_ : Int} (h : lenE l at_ = 0) : 0 < lenTo l at_ ∧ lenTo l at_ ≤ l.length ∧ 0 ≤ lenN l at_ ∧ Fits (lenN l at_) := by
  have hi : intE l at_ = 0 := by
    unfold lenE at h
    split at h
    · assumption
    · exact h
  have hn : ¬ intN l at_ < 0 := by
    intro hn
    unfold lenE at h
    rw [if_pos hi, if_pos hn] at h
    cases h
  obtain ⟨h1, h2, h3⟩ := int_bd hi
  obtain ⟨_, e2, e3⟩ := len_ok hi hn
  rw [e2, e3]
  exact ⟨h1, h2, by omega, h3⟩

set_option maxHeartbeats 1000000 in
theorem text_any (l : List UInt8) (A : Option Addr) (cap : Nat) (hcap : l.length ≤ cap) (at_ : Int) (hat : Fits at_) (w : World) (hv : Bytes w A l) (hl : l.length ≤ 100000) :
    Calls Try.prog 20 #[.slice A l.length cap, .int .i64 at_] w (Ret (.tuple #[.string ⟨(textS l at_).toArray⟩, .int .i64 (textTo l at_), .int .i64 (textE l at_)]) w) := by
  have hL := length_any l A cap at_ hat w hv hl
  by_cases h : lenE l at_ = 0
  · obtain ⟨b1, b2, b3, b4, b5⟩ := len_bd h
    rw [h] at hL
    by_cases hs : (l.length : Int) - lenTo l at_ < lenN l at_
    · have HR := Lib.hid (text_bad (l := l) (at_ := at_) (e := 4) (by unfold textE; rw [if_pos h, if_pos hs]) (by decide))
      generalize lenN l at_ = N at *
      generalize lenTo l at_ = T at *
      clear h
      go_enter Try.func20, Try.ntmps20
      go_wp2_with fail
      refine hL.mono ?_
      rintro e w1 ⟨rfl, h1⟩
      clear hL
      go_wp2
      go_ret3
      exact Ret.mk (by rw [HR.out.1, HR.out.2.1, HR.out.2.2]; rfl) h1
    · obtain ⟨T, hT⟩ : ∃ T : Nat, lenTo l at_ = T := ⟨(lenTo l at_).toNat, by omega⟩
      obtain ⟨N, hN⟩ : ∃ N : Nat, lenN l at_ = N := ⟨(lenN l at_).toNat, by omega⟩
      have he : textE l at_ = 0 := by unfold textE; rw [if_pos h, if_neg hs]
      have HR : Hid (textE l at_ = 0 ∧ textS l at_ = (l.drop T).take N ∧ textTo l at_ = (T : Int) + N) := Lib.hid ⟨he, by unfold textS; rw [if_pos he, hT, hN]; rfl, by unfold textTo; rw [if_pos he, hT, hN]⟩
      rw [hT] at b1 b2 hs hL
      rw [hN] at b3 b4 b5 hs hL
      clear h hT hN he
      have hTN : T + N ≤ l.length := by omega
      obtain ⟨ad, rfl, _, _⟩ := hv.at_ (k := 0) (by omega)
      by_cases hTc : T = cap
      · obtain rfl : N = 0 := by omega
        obtain rfl : cap = T := by omega
        have hz := fun w' => run_bytes_string w' (some ad) [] 0 (Bytes.nil_ _ _)
        go_enter Try.func20, Try.ntmps20
        go_wp2_with fail
        refine hL.mono ?_
        rintro e w1 ⟨rfl, h1⟩
        have hz : (convert 22 9 (.slice (some ad) 0 0)).run Try.prog w1 = .ok (.string ⟨#[]⟩) w1 := hz w1
        clear hL
        go_wp2
        go_ret3
        exact Ret.mk (by rw [HR.out.1, HR.out.2.1, HR.out.2.2]; first | rfl | (simp; done) | (simp; rfl)) h1
      · have hTc' : T < cap := by omega
        clear hTc
        have hsub := fun w' (hb : Below w.heap.size w w') => run_bytes_string w' (some (ad.add T)) ((l.drop T).take N) (cap - T) ((hv.below hb).piece hTN)
        have hlen : ((l.drop T).take N).length = N := by rw [List.length_take, List.length_drop]; omega
        rw [hlen] at hsub
        generalize (l.drop T).take N = r at *
        go_enter Try.func20, Try.ntmps20
        go_wp2_with fail
        refine hL.mono ?_
        rintro e w1 ⟨rfl, h1⟩
        have hsub := hsub w1 h1
        clear hL
        have HL := Lib.hid hlen
        clear hlen
        go_wp2
        go_ret3
        exact Ret.mk (by rw [HR.out.1, HR.out.2.1, HR.out.2.2]; rfl) h1
  · have HR := Lib.hid (text_bad (l := l) (at_ := at_) (e := lenE l at_) (by unfold textE; rw [if_neg h]) h)
    have he : (lenE l at_ == 0) = false := by simp; exact h
    generalize lenN l at_ = N at *
    generalize lenTo l at_ = T at *
    generalize lenE l at_ = E at *
    clear h
    go_enter Try.func20, Try.ntmps20
    go_wp2_with fail
    refine hL.mono ?_
    rintro e w1 ⟨rfl, h1⟩
    clear hL
    go_wp2
    go_ret3
    exact Ret.mk (by rw [HR.out.1, HR.out.2.1, HR.out.2.2]; rfl) h1
end Go.Proofs.Ythfcegfmciaajaa
