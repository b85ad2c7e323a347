/- The reference's length and TextAt. -/
import Derived.Test.YthfcegfmciaajaaWireU
namespace Go.Proofs.Ythfcegfmciaajaa
open Go.RowKit

set_option maxHeartbeats 1000000 in
theorem rlength_any (l : List UInt8) (A : Option Addr) (cap : Nat) (at_ : Int) (hat : Fits at_) (w : World) (hv : Bytes w A l) (hl : l.length ≤ 100000) :
    Calls Try.prog 32 #[.slice A l.length cap, .int .i64 at_] w (Ret (.tuple #[.int .i64 (lenN l at_), .int .i64 (lenTo l at_), .int .i64 (lenE l at_)]) w) := by
  by_cases h : intE l at_ = 0
  · by_cases hn : intN l at_ < 0
    · have HR := Lib.hid (len_neg h hn)
      have hI := rint_any l A cap at_ hat w hv hl
      rw [h] at hI
      generalize intN l at_ = N at *
      generalize intTo l at_ = T at *
      clear h
      go_enter Try.func32, Try.ntmps32
      go_wp2_with fail
      refine hI.mono ?_
      rintro e w1 ⟨rfl, h1⟩
      clear hI
      go_wp2
      go_ret3
      exact Ret.mk (by rw [HR.out.1, HR.out.2.1, HR.out.2.2]; rfl) h1
    · have HR := Lib.hid (len_ok h hn)
      have hI := rint_any l A cap at_ hat w hv hl
      rw [h] at hI
      generalize intN l at_ = N at *
      generalize intTo l at_ = T at *
      clear h
      go_enter Try.func32, Try.ntmps32
      go_wp2_with fail
      refine hI.mono ?_
      rintro e w1 ⟨rfl, h1⟩
      clear hI
      go_wp2
      go_ret3
      exact Ret.mk (by rw [HR.out.1, HR.out.2.1, HR.out.2.2]; rfl) h1
  · have HR := Lib.hid (len_bad (l := l) (at_ := at_) rfl h)
    have hI := rint_any l A cap at_ hat w hv hl
    have he : (intE l at_ == 0) = false := by simp; exact h
    generalize intN l at_ = N at *
    generalize intTo l at_ = T at *
    generalize intE l at_ = E at *
    clear h
    go_enter Try.func32, Try.ntmps32
    go_wp2_with fail
    refine hI.mono ?_
    rintro e w1 ⟨rfl, h1⟩
    clear hI
    go_wp2
    go_ret3
    exact Ret.mk (by rw [HR.out.1, HR.out.2.1, HR.out.2.2]; rfl) h1

set_option maxHeartbeats 1000000 in
theorem rtext_any (l : List UInt8) (A : Option Addr) (cap : Nat) (hcap : l.length ≤ cap) (at_ : Int) (hat : Fits at_) (w : World) (hv : Bytes w A l) (hl : l.length ≤ 100000) :
    Calls Try.prog 21 #[.slice A l.length cap, .int .i64 at_] w (Ret (.tuple #[.string ⟨(textS l at_).toArray⟩, .int .i64 (textTo l at_), .int .i64 (textE l at_)]) w) := by
  have hL := rlength_any l A cap at_ hat w hv hl
  by_cases h : lenE l at_ = 0
  · obtain ⟨b1, b2, b3, b4, b5⟩ := len_bd h
    rw [h] at hL
    by_cases hs : (l.length : Int) - lenTo l at_ < lenN l at_
    · have HR := Lib.hid (text_bad (l := l) (at_ := at_) (e := 4) (by unfold textE; rw [if_pos h, if_pos hs]) (by decide))
      generalize lenN l at_ = N at *
      generalize lenTo l at_ = T at *
      clear h
      go_enter Try.func21, Try.ntmps21
      go_wp2_with fail
      refine hL.mono ?_
      rintro e w1 ⟨rfl, h1⟩
      clear hL
      go_wp2
      go_ret3
      exact Ret.mk (by rw [HR.out.1, HR.out.2.1, HR.out.2.2]; rfl) h1
    · obtain ⟨T, hT⟩ : ∃ T : Nat, lenTo l at_ = T := ⟨(lenTo l at_).toNat, by omega⟩
      obtain ⟨N, hN⟩ : ∃ N : Nat, lenN l at_ = N := ⟨(lenN l at_).toNat, by omega⟩
      have he : textE l at_ = 0 := by unfold textE; rw [if_pos h, if_neg hs]
      have HR : Hid (textE l at_ = 0 ∧ textS l at_ = (l.drop T).take N ∧ textTo l at_ = (T : Int) + N) := Lib.hid ⟨he, by unfold textS; rw [if_pos he, hT, hN]; rfl, by unfold textTo; rw [if_pos he, hT, hN]⟩
      rw [hT] at b1 b2 hs hL
      rw [hN] at b3 b4 b5 hs hL
      clear h hT hN he
      have hTN : T + N ≤ l.length := by omega
      obtain ⟨ad, rfl, _, _⟩ := hv.at_ (k := 0) (by omega)
      by_cases hTc : T = cap
      · obtain rfl : N = 0 := by omega
        obtain rfl : cap = T := by omega
        have hz := fun w' => run_bytes_string w' (some ad) [] 0 (Bytes.nil_ _ _)
        go_enter Try.func21, Try.ntmps21
        go_wp2_with fail
        refine hL.mono ?_
        rintro e w1 ⟨rfl, h1⟩
        have hz : (convert 22 9 (.slice (some ad) 0 0)).run Try.prog w1 = .ok (.string ⟨#[]⟩) w1 := hz w1
        clear hL
        go_wp2
        go_ret3
        exact Ret.mk (by rw [HR.out.1, HR.out.2.1, HR.out.2.2]; first | rfl | (simp; done) | (simp; rfl)) h1
      · have hTc' : T < cap := by omega
        clear hTc
        have hsub := fun w' (hb : Below w.heap.size w w') => run_bytes_string w' (some (ad.add T)) ((l.drop T).take N) (cap - T) ((hv.below hb).piece hTN)
        have hlen : ((l.drop T).take N).length = N := by rw [List.length_take, List.length_drop]; omega
        rw [hlen] at hsub
        generalize (l.drop T).take N = r at *
        go_enter Try.func21, Try.ntmps21
        go_wp2_with fail
        refine hL.mono ?_
        rintro e w1 ⟨rfl, h1⟩
        have hsub := hsub w1 h1
        clear hL
        have HL := Lib.hid hlen
        clear hlen
        go_wp2
        go_ret3
        exact Ret.mk (by rw [HR.out.1, HR.out.2.1, HR.out.2.2]; rfl) h1
  · have HR := Lib.hid (text_bad (l := l) (at_ := at_) (e := lenE l at_) (by unfold textE; rw [if_neg h]) h)
    have he : (lenE l at_ == 0) = false := by simp; exact h
    generalize lenN l at_ = N at *
    generalize lenTo l at_ = T at *
    generalize lenE l at_ = E at *
    clear h
    go_enter Try.func21, Try.ntmps21
    go_wp2_with fail
    refine hL.mono ?_
    rintro e w1 ⟨rfl, h1⟩
    clear hL
    go_wp2
    go_ret3
    exact Ret.mk (by rw [HR.out.1, HR.out.2.1, HR.out.2.2]; rfl) h1
end Go.Proofs.Ythfcegfmciaajaa
