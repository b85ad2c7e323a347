/- Minus, both sides; the reference's Covers. -/
import Derived.Test.YtofnbohcofgfkaaSpV
import Derived.Test.YtofnbohcofgfkaaSpW
import Derived.Test.YtofnbohcofgfkaaSpX
namespace Go.Proofs.Ytofnbohcofgfkaa
open Go.RowKit

set_option maxRecDepth 20000 in
set_option maxHeartbeats 4000000 in
theorem minus_any (a b : List Sp) (A B : Option Addr) (ca cb : Nat) (w : World) (ha : Spans w A a) (hb : Spans w B b) (hla : a.length ≤ 4000) (hlb : b.length ≤ 4000) :
    Calls Try.prog 26 #[.slice A a.length ca, .slice B b.length cb] w (RetSpans (minusN a b) w) := by
  have k1 := gaps_any b B cb w hb (by omega)
  have hgl := gaps_len (norm b)
  have hnl := norm_len b
  have k2 := fun w' B' cb' (h : Below w.heap.size w w') (hb' : Spans w' B' (gapsR 0 (norm b))) => both_any a (gapsR 0 (norm b)) A B' ca cb' w' (ha.below h) hb' (by omega) (by omega)
  have HM : Hid (bothN a (gapsR 0 (norm b)) = minusN a b) := Lib.hid rfl
  rw [HM.out] at k2
  generalize minusN a b = R at *
  generalize gapsR 0 (norm b) = g at *
  clear hgl hnl
  go_enter Try.func26, Try.ntmps26
  go_wp2_with fail
  refine k1.mono ?_
  rintro e w1 ⟨A1, c1, rfl, ho1, h1⟩
  have k3 := k2 w1 A1 c1 h1 (Spans.of_own ho1)
  have H1 := Lib.hid h1
  clear k1 k2 ho1 h1
  go_wp2_with fail
  refine k3.mono ?_
  rintro e w2 ⟨A2, c2, rfl, ho2, h2⟩
  have HE := Lib.hid (OwnS.ret (OwnS.lower ⟨A2, c2, rfl, ho2⟩ H1.out.size) (Below.step H1.out h2))
  clear k3 ho2 h2
  go_wp2
  go_ret
  exact HE.out

def minAt (a b : List Sp) (k : Nat) : List Sp := (b.take k).foldl (fun o s => if rt s then withoutR o s else o) (norm a)
theorem minAt_next {a b : List Sp} {k : Nat} (hk : k < b.length) : minAt a b (k + 1) = if rt b[k] then withoutR (minAt a b k) b[k] else minAt a b k := by
  unfold minAt; rw [List.take_succ_eq_append_getElem hk, List.foldl_append]; rfl
theorem minAt_all (a b : List Sp) : minAt a b b.length = minusN a b := by
  rw [← minusR_eq]; unfold minAt minusR; rw [List.take_length, unionR_norm]
theorem minAt_nrm (a b : List Sp) (k : Nat) : Nrm (minAt a b k) := (minusF_spec _ _ (norm_spec a).1).1
theorem minAt_len (a b : List Sp) : ∀ k, k ≤ b.length → (minAt a b k).length ≤ a.length + k
  | 0, _ => by unfold minAt; simp; exact norm_len a
  | k + 1, h => by
    rw [minAt_next (by omega)]
    have h1 := minAt_len a b k (by omega)
    rcases hr : rt b[k] with _ | _
    · simp only [Bool.false_eq_true, if_false]; omega
    · simp only [if_true]
      have := without_len hr (minAt_nrm a b k)
      omega

set_option maxRecDepth 20000 in
set_option maxHeartbeats 4000000 in
theorem rminus_any (a b : List Sp) (A B : Option Addr) (ca cb : Nat) (w : World) (ha : Spans w A a) (hb : Spans w B b) (hla : a.length ≤ 2000) (hlb : b.length ≤ 2000) :
    Calls Try.prog 27 #[.slice A a.length ca, .slice B b.length cb] w (RetSpans (minusN a b) w) := by
  have k0 := runion_any a A ca w ha (by omega)
  have HALL := Lib.hid (minAt_all a b)
  have H0 : Hid (norm a = minAt a b 0) := Lib.hid rfl
  rw [H0.out] at k0
  generalize minusN a b = R at *
  go_enter Try.func27, Try.ntmps27
  go_wp2_with fail
  refine k0.mono ?_
  rintro e w1 ⟨A1, c1, rfl, ho1, h1⟩
  have HO := Lib.hid ho1
  have hb1 := hb.below h1
  have H1 := Lib.hid h1
  clear k0 ho1 h1
  go_wp2
  go_loopw [5, 6] (fun v i wr => ∃ k : Nat, k ≤ b.length ∧ i = .int .i64 (k : Int) ∧ OwnS wr w.heap.size (minAt a b k) v ∧ Below w1.heap.size w1 wr) (fun _ i _ => b.length + 1 - (intOf i).toNat)
  case atStart => exact ⟨0, by omega, rfl, ⟨A1, c1, rfl, HO.out⟩, Below.refl _ _⟩
  case round =>
    clear HO
    obtain ⟨k, hk, rfl, ⟨A', c', rfl, hown⟩, hbw⟩ := hrel
    have HO := Lib.hid hown
    have hz1 := H1.out.size
    have hzz := hbw.size
    clear hown
    by_cases hlt : k < b.length
    · obtain ⟨ad, rfl, hadl, d0, d1⟩ := Spans.cells (hb1.below hbw) hlt
      have hadb : (ad.add (k * 2)).block < wr.heap.size := by rw [block_of_add]; exact hadl
      have HN := Lib.hid (minAt_next (a := a) hlt)
      have hfl := minAt_len a b k hk
      have k1 := fun w' => rright_any b[k] w'
      generalize minAt a b k = s at *
      generalize b[k] = x at *
      rcases hr : rt x with _ | _
      · rw [hr] at k1 HN
        clear hr
        go_wp2_with fail
        refine (k1 _).mono ?_
        rintro e w2 ⟨rfl, h2⟩
        have hb2 : Below w1.heap.size w1 w2 := Below.step hbw h2
        have HO1 : Hid (OwnS w2 w.heap.size (minAt a b (k + 1)) (.slice A' s.length c')) := Lib.hid (by
          rw [HN.out]; simp only [Bool.false_eq_true, if_false]
          exact ⟨A', c', rfl, own_below HO.out h2⟩)
        clear h2 k1
        go_wp2
        go_roundw
        case rel => exact ⟨k + 1, by omega, by go_num, HO1.out, hb2⟩
        case measure => simp [intOf]; omega
      · rw [hr] at k1 HN
        clear hr
        go_wp2_with fail
        refine (k1 _).mono ?_
        rintro e w2 ⟨rfl, h2⟩
        have O1 := own_below HO.out h2
        have k2 := without_any s x A' c' w2 (Spans.of_own O1) (by omega)
        have d0' := (h2.cell (p := ad.add (k * 2)) hadb).trans d0
        have d1' := (h2.cell (p := ⟨(ad.add (k * 2)).block, (ad.add (k * 2)).off + 1, none⟩) hadb).trans d1
        have HB2 : Hid (Below w1.heap.size w1 w2) := Lib.hid (Below.step hbw h2)
        have hz2 := HB2.out.size
        clear h2 O1 k1 d0 d1
        go_wp2_with fail
        refine k2.mono ?_
        rintro e w3 ⟨A2, c2, rfl, ho2, h3⟩
        have hb3 : Below w1.heap.size w1 w3 := Below.step HB2.out h3
        have HO2 : Hid (OwnS w3 w.heap.size (minAt a b (k + 1)) (.slice A2 (withoutR s x).length c2)) := Lib.hid (by
          rw [HN.out]; simp only [if_true]
          exact ⟨A2, c2, rfl, own_lower ho2 (by omega)⟩)
        clear h3 ho2 k2
        go_wp2
        go_roundw
        case rel => exact ⟨k + 1, by omega, by go_num, HO2.out, hb3⟩
        case measure => simp [intOf]; omega
    · obtain rfl : k = b.length := by omega
      rw [HALL.out] at HO
      have HR := Lib.hid (OwnS.ret ⟨A', c', rfl, HO.out⟩ (Below.step H1.out hbw))
      go_wp2
      go_ret
      have h := HR.out
      rw [HALL.out]
      exact h

theorem covers_ref' {l : List Sp} {s : Sp} (h : rt s = true) : coversB l s = ((minusN [s] l).length == 0) := by rw [covers_ref, h, Bool.true_and]

set_option maxRecDepth 20000 in
set_option maxHeartbeats 4000000 in
theorem rcovers_any (l : List Sp) (x : Sp) (A : Option Addr) (ca : Nat) (w : World) (ha : Spans w A l) (hl : l.length ≤ 2000) :
    Calls Try.prog 29 #[.slice A l.length ca, .agg #[.int .i64 x.f, .int .i64 x.t]] w (Ret (.bool (coversB l x)) w) := by
  have k1 := fun w' => rright_any x w'
  have hb0 : Hid (Below w.heap.size w (w.alloc (.cells #[.int .i64 x.f, .int .i64 x.t] 23)) ∧ TwoS (w.alloc (.cells #[.int .i64 x.f, .int .i64 x.t] 23)) w.heap.size x) := Lib.hid ⟨(by repeat (first | assumption | exact Below.refl _ _ | refine Below.alloc ?_ (by first | omega | (simp; done) | (simp; omega)) _ | refine Below.setCell ?_ (by first | omega | (simp; done) | (simp; omega)) _ | refine Below.drew ?_ | refine Below.drewN_ ?_ _ | refine Below.step ?_ (by assumption))), TwoS.new w x _⟩
  rcases hr : rt x with _ | _
  · rw [hr] at k1
    have HV := Lib.hid (covers_not (l := l) hr)
    clear hr
    go_enter Try.func29, Try.ntmps29
    go_wp2_with fail
    refine (k1 _).mono ?_
    rintro e w1 ⟨rfl, h1⟩
    have HE := Lib.hid (Below.step hb0.out.1 h1)
    clear h1 k1
    go_wp2
    go_ret
    exact Ret.mk (show Value.bool false = _ by rw [HV.out]) HE.out
  · rw [hr] at k1
    have HV := Lib.hid (covers_ref' (l := l) hr)
    go_enter Try.func29, Try.ntmps29
    go_wp2_with fail
    refine (k1 _).mono ?_
    rintro e w1 ⟨rfl, h1⟩
    have HE := Lib.hid (Below.step hb0.out.1 h1)
    obtain ⟨zt, t0, t1⟩ := hb0.out.2.below h1
    have k2 := fun t => rminus_any [x] l (some ⟨w1.heap.size, 0, none⟩) A 1 ca (w1.alloc (.cells #[.int .i64 x.f, .int .i64 x.t] t)) (Spans.one w1 x t) ((ha.below HE.out).alloc _) (by simp) hl
    clear h1 k1
    go_wp2_with fail
    refine (k2 _).mono ?_
    rintro e w2 ⟨A2, c2, rfl, ho2, h2⟩
    have HE2 := Lib.hid (Below.step (HE.out.alloc HE.out.size _) h2)
    have hlen : (((minusN [x] l).length : Int) == 0) = coversB l x := by rw [HV.out, Bool.eq_iff_iff]; simp
    have HL := Lib.hid hlen
    clear k2 ho2 h2 hlen HV
    generalize (minusN [x] l).length = nn at *
    go_wp2
    go_ret
    exact Ret.mk (show Value.bool ((nn : Int) == 0) = _ by rw [HL.out]) HE2.out
end Go.Proofs.Ytofnbohcofgfkaa
