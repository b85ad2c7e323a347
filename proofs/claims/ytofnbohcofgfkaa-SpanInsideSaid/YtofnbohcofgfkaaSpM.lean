/- The law's words: in, normal. -/
import Derived.Test.YtofnbohcofgfkaaSpU
namespace Go.Proofs.Ytofnbohcofgfkaa
open Go.RowKit

/-- t is a time of the span, as the law asks. -/
def at1 (t : Int) (s : Sp) : Bool := decide (0 ≤ s.f) && (decide (s.t ≤ 86400000) && (decide (s.f ≤ t) && decide (t < s.t)))
def inB (l : List Sp) (t : Int) : Bool := l.any (at1 t)
theorem at1_iff {t : Int} {s : Sp} : at1 t s = true ↔ rt s = true ∧ s.f ≤ t ∧ t < s.t := by
  rw [rt_iff]; unfold at1; simp only [Bool.and_eq_true, decide_eq_true_eq]; omega
theorem inB_iff {l : List Sp} {t : Int} : inB l t = true ↔ Tin l t := by
  unfold inB Tin
  rw [List.any_eq_true]
  exact ⟨fun ⟨s, h, k⟩ => ⟨s, h, at1_iff.1 k⟩, fun ⟨s, h, k⟩ => ⟨s, h, at1_iff.2 k⟩⟩
theorem inB_at {l : List Sp} {t : Int} {k : Nat} (hk : k < l.length) (h : at1 t l[k] = true) : inB l t = true := List.any_eq_true.2 ⟨_, List.getElem_mem hk, h⟩
theorem inB_no {l : List Sp} {t : Int} (h : ∀ k (hk : k < l.length), at1 t l[k] = false) : inB l t = false := by
  rw [Bool.eq_false_iff]
  intro hc
  obtain ⟨s, hs, hst⟩ := List.any_eq_true.1 hc
  obtain ⟨k, hk, rfl⟩ := List.getElem_of_mem hs
  rw [h k hk] at hst; cases hst

set_option maxRecDepth 20000 in
set_option maxHeartbeats 4000000 in
theorem in_any (l : List Sp) (t : Int) (A : Option Addr) (ca : Nat) (w : World) (ha : Spans w A l) (hl : l.length ≤ 100000) :
    Calls Try.prog 33 #[.slice A l.length ca, .int .i64 t] w (Ret (.bool (inB l t)) w) := by
  have HY := Lib.hid (fun k hk h => inB_at (l := l) (t := t) (k := k) hk h)
  have HX := Lib.hid (fun h => inB_no (l := l) (t := t) h)
  generalize inB l t = R at *
  go_enter Try.func33, Try.ntmps33
  go_wp2
  go_loopw [5] (fun i wr => ∃ k : Nat, k ≤ l.length ∧ i = .int .i64 (k : Int) ∧ Hid (∀ j (hj : j < l.length), j < k → at1 t l[j] = false) ∧ Below w.heap.size w wr) (fun i _ => l.length + 1 - (intOf i).toNat)
  case atStart => exact ⟨0, by omega, rfl, Lib.hid fun j hj h => by omega, Below.refl _ _⟩
  case round =>
    obtain ⟨k, hk, rfl, HNO, hbw⟩ := hrel
    by_cases hlt : k < l.length
    · obtain ⟨ad, rfl, _, d0, d1⟩ := Spans.cells (ha.below hbw) hlt
      have HN : Hid (at1 t l[k] = false → ∀ j (hj : j < l.length), j < k + 1 → at1 t l[j] = false) := Lib.hid fun h j hj hj2 => by
        rcases Nat.lt_or_ge j k with h' | h'
        · exact HNO.out j hj h'
        · have : j = k := by omega
          subst this; exact h
      have HT := Lib.hid (fun h => HY.out k hlt h)
      generalize l[k] = s at *
      by_cases c1 : 0 ≤ s.f
      · by_cases c2 : s.t ≤ 86400000
        · by_cases c3 : s.f ≤ t
          · by_cases c4 : t < s.t
            · have HV := Lib.hid (HT.out (by unfold at1; simp [c1, c2, c3, c4]))
              go_wp2
              go_ret
              exact Ret.mk (show Value.bool true = _ by rw [HV.out]) hbw
            · have HV := Lib.hid (HN.out (by unfold at1; simp [c4]))
              go_wp2
              exact ⟨⟨k + 1, by omega, by go_num, HV, hbw⟩, by simp [intOf]; omega⟩
          · have HV := Lib.hid (HN.out (by unfold at1; simp [c3]))
            go_wp2
            exact ⟨⟨k + 1, by omega, by go_num, HV, hbw⟩, by simp [intOf]; omega⟩
        · have HV := Lib.hid (HN.out (by unfold at1; simp [c2]))
          go_wp2
          exact ⟨⟨k + 1, by omega, by go_num, HV, hbw⟩, by simp [intOf]; omega⟩
      · have HV := Lib.hid (HN.out (by unfold at1; simp [c1]))
        go_wp2
        exact ⟨⟨k + 1, by omega, by go_num, HV, hbw⟩, by simp [intOf]; omega⟩
    · have HV := Lib.hid (HX.out fun j hj => HNO.out j hj (by omega))
      go_wp2
      go_ret
      exact Ret.mk (show Value.bool false = _ by rw [HV.out]) hbw

set_option maxRecDepth 20000 in
set_option maxHeartbeats 4000000 in
theorem normal_yes (l : List Sp) (A : Option Addr) (ca : Nat) (w : World) (ha : Spans w A l) (hl : l.length ≤ 100000) (hn : Nrm l) :
    Calls Try.prog 32 #[.slice A l.length ca] w (Ret (.bool true) w) := by
  have HN := Lib.hid hn
  go_enter Try.func32, Try.ntmps32
  go_wp2
  go_loopw [3] (fun i wr => ∃ k : Nat, k ≤ l.length ∧ i = .int .i64 (k : Int) ∧ Below w.heap.size w wr) (fun i _ => l.length + 1 - (intOf i).toNat)
  case atStart => exact ⟨0, by omega, rfl, Below.refl _ _⟩
  case round =>
    obtain ⟨k, hk, rfl, hbw⟩ := hrel
    by_cases hlt : k < l.length
    · obtain ⟨ad, rfl, _, d0, d1⟩ := Spans.cells (ha.below hbw) hlt
      have hr := rt_iff.1 (HN.out.1 l[k] (List.getElem_mem hlt))
      have g1 : decide (l[k].f < 0) = false := by simp; omega
      have g2 : decide (l[k].t ≤ l[k].f) = false := by simp; omega
      have g3 : decide (86400000 < l[k].t) = false := by simp; omega
      rcases k with _ | k
      · have ad0 : ad.add (0 * 2) = ad := by unfold Addr.add; simp
        rw [ad0] at d0 d1
        generalize l[0] = s at *
        clear ad0
        go_wp2
        go_quiet (fail)
        go_wp2
        exact ⟨⟨0 + 1, by omega, by go_num, Below.drewN_ hbw _⟩, by first | (simp [intOf]; done) | (simp [intOf]; omega)⟩
      · obtain ⟨ad', e', _, e0, e1⟩ := Spans.cells (ha.below hbw) (i := k) (by omega)
        injection e' with e'
        subst e'
        have hp := List.pairwise_iff_getElem.1 HN.out.2 k (k + 1) (by omega) hlt (by omega)
        have g4 : decide (l[k + 1].f ≤ l[k].t) = false := by simp; omega
        generalize l[k + 1] = s at *
        generalize l[k] = u at *
        go_wp2
        go_quiet (fail)
        go_wp2
        exact ⟨⟨k + 1 + 1, by omega, by go_num, Below.drewN_ hbw _⟩, by simp [intOf]; omega⟩
    · go_wp2
      go_ret
      exact Ret.mk rfl hbw
end Go.Proofs.Ytofnbohcofgfkaa
