/- The walk of WordsReads. -/
import Derived.Test.YtdjlfbfipkalbaaDoorWoQ2
namespace Go.Proofs.YtdjlfbfipkalbaaDoor
open Go.RowKit

set_option maxRecDepth 20000 in
set_option maxHeartbeats 4000000 in
theorem reads_walk (W : World) (hL : Laid W) (l : List (List UInt8)) (A : Option Addr) (cap : Nat) (hl : (textL l).length ≤ 1048576) (hr : Strs W A l) (s : List UInt8) (hs : s.length ≤ 1048576) :
    Calls Tryd.prog 12 #[.slice A l.length cap, .string ⟨s.toArray⟩] W (Ret (.bool true) W) := by
  have H := Lib.hid (Below.refl W.heap.size W)
  have HS0 := Lib.hid hr
  have HS := Lib.hid hr
  have hn := text_len l
  clear hr
  have k1 := fun w' (hb : Below W.heap.size W w') => lines_any s (by omega) w' (hL.below hb)
  have HP := ln_parts s
  have hvl := lnV_len s
  rcases HP with ⟨hv, hb⟩ | ⟨hv, hb⟩
  · rw [hv, hb] at k1
    clear hv hb
    go_enter Tryd.func12, Tryd.ntmps12
    go_wp2_with fail
    refine (k1 _ H.out).mono ?_
    rintro e w1 ⟨A1, c1, rfl, -, hS1, h⟩
    replace H := Lib.hid (Below.step H.out h)
    clear h hS1
    go_wp2
    go_loopw [7] (fun i wr => ∃ k : Nat, k ≤ l.length ∧ i = .int .i64 (k : Int) ∧ Hid (∀ p ∈ l.take k, ∀ b ∈ p, b ≠ 10) ∧ Below W.heap.size W wr) (fun i _ => l.length + 1 - (intOf i).toNat)
    case atStart => exact ⟨0, by omega, rfl, Lib.hid (by simp), H.out⟩
    case round =>
      obtain ⟨k, hk, rfl, HJ, hbw⟩ := hrel
      replace HS := Lib.hid (HS0.out.below hbw)
      by_cases hlt : k < l.length
      · have HC0 : Hid (∀ w', Below W.heap.size W w' → ∃ ad, A = some ad ∧ ad.block < w'.heap.size ∧ w'.cell? (ad.add k) = some (.string ⟨l[k].toArray⟩)) := Lib.hid (fun w' h => (HS0.out.below h).at_ hlt)
        have HX : Hid (∀ b ∈ l[k], b ≠ 10) → Hid (∀ p ∈ l.take (k + 1), ∀ b ∈ p, b ≠ 10) := fun h => Lib.hid (by
          rw [List.take_succ_eq_append_getElem hlt]
          intro p hp
          rcases List.mem_append.1 hp with hp | hp
          · exact HJ.out p hp
          · simp at hp; subst hp; exact h.out)
        have HX := Lib.hid HX
        have hxl := text_at hlt
        generalize l[k] = x at *
        obtain ⟨ad0, rfl, _, _⟩ := HC0.out wr hbw
        go_wp2
        go_loopw [8] (fun j wr => ∃ m : Nat, m ≤ x.length ∧ j = .int .i64 (m : Int) ∧ Hid (∀ b ∈ x.take m, b ≠ 10) ∧ Below W.heap.size W wr) (fun j _ => x.length + 1 - (intOf j).toNat)
        case atStart => exact ⟨0, by omega, rfl, Lib.hid (by simp), hbw⟩
        case round =>
          obtain ⟨m, hm, rfl, HM, hbw2⟩ := hrel
          obtain ⟨ad, e0, _, c1⟩ := HC0.out _ hbw2
          injection e0 with e0
          subst e0
          by_cases hmx : m < x.length
          · have hget : (({ data := x.toArray } : ByteArray)[m]'(show m < x.toArray.size by simpa using hmx)) = x[m] := rfl
            by_cases h10 : x[m] = 10
            · rw [h10] at hget
              have HB2 := Lib.hid hbw2
              clear h10
              go_wp2_with fail
              refine (awake_any _ (hL.below HB2.out)).mono ?_
              rintro e w8 ⟨rfl, h⟩
              have hb8 := Below.step HB2.out h
              go_wp2
              go_ret
              exact Ret.mk rfl hb8
            · have hne : ((x[m].toNat : Int) == 10) = false := by
                rw [beq_eq_false_iff_ne]; exact fun e => h10 (UInt8.toNat_inj.1 (by show _ = 10; omega))
              have HN : Hid (∀ b ∈ x.take (m + 1), b ≠ 10) := Lib.hid (by
                rw [List.take_succ_eq_append_getElem hmx]
                intro b hb
                rcases List.mem_append.1 hb with hb | hb
                · exact HM.out b hb
                · simp at hb; subst hb; exact h10)
              generalize x[m] = c at *
              clear h10
              go_wp2
              go_roundw
              case rel => exact ⟨m + 1, by omega, by go_num, HN, hbw2⟩
              case measure => simp [intOf]; omega
          · obtain rfl : m = x.length := by omega
            have HN := HX.out (by rw [List.take_length] at HM; exact HM)
            go_wp2
            go_roundw
            case rel => exact ⟨k + 1, by omega, by go_num, HN, hbw2⟩
            case measure => simp [intOf]; omega
      · obtain rfl : k = l.length := by omega
        have HT := Lib.hid (lns_text l (by have := HJ.out; rwa [List.take_length] at this))
        have k5 := fun w' (hb : Below W.heap.size W w') => lines_any (textL l) (by omega) w' (hL.below hb)
        rw [show lnV (textL l) = l by unfold lnV; rw [HT.out]; rfl, show lnB (textL l) = true by unfold lnB; rw [HT.out]; rfl] at k5
        have k4 := fun A1 c1 w' (h : Strs w' A1 l) => text_any l A1 c1 w' h (by omega)
        replace H := Lib.hid hbw
        clear HT HJ
        generalize textL l = T at *
        go_wp2_with fail
        refine (copied_any l A cap _ HS.out (by omega)).mono ?_
        rintro e w1 ⟨A1, c1, rfl, -, hS1, h⟩
        have HC := Lib.hid hS1
        replace H := Lib.hid (Below.step H.out h)
        replace HS := Lib.hid (HS.out.below h)
        clear h hS1
        go_wp2_with fail
        refine (k4 _ _ _ HC.out).mono ?_
        rintro e w2 ⟨rfl, h⟩
        replace H := Lib.hid (Below.step H.out h)
        replace HS := Lib.hid (HS.out.below h)
        clear h
        go_wp2_with fail
        refine (k5 _ H.out).mono ?_
        rintro e w3 ⟨A3, c3, rfl, -, hS3, h⟩
        have H3 := Lib.hid hS3
        replace H := Lib.hid (Below.step H.out h)
        replace HS := Lib.hid (HS.out.below h)
        clear h hS3
        go_wp2_with fail
        refine (rsame_yes l A3 A c3 cap _ H3.out HS.out (by omega)).mono ?_
        rintro e w4 ⟨rfl, h⟩
        replace H := Lib.hid (Below.step H.out h)
        clear h
        go_wp2_with fail
        refine (awake_any _ (hL.below H.out)).mono ?_
        rintro e w5 ⟨rfl, h⟩
        replace H := Lib.hid (Below.step H.out h)
        clear h
        go_wp2
        go_ret
        exact Ret.mk rfl H.out
  · have k2 := fun A1 c1 w' (h : Strs w' A1 (lnV s)) => text_any (lnV s) A1 c1 w' h (by rw [text_lns s _ hv]; omega)
    rw [text_lns s _ hv] at k2
    rw [hb] at k1
    generalize lnV s = V at *
    clear hv hb
    go_enter Tryd.func12, Tryd.ntmps12
    go_wp2_with fail
    refine (k1 _ H.out).mono ?_
    rintro e w1 ⟨A1, c1, rfl, -, hS1, h⟩
    have H1 := Lib.hid hS1
    replace H := Lib.hid (Below.step H.out h)
    clear h hS1
    go_wp2_with fail
    refine (k2 _ _ _ H1.out).mono ?_
    rintro e w2 ⟨rfl, h⟩
    replace H := Lib.hid (Below.step H.out h)
    clear h
    go_wp2
    go_loopw [7] (fun i wr => ∃ k : Nat, k ≤ l.length ∧ i = .int .i64 (k : Int) ∧ Hid (∀ p ∈ l.take k, ∀ b ∈ p, b ≠ 10) ∧ Below W.heap.size W wr) (fun i _ => l.length + 1 - (intOf i).toNat)
    case atStart => exact ⟨0, by omega, rfl, Lib.hid (by simp), H.out⟩
    case round =>
      obtain ⟨k, hk, rfl, HJ, hbw⟩ := hrel
      replace HS := Lib.hid (HS0.out.below hbw)
      by_cases hlt : k < l.length
      · have HC0 : Hid (∀ w', Below W.heap.size W w' → ∃ ad, A = some ad ∧ ad.block < w'.heap.size ∧ w'.cell? (ad.add k) = some (.string ⟨l[k].toArray⟩)) := Lib.hid (fun w' h => (HS0.out.below h).at_ hlt)
        have HX : Hid (∀ b ∈ l[k], b ≠ 10) → Hid (∀ p ∈ l.take (k + 1), ∀ b ∈ p, b ≠ 10) := fun h => Lib.hid (by
          rw [List.take_succ_eq_append_getElem hlt]
          intro p hp
          rcases List.mem_append.1 hp with hp | hp
          · exact HJ.out p hp
          · simp at hp; subst hp; exact h.out)
        have HX := Lib.hid HX
        have hxl := text_at hlt
        generalize l[k] = x at *
        obtain ⟨ad0, rfl, _, _⟩ := HC0.out wr hbw
        go_wp2
        go_loopw [8] (fun j wr => ∃ m : Nat, m ≤ x.length ∧ j = .int .i64 (m : Int) ∧ Hid (∀ b ∈ x.take m, b ≠ 10) ∧ Below W.heap.size W wr) (fun j _ => x.length + 1 - (intOf j).toNat)
        case atStart => exact ⟨0, by omega, rfl, Lib.hid (by simp), hbw⟩
        case round =>
          obtain ⟨m, hm, rfl, HM, hbw2⟩ := hrel
          obtain ⟨ad, e0, _, c1⟩ := HC0.out _ hbw2
          injection e0 with e0
          subst e0
          by_cases hmx : m < x.length
          · have hget : (({ data := x.toArray } : ByteArray)[m]'(show m < x.toArray.size by simpa using hmx)) = x[m] := rfl
            by_cases h10 : x[m] = 10
            · rw [h10] at hget
              have HB2 := Lib.hid hbw2
              clear h10
              go_wp2_with fail
              refine (awake_any _ (hL.below HB2.out)).mono ?_
              rintro e w8 ⟨rfl, h⟩
              have hb8 := Below.step HB2.out h
              go_wp2
              go_ret
              exact Ret.mk rfl hb8
            · have hne : ((x[m].toNat : Int) == 10) = false := by
                rw [beq_eq_false_iff_ne]; exact fun e => h10 (UInt8.toNat_inj.1 (by show _ = 10; omega))
              have HN : Hid (∀ b ∈ x.take (m + 1), b ≠ 10) := Lib.hid (by
                rw [List.take_succ_eq_append_getElem hmx]
                intro b hb
                rcases List.mem_append.1 hb with hb | hb
                · exact HM.out b hb
                · simp at hb; subst hb; exact h10)
              generalize x[m] = c at *
              clear h10
              go_wp2
              go_roundw
              case rel => exact ⟨m + 1, by omega, by go_num, HN, hbw2⟩
              case measure => simp [intOf]; omega
          · obtain rfl : m = x.length := by omega
            have HN := HX.out (by rw [List.take_length] at HM; exact HM)
            go_wp2
            go_roundw
            case rel => exact ⟨k + 1, by omega, by go_num, HN, hbw2⟩
            case measure => simp [intOf]; omega
      · obtain rfl : k = l.length := by omega
        have HT := Lib.hid (lns_text l (by have := HJ.out; rwa [List.take_length] at this))
        have k5 := fun w' (hb : Below W.heap.size W w') => lines_any (textL l) (by omega) w' (hL.below hb)
        rw [show lnV (textL l) = l by unfold lnV; rw [HT.out]; rfl, show lnB (textL l) = true by unfold lnB; rw [HT.out]; rfl] at k5
        have k4 := fun A1 c1 w' (h : Strs w' A1 l) => text_any l A1 c1 w' h (by omega)
        replace H := Lib.hid hbw
        clear HT HJ
        generalize textL l = T at *
        go_wp2_with fail
        refine (copied_any l A cap _ HS.out (by omega)).mono ?_
        rintro e w1 ⟨A1, c1, rfl, -, hS1, h⟩
        have HC := Lib.hid hS1
        replace H := Lib.hid (Below.step H.out h)
        replace HS := Lib.hid (HS.out.below h)
        clear h hS1
        go_wp2_with fail
        refine (k4 _ _ _ HC.out).mono ?_
        rintro e w2 ⟨rfl, h⟩
        replace H := Lib.hid (Below.step H.out h)
        replace HS := Lib.hid (HS.out.below h)
        clear h
        go_wp2_with fail
        refine (k5 _ H.out).mono ?_
        rintro e w3 ⟨A3, c3, rfl, -, hS3, h⟩
        have H3 := Lib.hid hS3
        replace H := Lib.hid (Below.step H.out h)
        replace HS := Lib.hid (HS.out.below h)
        clear h hS3
        go_wp2_with fail
        refine (rsame_yes l A3 A c3 cap _ H3.out HS.out (by omega)).mono ?_
        rintro e w4 ⟨rfl, h⟩
        replace H := Lib.hid (Below.step H.out h)
        clear h
        go_wp2_with fail
        refine (awake_any _ (hL.below H.out)).mono ?_
        rintro e w5 ⟨rfl, h⟩
        replace H := Lib.hid (Below.step H.out h)
        clear h
        go_wp2
        go_ret
        exact Ret.mk rfl H.out
end Go.Proofs.YtdjlfbfipkalbaaDoor
