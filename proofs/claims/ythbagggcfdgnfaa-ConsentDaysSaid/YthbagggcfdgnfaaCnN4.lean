/- The laws Withdrawn: their walks. -/
import Derived.Test.YthbagggcfdgnfaaCnU
namespace Go.Proofs.Ythbagggcfdgnfaa
open Go.RowKit

/-- The day of a person's last consent. -/
def stepL (x a : Int) (c : Cn) : Int := if c.p == x then c.d else a
def lastD (l : List Cn) (x : Int) : Int := l.foldl (stepL x) 0
theorem lastD_succ {l : List Cn} (x : Int) {k : Nat} (hk : k < l.length) : lastD (l.take (k + 1)) x = stepL x (lastD (l.take k) x) l[k] := foldl_take _ _ _ hk
theorem lastD_yes {c : Cn} {x : Int} (o : Int) (h : (c.p == x) = true) : stepL x o c = c.d := by unfold stepL; rw [h]; rfl
theorem lastD_no {c : Cn} {x : Int} (o : Int) (h : (c.p == x) = false) : stepL x o c = o := by unfold stepL; rw [h]; rfl
theorem lastD_max {l : List Cn} (hs : SortedC l) (x : Int) : ∀ k, k ≤ l.length → ∀ j (hj : j < l.length), j < k → l[j].p = x → l[j].d ≤ lastD (l.take k) x
  | 0, _, _, _, h, _ => by omega
  | k + 1, hk, j, hj, h, hp => by
    rw [lastD_succ x (by omega)]
    rcases hx : (l[k].p == x) with _ | _
    · rw [lastD_no _ hx]
      refine lastD_max hs x k (by omega) j hj ?_ hp
      rcases Nat.lt_or_ge j k with h' | h'
      · exact h'
      · obtain rfl : j = k := by omega
        rw [hp] at hx; simp at hx
    · rw [lastD_yes _ hx]
      exact hs j k hj (by omega) (by omega)
theorem lastD_all {l : List Cn} (hs : SortedC l) {x z : Int} (h : lastD l x ≤ z) : ∀ c ∈ l, c.p = x → c.d ≤ z := fun c hc hp => by
  obtain ⟨j, hj, rfl⟩ := List.getElem_of_mem hc
  have := lastD_max hs x l.length (Nat.le_refl _) j hj hj hp
  rw [List.take_length] at this
  omega
theorem give_kinds {l : List Cn} {c : Cn} (h : ∀ c ∈ l, 0 ≤ c.k ∧ c.k ≤ 2) (hc : 0 ≤ c.k ∧ c.k ≤ 2) : ∀ x ∈ giveL l c, 0 ≤ x.k ∧ x.k ≤ 2 := fun x hx => by
  rcases mem_giveL.1 hx with h1 | rfl
  · exact h x h1
  · exact hc
/-- What the walk keeps. -/
def CtxW (w : World) (A : Option Addr) (ps : List Pn) (ca : Nat) (B : Option Addr) (l : List Cn) (cb : Nat) (x y z : Int) (S : Option Addr) (sp : List Int) (wr : World) : Prop :=
  AskC wr w.heap.size A ps.length ca B l.length cb x y z ∧ People wr A ps ∧ Cons wr B l ∧ Ints wr S sp ∧ Below w.heap.size w wr
theorem CtxW.below {w : World} {A : Option Addr} {ps : List Pn} {ca : Nat} {B : Option Addr} {l : List Cn} {cb : Nat} {x y z : Int} {S : Option Addr} {sp : List Int} {wr wr' : World} (h : CtxW w A ps ca B l cb x y z S sp wr) (hb : Below wr.heap.size wr wr') : CtxW w A ps ca B l cb x y z S sp wr' :=
  ⟨h.1.below hb, h.2.1.below hb, h.2.2.1.below hb, h.2.2.2.1.below hb, Below.step h.2.2.2.2 hb⟩
theorem CtxW.drewN {w : World} {A : Option Addr} {ps : List Pn} {ca : Nat} {B : Option Addr} {l : List Cn} {cb : Nat} {x y z : Int} {S : Option Addr} {sp : List Int} {wr : World} (h : CtxW w A ps ca B l cb x y z S sp wr) (n : Nat) : CtxW w A ps ca B l cb x y z S sp (wr.drewN n) :=
  h.below (Below.drewN_ (Below.refl _ _) n)

set_option maxRecDepth 20000 in
set_option maxHeartbeats 4000000 in
theorem withdrawn_walk (w : World) (ps : List Pn) (l : List Cn) (A B : Option Addr) (ca cb : Nat) (x y z : Int) (sp : List Int) (S : Option Addr) (cs : Nat) (ha : People w A ps) (hb : Cons w B l) (hs : Ints w S sp) (hcap : l.length ≤ cb) :
    Calls Try.prog 8 #[.agg #[.slice A ps.length ca, .slice B l.length cb, .int .i64 x, .int .i64 y, .int .i64 z], .slice S sp.length cs] w (Ret (.bool true) w) := by
  have k1 := fun w' h1 h2 => right_any ps l A B ca cb w' h1 h2
  rcases hr : (fewB ps l.length && (checkE ps l == 0)) with _ | _
  · rw [hr] at k1
    clear hr
    go_enter Try.func8, Try.ntmps8
    have HA := Lib.hid (AskC.new w A ps ca B l cb x y z 29)
    obtain ⟨za, a0, a1, a2, a3, a4⟩ := HA.out
    have HB : Hid (Below w.heap.size w (w.alloc (.cells #[.slice A ps.length ca, .slice B l.length cb, .int .i64 x, .int .i64 y, .int .i64 z] 29))) := Lib.hid (by repeat (first | assumption | exact Below.refl _ _ | refine Below.alloc ?_ (by first | omega | (simp; done) | (simp; omega)) _ | refine Below.setCell ?_ (by first | omega | (simp; done) | (simp; omega)) _ | refine Below.drew ?_ | refine Below.drewN_ ?_ _ | refine Below.step ?_ (by assumption)))
    have HP := Lib.hid (ha.below HB.out)
    have HL := Lib.hid (hb.below HB.out)
    go_wp2_with fail
    refine (k1 _ HP.out HL.out).mono ?_
    rintro e W1 ⟨rfl, hc⟩
    replace HA := Lib.hid (HA.out.below hc)
    replace HP := Lib.hid (HP.out.below hc)
    replace HL := Lib.hid (HL.out.below hc)
    clear za a0 a1 a2 a3 a4
    obtain ⟨za, a0, a1, a2, a3, a4⟩ := HA.out
    replace HB := Lib.hid (Below.step HB.out hc)
    clear hc
    go_wp2_with fail
    refine (awake_any _).mono ?_
    rintro e W2 ⟨rfl, hc⟩
    replace HA := Lib.hid (HA.out.below hc)
    replace HP := Lib.hid (HP.out.below hc)
    replace HL := Lib.hid (HL.out.below hc)
    clear za a0 a1 a2 a3 a4
    obtain ⟨za, a0, a1, a2, a3, a4⟩ := HA.out
    replace HB := Lib.hid (Below.step HB.out hc)
    clear hc
    go_wp2
    go_ret
    exact Ret.mk rfl HB.out
  · rw [hr] at k1
    obtain ⟨hf, hck⟩ : fewB ps l.length = true ∧ checkE ps l = 0 := by simpa using hr
    have hle := few_le hf
    obtain ⟨hl60, hso, hgo⟩ := right_of hck
    clear hr hf
    go_enter Try.func8, Try.ntmps8
    have HA := Lib.hid (AskC.new w A ps ca B l cb x y z 29)
    obtain ⟨za, a0, a1, a2, a3, a4⟩ := HA.out
    have HB : Hid (Below w.heap.size w (w.alloc (.cells #[.slice A ps.length ca, .slice B l.length cb, .int .i64 x, .int .i64 y, .int .i64 z] 29))) := Lib.hid (by repeat (first | assumption | exact Below.refl _ _ | refine Below.alloc ?_ (by first | omega | (simp; done) | (simp; omega)) _ | refine Below.setCell ?_ (by first | omega | (simp; done) | (simp; omega)) _ | refine Below.drew ?_ | refine Below.drewN_ ?_ _ | refine Below.step ?_ (by assumption)))
    have HP := Lib.hid (ha.below HB.out)
    have HL := Lib.hid (hb.below HB.out)
    have HI := Lib.hid (hs.below HB.out)
    go_wp2_with fail
    refine (k1 _ HP.out HL.out).mono ?_
    rintro e W1 ⟨rfl, hc⟩
    replace HA := Lib.hid (HA.out.below hc)
    replace HP := Lib.hid (HP.out.below hc)
    replace HL := Lib.hid (HL.out.below hc)
    replace HI := Lib.hid (HI.out.below hc)
    clear za a0 a1 a2 a3 a4
    obtain ⟨za, a0, a1, a2, a3, a4⟩ := HA.out
    replace HB := Lib.hid (Below.step HB.out hc)
    clear hc
    have hbad : (60 : Int) ≤ (l.length : Int) ∨ (¬ (60 : Int) ≤ (l.length : Int) ∧ (50 : Int) < (sp.length : Int)) ∨ (¬ (60 : Int) ≤ (l.length : Int) ∧ ¬ (50 : Int) < (sp.length : Int) ∧ z < 1) ∨ (¬ (60 : Int) ≤ (l.length : Int) ∧ ¬ (50 : Int) < (sp.length : Int) ∧ ¬ z < 1 ∧ 109573 < z) ∨ (l.length < 60 ∧ sp.length ≤ 50 ∧ 1 ≤ z ∧ z ≤ 109573) := by omega
    rcases hbad with h6 | ⟨h6, h7⟩ | ⟨h6, h7, h8⟩ | ⟨h6, h7, h8, h9⟩ | ⟨h6, h7, h8, h9⟩
    · go_wp2_with fail
      refine (awake_any _).mono ?_
      rintro e W2 ⟨rfl, hc⟩
      replace HA := Lib.hid (HA.out.below hc)
      replace HP := Lib.hid (HP.out.below hc)
      replace HL := Lib.hid (HL.out.below hc)
      replace HI := Lib.hid (HI.out.below hc)
      clear za a0 a1 a2 a3 a4
      obtain ⟨za, a0, a1, a2, a3, a4⟩ := HA.out
      replace HB := Lib.hid (Below.step HB.out hc)
      clear hc
      go_wp2
      go_ret
      exact Ret.mk rfl HB.out
    · go_wp2_with fail
      refine (awake_any _).mono ?_
      rintro e W2 ⟨rfl, hc⟩
      replace HA := Lib.hid (HA.out.below hc)
      replace HP := Lib.hid (HP.out.below hc)
      replace HL := Lib.hid (HL.out.below hc)
      replace HI := Lib.hid (HI.out.below hc)
      clear za a0 a1 a2 a3 a4
      obtain ⟨za, a0, a1, a2, a3, a4⟩ := HA.out
      replace HB := Lib.hid (Below.step HB.out hc)
      clear hc
      go_wp2
      go_ret
      exact Ret.mk rfl HB.out
    · go_wp2_with fail
      refine (awake_any _).mono ?_
      rintro e W2 ⟨rfl, hc⟩
      replace HA := Lib.hid (HA.out.below hc)
      replace HP := Lib.hid (HP.out.below hc)
      replace HL := Lib.hid (HL.out.below hc)
      replace HI := Lib.hid (HI.out.below hc)
      clear za a0 a1 a2 a3 a4
      obtain ⟨za, a0, a1, a2, a3, a4⟩ := HA.out
      replace HB := Lib.hid (Below.step HB.out hc)
      clear hc
      go_wp2
      go_ret
      exact Ret.mk rfl HB.out
    · go_wp2_with fail
      refine (awake_any _).mono ?_
      rintro e W2 ⟨rfl, hc⟩
      replace HA := Lib.hid (HA.out.below hc)
      replace HP := Lib.hid (HP.out.below hc)
      replace HL := Lib.hid (HL.out.below hc)
      replace HI := Lib.hid (HI.out.below hc)
      clear za a0 a1 a2 a3 a4
      obtain ⟨za, a0, a1, a2, a3, a4⟩ := HA.out
      replace HB := Lib.hid (Below.step HB.out hc)
      clear hc
      go_wp2
      go_ret
      exact Ret.mk rfl HB.out
    · have g6 : ¬ (60 : Int) ≤ (l.length : Int) := by omega
      have g7 : ¬ (50 : Int) < (sp.length : Int) := by omega
      have g8 : ¬ z < 1 := by omega
      have g9 : ¬ 109573 < z := by omega
      have k2 := fun w' h => rperson_any ps A ca x w' h (by omega)
      go_wp2_with fail
      refine (k2 _ HP.out).mono ?_
      rintro e W2 ⟨q, rfl, hc⟩
      replace HA := Lib.hid (HA.out.below hc)
      replace HP := Lib.hid (HP.out.below hc)
      replace HL := Lib.hid (HL.out.below hc)
      replace HI := Lib.hid (HI.out.below hc)
      clear za a0 a1 a2 a3 a4
      obtain ⟨za, a0, a1, a2, a3, a4⟩ := HA.out
      replace HB := Lib.hid (Below.step HB.out hc)
      clear hc
      go_wp2_with fail
      have hc := below_new W2 (.cells #[.int .i64 q.id, .string ⟨q.nm.toArray⟩, .bool q.mb] 46)
      replace HA := Lib.hid (HA.out.below hc)
      replace HP := Lib.hid (HP.out.below hc)
      replace HL := Lib.hid (HL.out.below hc)
      replace HI := Lib.hid (HI.out.below hc)
      clear za a0 a1 a2 a3 a4
      obtain ⟨za, a0, a1, a2, a3, a4⟩ := HA.out
      replace HB := Lib.hid (Below.step HB.out hc)
      clear hc
      go_loopw [7, 8] (fun o i wr => ∃ k : Nat, k ≤ l.length ∧ i = .int .i64 (k : Int) ∧ o = .int .i64 (lastD (l.take k) x) ∧ CtxW w A ps ca B l cb x y z S sp wr) (fun _ i _ => l.length + 1 - (intOf i).toNat)
      case atStart => exact ⟨0, by omega, rfl, rfl, HA.out, HP.out, HL.out, HI.out, HB.out⟩
      case round =>
        clear HA HP HL HI HB za a0 a1 a2 a3 a4
        obtain ⟨k, hk, rfl, rfl, hctx⟩ := hrel
        have HX := Lib.hid hctx
        obtain ⟨⟨za, a0, a1, a2, a3, a4⟩, _, hl', _, hB⟩ := hctx
        by_cases hlt : k < l.length
        · obtain ⟨ad, rfl, _, d0, d1, d2, d3⟩ := Cons.cells hl' hlt
          have HS := Lib.hid (lastD_succ x hlt)
          generalize lastD (l.take k) x = o at *
          rcases hpx : (l[k].p == x) with _ | _
          · have HS2 := Lib.hid (HS.out.trans (lastD_no o hpx))
            clear HS
            go_wp2
            go_quiet (fail)
            go_wp2
            go_roundw
            case rel => exact ⟨k + 1, by omega, by go_num, by rw [HS2.out], HX.out.drewN _⟩
            case measure => simp [intOf]; omega
          · have HS2 := Lib.hid (HS.out.trans (lastD_yes o hpx))
            clear HS
            go_wp2
            go_quiet (fail)
            go_wp2
            go_roundw
            case rel => exact ⟨k + 1, by omega, by go_num, by rw [HS2.out], HX.out.drewN _⟩
            case measure => simp [intOf]; omega
        · obtain rfl : k = l.length := by omega
          have HL1 := Lib.hid (fun h => lastD_all (z := z) hso (x := x) (by rw [← List.take_length (l := l)]; exact h))
          generalize lastD (l.take l.length) x = o at *
          rcases hp : hasP ps x with _ | _
          · clear hp
            go_wp2_with fail
            refine (awake_any _).mono ?_
            rintro e W3 ⟨rfl, hc⟩
            have HE := Lib.hid (Below.step hB hc)
            clear hc
            go_wp2
            go_ret
            exact Ret.mk rfl HE.out
          · clear hp
            by_cases hoz : z < o
            · go_wp2_with fail
              refine (awake_any _).mono ?_
              rintro e W3 ⟨rfl, hc⟩
              have HE := Lib.hid (Below.step hB hc)
              clear hc
              go_wp2
              go_ret
              exact Ret.mk rfl HE.out
            · have hall := Lib.hid (HL1.out (by omega))
              clear HL1
              have H0 := Lib.hid (fun (t : Int) (ht : 0 ≤ t) => withdrawn (day := z) (r := y) hall.out ht)
              have hM : (giveL l ⟨x, 0, z, 0⟩).length ≤ 100000 := by rw [giveL_length]; omega
              have HLs := Lib.hid (fun (t : Int) (ht : 0 ≤ t) (hx : x ∈ sp) => least_zero (l := giveL l ⟨x, 0, z, 0⟩) (rid := y) (d := z + t) (give_kinds (l := l) (c := ⟨x, 0, z, 0⟩) (fun c hc => (hgo c hc).2.2.2) ⟨by simp, by simp⟩) hx (H0.out t ht))
              have kG := give_any l B cb ⟨x, 0, z, 0⟩ wr hl' (by omega) hcap
              generalize giveL l ⟨x, 0, z, 0⟩ = M at *
              go_wp2_with fail
              refine kG.mono ?_
              rintro e W3 ⟨A3, m3, rfl, ⟨i3, q3⟩, hc⟩
              have HX3 := Lib.hid (HX.out.below hc)
              have HM3 := Lib.hid i3
              clear hc i3 q3 kG hB hl' za a0 a1 a2 a3 a4 HX hall k1 k2 hck hso hgo hoz
              go_wp2
              go_loopw [10] (fun i wr => ∃ k : Nat, k ≤ 3 ∧ i = .int .i64 (k : Int) ∧ CtxW w A ps ca B l cb x y z S sp wr ∧ Cons wr A3 M) (fun i _ => 4 - (intOf i).toNat)
              case atStart => exact ⟨0, by omega, rfl, HX3.out, HM3.out⟩
              case round =>
                clear HX3 HM3
                obtain ⟨k, hk, rfl, hctx, hm⟩ := hrel
                have HX := Lib.hid hctx
                have HM := Lib.hid hm
                obtain ⟨⟨za, a0, a1, a2, a3, a4⟩, _, _, _, hB⟩ := hctx
                clear hm
                by_cases hlt : k < 3
                · have h0 := H0.out (k : Int) (by omega)
                  have hl0 := HLs.out (k : Int) (by omega)
                  have hzk : IntKind.i64.wrap (z + (k : Int)) = z + (k : Int) := by unfold IntKind.wrap; simp [IntKind.signed, IntKind.bits]; omega
                  have k4 := fun w' h => at_any M A3 m3 x y (z + (k : Int)) w' h hM
                  have k5 := fun w' h => rhas_any sp S cs x w' h (by omega)
                  have k6 := fun w' h h2 => least_any M A3 S m3 cs y 0 0 (z + (k : Int)) [] sp w' h h2 hM (by omega)
                  rw [h0] at k4
                  have HR0 := Lib.hid (RecC.new wr y [] 0 0 S sp cs 34)
                  have hc0 := below_new wr (.cells #[.int .i64 y, .string ⟨#[]⟩, .int .i64 0, .int .i64 0, .slice S sp.length cs] 34)
                  have HX1 := Lib.hid (HX.out.below hc0)
                  have HM1 := Lib.hid (HM.out.below hc0)
                  go_wp2_with fail
                  clear hc0
                  refine (k4 _ HM1.out).mono ?_
                  rintro e W4 ⟨rfl, hc⟩
                  have HX4 := Lib.hid (HX1.out.below hc)
                  have HM4 := Lib.hid (HM1.out.below hc)
                  have HR4 := Lib.hid (HR0.out.below hc)
                  clear hc HX HM HX1 HM1 HR0 za a0 a1 a2 a3 a4 hB
                  obtain ⟨⟨za, a0, a1, a2, a3, a4⟩, _, _, _, hB⟩ := HX4.out
                  obtain ⟨zr, r0, r1, r2, r3, r4⟩ := HR4.out
                  go_wp2_with fail
                  refine (k5 _ HX4.out.2.2.2.1).mono ?_
                  rintro e W5 ⟨rfl, hc⟩
                  have HX5 := Lib.hid (HX4.out.below hc)
                  have HM5 := Lib.hid (HM4.out.below hc)
                  have HR5 := Lib.hid (HR4.out.below hc)
                  clear hc HX4 HM4 HR4 za a0 a1 a2 a3 a4 hB zr r0 r1 r2 r3 r4
                  obtain ⟨⟨za, a0, a1, a2, a3, a4⟩, _, _, _, hB⟩ := HX5.out
                  obtain ⟨zr, r0, r1, r2, r3, r4⟩ := HR5.out
                  rcases hcx : sp.contains x with _ | _
                  · clear hcx
                    go_wp2_with fail
                    go_roundw
                    case rel => exact ⟨k + 1, by omega, by go_num, HX5.out, HM5.out⟩
                    case measure => simp [intOf]; omega
                  · rw [hl0 (by simpa using hcx)] at k6
                    clear hcx
                    go_wp2_with fail
                    refine (k6 _ HM5.out HX5.out.2.2.2.1).mono ?_
                    rintro e W6 ⟨rfl, hc⟩
                    have HX6 := Lib.hid (HX5.out.below hc)
                    have HM6 := Lib.hid (HM5.out.below hc)
                    clear hc HX5 HM5 HR5 za a0 a1 a2 a3 a4 hB zr r0 r1 r2 r3 r4
                    obtain ⟨⟨za, a0, a1, a2, a3, a4⟩, _, _, _, hB⟩ := HX6.out
                    go_wp2_with fail
                    go_roundw
                    case rel => exact ⟨k + 1, by omega, by go_num, HX6.out, HM6.out⟩
                    case measure => simp [intOf]; omega
                · obtain rfl : k = 3 := by omega
                  go_wp2_with fail
                  refine (awake_any _).mono ?_
                  rintro e W4 ⟨rfl, hc⟩
                  have HE := Lib.hid (Below.step hB hc)
                  clear hc
                  go_wp2
                  go_ret
                  exact Ret.mk rfl HE.out

end Go.Proofs.Ythbagggcfdgnfaa
