/- checkConsent, the reference's one, both Check. -/
import Derived.Test.YthbagggcfdgnfaaCnA
namespace Go.Proofs.Ythbagggcfdgnfaa
open Go.RowKit

/-- Block b holds a consent. -/
def FourC (w : World) (b : Nat) (c : Cn) : Prop := b < w.heap.size ∧ w.cell? ⟨b, 0, none⟩ = some (.int .i64 c.p) ∧ w.cell? ⟨b, 1, none⟩ = some (.int .i64 c.r) ∧ w.cell? ⟨b, 2, none⟩ = some (.int .i64 c.d) ∧ w.cell? ⟨b, 3, none⟩ = some (.int .i64 c.k)
theorem FourC.below {w w' : World} {b : Nat} {c : Cn} (h : FourC w b c) (hb : Below w.heap.size w w') : FourC w' b c :=
  ⟨Nat.lt_of_lt_of_le h.1 hb.size, ((bcell hb).1 b 0 h.1).trans h.2.1, ((bcell hb).1 b 1 h.1).trans h.2.2.1, ((bcell hb).1 b 2 h.1).trans h.2.2.2.1, ((bcell hb).1 b 3 h.1).trans h.2.2.2.2⟩
theorem FourC.new (w : World) (c : Cn) (t : TypeId) : FourC (w.alloc (.cells #[.int .i64 c.p, .int .i64 c.r, .int .i64 c.d, .int .i64 c.k] t)) w.heap.size c :=
  ⟨by simp, by simp [go_sem], by simp [go_sem], by simp [go_sem], by simp [go_sem]⟩

theorem dayB_next {l : List Cn} {j : Nat} (hj : j < l.length) : dayB l (j + 1) = l[j].d := by unfold dayB; simp [hj]

set_option maxRecDepth 20000 in
set_option maxHeartbeats 1000000 in
theorem checkOne_any (l : List Pn) (A : Option Addr) (cap : Nat) (c : Cn) (b : Int) (w : World) (ha : People w A l) (hl : l.length ≤ 100000) :
    Calls Try.prog 27 #[.slice A l.length cap, .agg #[.int .i64 c.p, .int .i64 c.r, .int .i64 c.d, .int .i64 c.k], .int .i64 b] w (Ret (.int .i64 (oneE l c b)) w) := by
  have k := fun w' (h : Below w.heap.size w w') => person_any l A cap c.p w' (ha.below h) hl
  obtain ⟨f, hf⟩ : ∃ f, hasP l c.p = f := ⟨_, rfl⟩
  have HF := Lib.hid hf
  rw [hf] at k
  clear hf
  obtain ⟨R, hR⟩ : ∃ R, oneE l c b = R := ⟨_, rfl⟩
  have HR := Lib.hid hR
  rw [hR]
  clear hR
  go_enter Try.func27, Try.ntmps27
  go_wp2_with fail
  refine (k _ (by repeat (first | assumption | exact Below.refl _ _ | refine Below.alloc ?_ (by first | omega | (simp; done) | (simp; omega)) _ | refine Below.setCell ?_ (by first | omega | (simp; done) | (simp; omega)) _ | refine Below.drew ?_ | refine Below.drewN_ ?_ _ | refine Below.step ?_ (by assumption)))).mono ?_
  rintro e w1 ⟨x, rfl, h1⟩
  obtain ⟨z, e0, e1, e2, e3⟩ := (FourC.new w c _).below h1
  have H1 : Below w.heap.size w w1 := (by repeat (first | assumption | exact Below.refl _ _ | refine Below.alloc ?_ (by first | omega | (simp; done) | (simp; omega)) _ | refine Below.setCell ?_ (by first | omega | (simp; done) | (simp; omega)) _ | refine Below.drew ?_ | refine Below.drewN_ ?_ _ | refine Below.step ?_ (by assumption)))
  clear k h1
  rcases f with _ | _
  · go_wp2
    go_ret
    refine Ret.mk ?_ (by repeat (first | assumption | exact Below.refl _ _ | refine Below.alloc ?_ (by first | omega | (simp; done) | (simp; omega)) _ | refine Below.setCell ?_ (by first | omega | (simp; done) | (simp; omega)) _ | refine Below.drew ?_ | refine Below.drewN_ ?_ _ | refine Below.step ?_ (by assumption)))
    rw [← HR.out, oneE, if_pos HF.out]
    rfl
  · go_wp2
    all_goals (go_ret; refine Ret.mk ?_ (by repeat (first | assumption | exact Below.refl _ _ | refine Below.alloc ?_ (by first | omega | (simp; done) | (simp; omega)) _ | refine Below.setCell ?_ (by first | omega | (simp; done) | (simp; omega)) _ | refine Below.drew ?_ | refine Below.drewN_ ?_ _ | refine Below.step ?_ (by assumption))); rw [← HR.out, oneE, if_neg (by rw [HF.out]; simp)]; change Value.int .i64 _ = Value.int .i64 _; refine congrArg _ ?_; repeat' split)
    all_goals (first | rfl | (exfalso; omega))

set_option maxRecDepth 20000 in
set_option maxHeartbeats 2000000 in
theorem check_any (ps : List Pn) (l : List Cn) (A B : Option Addr) (ca cb : Nat) (w : World) (ha : People w A ps) (hb : Cons w B l) (hp : ps.length ≤ 100000) (hl : l.length ≤ 100000) :
    Calls Try.prog 12 #[.slice A ps.length ca, .slice B l.length cb] w (Ret (.int .i64 (checkE ps l)) w) := by
  obtain ⟨R, hR⟩ : ∃ R, checkE ps l = R := ⟨_, rfl⟩
  have HR := Lib.hid hR
  rw [hR]
  clear hR
  have k1 := fun c b w' (h : Below w.heap.size w w') => checkOne_any ps A ca c b w' (ha.below h) hp
  by_cases h60 : 60 < l.length
  · have HV := Lib.hid (check_long (ps := ps) h60)
    go_enter Try.func12, Try.ntmps12
    go_wp2
    go_ret
    exact Ret.mk (show Value.int .i64 11 = _ by rw [← HR.out, HV.out]) (by repeat (first | assumption | exact Below.refl _ _ | refine Below.alloc ?_ (by first | omega | (simp; done) | (simp; omega)) _ | refine Below.setCell ?_ (by first | omega | (simp; done) | (simp; omega)) _ | refine Below.drew ?_ | refine Below.drewN_ ?_ _ | refine Below.step ?_ (by assumption)))
  · have H60 := Lib.hid h60
    go_enter Try.func12, Try.ntmps12
    go_wp2
    go_loopw [5, 14] (fun b i wr => ∃ k : Nat, k ≤ l.length ∧ i = .int .i64 (k : Int) ∧ b = .int .i64 (dayB l k) ∧ Hid (∀ j, j < k → oneAt ps l j = 0) ∧ Below w.heap.size w wr) (fun _ i _ => l.length + 1 - (intOf i).toNat)
    case atStart => exact ⟨0, by omega, rfl, rfl, Lib.hid fun j h => by omega, Below.refl _ _⟩
    case round =>
      obtain ⟨k, hk, rfl, rfl, HA, hbw⟩ := hrel
      have zz := hbw.size
      by_cases hlt : k < l.length
      · obtain ⟨ad, rfl, _, d0, d1, d2, d3⟩ := Cons.cells (hb.below hbw) hlt
        have HE := Lib.hid (oneAt_eq (ps := ps) hlt)
        have HD := Lib.hid (dayB_next hlt)
        have k2 := fun w' h => k1 l[k] (dayB l k) w' h
        clear k1
        generalize dayB l k = b at *
        generalize l[k] = c at *
        by_cases hz : oneE ps c b = 0
        · simp only [hz] at k2
          have HZ := Lib.hid hz
          clear hz
          go_wp2_with fail
          refine (k2 _ (by repeat (first | assumption | exact Below.refl _ _ | refine Below.alloc ?_ (by first | omega | (simp; done) | (simp; omega)) _ | refine Below.setCell ?_ (by first | omega | (simp; done) | (simp; omega)) _ | refine Below.drew ?_ | refine Below.drewN_ ?_ _ | refine Below.step ?_ (by assumption)))).mono ?_
          rintro e w1 ⟨rfl, h1⟩
          have H1 : Below w.heap.size w w1 := (by repeat (first | assumption | exact Below.refl _ _ | refine Below.alloc ?_ (by first | omega | (simp; done) | (simp; omega)) _ | refine Below.setCell ?_ (by first | omega | (simp; done) | (simp; omega)) _ | refine Below.drew ?_ | refine Below.drewN_ ?_ _ | refine Below.step ?_ (by assumption)))
          obtain ⟨y, e0, e1, e2, e3⟩ := (FourC.new wr c _).below h1
          clear h1
          clear k2
          go_wp2
          go_roundw
          case rel => exact ⟨k + 1, by omega, by go_num, by rw [HD.out], Lib.hid fun j hj => by
            rcases Nat.lt_or_ge j k with h' | h'
            · exact HA.out j h'
            · have : j = k := by omega
              subst this; rw [HE.out, HZ.out], H1⟩
          case measure => simp [intOf]; omega
        · have HV : Hid (checkE ps l = oneE ps c b) := Lib.hid (by rw [← HE.out]; exact check_at H60.out hlt HA.out (by rw [HE.out]; exact hz))
          have hz' : (oneE ps c b == 0) = false := by simpa using hz
          clear hz
          generalize oneE ps c b = v at *
          go_wp2_with fail
          refine (k2 _ (by repeat (first | assumption | exact Below.refl _ _ | refine Below.alloc ?_ (by first | omega | (simp; done) | (simp; omega)) _ | refine Below.setCell ?_ (by first | omega | (simp; done) | (simp; omega)) _ | refine Below.drew ?_ | refine Below.drewN_ ?_ _ | refine Below.step ?_ (by assumption)))).mono ?_
          rintro e w1 ⟨rfl, h1⟩
          have H1 : Below w.heap.size w w1 := (by repeat (first | assumption | exact Below.refl _ _ | refine Below.alloc ?_ (by first | omega | (simp; done) | (simp; omega)) _ | refine Below.setCell ?_ (by first | omega | (simp; done) | (simp; omega)) _ | refine Below.drew ?_ | refine Below.drewN_ ?_ _ | refine Below.step ?_ (by assumption)))
          clear k2
          go_wp2
          go_ret
          exact Ret.mk (show Value.int .i64 v = _ by rw [← HR.out, HV.out]) H1
      · have HV := Lib.hid (check_ok H60.out fun j hj => HA.out j (by omega))
        go_wp2
        go_ret
        exact Ret.mk (show Value.int .i64 0 = _ by rw [← HR.out, HV.out]) hbw

set_option maxRecDepth 20000 in
set_option maxHeartbeats 2000000 in
/-- The reference's one: at an index. -/
theorem rone_any (ps : List Pn) (l : List Cn) (A B : Option Addr) (ca cb k : Nat) (w : World) (ha : People w A ps) (hb : Cons w B l) (hp : ps.length ≤ 100000) (hl : l.length ≤ 100000) (hlt : k < l.length) :
    Calls Try.prog 28 #[.slice A ps.length ca, .slice B l.length cb, .int .i64 (k : Int)] w (Ret (.int .i64 (oneAt ps l k)) w) := by
  obtain ⟨R, hR⟩ : ∃ R, oneAt ps l k = R := ⟨_, rfl⟩
  have HR := Lib.hid ((oneAt_eq hlt).symm.trans hR)
  rw [hR]
  clear hR
  have kp := fun id w' (h : Below w.heap.size w w') => rperson_any ps A ca id w' (ha.below h) hp
  obtain ⟨ad, rfl, had, d0, d1, d2, d3⟩ := Cons.cells hb hlt
  have HBC := Lib.hid hb
  have HP : Hid (0 < k → ∃ p : Cn, dayB l k = p.d ∧ ∀ w', Below w.heap.size w w' → w'.cell? ⟨(ad.add ((k - 1) * 4)).block, (ad.add ((k - 1) * 4)).off + 2, none⟩ = some (.int .i64 p.d)) := Lib.hid fun h => by
    obtain ⟨q, rfl⟩ : ∃ q, k = q + 1 := ⟨k - 1, by omega⟩
    refine ⟨l[q], dayB_next (by omega), fun w' h' => ?_⟩
    obtain ⟨ad', e, _, _, _, d2, _⟩ := Cons.cells (hb.below h') (i := q) (by omega)
    injection e with e
    subst e
    exact d2
  have HL := Lib.hid hlt
  have HB : Hid (k = 0 → dayB l k = 0) := Lib.hid fun h => by subst h; rfl
  generalize dayB l k = b at *
  generalize l[k] = c at *
  have k1 := fun w' h => kp c.p w' h
  obtain ⟨f, hf⟩ : ∃ f, hasP ps c.p = f := ⟨_, rfl⟩
  have HF := Lib.hid hf
  rw [hf] at k1
  clear hf kp
  go_enter Try.func28, Try.ntmps28
  go_wp2_with fail
  refine (k1 _ (by repeat (first | assumption | exact Below.refl _ _ | refine Below.alloc ?_ (by first | omega | (simp; done) | (simp; omega)) _ | refine Below.setCell ?_ (by first | omega | (simp; done) | (simp; omega)) _ | refine Below.drew ?_ | refine Below.drewN_ ?_ _ | refine Below.step ?_ (by assumption)))).mono ?_
  rintro e w1 ⟨x, rfl, h1⟩
  obtain ⟨z, e0, e1, e2, e3⟩ := (FourC.new w c _).below h1
  have H1 : Below w.heap.size w w1 := (by repeat (first | assumption | exact Below.refl _ _ | refine Below.alloc ?_ (by first | omega | (simp; done) | (simp; omega)) _ | refine Below.setCell ?_ (by first | omega | (simp; done) | (simp; omega)) _ | refine Below.drew ?_ | refine Below.drewN_ ?_ _ | refine Below.step ?_ (by assumption)))
  clear k1 h1
  rcases f with _ | _
  · go_wp2
    go_ret
    refine Ret.mk ?_ (by repeat (first | assumption | exact Below.refl _ _ | refine Below.alloc ?_ (by first | omega | (simp; done) | (simp; omega)) _ | refine Below.setCell ?_ (by first | omega | (simp; done) | (simp; omega)) _ | refine Below.drew ?_ | refine Below.drewN_ ?_ _ | refine Below.step ?_ (by assumption)))
    rw [← HR.out, oneE, if_pos HF.out]
    rfl
  · rcases k with _ | q
    · have HB0 := Lib.hid (HB.out rfl)
      clear HB
      go_wp2
      all_goals (try (go_quiet (fail); go_wp2))
      all_goals (go_ret; refine Ret.mk ?_ (by repeat (first | assumption | exact Below.refl _ _ | refine Below.alloc ?_ (by first | omega | (simp; done) | (simp; omega)) _ | refine Below.setCell ?_ (by first | omega | (simp; done) | (simp; omega)) _ | refine Below.drew ?_ | refine Below.drewN_ ?_ _ | refine Below.step ?_ (by assumption))); have hb0 := HB0.out; rw [← HR.out, oneE, if_neg (by rw [HF.out]; simp)]; change Value.int .i64 _ = Value.int .i64 _; refine congrArg _ ?_; repeat' split)
      all_goals (first | rfl | (exfalso; omega))
    · obtain ⟨pc, hpd, hcell⟩ := HP.out (by omega)
      have HPD := Lib.hid hpd
      have hce := hcell (w1.alloc (.cells #[.int .i64 x.id, .string ⟨x.nm.toArray⟩, .bool x.mb] 46)) (by repeat (first | assumption | exact Below.refl _ _ | refine Below.alloc ?_ (by first | omega | (simp; done) | (simp; omega)) _ | refine Below.setCell ?_ (by first | omega | (simp; done) | (simp; omega)) _ | refine Below.drew ?_ | refine Below.drewN_ ?_ _ | refine Below.step ?_ (by assumption)))
      rw [show q + 1 - 1 = q by omega] at hce
      clear hpd hcell
      go_wp2
      all_goals (try (go_quiet (fail); go_wp2))
      all_goals (go_ret; refine Ret.mk ?_ (by repeat (first | assumption | exact Below.refl _ _ | refine Below.alloc ?_ (by first | omega | (simp; done) | (simp; omega)) _ | refine Below.setCell ?_ (by first | omega | (simp; done) | (simp; omega)) _ | refine Below.drew ?_ | refine Below.drewN_ ?_ _ | refine Below.step ?_ (by assumption))); have hb0 := HPD.out; rw [← HR.out, oneE, if_neg (by rw [HF.out]; simp)]; change Value.int .i64 _ = Value.int .i64 _; refine congrArg _ ?_; repeat' split)
      all_goals (first | rfl | (exfalso; omega))

set_option maxRecDepth 20000 in
set_option maxHeartbeats 2000000 in
theorem rcheck_any (ps : List Pn) (l : List Cn) (A B : Option Addr) (ca cb : Nat) (w : World) (ha : People w A ps) (hb : Cons w B l) (hp : ps.length ≤ 100000) (hl : l.length ≤ 100000) :
    Calls Try.prog 13 #[.slice A ps.length ca, .slice B l.length cb] w (Ret (.int .i64 (checkE ps l)) w) := by
  obtain ⟨R, hR⟩ : ∃ R, checkE ps l = R := ⟨_, rfl⟩
  have HR := Lib.hid hR
  rw [hR]
  clear hR
  have k1 := fun k w' (h : Below w.heap.size w w') hlt => rone_any ps l A B ca cb k w' (ha.below h) (hb.below h) hp hl hlt
  by_cases h60 : 60 < l.length
  · have HV := Lib.hid (check_long (ps := ps) h60)
    go_enter Try.func13, Try.ntmps13
    go_wp2
    go_ret
    exact Ret.mk (show Value.int .i64 11 = _ by rw [← HR.out, HV.out]) (by repeat (first | assumption | exact Below.refl _ _ | refine Below.alloc ?_ (by first | omega | (simp; done) | (simp; omega)) _ | refine Below.setCell ?_ (by first | omega | (simp; done) | (simp; omega)) _ | refine Below.drew ?_ | refine Below.drewN_ ?_ _ | refine Below.step ?_ (by assumption)))
  · have H60 := Lib.hid h60
    go_enter Try.func13, Try.ntmps13
    go_wp2
    go_loopw [5] (fun i wr => ∃ k : Nat, k ≤ l.length ∧ i = .int .i64 (k : Int) ∧ Hid (∀ j, j < k → oneAt ps l j = 0) ∧ Below w.heap.size w wr) (fun i _ => l.length + 1 - (intOf i).toNat)
    case atStart => exact ⟨0, by omega, rfl, Lib.hid fun j h => by omega, Below.refl _ _⟩
    case round =>
      obtain ⟨k, hk, rfl, HA, hbw⟩ := hrel
      have zz := hbw.size
      by_cases hlt : k < l.length
      · have k2 := k1 k wr hbw hlt
        clear k1
        by_cases hz : oneAt ps l k = 0
        · rw [hz] at k2
          have HZ := Lib.hid hz
          clear hz
          go_wp2_with fail
          refine k2.mono ?_
          rintro e w1 ⟨rfl, h1⟩
          have H1 := Below.step hbw h1
          clear k2
          go_wp2
          go_roundw
          case rel => exact ⟨k + 1, by omega, by go_num, Lib.hid fun j hj => by
            rcases Nat.lt_or_ge j k with h' | h'
            · exact HA.out j h'
            · have : j = k := by omega
              subst this; exact HZ.out, H1⟩
          case measure => simp [intOf]; omega
        · have HV : Hid (checkE ps l = oneAt ps l k) := Lib.hid (check_at H60.out hlt HA.out hz)
          have hz' : (oneAt ps l k == 0) = false := by simpa using hz
          clear hz
          generalize oneAt ps l k = v at *
          go_wp2_with fail
          refine k2.mono ?_
          rintro e w1 ⟨rfl, h1⟩
          have H1 := Below.step hbw h1
          clear k2
          go_wp2
          go_ret
          exact Ret.mk (show Value.int .i64 v = _ by rw [← HR.out, HV.out]) H1
      · have HV := Lib.hid (check_ok H60.out fun j hj => HA.out j (by omega))
        go_wp2
        go_ret
        exact Ret.mk (show Value.int .i64 0 = _ by rw [← HR.out, HV.out]) hbw
end Go.Proofs.Ythbagggcfdgnfaa
