/- The first scalar of a string. -/
import Derived.Test.YtmgdeckooiblaaaDoorRuB
import Derived.Test.YtmgdeckooiblaaaDoorRuN
namespace Go.Proofs.YtmgdeckooiblaaaDoor
open Go.RowKit

theorem RetW.ret {P : Program} {f : FuncId} {args : Array Value} {w : World} {v : Value} (h : Calls P f args w (RetW v w)) : Calls P f args w (Ret v w) := h.mono fun _ _ ⟨a, b⟩ => ⟨a, by rw [b]; exact Below.refl _ _⟩
theorem scB_true {p : Int} (h : scal p) : scB p = true := decide_eq_true h
theorem scB_false {p : Int} (h : ¬ scal p) : scB p = false := decide_eq_false h

set_option maxRecDepth 20000 in
set_option maxHeartbeats 4000000 in
theorem first_4 (s : List UInt8) (a : Nat) (ha : a < s.length) (hl : s.length ≤ 4000000) (hb : 240 ≤ s[a].toNat) (w : World) : Calls Tryd.prog 31 #[.string ⟨s.toArray⟩, .int .i64 (a : Int)] w (Ret (.tuple #[.int .i64 (fstP (s.drop a)), .int .i64 (fstN (s.drop a) : Int)]) w) := by
  have hne : s.drop a ≠ [] := by intro e; have := congrArg List.length e; rw [List.length_drop] at this; simp at this; omega
  have h0 : bt (s.drop a) 0 = s[a].toNat := bt_drop s a 0 (by omega)
  have hln : lnB (bt (s.drop a) 0) = 4 := by rw [h0]; unfold lnB; rw [if_pos (by omega)]
  have hhd : accX (s.drop a) 0 = s[a].toNat - 240 := by show hdB _ = _; rw [h0]; unfold hdB; rw [if_pos (by omega)]
  have HX := accX_le (s.drop a)
  have hget : (({ data := s.toArray } : ByteArray)[a]'(show a < s.toArray.size by simpa using ha)) = s[a] := rfl
  have hlt : s[a].toNat < 256 := UInt8.toNat_lt _
  have hdl : (s.drop a).length = s.length - a := List.length_drop
  obtain ⟨X0, hX0⟩ : ∃ x : Int, x = ((accX (s.drop a) 0 : Nat) : Int) := ⟨_, rfl⟩
  have hsub : (s[a].toNat : Int) - 240 = X0 := by omega
  have HX0 := Lib.hid hX0
  have f0 : decide ((240 : Int) ≤ (s[a].toNat : Int)) = true := decide_eq_true (by omega)
  have g0 : 0 ≤ X0 := by omega
  have g1 : X0 ≤ 255 := by omega
  clear h0 hhd hX0 hb 
  generalize s[a] = c at *
  by_cases hfit : a + 4 ≤ s.length
  · have ff : decide ((s.length : Int) < (a : Int) + 4) = false := decide_eq_false (by omega)
    have HL : Hid (lnB (bt (s.drop a) 0) = 4) := Lib.hid hln
    clear hln
    replace HX := Lib.hid HX
    go_enter Tryd.func31, Tryd.ntmps31
    go_wp2
    go_loopw [6, 8] (fun p i wr => ∃ (k : Nat) (x : Int), 1 ≤ k ∧ k ≤ 4 ∧ Hid (x = (accX (s.drop a) (k - 1) : Nat)) ∧ p = .int .i64 x ∧ i = .int .i64 (k : Int) ∧ Below w.heap.size w wr) (fun _ i _ => 5 - (intOf i).toNat)
    case atStart => exact ⟨1, X0, by omega, by omega, HX0, rfl, rfl, Below.refl _ _⟩
    case round =>
      obtain ⟨k, x, hk1, hk, HD, rfl, rfl, hbw⟩ := hrel
      clear HX0 g0 g1 hsub
      by_cases hkn : k < 4
      · have hi : a + k < s.length := by omega
        have hget2 : (({ data := s.toArray } : ByteArray)[a + k]'(show a + k < s.toArray.size by simpa using hi)) = s[a + k] := rfl
        have HB : Hid (bt (s.drop a) k = s[a + k].toNat) := Lib.hid (bt_drop s a k hi)
        have hd := UInt8.toNat_lt s[a + k]
        have HE : Hid (accX (s.drop a) k = accX (s.drop a) (k - 1) * 64 + s[a + k].toNat % 64) := Lib.hid (by
          rw [← HB.out]
          obtain ⟨j, rfl⟩ : ∃ j, k = j + 1 := ⟨k - 1, by omega⟩
          rfl)
        have hx0 : 0 ≤ x := by have := HD.out; omega
        have hx1 : x ≤ 2000000 := by
          have h1 := HD.out
          have h2 := HX.out
          rcases (show k = 1 ∨ k = 2 ∨ k = 3 by omega) with rfl | rfl | rfl
          · simp only [Nat.sub_self] at h1; omega
          · simp only [show 2 - 1 = 1 from rfl] at h1; omega
          · simp only [show 3 - 1 = 2 from rfl] at h1; omega
        obtain ⟨d, hdd⟩ : ∃ d : Int, (s[a + k].toNat : Int) = d := ⟨_, rfl⟩
        have HF := Lib.hid hdd
        have h64 : 0 ≤ d % 64 ∧ d % 64 < 64 := by omega
        have ht : d.tmod 64 = d % 64 := Int.tmod_eq_emod_of_nonneg (by omega)
        generalize s[a + k] = e at *
        go_wp2
        go_roundw
        case rel => exact ⟨k + 1, x * 64 + d % 64, by omega, by omega, Lib.hid (by have h1 := HD.out; have h2 := HE.out; have h3 := HF.out; show _ = ((accX (s.drop a) k : Nat) : Int); omega), rfl, by go_num, hbw⟩
        case measure => simp [intOf]; omega
      · obtain rfl : k = 4 := by omega
        obtain ⟨X, hX⟩ : ∃ X : Nat, X = accX (s.drop a) 3 := ⟨_, rfl⟩
        obtain rfl : x = (X : Int) := by have := HD.out; simp only [show 4 - 1 = 3 from rfl] at this; omega
        have HF : Hid (scal X → enc X = (s.drop a).take 4 → fstP (s.drop a) = X ∧ fstN (s.drop a) = 4) := Lib.hid (fun h1 h2 => by
          subst hX; exact fst_some (first_yes (n := 4) (by omega) h1 h2))
        have HG : Hid ((scal X → enc X ≠ (s.drop a).take 4) → fstP (s.drop a) = -1 ∧ fstN (s.drop a) = 0) := Lib.hid (fun h => by
          subst hX; exact fst_none (first_no hne HL.out h))
        have hex := extract_piece s a (a + 4)
        have HP : Hid (piece s a (a + 4) = (s.drop a).take 4) := Lib.hid (by unfold piece; congr 1; omega)
        generalize piece s a (a + 4) = pc at *
        rw [← HP.out] at HF HG
        generalize fstP (s.drop a) = VP at *
        generalize fstN (s.drop a) = VN at *
        clear HD hX HP HX HL hne hdl ff hget hlt hkn
        have q1 : ((a : Int) + 4).toNat = a + 4 := by omega
        have q2 : (a : Int) + 4 ≤ (s.length : Int) := by omega
        have q3 : (0 : Int) ≤ (a : Int) + 4 := by omega
        have q4 : (a : Int) ≤ (a : Int) + 4 := by omega
        by_cases hsc : scal X
        · have ks := scB_true hsc
          have HS := Lib.hid hsc
          by_cases he : enc X = pc
          · obtain ⟨rfl, rfl⟩ := HF.out hsc he
            have HE := Lib.hid he
            have hbb : (enc X == pc) = true := by rw [he]; simp
            clear hsc he
            have k1 := fun w' => RetW.ret (rscalar_any (X : Int) w')
            rw [ks] at k1
            have k2 := fun w' => encoded_any HS.out w'
            generalize (enc X) = en at *
            clear ks
            go_wp2_with fail
            refine region_past (by kernel_rfl) (by kernel_rfl) ?_
            repeat (go_big_quiet_step (first | with_reducible exact Calls.past (k1 _) | with_reducible exact Calls.past (k2 _)))
            refine wpQuiet_nil ?_
            rintro w1 ⟨⟨_, hb1⟩, rfl⟩
            have HB := Lib.hid (Below.step hbw hb1)
            clear hb1
            go_wp2
            go_ret2
            exact Ret.mk rfl HB.out
          · obtain ⟨rfl, rfl⟩ := HG.out (fun _ => he)
            have hbb : (enc X == pc) = false := by rw [beq_eq_false_iff_ne]; exact he
            clear hsc he
            have k1 := fun w' => RetW.ret (rscalar_any (X : Int) w')
            rw [ks] at k1
            have k2 := fun w' => encoded_any HS.out w'
            generalize (enc X) = en at *
            clear ks
            go_wp2_with fail
            refine region_past (by kernel_rfl) (by kernel_rfl) ?_
            repeat (go_big_quiet_step (first | with_reducible exact Calls.past (k1 _) | with_reducible exact Calls.past (k2 _)))
            refine wpQuiet_nil ?_
            rintro w1 ⟨⟨_, hb1⟩, rfl⟩
            have HB := Lib.hid (Below.step hbw hb1)
            clear hb1
            go_wp2
            go_ret2
            exact Ret.mk rfl HB.out
        · have ks := scB_false hsc
          obtain ⟨rfl, rfl⟩ := HG.out (fun h => absurd h hsc)
          clear hsc
          have k1 := fun w' => RetW.ret (rscalar_any (X : Int) w')
          rw [ks] at k1
          clear ks
          go_wp2_with fail
          refine region_past (by kernel_rfl) (by kernel_rfl) ?_
          repeat (go_big_quiet_step (first | with_reducible exact Calls.past (k1 _)))
          refine wpQuiet_nil ?_
          rintro w1 ⟨⟨_, hb1⟩, rfl⟩
          have HB := Lib.hid (Below.step hbw hb1)
          clear hb1
          go_wp2
          go_ret2
          exact Ret.mk rfl HB.out
  · obtain ⟨e1, e2⟩ := fst_none (first_short hne hln (by omega))
    have ff : decide ((s.length : Int) < (a : Int) + 4) = true := decide_eq_true (by omega)
    rw [e1, e2]
    go_enter Tryd.func31, Tryd.ntmps31
    go_wp2
    go_ret2
    exact Ret.mk rfl (Below.refl _ _)
set_option maxRecDepth 20000 in
set_option maxHeartbeats 4000000 in
theorem first_3 (s : List UInt8) (a : Nat) (ha : a < s.length) (hl : s.length ≤ 4000000) (hb : 224 ≤ s[a].toNat) (hb' : s[a].toNat < 240) (w : World) : Calls Tryd.prog 31 #[.string ⟨s.toArray⟩, .int .i64 (a : Int)] w (Ret (.tuple #[.int .i64 (fstP (s.drop a)), .int .i64 (fstN (s.drop a) : Int)]) w) := by
  have hne : s.drop a ≠ [] := by intro e; have := congrArg List.length e; rw [List.length_drop] at this; simp at this; omega
  have h0 : bt (s.drop a) 0 = s[a].toNat := bt_drop s a 0 (by omega)
  have hln : lnB (bt (s.drop a) 0) = 3 := by rw [h0]; unfold lnB; rw [if_neg (by omega), if_pos (by omega)]
  have hhd : accX (s.drop a) 0 = s[a].toNat - 224 := by show hdB _ = _; rw [h0]; unfold hdB; rw [if_neg (by omega), if_pos (by omega)]
  have HX := accX_le (s.drop a)
  have hget : (({ data := s.toArray } : ByteArray)[a]'(show a < s.toArray.size by simpa using ha)) = s[a] := rfl
  have hlt : s[a].toNat < 256 := UInt8.toNat_lt _
  have hdl : (s.drop a).length = s.length - a := List.length_drop
  obtain ⟨X0, hX0⟩ : ∃ x : Int, x = ((accX (s.drop a) 0 : Nat) : Int) := ⟨_, rfl⟩
  have hsub : (s[a].toNat : Int) - 224 = X0 := by omega
  have HX0 := Lib.hid hX0
  have f0 : decide ((240 : Int) ≤ (s[a].toNat : Int)) = false := decide_eq_false (by omega)
  have f1 : decide ((224 : Int) ≤ (s[a].toNat : Int)) = true := decide_eq_true (by omega)
  have g0 : 0 ≤ X0 := by omega
  have g1 : X0 ≤ 255 := by omega
  clear h0 hhd hX0 hb hb'
  generalize s[a] = c at *
  by_cases hfit : a + 3 ≤ s.length
  · have ff : decide ((s.length : Int) < (a : Int) + 3) = false := decide_eq_false (by omega)
    have HL : Hid (lnB (bt (s.drop a) 0) = 3) := Lib.hid hln
    clear hln
    replace HX := Lib.hid HX
    go_enter Tryd.func31, Tryd.ntmps31
    go_wp2
    go_loopw [6, 8] (fun p i wr => ∃ (k : Nat) (x : Int), 1 ≤ k ∧ k ≤ 3 ∧ Hid (x = (accX (s.drop a) (k - 1) : Nat)) ∧ p = .int .i64 x ∧ i = .int .i64 (k : Int) ∧ Below w.heap.size w wr) (fun _ i _ => 4 - (intOf i).toNat)
    case atStart => exact ⟨1, X0, by omega, by omega, HX0, rfl, rfl, Below.refl _ _⟩
    case round =>
      obtain ⟨k, x, hk1, hk, HD, rfl, rfl, hbw⟩ := hrel
      clear HX0 g0 g1 hsub
      by_cases hkn : k < 3
      · have hi : a + k < s.length := by omega
        have hget2 : (({ data := s.toArray } : ByteArray)[a + k]'(show a + k < s.toArray.size by simpa using hi)) = s[a + k] := rfl
        have HB : Hid (bt (s.drop a) k = s[a + k].toNat) := Lib.hid (bt_drop s a k hi)
        have hd := UInt8.toNat_lt s[a + k]
        have HE : Hid (accX (s.drop a) k = accX (s.drop a) (k - 1) * 64 + s[a + k].toNat % 64) := Lib.hid (by
          rw [← HB.out]
          obtain ⟨j, rfl⟩ : ∃ j, k = j + 1 := ⟨k - 1, by omega⟩
          rfl)
        have hx0 : 0 ≤ x := by have := HD.out; omega
        have hx1 : x ≤ 2000000 := by
          have h1 := HD.out
          have h2 := HX.out
          rcases (show k = 1 ∨ k = 2 ∨ k = 3 by omega) with rfl | rfl | rfl
          · simp only [Nat.sub_self] at h1; omega
          · simp only [show 2 - 1 = 1 from rfl] at h1; omega
          · simp only [show 3 - 1 = 2 from rfl] at h1; omega
        obtain ⟨d, hdd⟩ : ∃ d : Int, (s[a + k].toNat : Int) = d := ⟨_, rfl⟩
        have HF := Lib.hid hdd
        have h64 : 0 ≤ d % 64 ∧ d % 64 < 64 := by omega
        have ht : d.tmod 64 = d % 64 := Int.tmod_eq_emod_of_nonneg (by omega)
        generalize s[a + k] = e at *
        go_wp2
        go_roundw
        case rel => exact ⟨k + 1, x * 64 + d % 64, by omega, by omega, Lib.hid (by have h1 := HD.out; have h2 := HE.out; have h3 := HF.out; show _ = ((accX (s.drop a) k : Nat) : Int); omega), rfl, by go_num, hbw⟩
        case measure => simp [intOf]; omega
      · obtain rfl : k = 3 := by omega
        obtain ⟨X, hX⟩ : ∃ X : Nat, X = accX (s.drop a) 2 := ⟨_, rfl⟩
        obtain rfl : x = (X : Int) := by have := HD.out; simp only [show 3 - 1 = 2 from rfl] at this; omega
        have HF : Hid (scal X → enc X = (s.drop a).take 3 → fstP (s.drop a) = X ∧ fstN (s.drop a) = 3) := Lib.hid (fun h1 h2 => by
          subst hX; exact fst_some (first_yes (n := 3) (by omega) h1 h2))
        have HG : Hid ((scal X → enc X ≠ (s.drop a).take 3) → fstP (s.drop a) = -1 ∧ fstN (s.drop a) = 0) := Lib.hid (fun h => by
          subst hX; exact fst_none (first_no hne HL.out h))
        have hex := extract_piece s a (a + 3)
        have HP : Hid (piece s a (a + 3) = (s.drop a).take 3) := Lib.hid (by unfold piece; congr 1; omega)
        generalize piece s a (a + 3) = pc at *
        rw [← HP.out] at HF HG
        generalize fstP (s.drop a) = VP at *
        generalize fstN (s.drop a) = VN at *
        clear HD hX HP HX HL hne hdl ff hget hlt hkn
        have q1 : ((a : Int) + 3).toNat = a + 3 := by omega
        have q2 : (a : Int) + 3 ≤ (s.length : Int) := by omega
        have q3 : (0 : Int) ≤ (a : Int) + 3 := by omega
        have q4 : (a : Int) ≤ (a : Int) + 3 := by omega
        by_cases hsc : scal X
        · have ks := scB_true hsc
          have HS := Lib.hid hsc
          by_cases he : enc X = pc
          · obtain ⟨rfl, rfl⟩ := HF.out hsc he
            have HE := Lib.hid he
            have hbb : (enc X == pc) = true := by rw [he]; simp
            clear hsc he
            have k1 := fun w' => RetW.ret (rscalar_any (X : Int) w')
            rw [ks] at k1
            have k2 := fun w' => encoded_any HS.out w'
            generalize (enc X) = en at *
            clear ks
            go_wp2_with fail
            refine region_past (by kernel_rfl) (by kernel_rfl) ?_
            repeat (go_big_quiet_step (first | with_reducible exact Calls.past (k1 _) | with_reducible exact Calls.past (k2 _)))
            refine wpQuiet_nil ?_
            rintro w1 ⟨⟨_, hb1⟩, rfl⟩
            have HB := Lib.hid (Below.step hbw hb1)
            clear hb1
            go_wp2
            go_ret2
            exact Ret.mk rfl HB.out
          · obtain ⟨rfl, rfl⟩ := HG.out (fun _ => he)
            have hbb : (enc X == pc) = false := by rw [beq_eq_false_iff_ne]; exact he
            clear hsc he
            have k1 := fun w' => RetW.ret (rscalar_any (X : Int) w')
            rw [ks] at k1
            have k2 := fun w' => encoded_any HS.out w'
            generalize (enc X) = en at *
            clear ks
            go_wp2_with fail
            refine region_past (by kernel_rfl) (by kernel_rfl) ?_
            repeat (go_big_quiet_step (first | with_reducible exact Calls.past (k1 _) | with_reducible exact Calls.past (k2 _)))
            refine wpQuiet_nil ?_
            rintro w1 ⟨⟨_, hb1⟩, rfl⟩
            have HB := Lib.hid (Below.step hbw hb1)
            clear hb1
            go_wp2
            go_ret2
            exact Ret.mk rfl HB.out
        · have ks := scB_false hsc
          obtain ⟨rfl, rfl⟩ := HG.out (fun h => absurd h hsc)
          clear hsc
          have k1 := fun w' => RetW.ret (rscalar_any (X : Int) w')
          rw [ks] at k1
          clear ks
          go_wp2_with fail
          refine region_past (by kernel_rfl) (by kernel_rfl) ?_
          repeat (go_big_quiet_step (first | with_reducible exact Calls.past (k1 _)))
          refine wpQuiet_nil ?_
          rintro w1 ⟨⟨_, hb1⟩, rfl⟩
          have HB := Lib.hid (Below.step hbw hb1)
          clear hb1
          go_wp2
          go_ret2
          exact Ret.mk rfl HB.out
  · obtain ⟨e1, e2⟩ := fst_none (first_short hne hln (by omega))
    have ff : decide ((s.length : Int) < (a : Int) + 3) = true := decide_eq_true (by omega)
    rw [e1, e2]
    go_enter Tryd.func31, Tryd.ntmps31
    go_wp2
    go_ret2
    exact Ret.mk rfl (Below.refl _ _)
set_option maxRecDepth 20000 in
set_option maxHeartbeats 4000000 in
theorem first_2 (s : List UInt8) (a : Nat) (ha : a < s.length) (hl : s.length ≤ 4000000) (hb : 192 ≤ s[a].toNat) (hb' : s[a].toNat < 224) (w : World) : Calls Tryd.prog 31 #[.string ⟨s.toArray⟩, .int .i64 (a : Int)] w (Ret (.tuple #[.int .i64 (fstP (s.drop a)), .int .i64 (fstN (s.drop a) : Int)]) w) := by
  have hne : s.drop a ≠ [] := by intro e; have := congrArg List.length e; rw [List.length_drop] at this; simp at this; omega
  have h0 : bt (s.drop a) 0 = s[a].toNat := bt_drop s a 0 (by omega)
  have hln : lnB (bt (s.drop a) 0) = 2 := by rw [h0]; unfold lnB; rw [if_neg (by omega), if_neg (by omega), if_pos (by omega)]
  have hhd : accX (s.drop a) 0 = s[a].toNat - 192 := by show hdB _ = _; rw [h0]; unfold hdB; rw [if_neg (by omega), if_neg (by omega), if_pos (by omega)]
  have HX := accX_le (s.drop a)
  have hget : (({ data := s.toArray } : ByteArray)[a]'(show a < s.toArray.size by simpa using ha)) = s[a] := rfl
  have hlt : s[a].toNat < 256 := UInt8.toNat_lt _
  have hdl : (s.drop a).length = s.length - a := List.length_drop
  obtain ⟨X0, hX0⟩ : ∃ x : Int, x = ((accX (s.drop a) 0 : Nat) : Int) := ⟨_, rfl⟩
  have hsub : (s[a].toNat : Int) - 192 = X0 := by omega
  have HX0 := Lib.hid hX0
  have f0 : decide ((240 : Int) ≤ (s[a].toNat : Int)) = false := decide_eq_false (by omega)
  have f1 : decide ((224 : Int) ≤ (s[a].toNat : Int)) = false := decide_eq_false (by omega)
  have f2 : decide ((192 : Int) ≤ (s[a].toNat : Int)) = true := decide_eq_true (by omega)
  have g0 : 0 ≤ X0 := by omega
  have g1 : X0 ≤ 255 := by omega
  clear h0 hhd hX0 hb hb'
  generalize s[a] = c at *
  by_cases hfit : a + 2 ≤ s.length
  · have ff : decide ((s.length : Int) < (a : Int) + 2) = false := decide_eq_false (by omega)
    have HL : Hid (lnB (bt (s.drop a) 0) = 2) := Lib.hid hln
    clear hln
    replace HX := Lib.hid HX
    go_enter Tryd.func31, Tryd.ntmps31
    go_wp2
    go_loopw [6, 8] (fun p i wr => ∃ (k : Nat) (x : Int), 1 ≤ k ∧ k ≤ 2 ∧ Hid (x = (accX (s.drop a) (k - 1) : Nat)) ∧ p = .int .i64 x ∧ i = .int .i64 (k : Int) ∧ Below w.heap.size w wr) (fun _ i _ => 3 - (intOf i).toNat)
    case atStart => exact ⟨1, X0, by omega, by omega, HX0, rfl, rfl, Below.refl _ _⟩
    case round =>
      obtain ⟨k, x, hk1, hk, HD, rfl, rfl, hbw⟩ := hrel
      clear HX0 g0 g1 hsub
      by_cases hkn : k < 2
      · have hi : a + k < s.length := by omega
        have hget2 : (({ data := s.toArray } : ByteArray)[a + k]'(show a + k < s.toArray.size by simpa using hi)) = s[a + k] := rfl
        have HB : Hid (bt (s.drop a) k = s[a + k].toNat) := Lib.hid (bt_drop s a k hi)
        have hd := UInt8.toNat_lt s[a + k]
        have HE : Hid (accX (s.drop a) k = accX (s.drop a) (k - 1) * 64 + s[a + k].toNat % 64) := Lib.hid (by
          rw [← HB.out]
          obtain ⟨j, rfl⟩ : ∃ j, k = j + 1 := ⟨k - 1, by omega⟩
          rfl)
        have hx0 : 0 ≤ x := by have := HD.out; omega
        have hx1 : x ≤ 2000000 := by
          have h1 := HD.out
          have h2 := HX.out
          rcases (show k = 1 ∨ k = 2 ∨ k = 3 by omega) with rfl | rfl | rfl
          · simp only [Nat.sub_self] at h1; omega
          · simp only [show 2 - 1 = 1 from rfl] at h1; omega
          · simp only [show 3 - 1 = 2 from rfl] at h1; omega
        obtain ⟨d, hdd⟩ : ∃ d : Int, (s[a + k].toNat : Int) = d := ⟨_, rfl⟩
        have HF := Lib.hid hdd
        have h64 : 0 ≤ d % 64 ∧ d % 64 < 64 := by omega
        have ht : d.tmod 64 = d % 64 := Int.tmod_eq_emod_of_nonneg (by omega)
        generalize s[a + k] = e at *
        go_wp2
        go_roundw
        case rel => exact ⟨k + 1, x * 64 + d % 64, by omega, by omega, Lib.hid (by have h1 := HD.out; have h2 := HE.out; have h3 := HF.out; show _ = ((accX (s.drop a) k : Nat) : Int); omega), rfl, by go_num, hbw⟩
        case measure => simp [intOf]; omega
      · obtain rfl : k = 2 := by omega
        obtain ⟨X, hX⟩ : ∃ X : Nat, X = accX (s.drop a) 1 := ⟨_, rfl⟩
        obtain rfl : x = (X : Int) := by have := HD.out; simp only [show 2 - 1 = 1 from rfl] at this; omega
        have HF : Hid (scal X → enc X = (s.drop a).take 2 → fstP (s.drop a) = X ∧ fstN (s.drop a) = 2) := Lib.hid (fun h1 h2 => by
          subst hX; exact fst_some (first_yes (n := 2) (by omega) h1 h2))
        have HG : Hid ((scal X → enc X ≠ (s.drop a).take 2) → fstP (s.drop a) = -1 ∧ fstN (s.drop a) = 0) := Lib.hid (fun h => by
          subst hX; exact fst_none (first_no hne HL.out h))
        have hex := extract_piece s a (a + 2)
        have HP : Hid (piece s a (a + 2) = (s.drop a).take 2) := Lib.hid (by unfold piece; congr 1; omega)
        generalize piece s a (a + 2) = pc at *
        rw [← HP.out] at HF HG
        generalize fstP (s.drop a) = VP at *
        generalize fstN (s.drop a) = VN at *
        clear HD hX HP HX HL hne hdl ff hget hlt hkn
        have q1 : ((a : Int) + 2).toNat = a + 2 := by omega
        have q2 : (a : Int) + 2 ≤ (s.length : Int) := by omega
        have q3 : (0 : Int) ≤ (a : Int) + 2 := by omega
        have q4 : (a : Int) ≤ (a : Int) + 2 := by omega
        by_cases hsc : scal X
        · have ks := scB_true hsc
          have HS := Lib.hid hsc
          by_cases he : enc X = pc
          · obtain ⟨rfl, rfl⟩ := HF.out hsc he
            have HE := Lib.hid he
            have hbb : (enc X == pc) = true := by rw [he]; simp
            clear hsc he
            have k1 := fun w' => RetW.ret (rscalar_any (X : Int) w')
            rw [ks] at k1
            have k2 := fun w' => encoded_any HS.out w'
            generalize (enc X) = en at *
            clear ks
            go_wp2_with fail
            refine region_past (by kernel_rfl) (by kernel_rfl) ?_
            repeat (go_big_quiet_step (first | with_reducible exact Calls.past (k1 _) | with_reducible exact Calls.past (k2 _)))
            refine wpQuiet_nil ?_
            rintro w1 ⟨⟨_, hb1⟩, rfl⟩
            have HB := Lib.hid (Below.step hbw hb1)
            clear hb1
            go_wp2
            go_ret2
            exact Ret.mk rfl HB.out
          · obtain ⟨rfl, rfl⟩ := HG.out (fun _ => he)
            have hbb : (enc X == pc) = false := by rw [beq_eq_false_iff_ne]; exact he
            clear hsc he
            have k1 := fun w' => RetW.ret (rscalar_any (X : Int) w')
            rw [ks] at k1
            have k2 := fun w' => encoded_any HS.out w'
            generalize (enc X) = en at *
            clear ks
            go_wp2_with fail
            refine region_past (by kernel_rfl) (by kernel_rfl) ?_
            repeat (go_big_quiet_step (first | with_reducible exact Calls.past (k1 _) | with_reducible exact Calls.past (k2 _)))
            refine wpQuiet_nil ?_
            rintro w1 ⟨⟨_, hb1⟩, rfl⟩
            have HB := Lib.hid (Below.step hbw hb1)
            clear hb1
            go_wp2
            go_ret2
            exact Ret.mk rfl HB.out
        · have ks := scB_false hsc
          obtain ⟨rfl, rfl⟩ := HG.out (fun h => absurd h hsc)
          clear hsc
          have k1 := fun w' => RetW.ret (rscalar_any (X : Int) w')
          rw [ks] at k1
          clear ks
          go_wp2_with fail
          refine region_past (by kernel_rfl) (by kernel_rfl) ?_
          repeat (go_big_quiet_step (first | with_reducible exact Calls.past (k1 _)))
          refine wpQuiet_nil ?_
          rintro w1 ⟨⟨_, hb1⟩, rfl⟩
          have HB := Lib.hid (Below.step hbw hb1)
          clear hb1
          go_wp2
          go_ret2
          exact Ret.mk rfl HB.out
  · obtain ⟨e1, e2⟩ := fst_none (first_short hne hln (by omega))
    have ff : decide ((s.length : Int) < (a : Int) + 2) = true := decide_eq_true (by omega)
    rw [e1, e2]
    go_enter Tryd.func31, Tryd.ntmps31
    go_wp2
    go_ret2
    exact Ret.mk rfl (Below.refl _ _)
set_option maxRecDepth 20000 in
set_option maxHeartbeats 4000000 in
theorem first_1 (s : List UInt8) (a : Nat) (ha : a < s.length) (hl : s.length ≤ 4000000) (hb' : s[a].toNat < 192) (w : World) : Calls Tryd.prog 31 #[.string ⟨s.toArray⟩, .int .i64 (a : Int)] w (Ret (.tuple #[.int .i64 (fstP (s.drop a)), .int .i64 (fstN (s.drop a) : Int)]) w) := by
  have hne : s.drop a ≠ [] := by intro e; have := congrArg List.length e; rw [List.length_drop] at this; simp at this; omega
  have h0 : bt (s.drop a) 0 = s[a].toNat := bt_drop s a 0 (by omega)
  have hln : lnB (bt (s.drop a) 0) = 1 := by rw [h0]; unfold lnB; rw [if_neg (by omega), if_neg (by omega), if_neg (by omega)]
  have hhd : accX (s.drop a) 0 = s[a].toNat := by show hdB _ = _; rw [h0]; unfold hdB; rw [if_neg (by omega), if_neg (by omega), if_neg (by omega)]
  have HX := accX_le (s.drop a)
  have hget : (({ data := s.toArray } : ByteArray)[a]'(show a < s.toArray.size by simpa using ha)) = s[a] := rfl
  have hlt : s[a].toNat < 256 := UInt8.toNat_lt _
  have hdl : (s.drop a).length = s.length - a := List.length_drop
  obtain ⟨X0, hX0⟩ : ∃ x : Int, x = ((accX (s.drop a) 0 : Nat) : Int) := ⟨_, rfl⟩
  have hsub : (s[a].toNat : Int) = X0 := by omega
  have HX0 := Lib.hid hX0
  have f0 : decide ((240 : Int) ≤ (s[a].toNat : Int)) = false := decide_eq_false (by omega)
  have f1 : decide ((224 : Int) ≤ (s[a].toNat : Int)) = false := decide_eq_false (by omega)
  have f2 : decide ((192 : Int) ≤ (s[a].toNat : Int)) = false := decide_eq_false (by omega)
  have g0 : 0 ≤ X0 := by omega
  have g1 : X0 ≤ 255 := by omega
  clear h0 hhd hX0 
  generalize s[a] = c at *
  by_cases hfit : a + 1 ≤ s.length
  · have ff : decide ((s.length : Int) < (a : Int) + 1) = false := decide_eq_false (by omega)
    have HL : Hid (lnB (bt (s.drop a) 0) = 1) := Lib.hid hln
    clear hln
    replace HX := Lib.hid HX
    have y0 : decide ((240 : Int) ≤ X0) = false := decide_eq_false (by omega)
    have y1 : decide ((224 : Int) ≤ X0) = false := decide_eq_false (by omega)
    have y2 : decide ((192 : Int) ≤ X0) = false := decide_eq_false (by omega)
    clear f0 f1 f2
    go_enter Tryd.func31, Tryd.ntmps31
    go_wp2
    go_loopw [6, 8] (fun p i wr => ∃ (k : Nat) (x : Int), 1 ≤ k ∧ k ≤ 1 ∧ Hid (x = (accX (s.drop a) (k - 1) : Nat)) ∧ p = .int .i64 x ∧ i = .int .i64 (k : Int) ∧ Below w.heap.size w wr) (fun _ i _ => 2 - (intOf i).toNat)
    case atStart => exact ⟨1, X0, by omega, by omega, HX0, rfl, rfl, Below.refl _ _⟩
    case round =>
      obtain ⟨k, x, hk1, hk, HD, rfl, rfl, hbw⟩ := hrel
      clear HX0 g0 g1 hsub
      · obtain rfl : k = 1 := by omega
        obtain ⟨X, hX⟩ : ∃ X : Nat, X = accX (s.drop a) 0 := ⟨_, rfl⟩
        obtain rfl : x = (X : Int) := by have := HD.out; simp only [show 1 - 1 = 0 from rfl] at this; omega
        have HF : Hid (scal X → enc X = (s.drop a).take 1 → fstP (s.drop a) = X ∧ fstN (s.drop a) = 1) := Lib.hid (fun h1 h2 => by
          subst hX; exact fst_some (first_yes (n := 1) (by omega) h1 h2))
        have HG : Hid ((scal X → enc X ≠ (s.drop a).take 1) → fstP (s.drop a) = -1 ∧ fstN (s.drop a) = 0) := Lib.hid (fun h => by
          subst hX; exact fst_none (first_no hne HL.out h))
        have hex := extract_piece s a (a + 1)
        have HP : Hid (piece s a (a + 1) = (s.drop a).take 1) := Lib.hid (by unfold piece; congr 1; omega)
        generalize piece s a (a + 1) = pc at *
        rw [← HP.out] at HF HG
        generalize fstP (s.drop a) = VP at *
        generalize fstN (s.drop a) = VN at *
        clear HD hX HP HX HL hne hdl ff hget hlt
        have q1 : ((a : Int) + 1).toNat = a + 1 := by omega
        have q2 : (a : Int) + 1 ≤ (s.length : Int) := by omega
        have q3 : (0 : Int) ≤ (a : Int) + 1 := by omega
        have q4 : (a : Int) ≤ (a : Int) + 1 := by omega
        by_cases hsc : scal X
        · have ks := scB_true hsc
          have HS := Lib.hid hsc
          by_cases he : enc X = pc
          · obtain ⟨rfl, rfl⟩ := HF.out hsc he
            have HE := Lib.hid he
            have hbb : (enc X == pc) = true := by rw [he]; simp
            clear hsc he
            have k1 := fun w' => RetW.ret (rscalar_any (X : Int) w')
            rw [ks] at k1
            have k2 := fun w' => encoded_any HS.out w'
            generalize (enc X) = en at *
            clear ks
            go_wp2_with fail
            refine region_past (by kernel_rfl) (by kernel_rfl) ?_
            repeat (go_big_quiet_step (first | with_reducible exact Calls.past (k1 _) | with_reducible exact Calls.past (k2 _)))
            refine wpQuiet_nil ?_
            rintro w1 ⟨⟨_, hb1⟩, rfl⟩
            have HB := Lib.hid (Below.step hbw hb1)
            clear hb1
            go_wp2
            go_ret2
            exact Ret.mk rfl HB.out
          · obtain ⟨rfl, rfl⟩ := HG.out (fun _ => he)
            have hbb : (enc X == pc) = false := by rw [beq_eq_false_iff_ne]; exact he
            clear hsc he
            have k1 := fun w' => RetW.ret (rscalar_any (X : Int) w')
            rw [ks] at k1
            have k2 := fun w' => encoded_any HS.out w'
            generalize (enc X) = en at *
            clear ks
            go_wp2_with fail
            refine region_past (by kernel_rfl) (by kernel_rfl) ?_
            repeat (go_big_quiet_step (first | with_reducible exact Calls.past (k1 _) | with_reducible exact Calls.past (k2 _)))
            refine wpQuiet_nil ?_
            rintro w1 ⟨⟨_, hb1⟩, rfl⟩
            have HB := Lib.hid (Below.step hbw hb1)
            clear hb1
            go_wp2
            go_ret2
            exact Ret.mk rfl HB.out
        · have ks := scB_false hsc
          obtain ⟨rfl, rfl⟩ := HG.out (fun h => absurd h hsc)
          clear hsc
          have k1 := fun w' => RetW.ret (rscalar_any (X : Int) w')
          rw [ks] at k1
          clear ks
          go_wp2_with fail
          refine region_past (by kernel_rfl) (by kernel_rfl) ?_
          repeat (go_big_quiet_step (first | with_reducible exact Calls.past (k1 _)))
          refine wpQuiet_nil ?_
          rintro w1 ⟨⟨_, hb1⟩, rfl⟩
          have HB := Lib.hid (Below.step hbw hb1)
          clear hb1
          go_wp2
          go_ret2
          exact Ret.mk rfl HB.out
  · omega
theorem first_any (s : List UInt8) (a : Nat) (ha : a < s.length) (hl : s.length ≤ 4000000) (w : World) : Calls Tryd.prog 31 #[.string ⟨s.toArray⟩, .int .i64 (a : Int)] w (Ret (.tuple #[.int .i64 (fstP (s.drop a)), .int .i64 (fstN (s.drop a) : Int)]) w) := by
  by_cases h4 : 240 ≤ s[a].toNat
  · exact first_4 s a ha hl h4 w
  by_cases h3 : 224 ≤ s[a].toNat
  · exact first_3 s a ha hl h3 (by omega) w
  by_cases h2 : 192 ≤ s[a].toNat
  · exact first_2 s a ha hl h2 (by omega) w
  · exact first_1 s a ha hl (by omega) w
end Go.Proofs.YtmgdeckooiblaaaDoor
