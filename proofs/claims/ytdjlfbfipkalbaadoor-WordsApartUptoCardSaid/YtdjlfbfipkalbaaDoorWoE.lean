/- Unquote of the reference. -/
import Derived.Test.YtdjlfbfipkalbaaDoorWoD2
namespace Go.Proofs.YtdjlfbfipkalbaaDoor
open Go.RowKit

/-- How far a word has been read. -/
def UnqOK (wd acc : List UInt8) (i : Nat) : Prop := unq wd = (unq (wd.drop i)).map (acc ++ ·)
theorem un_start (wd : List UInt8) : UnqOK wd [] 0 := by unfold UnqOK; cases h : unq wd <;> simp [h]
theorem un_plain {wd acc : List UInt8} {i : Nat} (h : UnqOK wd acc i) (hi : i < wd.length) (hp : plainB wd[i] = true) : UnqOK wd (acc ++ [wd[i]]) (i + 1) := by
  unfold UnqOK at h ⊢
  rw [h, drop_at hi, unq_plain hp]
  cases unq (wd.drop (i + 1)) <;> simp
theorem un_bad {wd acc : List UInt8} {i : Nat} (h : UnqOK wd acc i) (hi : i < wd.length) (hc : wd[i] ≠ 37) (hp : plainB wd[i] = false) : unq wd = none := by
  unfold UnqOK at h
  rw [h, drop_at hi, unq_bad hc hp]; rfl
theorem un_short {wd acc : List UInt8} {i : Nat} (h : UnqOK wd acc i) (hi : i < wd.length) (hc : wd[i] = 37) (h2 : wd.length ≤ i + 2) : unq wd = none := by
  unfold UnqOK at h
  rw [h, drop_at hi, hc, unq_short _ (by rw [List.length_drop]; omega)]; rfl
theorem un_esc {wd acc : List UInt8} {i : Nat} (h : UnqOK wd acc i) (hi : i + 2 < wd.length) (hc : wd[i] = 37) :
    (ix wd[i + 1] < 0 ∨ ix wd[i + 2] < 0 → unq wd = none) ∧ (¬ (ix wd[i + 1] < 0 ∨ ix wd[i + 2] < 0) → plainB (UInt8.ofNat (16 * (ix wd[i + 1]).toNat + (ix wd[i + 2]).toNat)) = true → unq wd = none) ∧
    (¬ (ix wd[i + 1] < 0 ∨ ix wd[i + 2] < 0) → plainB (UInt8.ofNat (16 * (ix wd[i + 1]).toNat + (ix wd[i + 2]).toNat)) = false → UnqOK wd (acc ++ [UInt8.ofNat (16 * (ix wd[i + 1]).toNat + (ix wd[i + 2]).toNat)]) (i + 3)) := by
  unfold UnqOK at h ⊢
  rw [drop_at (by omega), drop_at (show i + 1 < wd.length by omega), drop_at (show i + 1 + 1 < wd.length by omega), hc, unq_esc] at h
  refine ⟨fun a => ?_, fun a b => ?_, fun a b => ?_⟩
  · rw [h, if_pos a]; rfl
  · rw [h, if_neg a, if_pos b]; rfl
  · rw [h, if_neg a, if_neg (by rw [b]; decide)]
    cases unq (wd.drop (i + 1 + 1 + 1)) <;> simp
theorem un_end {wd acc : List UInt8} {i : Nat} (h : UnqOK wd acc i) (hi : wd.length ≤ i) : unq wd = some acc := by
  unfold UnqOK at h
  rw [h, List.drop_eq_nil_of_le hi]; simp [unq]

set_option maxRecDepth 20000 in
set_option maxHeartbeats 4000000 in
theorem runquote_any (wd : List UInt8) (hl : wd.length ≤ 4000000) (w : World) : Calls Tryd.prog 17 #[.string ⟨wd.toArray⟩] w (Ret (.tuple #[.string ⟨(unV wd).toArray⟩, .bool (unB wd)]) w) := by
  by_cases h0 : wd = [37, 45]
  · subst h0
    go_enter Tryd.func17, Tryd.ntmps17
    go_wp2
    go_ret2
    exact Ret.mk rfl (Below.refl _ _)
  have he : (wd == [37, 45]) = false := by simpa using h0
  by_cases h00 : wd = []
  · subst h00
    go_enter Tryd.func17, Tryd.ntmps17
    go_wp2
    go_ret2
    exact Ret.mk rfl (Below.refl _ _)
  have he2 : wd.isEmpty = false := by simpa using h00
  have HN : Hid (unq wd = none → unV wd = [] ∧ unB wd = false) := Lib.hid (fun h => by unfold unV unB unquote; rw [if_neg h0, if_neg h00, h]; exact ⟨rfl, rfl⟩)
  have HS : Hid (∀ s, unq wd = some s → unV wd = s ∧ unB wd = true) := Lib.hid (fun s h => by unfold unV unB unquote; rw [if_neg h0, if_neg h00, h]; exact ⟨rfl, rfl⟩)
  clear h0 h00
  generalize unV wd = V at *
  generalize unB wd = B at *
  obtain ⟨i0, hi0, hz0, hz1, hz2⟩ := info_parts info_u8
  go_enter Tryd.func17, Tryd.ntmps17
  go_wp2
  go_loopw [4, 5] (fun o i wr => ∃ (k : Nat) (acc : List UInt8), k ≤ wd.length ∧ acc.length ≤ k ∧ i = .int .i64 (k : Int) ∧ Hid (UnqOK wd acc k) ∧ Own8 w.heap.size wr o acc ∧ Below w.heap.size w wr) (fun _ i _ => wd.length + 1 - (intOf i).toNat)
  case atStart => exact ⟨0, [], by omega, by simp, rfl, Lib.hid (un_start wd), Own8.empty w _ rfl, (Below.refl _ _).alloc (Nat.le_refl _) _⟩
  case round =>
    obtain ⟨k, acc, hk, hacc, rfl, HD, ⟨A, cap, rfl, HO⟩, hbw⟩ := hrel
    replace HO := Lib.hid HO
    have hb0 := hbw.size
    by_cases hlt : k < wd.length
    · have hget : (({ data := wd.toArray } : ByteArray)[k]'(show k < wd.toArray.size by simpa using hlt)) = wd[k] := rfl
      by_cases h37 : wd[k] = 37
      · by_cases h2 : k + 2 < wd.length
        · have hget1 : (({ data := wd.toArray } : ByteArray)[k + 1]'(show k + 1 < wd.toArray.size by simp; omega)) = wd[k + 1] := rfl
          have hget2 : (({ data := wd.toArray } : ByteArray)[k + 2]'(show k + 2 < wd.toArray.size by simpa using h2)) = wd[k + 2] := rfl
          have HE := Lib.hid (un_esc HD.out h2 h37)
          rw [h37] at hget
          have h10 : (0 : Int) ≤ (k : Int) + 1 := by omega
          have h20 : (0 : Int) ≤ (k : Int) + 2 := by omega
          have h2' : (k : Int) + 2 < (wd.length : Int) := by omega
          have h2n : ¬ (wd.length : Int) ≤ (k : Int) + 2 := by omega
          have k1 := fun w' => rdigit_any wd[k + 1] w'
          have k2 := fun w' => rdigit_any wd[k + 2] w'
          have d1 := ix_range wd[k + 1]
          have d2 := ix_range wd[k + 2]
          generalize ix wd[k + 1] = D1 at *
          generalize ix wd[k + 2] = D2 at *
          clear h37
          go_wp2_with fail
          refine region_past (by kernel_rfl) (by kernel_rfl) ?_
          repeat (go_big_quiet_step (first | with_reducible exact Calls.past (k1 _) | with_reducible exact Calls.past (k2 _)))
          refine wpQuiet_nil ?_
          rintro w1 ⟨⟨_, hb1⟩, rfl⟩
          have HO1 := Lib.hid (own_below HO.out hb1)
          have hbw1 := Below.step hbw hb1
          by_cases hn1 : D1 < 0
          · have HV := HN.out (HE.out.1 (.inl hn1))
            obtain ⟨rfl, rfl⟩ := HV
            go_wp2
            go_ret2
            exact Ret.mk rfl hbw1
          by_cases hn2 : D2 < 0
          · have HV := HN.out (HE.out.1 (.inr hn2))
            obtain ⟨rfl, rfl⟩ := HV
            go_wp2
            go_ret2
            exact Ret.mk rfl hbw1
          have HE2 := Lib.hid (HE.out.2.1 (by omega))
          have HE3 := Lib.hid (HE.out.2.2 (by omega))
          obtain ⟨b, hb⟩ : ∃ b : UInt8, UInt8.ofNat (16 * D1.toNat + D2.toNat) = b := ⟨_, rfl⟩
          rw [hb] at HE2 HE3
          have hbz : IntKind.u8.wrap (16 * D1 + D2) = (b.toNat : Int) := by
            rw [← hb, IntKind.wrap_u8, UInt8.toNat_ofNat']; omega
          have k3 := fun w' => rplain_any b w'
          clear HE hb
          go_wp2_with fail
          refine (k3 _).mono ?_
          rintro e w2 ⟨rfl, h2'⟩
          have HO2 := Lib.hid (own_below HO1.out h2')
          have hb2 := Below.step hbw1 h2'
          clear k3 h2'
          cases hp : plainB b with
          | true =>
            obtain ⟨rfl, rfl⟩ := HN.out (HE2.out hp)
            go_wp2
            go_ret2
            exact Ret.mk rfl hb2
          | false =>
            have HQ := Lib.hid (HE3.out hp)
            clear hp HE2 HE3 HN HS
            go_wp2_with (at_builtin; refine wpList_append_own _ rfl _ _ 37 rfl w.heap.size 5 i0 (.int .u8 0) 1 1 Tryd.underlying37 hi0 hz0 hz1 hz2 rfl (by decide) _ _ _ rfl (HO2.out.alloc _) ⟨w2.heap.size, 0, none⟩ 1 1 [.int .u8 (b.toNat : Int)] rfl rfl (cell_one_new _ _ _) (fun x hx => by simp at hx; subst hx; rfl) (by unfold maxLen; omega) (by omega) (by have := hb2.size; simp; omega) ?_; intro v' w4 hown4 hgrow4 _)
            obtain ⟨A4, c4, rfl⟩ := own_form hown4
            have HB : Hid (Below w.heap.size w w4) := Lib.hid ((hb2.alloc hb2.size _).trans ((Below.refl _ _).grown hgrow4 (by have := hb2.size; simp; omega) (fun g hg => (HO2.out.lt g hg).1)))
            replace hown4 := Lib.hid hown4
            clear hgrow4
            go_wp2
            go_roundw
            case rel => exact ⟨k + 3, acc ++ [b], by omega, by simp; omega, by go_num, HQ, Own8.mk hown4.out (by simp) (by rw [u8s_append]; rfl), HB.out⟩
            case measure => simp [intOf]; omega
        · have HV := HN.out (un_short HD.out hlt h37 (by omega))
          obtain ⟨rfl, rfl⟩ := HV
          rw [h37] at hget
          have h2n : (wd.length : Int) ≤ (k : Int) + 2 := by omega
          go_wp2
          go_ret2
          exact Ret.mk rfl hbw
      · have HP := Lib.hid (un_plain HD.out hlt)
        have HX := Lib.hid (un_bad HD.out hlt h37)
        have hne : ((wd[k].toNat : Int) == 37) = false := by
          rw [beq_eq_false_iff_ne]; exact fun e => h37 (UInt8.toNat_inj.1 (by show _ = 37; omega))
        have k3 := fun w' => rplain_any wd[k] w'
        generalize wd[k] = c at *
        clear h37
        go_wp2_with fail
        refine (k3 _).mono ?_
        rintro e w2 ⟨rfl, h2'⟩
        have HO2 := Lib.hid (own_below HO.out h2')
        have hb2 := Below.step hbw h2'
        clear k3 h2'
        cases hp : plainB c with
        | false =>
          obtain ⟨rfl, rfl⟩ := HN.out (HX.out hp)
          go_wp2
          go_ret2
          exact Ret.mk rfl hb2
        | true =>
          have HQ := Lib.hid (HP.out hp)
          clear hp HP HX HN HS
          go_wp2_with (at_builtin; refine wpList_append_own _ rfl _ _ 37 rfl w.heap.size 5 i0 (.int .u8 0) 1 1 Tryd.underlying37 hi0 hz0 hz1 hz2 rfl (by decide) _ _ _ rfl (HO2.out.alloc _) ⟨w2.heap.size, 0, none⟩ 1 1 [.int .u8 (c.toNat : Int)] rfl rfl (cell_one_new _ _ _) (fun x hx => by simp at hx; subst hx; rfl) (by unfold maxLen; omega) (by omega) (by have := hb2.size; simp; omega) ?_; intro v' w4 hown4 hgrow4 _)
          obtain ⟨A4, c4, rfl⟩ := own_form hown4
          have HB : Hid (Below w.heap.size w w4) := Lib.hid ((hb2.alloc hb2.size _).trans ((Below.refl _ _).grown hgrow4 (by have := hb2.size; simp; omega) (fun g hg => (HO2.out.lt g hg).1)))
          replace hown4 := Lib.hid hown4
          clear hgrow4
          go_wp2
          go_roundw
          case rel => exact ⟨k + 1, acc ++ [c], by omega, by simp; omega, by go_num, HQ, Own8.mk hown4.out (by simp) (by rw [u8s_append]; rfl), HB.out⟩
          case measure => simp [intOf]; omega
    · obtain rfl : k = wd.length := by omega
      obtain ⟨rfl, rfl⟩ := HS.out acc (un_end HD.out (Nat.le_refl _))
      have kc := run_bytes_string wr A V cap (Own8.bytes ⟨A, cap, rfl, HO.out⟩)
      go_wp2
      go_ret2
      exact Ret.mk rfl hbw
end Go.Proofs.YtdjlfbfipkalbaaDoor
