/- Single bytes and digits. -/
import Derived.Test.YtdjlfbfipkalbaaDoorWoM
import Derived.Test.YtdjlfbfipkalbaaDoorBytes
namespace Go.Proofs.YtdjlfbfipkalbaaDoor
open Go.RowKit

/-- A byte's kind, split as the texts ask. -/
theorem plain_split (c : UInt8) : (c.toNat ≤ 32 ∧ plainB c = false) ∨ (c.toNat = 37 ∧ plainB c = false) ∨ (c.toNat = 127 ∧ plainB c = false) ∨ (32 < c.toNat ∧ c.toNat < 127 ∧ c.toNat ≠ 37 ∧ plainB c = true) ∨ (127 < c.toNat ∧ plainB c = true) := by
  unfold plainB
  by_cases h1 : c.toNat ≤ 32
  · exact .inl ⟨h1, by rw [decide_eq_false (by omega)]; rfl⟩
  by_cases h2 : c.toNat = 37
  · exact .inr (.inl ⟨h2, by rw [h2]; rfl⟩)
  by_cases h3 : c.toNat = 127
  · exact .inr (.inr (.inl ⟨h3, by rw [h3]; rfl⟩))
  by_cases h4 : c.toNat < 127
  · exact .inr (.inr (.inr (.inl ⟨by omega, h4, h2, by rw [decide_eq_true (show 32 < c.toNat by omega), decide_eq_true h2, decide_eq_true h3]; rfl⟩)))
  · exact .inr (.inr (.inr (.inr ⟨by omega, by rw [decide_eq_true (show 32 < c.toNat by omega), decide_eq_true h2, decide_eq_true h3]; rfl⟩)))

theorem isPlain_any (c : UInt8) (w : World) : Calls Tryd.prog 29 #[.int .u8 (c.toNat : Int)] w (Ret (.bool (plainB c)) w) := by
  have hlt := c.toNat_lt
  have HS := plain_split c
  generalize plainB c = v at *
  generalize c.toNat = n at *
  rcases HS with ⟨h, rfl⟩ | ⟨rfl, rfl⟩ | ⟨rfl, rfl⟩ | ⟨h1, h2, h3, rfl⟩ | ⟨h1, rfl⟩
  · go_enter Tryd.func29, Tryd.ntmps29
    go_wp2
    go_ret
    exact Ret.mk rfl (Below.refl _ _)
  · go_enter Tryd.func29, Tryd.ntmps29
    go_wp2
    go_ret
    exact Ret.mk rfl (Below.refl _ _)
  · go_enter Tryd.func29, Tryd.ntmps29
    go_wp2
    go_ret
    exact Ret.mk rfl (Below.refl _ _)
  · have e1 : ((n : Int) != 37) = true := by simp; omega
    have e2 : ((n : Int) != 127) = true := by simp; omega
    go_enter Tryd.func29, Tryd.ntmps29
    go_wp2
    go_ret
    exact Ret.mk (by rfl) (Below.refl _ _)
  · have e1 : ((n : Int) != 37) = true := by simp; omega
    have e2 : ((n : Int) != 127) = true := by simp; omega
    go_enter Tryd.func29, Tryd.ntmps29
    go_wp2
    go_ret
    exact Ret.mk (by rfl) (Below.refl _ _)

set_option maxRecDepth 20000 in
theorem rplain_any (c : UInt8) (w : World) : Calls Tryd.prog 32 #[.int .u8 (c.toNat : Int)] w (Ret (.bool (plainB c)) w) := by
  have hlt := c.toNat_lt
  have HS := plain_split c
  generalize plainB c = v at *
  generalize c.toNat = n at *
  rcases HS with ⟨h, rfl⟩ | ⟨rfl, rfl⟩ | ⟨rfl, rfl⟩ | ⟨h1, h2, h3, rfl⟩ | ⟨h1, rfl⟩
  · have e0 : decide ((128 : Int) ≤ (n : Int)) = false := decide_eq_false (by omega)
    have e1 : decide ((33 : Int) ≤ (n : Int)) = false := decide_eq_false (by omega)
    go_enter Tryd.func32, Tryd.ntmps32
    go_wp2
    go_ret
    exact Ret.mk rfl (Below.refl _ _)
  · go_enter Tryd.func32, Tryd.ntmps32
    go_wp2
    go_ret
    exact Ret.mk rfl (Below.refl _ _)
  · go_enter Tryd.func32, Tryd.ntmps32
    go_wp2
    go_ret
    exact Ret.mk rfl (Below.refl _ _)
  · have e0 : decide ((128 : Int) ≤ (n : Int)) = false := decide_eq_false (by omega)
    have e1 : decide ((33 : Int) ≤ (n : Int)) = true := decide_eq_true (by omega)
    have e2 : decide ((n : Int) ≤ 126) = true := decide_eq_true (by omega)
    have e3 : ((n : Int) != 37) = true := by simp; omega
    go_enter Tryd.func32, Tryd.ntmps32
    go_wp2
    go_ret
    exact Ret.mk rfl (Below.refl _ _)
  · have e0 : decide ((128 : Int) ≤ (n : Int)) = true := decide_eq_true (by omega)
    go_enter Tryd.func32, Tryd.ntmps32
    go_wp2
    go_ret
    exact Ret.mk rfl (Below.refl _ _)

/-- The sixteen digits, one by one. -/
theorem hex_at : ∀ k, k < 16 → ∃ (h : k < hexL.length), hexL[k] = hx k := by decide +kernel
theorem hex_idx (k : Nat) (hk : k < 16) : (({ data := #[48, 49, 50, 51, 52, 53, 54, 55, 56, 57, 97, 98, 99, 100, 101, 102] } : ByteArray)[k]'hk) = hx k := by
  obtain ⟨h1, h2⟩ := hex_at k hk
  rw [← h2]; rfl
theorem ix_found : ∀ (k : Nat), k < 16 → ∀ c : UInt8, hx k = c → ix c = (k : Int) := fun k hk c h => by rw [← h]; exact ix_hx k hk
theorem ix_none (c : UInt8) (h : ∀ j, j < 16 → hx j ≠ c) : ix c = -1 := by
  have r := ix_range c
  by_cases h0 : 0 ≤ ix c
  · exact absurd (hx_ix c h0) (h _ (by omega))
  · omega

theorem rdigit_any (c : UInt8) (w : World) : Calls Tryd.prog 34 #[.int .u8 (c.toNat : Int)] w (Ret (.int .i64 (ix c)) w) := by
  have hlt := c.toNat_lt
  have HN := Lib.hid (ix_none c)
  have HF := Lib.hid (fun k hk => ix_found k hk c)
  generalize ix c = v at *
  go_enter Tryd.func34, Tryd.ntmps34
  go_wp2
  go_loopw [3] (fun i wr => ∃ k : Nat, k ≤ 16 ∧ i = .int .i64 (k : Int) ∧ Hid (∀ j, j < k → hx j ≠ c) ∧ Below w.heap.size w wr) (fun i _ => 17 - (intOf i).toNat)
  case atStart => exact ⟨0, by omega, rfl, Lib.hid (fun j h => by omega), Below.refl _ _⟩
  case round =>
    obtain ⟨k, hk, rfl, HJ, hbw⟩ := hrel
    by_cases hk16 : k < 16
    · have hc := hex_idx k hk16
      by_cases heq : hx k = c
      · have HE := Lib.hid (HF.out k hk16 heq)
        subst heq
        go_wp2
        go_ret
        exact Ret.mk (by rw [HE.out]; rfl) hbw
      · have hb : (((hx k).toNat : Int) == (c.toNat : Int)) = false := by
          rw [beq_eq_false_iff_ne]; exact fun e => heq (UInt8.toNat_inj.1 (by omega))
        have HE := Lib.hid heq
        clear heq
        go_wp2
        go_roundw
        case rel => exact ⟨k + 1, by omega, by go_num, Lib.hid (fun j hj => by
          rcases Nat.lt_or_ge j k with h' | h'
          · exact HJ.out j h'
          · have : j = k := by omega
            subst this; exact HE.out), hbw⟩
        case measure => simp [intOf]; omega
    · obtain rfl : k = 16 := by omega
      have HE := Lib.hid (HN.out HJ.out)
      go_wp2
      go_ret
      exact Ret.mk (by rw [HE.out]; rfl) hbw
end Go.Proofs.YtdjlfbfipkalbaaDoor
