/- slices.IndexFunc at ints, with the closure of Days (it lays blocks: no contract of the shelf serves). -/
import Derived.Test.YthbagggcfdgnfaaSrt
namespace Go.Proofs.Ythbagggcfdgnfaa
open Go.RowKit

/-- The closure of Days answers p, in whatever world has grown out of w above B. -/
def Asks (b1 b2 : Addr) (p : Int → Bool) (B : Nat) (w : World) : Prop := ∀ W x, Below B w W → B ≤ W.heap.size → Calls Try.prog 32 #[.int .i64 x, .pointer (some b1), .pointer (some b2)] W (Ret (.bool (p x)) W)

/-- The index of the first number that p takes, or -1. -/
def IdxI (zs : List Int) (p : Int → Bool) (w : World) (e : Ending) (w' : World) : Prop :=
  ((∃ k, ∃ hk : k < zs.length, e = .returned (.int .i64 (k : Int)) ∧ p zs[k] = true ∧ ∀ j (hj : j < zs.length), j < k → p zs[j] = false) ∨ (e = .returned (.int .i64 (-1)) ∧ ∀ j (hj : j < zs.length), p zs[j] = false)) ∧ Below w.heap.size w w'

set_option maxRecDepth 20000 in
set_option maxHeartbeats 2000000 in
theorem index_any (p : Int → Bool) (b1 b2 : Addr) (zs : List Int) (A : Option Addr) (cap B : Nat) (w : World) (ha : Ints w A zs) (hl : zs.length ≤ 100000) (hp : Asks b1 b2 p B w) (hB : B ≤ w.heap.size) :
    Calls Try.prog 36 #[.slice A zs.length cap, .func (.func 32) #[] #[.pointer (some b1), .pointer (some b2)]] w (IdxI zs p w) := by
  go_enter Try.func36, Try.ntmps36
  go_wp2
  go_loopw [8] (fun i wr => ∃ k : Nat, k ≤ zs.length ∧ i = .int .i64 (k : Int) ∧ Hid (∀ j (hj : j < zs.length), j < k → p zs[j] = false) ∧ Below w.heap.size w wr) (fun i _ => zs.length + 1 - (intOf i).toNat)
  case atStart => exact ⟨0, by omega, rfl, Lib.hid fun j hj h => by omega, Below.refl _ _⟩
  case round =>
    obtain ⟨k, hk, rfl, HA, hbw⟩ := hrel
    by_cases hlt : k < zs.length
    · obtain ⟨ad, rfl, _, c1⟩ := (ha.below hbw).at_ hlt
      have k1 := hp wr zs[k] (hbw.mono hB) (Nat.le_trans hB hbw.size)
      obtain ⟨f, hf⟩ : ∃ f, p zs[k] = f := ⟨_, rfl⟩
      have HF := Lib.hid hf
      rw [hf] at k1
      clear hf hp
      have HN : Hid (f = false → ∀ j (hj : j < zs.length), j < k + 1 → p zs[j] = false) := Lib.hid fun h j hj hjk => by
        rcases Nat.lt_or_ge j k with h' | h'
        · exact HA.out j hj h'
        · have : j = k := by omega
          subst this; rw [HF.out, h]
      have HY : Hid (f = true → IdxI zs p w (.returned (.int .i64 (k : Int))) wr) := Lib.hid fun h => ⟨.inl ⟨k, hlt, rfl, by rw [HF.out, h], HA.out⟩, hbw⟩
      clear HF HA
      generalize zs[k] = x at *
      rcases f with _ | _
      · have HN' := Lib.hid (HN.out rfl)
        clear HN HY
        go_wp2_with fail
        refine k1.mono ?_
        rintro e w1 ⟨rfl, h1⟩
        have H1 := Below.step hbw h1
        clear k1
        go_wp2
        go_roundw
        case rel => exact ⟨k + 1, by omega, by go_num, HN', H1⟩
        case measure => simp [intOf]; omega
      · have HY' := Lib.hid (HY.out rfl)
        clear HN HY
        go_wp2_with fail
        refine k1.mono ?_
        rintro e w1 ⟨rfl, h1⟩
        have H1 := Below.step hbw h1
        clear k1
        go_wp2
        go_ret
        exact ⟨HY'.out.1, H1⟩
    · have HV : Hid (∀ j (hj : j < zs.length), p zs[j] = false) := Lib.hid fun j hj => HA.out j hj (by omega)
      go_wp2
      go_ret
      exact ⟨.inr ⟨rfl, HV.out⟩, hbw⟩
end Go.Proofs.Ythbagggcfdgnfaa
