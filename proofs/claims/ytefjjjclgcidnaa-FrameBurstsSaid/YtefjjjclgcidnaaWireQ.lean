/- Writing a number: appendInt, PutInt. -/
import Derived.Test.YtefjjjclgcidnaaWireP
namespace Go.Proofs.Ytefjjjclgcidnaa
open Go.RowKit

/-- The bytes of a word. -/
def encU : Nat → Nat → List UInt8
  | 0, u => [UInt8.ofNat u]
  | f + 1, u => if u < 128 then [UInt8.ofNat u] else UInt8.ofNat (u % 128 + 128) :: encU f (u / 128)
def encI (n : Int) : List UInt8 := encU 9 (Lib.zigzag n)
theorem encU_len : ∀ f u, (encU f u).length ≤ f + 1
  | 0, _ => by simp [encU]
  | f + 1, u => by
    rw [encU]
    split
    · simp
    · simp; exact encU_len f _
theorem encU_last {f u : Nat} (h : u < 128) : encU f u = [UInt8.ofNat u] := by
  cases f with
  | zero => rfl
  | succ f => rw [encU, if_pos h]

theorem or128 (u : Nat) : bits .or .u8 (IntKind.u8.wrap (u : Int)) 128 = ((UInt8.ofNat (u % 128 + 128)).toNat : Int) := by
  have h : ∀ n : Fin 256, bits .or .u8 (n.val : Int) 128 = ((n.val % 128 + 128 : Nat) : Int) := by decide +kernel
  have e : IntKind.u8.wrap (u : Int) = ((u % 256 : Nat) : Int) := by rw [IntKind.wrap_u8]; omega
  rw [e, h ⟨u % 256, by omega⟩]
  have : (UInt8.ofNat (u % 128 + 128)).toNat = u % 128 + 128 := by simp; omega
  rw [this]
  show ((u % 256 % 128 + 128 : Nat) : Int) = _
  omega
theorem low8 {u : Nat} (h : u < 128) : (u : Int) = ((UInt8.ofNat u).toNat : Int) := by
  have : (UInt8.ofNat u).toNat = u := by simp; omega
  rw [this]
theorem u8s_snoc (l : List UInt8) (c : UInt8) : u8s l ++ [Value.int .u8 (c.toNat : Int)] = u8s (l ++ [c]) := by simp [u8s]

set_option maxRecDepth 20000 in
set_option maxHeartbeats 1000000 in
theorem appint_grow (base : Nat) (l : List UInt8) (A : Option Addr) (cap : Nat) (n : Int) (hn : Fits n) (w : World) (hv : w.ownsRow base 5 1 (.slice A l.length cap) l.length (u8s l)) (hb : base ≤ w.heap.size) (hl : l.length ≤ 100000) :
    Calls Try.prog 30 #[.slice A l.length cap, .int .i64 n] w (RetGrow (.slice A l.length cap) base (l ++ encI n) w) := by
  obtain ⟨i0, hi0, hz0, hz1, hz2⟩ := info_parts info_u8
  have hu := Lib.zigzag_lt hn.1 hn.2
  go_enter Try.func30, Try.ntmps30
  go_wp2_with fail
  refine (unsigned_any n hn _).mono ?_
  rintro e w1 ⟨rfl, h1⟩
  have hE : Hid (encI n = encU 9 (Lib.zigzag n)) := Lib.hid rfl
  generalize Lib.zigzag n = u0 at *
  have hv1 := own_below hv h1
  have hB1 : Below base w w1 := h1.mono hb
  have hG1 : Grew w (.slice A l.length cap) w1 (.slice A l.length cap) := (Grew.refl _ _).below h1
  go_wp2
  go_loopw [0, 5] (fun b u wr => ∃ (pre : List UInt8) (f u1 : Nat) (Ar : Option Addr) (cr : Nat), b = .slice Ar (l ++ pre).length cr ∧ wr.ownsRow base 5 1 (.slice Ar (l ++ pre).length cr) (l ++ pre).length (u8s (l ++ pre)) ∧ u = .int .u64 (u1 : Int) ∧
    pre.length + f = 9 ∧ u1 < 2 * 128 ^ f ∧ Hid (pre ++ encU f u1 = encI n) ∧ Below base w wr ∧ Grew w (.slice A l.length cap) wr (.slice Ar (l ++ pre).length cr)) (fun _ u _ => (intOf u).toNat)
  case atStart => exact ⟨[], 9, u0, A, cap, by simp, by simpa using hv1, rfl, rfl, by simpa using hu, Lib.hid (by rw [hE.out]; rfl), hB1, hG1.cap⟩
  case round =>
    obtain ⟨pre, f, u1, Ar, cr, rfl, hown, rfl, hpf, hu1, HE, hbw, hgr⟩ := hrel
    replace hgr : Grew w (.slice A l.length cap) wr (.slice Ar 0 0) := hgr.cap
    have Hown := Lib.hid hown
    clear hown hv1 hv
    have hlen : (l ++ pre).length ≤ 100009 := by rw [List.length_append]; omega
    have hsz : base ≤ wr.heap.size := Nat.le_trans hb hbw.size
    generalize hLP : l ++ pre = lp at *
    have HLP := Lib.hid hLP
    clear hLP
    by_cases hge : 128 ≤ u1
    · obtain ⟨g, rfl⟩ : ∃ g, f = g + 1 := ⟨f - 1, by
        rcases f with _ | f
        · simp at hu1; omega
        · omega⟩
      have hu2 : u1 / 128 < 2 * 128 ^ g := by rw [Nat.pow_succ] at hu1; omega
      have hor : bits .or .u8 ((u1 : Int) % 256) 128 = ((UInt8.ofNat (u1 % 128 + 128)).toNat : Int) := by rw [← or128 u1, IntKind.wrap_u8]
      have HE2 : Hid ((pre ++ [UInt8.ofNat (u1 % 128 + 128)]) ++ encU g (u1 / 128) = encI n) := Lib.hid (by rw [← HE.out, encU, if_neg (by omega)]; simp)
      have hub : u1 < 18446744073709551616 := by
        have : 128 ^ (g + 1) ≤ 128 ^ 9 := Nat.pow_le_pow_right (by decide) (by omega)
        rw [show (128 : Nat) ^ 9 = 9223372036854775808 from by decide] at this
        omega
      have hge' : (128 : Int) ≤ (u1 : Int) := by omega
      generalize UInt8.ofNat (u1 % 128 + 128) = c at *
      clear hu1 HE hE hu
      go_wp2_with (at_builtin; refine wpList_append_own_at _ rfl _ _ 22 rfl base 5 i0 (.int .u8 0) 1 1 Try.underlying22 hi0 hz0 hz1 hz2 rfl (by decide) _ _ _ rfl (Hown.out.alloc _) ⟨wr.heap.size, 0, none⟩ 1 1 [.int .u8 (c.toNat : Int)] rfl rfl (cell_one_new _ _ _) (fun x hx => by simp at hx; subst hx; rfl) (by unfold maxLen; omega) (by omega) (by simp; omega) ?_; intro v' w4 hown4 hgrow4 _ hat4)
      have hb4 : Below base w w4 := (hbw.alloc hsz _).grown hgrow4 (by simp; omega) (fun g hg => (Hown.out.lt g hg).1)
      obtain ⟨A4, c4, rfl⟩ := own_form hown4
      have hG4 := Lib.hid ((hgr.alloc _).grown (v1 := .slice Ar 0 0) (by cases Ar <;> exact hgrow4) (by cases Ar <;> exact hat4))
      have Hown4 : Hid (w4.ownsRow base 5 1 (.slice A4 (lp.length + 1) c4) (lp.length + 1) (u8s (lp ++ [c]))) := Lib.hid (by rw [← u8s_snoc]; exact hown4)
      clear hown4 hgrow4 hat4
      go_wp2
      go_roundw
      case rel =>
        refine ⟨pre ++ [c], g, u1 / 128, A4, c4, ?_, ?_, by go_num, by simp; omega, hu2, HE2, hb4, hG4.out.cap⟩
        · rw [← List.append_assoc, HLP.out, List.length_append]; rfl
        · rw [← List.append_assoc, HLP.out, List.length_append]; exact Hown4.out
      case measure => simp [intOf]; omega
    · have HL := Lib.hid (encU_last (f := f) (u := u1) (by omega))
      have HE2 : Hid (pre ++ [UInt8.ofNat u1] = encI n) := Lib.hid (by rw [← HE.out, HL.out])
      have hlt' : (u1 : Int) < 128 := by omega
      have hlo := Lib.hid (low8 (u := u1) (by omega))
      generalize UInt8.ofNat u1 = c at *
      clear HE hE hu
      have hu3 : u1 < 128 := by omega
      clear hu1
      go_wp2_with (at_builtin; refine wpList_append_own_at _ rfl _ _ 22 rfl base 5 i0 (.int .u8 0) 1 1 Try.underlying22 hi0 hz0 hz1 hz2 rfl (by decide) _ _ _ rfl (Hown.out.alloc _) ⟨wr.heap.size, 0, none⟩ 1 1 [.int .u8 (u1 : Int)] rfl rfl (cell_one_new _ _ _) (fun x hx => by simp at hx; subst hx; rfl) (by unfold maxLen; omega) (by omega) (by simp; omega) ?_; intro v' w4 hown4 hgrow4 _ hat4)
      have hb4 : Below base w w4 := (hbw.alloc hsz _).grown hgrow4 (by simp; omega) (fun g hg => (Hown.out.lt g hg).1)
      obtain ⟨A4, c4, rfl⟩ := own_form hown4
      have hG4 := Lib.hid ((hgr.alloc _).grown (v1 := .slice Ar 0 0) (by cases Ar <;> exact hgrow4) (by cases Ar <;> exact hat4))
      have Hown4 : Hid (w4.ownsRow base 5 1 (.slice A4 (lp.length + 1) c4) (lp.length + 1) (u8s (lp ++ [c]))) := Lib.hid (by rw [← u8s_snoc, ← hlo.out]; exact hown4)
      clear hown4 hgrow4 hat4
      go_wp2
      go_ret
      refine ⟨A4, c4, ?_, ?_, hb4, hG4.out.cap⟩
      · rw [← HE2.out, ← List.append_assoc, HLP.out, List.length_append]; rfl
      · rw [← HE2.out, ← List.append_assoc, HLP.out, List.length_append]; exact Hown4.out
theorem appint_any (base : Nat) (l : List UInt8) (A : Option Addr) (cap : Nat) (n : Int) (hn : Fits n) (w : World) (hv : w.ownsRow base 5 1 (.slice A l.length cap) l.length (u8s l)) (hb : base ≤ w.heap.size) (hl : l.length ≤ 100000) :
    Calls Try.prog 30 #[.slice A l.length cap, .int .i64 n] w (RetOwn base (l ++ encI n) w) := (appint_grow base l A cap n hn w hv hb hl).mono fun _ _ => RetGrow.own
end Go.Proofs.Ytefjjjclgcidnaa
