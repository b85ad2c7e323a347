/- wire's PutInt, the reference's, and what they do: what frames need of layer 4. -/
import Derived.Test.YtefjjjclgcidnaaWireL
import Derived.Test.YtefjjjclgcidnaaWireQ
import Derived.Lib.ConvBytes
namespace Go.Proofs.Ytefjjjclgcidnaa
open Go.RowKit

set_option maxHeartbeats 1000000 in
theorem put_any (l : List UInt8) (A : Option Addr) (cap : Nat) (n : Int) (hn : Fits n) (w : World) (hv : Bytes w A l) (hl : l.length ≤ 100000) :
    Calls Try.prog 21 #[.slice A l.length cap, .int .i64 n] w (RetOwn w.heap.size (l ++ encI n) w) := by
  go_enter Try.func21, Try.ntmps21
  go_wp2_with fail
  refine (clone_any l A cap w hv hl).mono ?_
  rintro e w1 ⟨A1, c1, rfl, hown1, hB1⟩
  have hs := hB1.size
  go_wp2_with fail
  refine (appint_any w.heap.size l A1 c1 n hn w1 hown1 hs hl).mono ?_
  rintro e w2 ⟨A2, c2, rfl, hown2, hB2⟩
  generalize l ++ encI n = r at *
  have HO := Lib.hid hown2
  clear hown1 hown2
  go_wp2
  go_ret
  exact ⟨A2, c2, rfl, HO.out, hB1.trans hB2⟩

theorem encI_len (n : Int) : (encI n).length ≤ 10 := encU_len 9 _

theorem kOf_ge (l : List UInt8) (a : Nat) : ∀ f i, i ≤ kOf l a i f ∧ kOf l a i f ≤ i + f
  | 0, i => by simp [kOf]
  | f + 1, i => by
    rw [kOf]
    split
    · have := kOf_ge l a f (i + 1); omega
    · omega

theorem sgn_fits {u : Nat} (h : u < 18446744073709551616) : Fits (sgn u) := by
  unfold sgn Fits
  split <;> omega

theorem int_bd {l : List UInt8} {at_ : Int} (h : intE l at_ = 0) : 0 < intTo l at_ ∧ intTo l at_ ≤ l.length ∧ Fits (intN l at_) := by
  have ht : intTo l at_ = at_ + kOf l at_.toNat 0 10 + 1 := by unfold intTo; rw [if_pos h]
  have hn : intN l at_ = sgn (valL l at_.toNat (kOf l at_.toNat 0 10 + 1)) := by unfold intN; rw [if_pos h]
  rw [ht, hn]
  unfold intE at h
  split at h
  · cases h
  · have hk := (kOf_ge l at_.toNat 10 0).2
    unfold errAt at h
    simp only [] at h
    split at h
    · cases h
    · split at h
      · cases h
      · split at h
        · cases h
        · rename_i h1 h2 h3
          generalize kOf l at_.toNat 0 10 = k at *
          refine ⟨by omega, by omega, sgn_fits (val_end l at_.toNat k (by omega) (by omega))⟩

theorem int_up {l : List UInt8} {at_ : Int} (h : intE l at_ = 0) : at_ + 1 ≤ intTo l at_ := by
  unfold intTo
  rw [if_pos h]
  omega

theorem byte_hi (u : Nat) : (u : Int) % 128 + 128 = ((UInt8.ofNat (u % 128 + 128)).toNat : Int) := by
  have : (UInt8.ofNat (u % 128 + 128)).toNat = u % 128 + 128 := by simp; omega
  rw [this]
  omega

set_option maxRecDepth 20000 in
set_option maxHeartbeats 1000000 in
theorem rput_any (l : List UInt8) (A : Option Addr) (cap : Nat) (n : Int) (hn : Fits n) (w : World) (hv : Bytes w A l) (hl : l.length ≤ 80000) :
    Calls Try.prog 23 #[.slice A l.length cap, .int .i64 n] w (RetOwn w.heap.size (l ++ encI n) w) := by
  obtain ⟨i0, hi0, hz0, hz1, hz2⟩ := info_parts info_u8
  have hu := Lib.zigzag_lt hn.1 hn.2
  have hE : Hid (encI n = encU 9 (Lib.zigzag n)) := Lib.hid rfl
  obtain ⟨hn1, hn2⟩ := hn
  by_cases hneg : n < 0
  · have HU : Hid (-(n + 1) * 2 + 1 = (Lib.zigzag n : Int)) := Lib.hid (by unfold Lib.zigzag; rw [if_neg (by omega)]; omega)
    generalize Lib.zigzag n = u0 at *
    go_enter Try.func23, Try.ntmps23
    go_wp2_with (at_builtin; refine wpList_append_any _ rfl (.tmp 18) (.tmp 19) _ rfl w.heap.size 5 i0 _ 1 1 Try.underlying22 hi0 hz0 hz1 hz2 rfl (by omega) _ 0 [] rfl (own_empty w _) w.heap.size A l.length cap _ rfl (Reads.alloc hv (Nat.le_refl _) _) (one_u8 l) (by simp only [maxLen]; omega) (by omega) (by simp) ?_; intro v1 w1 hown1 hg1 hat1)
    obtain ⟨A1, c1, rfl⟩ := own_form hown1
    have hB1 : Below w.heap.size w w1 := ((Below.refl _ _).alloc (Nat.le_refl _) _).trans ((Below.refl _ _).grown hg1 (by simp) (fun k hk => by have h : some w.heap.size = some k := hk; injection h with h; omega))
    have hv1 : Hid (w1.ownsRow w.heap.size 5 1 (.slice A1 l.length c1) l.length (u8s l)) := Lib.hid (by rw [Nat.zero_add] at hown1; simpa [u8s] using hown1)
    rw [Nat.zero_add]
    clear hown1 hg1 hat1 hv
    go_wp2
    go_loopw [5, 6] (fun u b wr => ∃ (pre : List UInt8) (f u1 : Nat) (Ar : Option Addr) (cr : Nat), b = .slice Ar (l ++ pre).length cr ∧ wr.ownsRow w.heap.size 5 1 (.slice Ar (l ++ pre).length cr) (l ++ pre).length (u8s (l ++ pre)) ∧ u = .int .u64 (u1 : Int) ∧
      pre.length + f = 9 ∧ u1 < 2 * 128 ^ f ∧ Hid (pre ++ encU f u1 = encI n) ∧ Below w.heap.size w wr) (fun u _ _ => (intOf u).toNat)
    case atStart => exact ⟨[], 9, u0, A1, c1, by simp, by simpa using hv1.out, congrArg (Value.int .u64) HU.out, rfl, by simpa using hu, Lib.hid (by rw [hE.out]; rfl), hB1⟩
    case round =>
      obtain ⟨pre, f, u1, Ar, cr, rfl, hown, rfl, hpf, hu1, HE, hbw⟩ := hrel
      have Hown := Lib.hid hown
      clear hown hv1
      have hlen : (l ++ pre).length ≤ 80009 := by rw [List.length_append]; omega
      have hsz : w.heap.size ≤ wr.heap.size := hbw.size
      generalize hLP : l ++ pre = lp at *
      have HLP := Lib.hid hLP
      clear hLP
      by_cases hge : 128 ≤ u1
      · obtain ⟨g, rfl⟩ : ∃ g, f = g + 1 := ⟨f - 1, by
          rcases f with _ | f
          · simp at hu1; omega
          · omega⟩
        have hu2 : u1 / 128 < 2 * 128 ^ g := by rw [Nat.pow_succ] at hu1; omega
        have hby := Lib.hid (byte_hi u1)
        have HE2 : Hid ((pre ++ [UInt8.ofNat (u1 % 128 + 128)]) ++ encU g (u1 / 128) = encI n) := Lib.hid (by rw [← HE.out, encU, if_neg (by omega)]; simp)
        have hub : u1 < 18446744073709551616 := by
          have : 128 ^ (g + 1) ≤ 128 ^ 9 := Nat.pow_le_pow_right (by decide) (by omega)
          rw [show (128 : Nat) ^ 9 = 9223372036854775808 from by decide] at this
          omega
        have hge' : (128 : Int) ≤ (u1 : Int) := by omega
        generalize UInt8.ofNat (u1 % 128 + 128) = c at *
        clear hu1 HE hE hu
        go_wp2_with (at_builtin; refine wpList_append_own _ rfl _ _ 22 rfl w.heap.size 5 i0 (.int .u8 0) 1 1 Try.underlying22 hi0 hz0 hz1 hz2 rfl (by decide) _ _ _ rfl (Hown.out.alloc _) ⟨wr.heap.size, 0, none⟩ 1 1 [.int .u8 ((u1 : Int) % 128 + 128)] rfl rfl (cell_one_new _ _ _) (fun x hx => by simp at hx; subst hx; rfl) (by unfold maxLen; omega) (by omega) (by simp; omega) ?_; intro v' w4 hown4 hgrow4 hat4)
        have hb4 : Below w.heap.size w w4 := (hbw.alloc hsz _).grown hgrow4 (by simp; omega) (fun g hg => (Hown.out.lt g hg).1)
        obtain ⟨A4, c4, rfl⟩ := own_form hown4
        have Hown4 : Hid (w4.ownsRow w.heap.size 5 1 (.slice A4 (lp.length + 1) c4) (lp.length + 1) (u8s (lp ++ [c]))) := Lib.hid (by rw [← u8s_snoc, ← hby.out]; exact hown4)
        clear hown4 hgrow4 hat4
        go_wp2
        go_roundw
        case rel =>
          refine ⟨pre ++ [c], g, u1 / 128, A4, c4, ?_, ?_, by go_num, by simp; omega, hu2, HE2, hb4⟩
          · rw [← List.append_assoc, HLP.out, List.length_append]; rfl
          · rw [← List.append_assoc, HLP.out, List.length_append]; exact Hown4.out
        case measure => simp [intOf]; omega
      · have HL := Lib.hid (encU_last (f := f) (u := u1) (by omega))
        have HE2 : Hid (pre ++ [UInt8.ofNat u1] = encI n) := Lib.hid (by rw [← HE.out, HL.out])
        have hlt' : (u1 : Int) < 128 := by omega
        have hlo := Lib.hid (low8 (u := u1) (by omega))
        generalize UInt8.ofNat u1 = c at *
        clear HE hE hu
        have hu3 : u1 < 128 := by omega
        clear hu1
        go_wp2_with (at_builtin; refine wpList_append_own _ rfl _ _ 22 rfl w.heap.size 5 i0 (.int .u8 0) 1 1 Try.underlying22 hi0 hz0 hz1 hz2 rfl (by decide) _ _ _ rfl (Hown.out.alloc _) ⟨wr.heap.size, 0, none⟩ 1 1 [.int .u8 (u1 : Int)] rfl rfl (cell_one_new _ _ _) (fun x hx => by simp at hx; subst hx; rfl) (by unfold maxLen; omega) (by omega) (by simp; omega) ?_; intro v' w4 hown4 hgrow4 hat4)
        have hb4 : Below w.heap.size w w4 := (hbw.alloc hsz _).grown hgrow4 (by simp; omega) (fun g hg => (Hown.out.lt g hg).1)
        obtain ⟨A4, c4, rfl⟩ := own_form hown4
        have Hown4 : Hid (w4.ownsRow w.heap.size 5 1 (.slice A4 (lp.length + 1) c4) (lp.length + 1) (u8s (lp ++ [c]))) := Lib.hid (by rw [← u8s_snoc, ← hlo.out]; exact hown4)
        clear hown4 hgrow4 hat4
        go_wp2
        go_ret
        refine ⟨A4, c4, ?_, ?_, hb4⟩
        · rw [← HE2.out, ← List.append_assoc, HLP.out, List.length_append]; rfl
        · rw [← HE2.out, ← List.append_assoc, HLP.out, List.length_append]; exact Hown4.out
  · have HU : Hid (n * 2 = (Lib.zigzag n : Int)) := Lib.hid (by unfold Lib.zigzag; rw [if_pos (by omega)]; omega)
    generalize Lib.zigzag n = u0 at *
    have hneg' : 0 ≤ n := by omega
    go_enter Try.func23, Try.ntmps23
    go_wp2_with (at_builtin; refine wpList_append_any _ rfl (.tmp 18) (.tmp 19) _ rfl w.heap.size 5 i0 _ 1 1 Try.underlying22 hi0 hz0 hz1 hz2 rfl (by omega) _ 0 [] rfl (own_empty w _) w.heap.size A l.length cap _ rfl (Reads.alloc hv (Nat.le_refl _) _) (one_u8 l) (by simp only [maxLen]; omega) (by omega) (by simp) ?_; intro v1 w1 hown1 hg1 hat1)
    obtain ⟨A1, c1, rfl⟩ := own_form hown1
    have hB1 : Below w.heap.size w w1 := ((Below.refl _ _).alloc (Nat.le_refl _) _).trans ((Below.refl _ _).grown hg1 (by simp) (fun k hk => by have h : some w.heap.size = some k := hk; injection h with h; omega))
    have hv1 : Hid (w1.ownsRow w.heap.size 5 1 (.slice A1 l.length c1) l.length (u8s l)) := Lib.hid (by rw [Nat.zero_add] at hown1; simpa [u8s] using hown1)
    rw [Nat.zero_add]
    clear hown1 hg1 hat1 hv
    go_wp2
    go_loopw [5, 6] (fun u b wr => ∃ (pre : List UInt8) (f u1 : Nat) (Ar : Option Addr) (cr : Nat), b = .slice Ar (l ++ pre).length cr ∧ wr.ownsRow w.heap.size 5 1 (.slice Ar (l ++ pre).length cr) (l ++ pre).length (u8s (l ++ pre)) ∧ u = .int .u64 (u1 : Int) ∧
      pre.length + f = 9 ∧ u1 < 2 * 128 ^ f ∧ Hid (pre ++ encU f u1 = encI n) ∧ Below w.heap.size w wr) (fun u _ _ => (intOf u).toNat)
    case atStart => exact ⟨[], 9, u0, A1, c1, by simp, by simpa using hv1.out, congrArg (Value.int .u64) HU.out, rfl, by simpa using hu, Lib.hid (by rw [hE.out]; rfl), hB1⟩
    case round =>
      obtain ⟨pre, f, u1, Ar, cr, rfl, hown, rfl, hpf, hu1, HE, hbw⟩ := hrel
      have Hown := Lib.hid hown
      clear hown hv1
      have hlen : (l ++ pre).length ≤ 80009 := by rw [List.length_append]; omega
      have hsz : w.heap.size ≤ wr.heap.size := hbw.size
      generalize hLP : l ++ pre = lp at *
      have HLP := Lib.hid hLP
      clear hLP
      by_cases hge : 128 ≤ u1
      · obtain ⟨g, rfl⟩ : ∃ g, f = g + 1 := ⟨f - 1, by
          rcases f with _ | f
          · simp at hu1; omega
          · omega⟩
        have hu2 : u1 / 128 < 2 * 128 ^ g := by rw [Nat.pow_succ] at hu1; omega
        have hby := Lib.hid (byte_hi u1)
        have HE2 : Hid ((pre ++ [UInt8.ofNat (u1 % 128 + 128)]) ++ encU g (u1 / 128) = encI n) := Lib.hid (by rw [← HE.out, encU, if_neg (by omega)]; simp)
        have hub : u1 < 18446744073709551616 := by
          have : 128 ^ (g + 1) ≤ 128 ^ 9 := Nat.pow_le_pow_right (by decide) (by omega)
          rw [show (128 : Nat) ^ 9 = 9223372036854775808 from by decide] at this
          omega
        have hge' : (128 : Int) ≤ (u1 : Int) := by omega
        generalize UInt8.ofNat (u1 % 128 + 128) = c at *
        clear hu1 HE hE hu
        go_wp2_with (at_builtin; refine wpList_append_own _ rfl _ _ 22 rfl w.heap.size 5 i0 (.int .u8 0) 1 1 Try.underlying22 hi0 hz0 hz1 hz2 rfl (by decide) _ _ _ rfl (Hown.out.alloc _) ⟨wr.heap.size, 0, none⟩ 1 1 [.int .u8 ((u1 : Int) % 128 + 128)] rfl rfl (cell_one_new _ _ _) (fun x hx => by simp at hx; subst hx; rfl) (by unfold maxLen; omega) (by omega) (by simp; omega) ?_; intro v' w4 hown4 hgrow4 hat4)
        have hb4 : Below w.heap.size w w4 := (hbw.alloc hsz _).grown hgrow4 (by simp; omega) (fun g hg => (Hown.out.lt g hg).1)
        obtain ⟨A4, c4, rfl⟩ := own_form hown4
        have Hown4 : Hid (w4.ownsRow w.heap.size 5 1 (.slice A4 (lp.length + 1) c4) (lp.length + 1) (u8s (lp ++ [c]))) := Lib.hid (by rw [← u8s_snoc, ← hby.out]; exact hown4)
        clear hown4 hgrow4 hat4
        go_wp2
        go_roundw
        case rel =>
          refine ⟨pre ++ [c], g, u1 / 128, A4, c4, ?_, ?_, by go_num, by simp; omega, hu2, HE2, hb4⟩
          · rw [← List.append_assoc, HLP.out, List.length_append]; rfl
          · rw [← List.append_assoc, HLP.out, List.length_append]; exact Hown4.out
        case measure => simp [intOf]; omega
      · have HL := Lib.hid (encU_last (f := f) (u := u1) (by omega))
        have HE2 : Hid (pre ++ [UInt8.ofNat u1] = encI n) := Lib.hid (by rw [← HE.out, HL.out])
        have hlt' : (u1 : Int) < 128 := by omega
        have hlo := Lib.hid (low8 (u := u1) (by omega))
        generalize UInt8.ofNat u1 = c at *
        clear HE hE hu
        have hu3 : u1 < 128 := by omega
        clear hu1
        go_wp2_with (at_builtin; refine wpList_append_own _ rfl _ _ 22 rfl w.heap.size 5 i0 (.int .u8 0) 1 1 Try.underlying22 hi0 hz0 hz1 hz2 rfl (by decide) _ _ _ rfl (Hown.out.alloc _) ⟨wr.heap.size, 0, none⟩ 1 1 [.int .u8 (u1 : Int)] rfl rfl (cell_one_new _ _ _) (fun x hx => by simp at hx; subst hx; rfl) (by unfold maxLen; omega) (by omega) (by simp; omega) ?_; intro v' w4 hown4 hgrow4 hat4)
        have hb4 : Below w.heap.size w w4 := (hbw.alloc hsz _).grown hgrow4 (by simp; omega) (fun g hg => (Hown.out.lt g hg).1)
        obtain ⟨A4, c4, rfl⟩ := own_form hown4
        have Hown4 : Hid (w4.ownsRow w.heap.size 5 1 (.slice A4 (lp.length + 1) c4) (lp.length + 1) (u8s (lp ++ [c]))) := Lib.hid (by rw [← u8s_snoc, ← hlo.out]; exact hown4)
        clear hown4 hgrow4 hat4
        go_wp2
        go_ret
        refine ⟨A4, c4, ?_, ?_, hb4⟩
        · rw [← HE2.out, ← List.append_assoc, HLP.out, List.length_append]; rfl
        · rw [← HE2.out, ← List.append_assoc, HLP.out, List.length_append]; exact Hown4.out

/-- The call returns bytes that read as l. -/
def RetB (l : List UInt8) (w : World) (e : Ending) (w' : World) : Prop := ∃ A cap, e = .returned (.slice A l.length cap) ∧ Bytes w' A l ∧ Below w.heap.size w w'

theorem RetOwn.bytes {l : List UInt8} {w : World} {e : Ending} {w' : World} (h : RetOwn w.heap.size l w e w') : RetB l w e w' := by
  obtain ⟨A, cap, rfl, ho, hb⟩ := h
  exact ⟨A, cap, rfl, Bytes.of_own rfl ho, hb⟩

theorem int_is {l : List UInt8} {at_ N T E : Int} (h : intN l at_ = N ∧ intTo l at_ = T ∧ intE l at_ = E) (A : Option Addr) (cap : Nat) (hat : Fits at_) (w : World) (hv : Bytes w A l) (hl : l.length ≤ 100000) :
    Calls Try.prog 34 #[.slice A l.length cap, .int .i64 at_] w (Ret (.tuple #[.int .i64 N, .int .i64 T, .int .i64 E]) w) := by
  have := int_any l A cap at_ hat w hv hl
  rw [h.1, h.2.1, h.2.2] at this
  exact this

theorem put_is {l r : List UInt8} {n : Int} (h : l ++ encI n = r) (A : Option Addr) (cap : Nat) (hn : Fits n) (w : World) (hv : Bytes w A l) (hl : l.length ≤ 100000) :
    Calls Try.prog 21 #[.slice A l.length cap, .int .i64 n] w (RetB r w) := (h ▸ put_any l A cap n hn w hv hl).mono fun _ _ => RetOwn.bytes

theorem cB_drop {l r : List UInt8} {j : Nat} {c : UInt8} (h : l.drop j = c :: r) : cB l j = c.toNat ∧ l.drop (j + 1) = r ∧ j < l.length := by
  have hj : j < l.length := by
    rcases Nat.lt_or_ge j l.length with h1 | h1
    · exact h1
    · rw [List.drop_eq_nil_of_le h1] at h; cases h
  rw [List.drop_eq_getElem_cons hj] at h
  injection h with h1 h2
  exact ⟨by rw [cB_in hj, h1], h2, hj⟩

theorem encU_pos (f u : Nat) : 0 < (encU f u).length := by
  cases f with
  | zero => simp [encU]
  | succ f => rw [encU]; split <;> simp

theorem nat_u8 {u : Nat} (h : u < 256) : (UInt8.ofNat u).toNat = u := by simp; omega

/-- A number that was written, read. -/
theorem enc_read (l t : List UInt8) (a : Nat) : ∀ f u i, l.drop (a + i) = encU f u ++ t → u < 2 * 128 ^ f → f + i ≤ 9 →
    ∃ m, (encU f u).length = m + 1 ∧ kOf l a i (10 - i) = i + m ∧ cB l (a + (i + m)) < 128 ∧ a + (i + m) < l.length ∧ (1 ≤ u → 0 < cB l (a + (i + m))) ∧ (0 < m → 1 ≤ u) ∧ (i + m = 9 → f = m → cB l (a + (i + m)) ≤ 1) ∧ m ≤ f ∧ valL l a (i + m + 1) = valL l a i + u * 128 ^ i := by
  intro f
  induction f with
  | zero =>
    intro u i h hu hi
    have hu' : u < 2 := by simpa using hu
    rw [encU, List.singleton_append] at h
    obtain ⟨h1, h2, h3⟩ := cB_drop h
    rw [nat_u8 (by omega)] at h1
    refine ⟨0, by simp [encU], kOf_stop (by omega) (by omega), ?_, h3, ?_, by omega, ?_, by omega, ?_⟩
    · show cB l (a + i) < 128; omega
    · intro hp; show 0 < cB l (a + i); omega
    · intro _ _; show cB l (a + i) ≤ 1; omega
    · show valL l a (i + 1) = _
      rw [valL, h1, Nat.mod_eq_of_lt (by omega)]
  | succ f ih =>
    intro u i h hu hi
    by_cases hs : u < 128
    · rw [encU_last hs, List.singleton_append] at h
      obtain ⟨h1, h2, h3⟩ := cB_drop h
      rw [nat_u8 (by omega)] at h1
      refine ⟨0, by simp [encU_last hs], kOf_stop (by omega) (by omega), ?_, h3, ?_, by omega, ?_, by omega, ?_⟩
      · show cB l (a + i) < 128; omega
      · intro hp; show 0 < cB l (a + i); omega
      · intro h9 hf; omega
      · show valL l a (i + 1) = _
        rw [valL, h1, Nat.mod_eq_of_lt (by omega)]
    · have he : encU (f + 1) u = UInt8.ofNat (u % 128 + 128) :: encU f (u / 128) := by rw [encU, if_neg hs]
      rw [he, List.cons_append] at h
      obtain ⟨h1, h2, h3⟩ := cB_drop h
      rw [nat_u8 (by omega)] at h1
      obtain ⟨m, i1, i2, i3, i4, i5, i6, i7, i8, i9⟩ := ih (u / 128) (i + 1) (by rw [← h2]; rfl) (by rw [Nat.pow_succ] at hu; omega) (by omega)
      have e : i + (m + 1) = i + 1 + m := by omega
      refine ⟨m + 1, by rw [he, List.length_cons, i1], ?_, ?_, ?_, ?_, by omega, ?_, by omega, ?_⟩
      · rw [kOf_go (by omega) (by omega), i2, e]
      · rw [e]; exact i3
      · rw [e]; exact i4
      · intro _; rw [e]; exact i5 (by omega)
      · intro h9 hf; rw [e]; exact i7 (by omega) (by omega)
      · rw [e, i9, valL, h1, show (u % 128 + 128) % 128 = u % 128 by omega, Nat.pow_succ]
        have : u % 128 * 128 ^ i + u / 128 * (128 ^ i * 128) = u * 128 ^ i := by
          rw [Nat.mul_comm (128 ^ i) 128, ← Nat.mul_assoc, ← Nat.add_mul]
          congr 1
          omega
        omega

theorem sgn_zigzag (n : Int) : sgn (Lib.zigzag n) = n := by
  unfold sgn Lib.zigzag
  by_cases h : 0 ≤ n
  · rw [if_pos h, if_neg (by omega)]; omega
  · rw [if_neg h, if_pos (by omega)]; omega

theorem zigzag_sgn (u : Nat) : Lib.zigzag (sgn u) = u := by
  unfold sgn Lib.zigzag
  by_cases h : u % 2 = 1
  · rw [if_pos h, if_neg (by omega)]; omega
  · rw [if_neg h, if_pos (by omega)]; omega

/-- What was written at the end of p is read there, whatever follows. -/
theorem int_back (p t : List UInt8) (n : Int) (hn : Fits n) : intE (p ++ encI n ++ t) p.length = 0 ∧ intN (p ++ encI n ++ t) p.length = n ∧ intTo (p ++ encI n ++ t) p.length = ((p ++ encI n).length : Int) := by
  have hd : (p ++ encI n ++ t).drop (p.length + 0) = encU 9 (Lib.zigzag n) ++ t := by
    rw [List.append_assoc, Nat.add_zero, List.drop_append_of_le_length (Nat.le_refl _), List.drop_length, List.nil_append]
    rfl
  have hu := Lib.zigzag_lt hn.1 hn.2
  obtain ⟨m, i1, i2, i3, i4, i5, i6, i7, i8, i9⟩ := enc_read _ t p.length 9 (Lib.zigzag n) 0 hd (by rw [show (2 * 128 ^ 9 : Nat) = 18446744073709551616 by decide]; exact hu) (by omega)
  simp only [Nat.zero_add] at i2 i3 i4 i5 i7 i9
  obtain ⟨e1, e2, e3⟩ := int_ok (l := p ++ encI n ++ t) (a := p.length) (n := m) (by simp) i2 (by omega) i4 (by
    rintro (⟨h1, h2⟩ | ⟨h1, h2⟩)
    · have := i5 (i6 h1); omega
    · have := i7 h1 h1.symm; omega)
  refine ⟨e1, ?_, ?_⟩
  · rw [e2, i9]
    show sgn (0 + Lib.zigzag n * 1) = n
    rw [Nat.zero_add, Nat.mul_one, sgn_zigzag]
  · rw [e3, List.length_append]
    have : (encI n).length = m + 1 := i1
    omega

/-- A number that was cut. -/
theorem enc_cut (l : List UInt8) (a : Nat) : ∀ f u i c, l.drop (a + i) = (encU f u).take c → c < (encU f u).length → f + i ≤ 9 → kOf l a i (10 - i) = i + c := by
  intro f
  induction f with
  | zero =>
    intro u i c h hc hi
    have hc0 : c = 0 := by simpa [encU] using hc
    subst hc0
    have ho : cB l (a + i) = 0 := cB_out (by simpa using h)
    rw [kOf_stop (by omega) (by omega)]
    rfl
  | succ f ih =>
    intro u i c h hc hi
    cases c with
    | zero =>
      have ho : cB l (a + i) = 0 := cB_out (by simpa using h)
      rw [kOf_stop (by omega) (by omega)]
      rfl
    | succ c =>
      have hs : ¬ u < 128 := by intro hs; rw [encU_last hs] at hc; simp at hc
      have he : encU (f + 1) u = UInt8.ofNat (u % 128 + 128) :: encU f (u / 128) := by rw [encU, if_neg hs]
      rw [he, List.take_succ_cons] at h
      rw [he, List.length_cons] at hc
      obtain ⟨h1, h2, h3⟩ := cB_drop h
      rw [nat_u8 (by omega)] at h1
      rw [kOf_go (by omega) (by omega), ih (u / 128) (i + 1) c (by rw [← h2]; rfl) (by omega) (by omega)]
      omega

theorem int_cut (p : List UInt8) (n : Int) (c : Nat) (hc : c < (encI n).length) : intE (p ++ (encI n).take c) p.length = 4 := by
  have hd : (p ++ (encI n).take c).drop (p.length + 0) = (encU 9 (Lib.zigzag n)).take c := by
    rw [Nat.add_zero, List.drop_append_of_le_length (Nat.le_refl _), List.drop_length, List.nil_append]
    rfl
  have hk := enc_cut _ p.length 9 (Lib.zigzag n) 0 c hd hc (by omega)
  rw [Nat.zero_add] at hk
  have h10 := encI_len n
  rw [intE_in (by simp)]
  unfold errAt
  simp only [show 10 - 0 = 10 from rfl] at hk
  simp only [hk]
  rw [if_neg (by omega), if_pos (by rw [List.length_append, List.length_take]; omega)]

/-- The value of m bytes from the place i on. -/
def tail_ (l : List UInt8) (a : Nat) : Nat → Nat → Nat
  | _, 0 => 0
  | i, m + 1 => cB l (a + i) % 128 + 128 * tail_ l a (i + 1) m

theorem valL_tail (l : List UInt8) (a : Nat) : ∀ m i, valL l a (i + m) = valL l a i + 128 ^ i * tail_ l a i m
  | 0, i => by simp [tail_]
  | m + 1, i => by
    rw [show i + (m + 1) = i + 1 + m by omega, valL_tail l a m (i + 1), valL, tail_, Nat.pow_succ, Nat.mul_add, Nat.mul_assoc, Nat.mul_comm (cB l (a + i) % 128)]
    omega

theorem tail_pos (l : List UInt8) (a : Nat) : ∀ m i, 0 < cB l (a + (i + m)) → cB l (a + (i + m)) < 128 → 0 < tail_ l a i (m + 1)
  | 0, i, h, h2 => by
    rw [tail_, tail_]
    have : cB l (a + i) % 128 = cB l (a + i) := Nat.mod_eq_of_lt h2
    have h' : 0 < cB l (a + i) := h
    omega
  | m + 1, i, h, h2 => by
    have := tail_pos l a m (i + 1) (by rw [show i + 1 + m = i + (m + 1) by omega]; exact h) (by rw [show i + 1 + m = i + (m + 1) by omega]; exact h2)
    rw [tail_]
    omega

theorem kOf_all (l : List UInt8) (a : Nat) : ∀ f i k, kOf l a i f = k → k < i + f → (∀ j, i ≤ j → j < k → 128 ≤ cB l (a + j)) ∧ cB l (a + k) < 128
  | 0, i, k, h, hk => by simp [kOf] at h; omega
  | f + 1, i, k, h, hk => by
    rw [kOf] at h
    by_cases hc : 128 ≤ cB l (a + i)
    · rw [if_pos hc] at h
      obtain ⟨h1, h2⟩ := kOf_all l a f (i + 1) k h (by omega)
      refine ⟨fun j hj hjk => ?_, h2⟩
      rcases Nat.eq_or_lt_of_le hj with e | e
      · exact e ▸ hc
      · exact h1 j e hjk
    · rw [if_neg hc] at h
      subst h
      exact ⟨fun j h1 h2 => by omega, by omega⟩

theorem cB_lt (l : List UInt8) (j : Nat) : cB l j < 256 := UInt8.toNat_lt _

theorem drop_cB {l : List UInt8} {j : Nat} (h : j < l.length) : l.drop j = UInt8.ofNat (cB l j) :: l.drop (j + 1) := by
  rw [List.drop_eq_getElem_cons h, cB_in h]
  congr 1
  simp

theorem enc_again (l : List UInt8) (a : Nat) : ∀ m f i, (∀ j, i ≤ j → j < i + m → 128 ≤ cB l (a + j)) → cB l (a + (i + m)) < 128 → (0 < m → 0 < cB l (a + (i + m))) → m ≤ f → a + (i + m) < l.length →
    encU f (tail_ l a i (m + 1)) = (l.drop (a + i)).take (m + 1)
  | 0, f, i, _, h2, _, _, hin => by
    have e : tail_ l a i 1 = cB l (a + i) := by
      rw [tail_, tail_]
      have : cB l (a + i) % 128 = cB l (a + i) := Nat.mod_eq_of_lt h2
      omega
    have h2' : cB l (a + i) < 128 := h2
    rw [e, encU_last h2', drop_cB (show a + i < l.length from hin)]
    rfl
  | m + 1, f, i, h1, h2, h3, hf, hin => by
    have e : i + (m + 1) = i + 1 + m := by omega
    rw [e] at h2 h3 hin
    have ih := fun g hg => enc_again l a m g (i + 1) (fun j hj hj2 => h1 j (by omega) (by omega)) h2 (fun _ => h3 (by omega)) hg hin
    have hp := tail_pos l a m (i + 1) (h3 (by omega)) h2
    have hc := h1 i (Nat.le_refl _) (by omega)
    have hc2 := cB_lt l (a + i)
    obtain ⟨g, rfl⟩ : ∃ g, f = g + 1 := ⟨f - 1, by omega⟩
    have ht : tail_ l a i (m + 1 + 1) = cB l (a + i) % 128 + 128 * tail_ l a (i + 1) (m + 1) := rfl
    rw [drop_cB (show a + i < l.length by omega), List.take_succ_cons, encU, if_neg (by omega)]
    congr 1
    · congr 1; omega
    · rw [← Nat.add_assoc] at ih
      rw [← ih g (by omega)]
      congr 1
      omega

/-- The bytes of a number that was read are those that are written for it. -/
theorem int_again {l : List UInt8} {a : Nat} (h : intE l (a : Int) = 0) : l.take (intTo l (a : Int)).toNat = l.take a ++ encI (intN l a) := by
  have ha : a ≤ l.length := by
    unfold intE at h
    split at h
    · cases h
    · omega
  have he := h
  rw [intE_in ha] at he
  have hN : intN l a = sgn (valL l a (kOf l a 0 10 + 1)) := by unfold intN; rw [if_pos h, Int.toNat_natCast]
  have hT : intTo l a = (a : Int) + kOf l a 0 10 + 1 := by unfold intTo; rw [if_pos h, Int.toNat_natCast]
  have hk := (kOf_ge l a 10 0).2
  unfold errAt at he
  generalize hK : kOf l a 0 10 = k at *
  simp only at he
  split at he
  · cases he
  split at he
  · cases he
  split at he
  · cases he
  rename_i h1 h2 h3
  obtain ⟨k1, k2⟩ := kOf_all l a 10 0 k hK (by omega)
  have hv := valL_tail l a (k + 1) 0
  rw [Nat.zero_add] at hv
  have hv' : valL l a (k + 1) = tail_ l a 0 (k + 1) := by rw [hv]; simp [valL]
  have hag := enc_again l a k 9 0 (fun j hj hjk => k1 j hj (by omega)) (by rw [Nat.zero_add]; exact k2) (fun h0 => by rw [Nat.zero_add]; omega) (by omega) (by omega)
  rw [hN, hT, hv']
  unfold encI
  rw [zigzag_sgn, hag, show ((a : Int) + k + 1).toNat = a + (k + 1) by omega, List.take_add]
  rfl

/-- As RetB, and the capacity is no less than the length. -/
def RetC (l : List UInt8) (w : World) (e : Ending) (w' : World) : Prop := ∃ A cap, e = .returned (.slice A l.length cap) ∧ Bytes w' A l ∧ l.length ≤ cap ∧ Below w.heap.size w w'

theorem RetOwn.cap {l : List UInt8} {w : World} {e : Ending} {w' : World} (h : RetOwn w.heap.size l w e w') : RetC l w e w' := by
  obtain ⟨A, cap, rfl, ho, hb⟩ := h
  refine ⟨A, cap, rfl, Bytes.of_own rfl ho, ?_, hb⟩
  rcases ho.2 with ⟨e, h0⟩ | ⟨g, c, cur, e, _, _, hc, _⟩
  · rw [h0]; exact Nat.zero_le _
  · injection e with _ _ e3
    rw [e3]; exact hc

theorem Bytes.take_ {w : World} {A : Option Addr} {l : List UInt8} (h : Bytes w A l) (c : Nat) : Bytes w A (l.take c) :=
  ⟨by simp, fun hn => by
    obtain ⟨ad, e, hb, hc⟩ := h.2 (by rw [List.length_take] at hn; omega)
    refine ⟨ad, e, hb, fun j u hu => hc j u ?_⟩
    rw [List.map_take, List.getElem?_take] at hu
    split at hu
    · exact hu
    · cases hu⟩

theorem len_take {l : List UInt8} {c : Nat} (hc : c ≤ l.length) : (l.take c).length = c := by rw [List.length_take]; omega

theorem own_cap {w : World} {base : Nat} {e : TypeId} {size n c : Nat} {A : Option Addr} {xs : List Value} (h : w.ownsRow base e size (.slice A n c) n xs) : n ≤ c := by
  rcases h.2 with ⟨e, h0⟩ | ⟨g, c', cur, e, _, _, hc, _⟩
  · rw [h0]; exact Nat.zero_le _
  · injection e with _ _ e3
    rw [e3]; exact hc

end Go.Proofs.Ytefjjjclgcidnaa
