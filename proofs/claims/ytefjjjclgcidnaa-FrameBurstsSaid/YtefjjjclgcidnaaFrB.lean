/- Seal. -/
import Derived.Test.YtefjjjclgcidnaaFrA
import Derived.OwnWalk
namespace Go.Proofs.Ytefjjjclgcidnaa
open Go.RowKit

/-- What comes before the checksum. -/
def sealM (k : Nat) (b : List UInt8) : List UInt8 := [76, UInt8.ofNat k] ++ encI b.length ++ b
/-- The frame. -/
def sealL (k : Nat) (b : List UInt8) : List UInt8 := sealM k b ++ tail4 (crcZ (sealM k b))
theorem sealM_len (k : Nat) (b : List UInt8) : (sealM k b).length ≤ b.length + 12 ∧ b.length + 3 ≤ (sealM k b).length := by
  have := encI_len b.length
  have := encU_pos 9 (Lib.zigzag b.length)
  unfold sealM
  simp only [List.length_append, List.length_cons, List.length_nil]
  unfold encI at *
  omega
theorem tail4_len (n : Nat) : (tail4 n).length = 4 := rfl
theorem sealL_len (k : Nat) (b : List UInt8) : (sealL k b).length = (sealM k b).length + 4 := by unfold sealL; rw [List.length_append, tail4_len]
/-- The call returns a frame and no error. -/
def RetSeal (l : List UInt8) (w : World) (e : Ending) (w' : World) : Prop :=
  ∃ A cap, e = .returned (.tuple #[.slice A l.length cap, .int .i64 0]) ∧ w'.ownsRow w.heap.size 5 1 (.slice A l.length cap) l.length (u8s l) ∧ Below w.heap.size w w'

theorem own_base {w : World} {base base' : Nat} {e : TypeId} {size n : Nat} {v : Value} {xs : List Value} (h : w.ownsRow base e size v n xs) (hb : base' ≤ base) : w.ownsRow base' e size v n xs := by
  refine ⟨h.1, ?_⟩
  rcases h.2 with h0 | ⟨g, cap, cur, h1, h2, h3⟩
  · exact .inl h0
  · exact .inr ⟨g, cap, cur, h1, Nat.le_trans hb h2, h3⟩

set_option maxRecDepth 20000 in
set_option maxHeartbeats 4000000 in
theorem seal_any (k : Nat) (hk : 1 ≤ k ∧ k ≤ 255) (b : List UInt8) (B : Option Addr) (cb : Nat) (w : World) (hb : Bytes w B b) (hl : b.length ≤ 10000) :
    Calls Try.prog 12 #[.int .i64 (k : Int), .slice B b.length cb] w (RetSeal (sealL k b) w) := by
  obtain ⟨i0, hi0, hz0, hz1, hz2⟩ := info_parts info_u8
  have h1 : ¬ ((k : Int) < 1) := by omega
  have h2 : ¬ ((255 : Int) < k) := by omega
  have h3 : ¬ ((1048576 : Int) < b.length) := by omega
  have h3' : ¬ (1048576 < b.length) := by omega
  have hd1 : decide ((k : Int) < 1) = false := by simp; omega
  have hd2 : decide ((255 : Int) < k) = false := by simp; omega
  have hkk : (k : Int) % 256 = ((UInt8.ofNat k).toNat : Int) := by rw [u8_of]
  have hkk2 : (k : Int) % 256 = (k : Int) := by omega
  go_enter Try.func12, Try.ntmps12
  have hkt : ((UInt8.ofNat k).toNat : Int) = (k : Int) := by rw [u8_of]; omega
  have hnew : Bytes (w.alloc (.cells #[.int .u8 76, .int .u8 (k : Int)] 5)) (some ⟨w.heap.size, 0, none⟩) [76, UInt8.ofNat k] := by
    have := Bytes.new w [76, UInt8.ofNat k] 5
    simp only [List.map_cons, List.map_nil, hkt] at this
    exact this
  have b0 : Below w.heap.size w (w.alloc (.cells #[.int .u8 76, .int .u8 (k : Int)] 5)) := (by repeat (first | assumption | exact Below.refl _ _ | refine Below.alloc ?_ (by first | omega | (simp; done) | (simp; omega)) _ | refine Below.setCell ?_ (by first | omega | (simp; done) | (simp; omega)) _ | refine Below.drew ?_ | refine Below.drewN_ ?_ _ | refine Below.step ?_ (by assumption)))
  have HB := Lib.hid (fun w' (h : Below w.heap.size w w') => hb.below h)
  have hP := put_any [76, UInt8.ofNat k] (some ⟨w.heap.size, 0, none⟩) 2 b.length ⟨by omega, by omega⟩ _ hnew (by simp)
  clear hkt hnew hkk hkk2
  go_wp2_with fail
  refine hP.mono ?_
  clear hP
  generalize hw0 : w.alloc (.cells #[.int .u8 76, .int .u8 (k : Int)] 5) = w0 at *
  have hs0 : w.heap.size ≤ w0.heap.size := b0.size
  clear hw0
  rintro e w1 ⟨A1, c1, rfl, hown1, hB1⟩
  have H1 := Below.step b0 hB1
  have hml := sealM_len k b
  have hM : sealM k b = [76, UInt8.ofNat k] ++ encI b.length ++ b := rfl
  have hpl : ([76, UInt8.ofNat k] ++ encI b.length).length + b.length = (sealM k b).length := by rw [hM]; simp only [List.length_append]
  have hu : u8s ([76, UInt8.ofNat k] ++ encI b.length) ++ u8s b = u8s (sealM k b) := by rw [hM]; simp [u8s]
  have hpb : ([76, UInt8.ofNat k] ++ encI b.length).length ≤ 20 := by rw [List.length_append]; have := encI_len b.length; simp; omega
  generalize [76, UInt8.ofNat k] ++ encI b.length = p at *
  have HPL := Lib.hid hpl
  have HU := Lib.hid hu
  have HML := Lib.hid hml
  clear hpl hu hml hM
  go_wp2_with (first
    | (at_builtin
       refine wpList_append_any _ rfl _ _ _ rfl w0.heap.size 5 i0 _ 1 1 Try.underlying22 hi0 hz0 hz1 hz2 rfl (by omega) _ p.length (u8s p) rfl hown1 w1.heap.size B b.length cb _ rfl (HB.out _ H1) (one_u8 b) (by simp only [maxLen]; omega) (by omega) hB1.size ?_
       intro v2 w2 hown2 hg2 hat2
       obtain ⟨A2, c2, rfl⟩ := own_form hown2
       rw [HPL.out] at hown2 ⊢))
  have hb2 : Below w0.heap.size w0 w2 := hB1.grown hg2 hB1.size (fun g hg => (hown1.lt g hg).1)
  have Hown2 : Hid (w2.ownsRow w0.heap.size 5 1 (.slice A2 (sealM k b).length c2) (sealM k b).length (u8s (sealM k b))) := Lib.hid (by rw [← HU.out]; exact hown2)
  clear hown2 hown1 hg2 hat2
  have hml := HML.out
  have hS : Hid (sealL k b = sealM k b ++ tail4 (crcZ (sealM k b))) := Lib.hid rfl
  generalize sealL k b = S at *
  generalize sealM k b = M at *
  obtain ⟨a0, a1, a2, a3, hq, hC⟩ : ∃ a0 a1 a2 a3, tail4 (crcZ M) = [a0, a1, a2, a3] ∧ Calls Try.prog 22 #[.slice A2 M.length c2] w2 (Ret (.agg #[.int .u8 (a0.toNat : Int), .int .u8 (a1.toNat : Int), .int .u8 (a2.toNat : Int), .int .u8 (a3.toNat : Int)]) w2) :=
    ⟨_, _, _, _, rfl, checksum_any M A2 c2 w2 (Bytes.of_own rfl Hown2.out) (by unfold maxLen; omega)⟩
  have HQ : Hid (S = M ++ [a0, a1, a2, a3]) := Lib.hid (by rw [hS.out, hq])
  clear hq hS
  go_wp2_with fail
  refine hC.mono ?_
  clear hC
  rintro e w3 ⟨rfl, h3⟩
  have hb3 : Below w0.heap.size w0 w3 := hb2.trans (h3.mono hb2.size)
  have Hown3 := Lib.hid (own_below Hown2.out h3)
  have hs3 := hb3.size
  have hsrc := Bytes.new w3 [a0, a1, a2, a3] 48
  go_wp2_with (first
    | (at_builtin
       refine wpList_append_any _ rfl _ _ _ rfl w0.heap.size 5 i0 _ 1 1 Try.underlying22 hi0 hz0 hz1 hz2 rfl (by omega) _ M.length (u8s M) rfl (own_below Hown3.out ((Below.refl _ _).alloc (Nat.le_refl _) _)) _ (some ⟨w3.heap.size, 0, none⟩) 4 4 _ rfl hsrc (one_u8 _) (by simp only [maxLen]; omega) (by omega) (by simp; omega) ?_
       intro v4 w4 hown4 hg4 hat4
       obtain ⟨A4, c4, rfl⟩ := own_form hown4))
  have hb4 : Below w0.heap.size w0 w4 := (hb3.alloc hs3 _).grown hg4 (by simp; omega) (fun g hg => (Hown3.out.lt g hg).1)
  have HO := Lib.hid hown4
  have H4 := Below.step b0 hb4
  have e : M.length + 4 = S.length := by rw [HQ.out]; simp
  go_ret2
  refine ⟨A4, c4, by rw [← e]; rfl, ?_, H4⟩
  rw [← e, HQ.out]
  refine own_base ?_ hs0
  have := HO.out
  simpa [u8s] using this
end Go.Proofs.Ytefjjjclgcidnaa
