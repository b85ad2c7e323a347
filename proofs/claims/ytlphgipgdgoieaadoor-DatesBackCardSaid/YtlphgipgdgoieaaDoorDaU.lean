/- Parse of the code. -/
import Derived.Test.YtlphgipgdgoieaaDoorDaS
import Derived.Test.YtlphgipgdgoieaaDoorDaQ
namespace Go.Proofs.YtlphgipgdgoieaaDoor
open Go.RowKit

theorem txt_parts {l : List UInt8} {n : Int} (h : parR l = some n) : ∃ y m d : Nat, Valid y m d ∧ n = dayN y m d ∧ l = txt y m d ∧ Lib.splitK [45] 0 3 l = [d4 y, d2 m, d2 d] ∧ numC (d4 y) = y ∧ numC (d2 m) = m ∧ numC (d2 d) = d := by
  obtain ⟨y, m, d, hv, rfl, rfl⟩ := parR_some h
  have hv' := hv
  obtain ⟨v1, v2, v3, v4, v5, v6⟩ := hv'
  have v7 := (dim_pos y m).2
  exact ⟨y, m, d, hv, rfl, rfl, split_txt (by omega) (by omega) (by omega), numC_d4 (by omega) (by omega), numC_d2 (by omega), numC_d2 (by omega)⟩
theorem parts_no {l : List UInt8} (h : (Lib.splitK [45] 0 3 l).length ≠ 3) : parR l = none := by
  cases hp : parR l with
  | none => rfl
  | some n =>
    obtain ⟨y, m, d, _, _, _, e, _⟩ := txt_parts hp
    rw [e] at h
    exact absurd rfl h
theorem parts_bad {l q0 q1 q2 : List UInt8} (hs : Lib.splitK [45] 0 3 l = [q0, q1, q2]) (h : dayB (numC q0) (numC q1) (numC q2) = false) : parR l = none := by
  cases hp : parR l with
  | none => rfl
  | some n =>
    obtain ⟨y, m, d, hv, _, _, e, e1, e2, e3⟩ := txt_parts hp
    rw [hs] at e
    injection e with a0 e
    injection e with a1 e
    injection e with a2 e
    rw [a0, a1, a2, e1, e2, e3, (day_yes hv).2] at h
    cases h
theorem parts_good {l : List UInt8} {y m d : Int} (h : dayB y m d = true) (ht : txtN (dayV y m d) = l) : parR l = some (dayV y m d) := by
  have hv : Valid y m d := of_decide_eq_true h
  rw [(day_yes hv).1] at ht ⊢
  have hr := valid_range (n := dayN y m d) ⟨hv, rfl⟩
  exact parR_iff.2 ⟨hr.1, hr.2, ht⟩
theorem parts_other {l q0 q1 q2 : List UInt8} (hs : Lib.splitK [45] 0 3 l = [q0, q1, q2]) (ht : txtN (dayV (numC q0) (numC q1) (numC q2)) ≠ l) : parR l = none := by
  cases hp : parR l with
  | none => rfl
  | some n =>
    exfalso
    obtain ⟨y, m, d, hv, rfl, hl, e, e1, e2, e3⟩ := txt_parts hp
    rw [hs] at e
    injection e with a0 e
    injection e with a1 e
    injection e with a2 e
    rw [a0, a1, a2, e1, e2, e3, (day_yes hv).1] at ht
    exact ht ((parR_iff.1 hp).2.2)
theorem splitK_le (sep : List UInt8) : ∀ (k : Nat) (l : List UInt8), ∀ q ∈ Lib.splitK sep 0 k l, q.length ≤ l.length
  | 0, l, q, h => by rw [List.mem_singleton.1 h]; exact Nat.le_refl _
  | k + 1, l, q, h => by
    have step : Lib.splitK sep 0 (k + 1) l = if Lib.index l sep == -1 then [l] else l.take ((Lib.index l sep).toNat + 0) :: Lib.splitK sep 0 k (l.drop ((Lib.index l sep).toNat + sep.length)) := rfl
    rw [step] at h
    split at h
    · rw [List.mem_singleton.1 h]; exact Nat.le_refl _
    · rcases List.mem_cons.1 h with rfl | h
      · rw [List.length_take]; omega
      · have := splitK_le sep k _ q h
        rw [List.length_drop] at this
        omega
theorem bytes_of (b : ByteArray) : b = ⟨b.data.toList.toArray⟩ := by cases b; simp

set_option maxRecDepth 20000 in
set_option maxHeartbeats 4000000 in
theorem parse_any (l : List UInt8) (hl : l.length ≤ 300) (w : World) (hL : Laid w) : Calls Tryd.prog 21 #[.string ⟨l.toArray⟩] w (Ret (.tuple #[.int .i64 (parV l), .bool (parB l)]) w) := by
  obtain ⟨mx, hmx⟩ := hL.max
  have ks := Tryd.strings_SplitN ⟨l.toArray⟩ ⟨#[45]⟩ 4 mx w (by simp [ByteArray.size]; omega) hmx (by decide) (by omega) (by omega)
  clear hmx
  by_cases h10 : l.length = 10
  rotate_left
  · have hV := Lib.hid (par_none (parR_len h10))
    have hb : ((l.length : Int) != 10) = true := by simp; omega
    clear h10
    generalize Lib.splitB _ _ _ _ = P at *
    go_enter Tryd.func21, Tryd.ntmps21
    go_wp2_with fail
    refine ks.mono ?_
    rintro e w1 ⟨rfl, hw⟩
    have hb1 : Below w.heap.size w w1 := by rw [hw]; exact (Below.refl _ _).alloc (Nat.le_refl _) _
    clear ks hw
    go_wp2
    go_ret2
    exact Ret.mk (by rw [hV.out.1, hV.out.2]; rfl) hb1
  · have hsz : (⟨l.toArray⟩ : ByteArray).size = 10 := by simp [ByteArray.size]; omega
    rw [hsz] at ks
    have hdata := Lib.splitB_data ⟨#[45]⟩ 0 3 ⟨l.toArray⟩
    have hK : ((⟨#[45]⟩ : ByteArray).data.toList = [45]) := rfl
    have hK2 : ((⟨l.toArray⟩ : ByteArray).data.toList = l) := by simp
    rw [hK, hK2] at hdata
    rw [show min 4 (10 + 1) - 1 = 3 from rfl, show min 4 (10 + 1) = 4 from rfl] at ks
    generalize Lib.splitB ⟨#[45]⟩ 0 3 ⟨l.toArray⟩ = P at *
    have hb10 : ((l.length : Int) != 10) = false := by simp; omega
    by_cases h3 : P.length = 3
    rotate_left
    · have hV := Lib.hid (par_none (parts_no (l := l) (by rw [← hdata, List.length_map]; exact h3)))
      have hb3 : ((P.length : Int) != 3) = true := by simp; omega
      clear h3 hdata
      go_enter Tryd.func21, Tryd.ntmps21
      go_wp2_with fail
      refine ks.mono ?_
      rintro e w1 ⟨rfl, hw⟩
      have hb1 : Below w.heap.size w w1 := by rw [hw]; exact (Below.refl _ _).alloc (Nat.le_refl _) _
      clear ks hw
      go_wp2
      go_ret2
      exact Ret.mk (by rw [hV.out.1, hV.out.2]; rfl) hb1
    · match P, h3 with
      | [p0, p1, p2], _ =>
        obtain ⟨q0, rfl⟩ : ∃ q : List UInt8, p0 = ⟨q.toArray⟩ := ⟨_, bytes_of p0⟩
        obtain ⟨q1, rfl⟩ : ∃ q : List UInt8, p1 = ⟨q.toArray⟩ := ⟨_, bytes_of p1⟩
        obtain ⟨q2, rfl⟩ : ∃ q : List UInt8, p2 = ⟨q.toArray⟩ := ⟨_, bytes_of p2⟩
        have hs : Lib.splitK [45] 0 3 l = [q0, q1, q2] := by rw [← hdata]; simp
        have hq := splitK_le [45] 3 l
        rw [hs] at hq
        have z0 := hq q0 (by simp)
        have z1 := hq q1 (by simp)
        have z2 := hq q2 (by simp)
        have k0 := fun w' (h : Below w.heap.size w w') => number_any q0 (by omega) w' (hL.below h)
        have k1 := fun w' (h : Below w.heap.size w w') => number_any q1 (by omega) w' (hL.below h)
        have k2 := fun w' (h : Below w.heap.size w w') => number_any q2 (by omega) w' (hL.below h)
        have kd := fun w' (h : Below w.heap.size w w') => day_any (numC q0) (numC q1) (numC q2) w' (hL.below h)
        have kt := fun w' (h : Below w.heap.size w w') => text_any (dayV (numC q0) (numC q1) (numC q2)) w' (hL.below h)
        have HB := Lib.hid (fun h => parts_bad hs h)
        have HG := Lib.hid (fun h ht => parts_good (l := l) (y := numC q0) (m := numC q1) (d := numC q2) h ht)
        have HO := Lib.hid (fun h => parts_other hs h)
        clear hdata hq z0 z1 z2 hs
        rw [show Lib.cellsOf [(⟨q0.toArray⟩ : ByteArray), ⟨q1.toArray⟩, ⟨q2.toArray⟩] 4 = #[.string ⟨q0.toArray⟩, .string ⟨q1.toArray⟩, .string ⟨q2.toArray⟩, .string ByteArray.empty] from rfl] at ks
        generalize numC q0 = n0 at *
        generalize numC q1 = n1 at *
        generalize numC q2 = n2 at *
        generalize dayV n0 n1 n2 = v at *
        generalize dayB n0 n1 n2 = b at *
        go_enter Tryd.func21, Tryd.ntmps21
        go_wp2_with fail
        refine ks.mono ?_
        rintro e w1 ⟨rfl, hw⟩
        have hb1 : Below w.heap.size w w1 := by rw [hw]; exact (Below.refl _ _).alloc (Nat.le_refl _) _
        have hz : w.heap.size < w1.heap.size := by rw [hw]; simp
        have c0 : w1.cell? ⟨w.heap.size, 0, none⟩ = some (.string ⟨q0.toArray⟩) := by rw [hw]; simp [go_sem]
        have c1 : w1.cell? ⟨w.heap.size, 1, none⟩ = some (.string ⟨q1.toArray⟩) := by rw [hw]; simp [go_sem]
        have c2 : w1.cell? ⟨w.heap.size, 2, none⟩ = some (.string ⟨q2.toArray⟩) := by rw [hw]; simp [go_sem]
        clear ks hw
        go_wp2_with fail
        refine region_past (by kernel_rfl) (by kernel_rfl) ?_
        repeat (go_big_quiet_step (first | with_reducible exact Calls.past (k0 _ (Below.step hb1 (Past.below _))) | with_reducible exact Calls.past (k1 _ (Below.step hb1 (Past.below _))) | with_reducible exact Calls.past (k2 _ (Below.step hb1 (Past.below _))) | with_reducible exact Calls.past (kd _ (Below.step hb1 (Past.below _)))))
        refine wpQuiet_nil ?_
        rintro w2 ⟨⟨_, h2⟩, rfl⟩
        have hb2 := Below.step hb1 h2
        clear h2 k0 k1 k2 kd c0 c1 c2
        rcases b with _ | _
        · have hV := Lib.hid (par_none (HB.out rfl))
          go_wp2
          go_ret2
          exact Ret.mk (by rw [hV.out.1, hV.out.2]; rfl) hb2
        · by_cases ht : txtN v = l
          · have hV := Lib.hid (par_some (HG.out rfl ht))
            rw [ht] at kt
            clear ht
            go_wp2_with fail
            refine (kt _ hb2).mono ?_
            rintro e w3 ⟨rfl, h3⟩
            have hb3 := Below.step hb2 h3
            clear h3 kt
            go_wp2
            go_ret2
            exact Ret.mk (by rw [hV.out.1, hV.out.2]; rfl) hb3
          · have hV := Lib.hid (par_none (HO.out ht))
            have hne : (txtN v == l) = false := by simpa using ht
            generalize txtN v = T at *
            clear ht
            go_wp2_with fail
            refine (kt _ hb2).mono ?_
            rintro e w3 ⟨rfl, h3⟩
            have hb3 := Below.step hb2 h3
            clear h3 kt
            go_wp2
            go_ret2
            exact Ret.mk (by rw [hV.out.1, hV.out.2]; rfl) hb3
end Go.Proofs.YtlphgipgdgoieaaDoor
