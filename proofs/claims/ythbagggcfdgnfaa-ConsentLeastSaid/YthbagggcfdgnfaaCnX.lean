/- slices.DeleteFunc at ints, with the closure of Days. -/
import Derived.Test.YthbagggcfdgnfaaCnW
import Derived.Laws.IdiomCopy
import Derived.Lib.LazyBuf
import Derived.Lib.SliceRun
namespace Go.Proofs.Ythbagggcfdgnfaa
open Go.RowKit

/-- What the loop knows: the row, how many numbers are kept, how many are seen. -/
def Kept (zs dk : List Int) (p : Int → Bool) (i j : Nat) : Prop := dk.length = zs.length ∧ i < j ∧ j ≤ zs.length ∧ dk.take i = (zs.take j).filter (fun x => !p x) ∧ ∀ t, j ≤ t → dk[t]? = zs[t]?
theorem Kept.keep {zs dk : List Int} {p : Int → Bool} {i j : Nat} (h : Kept zs dk p i j) (hj : j < zs.length) (hp : p zs[j] = false) : Kept zs (dk.set i zs[j]) p (i + 1) (j + 1) := by
  obtain ⟨h1, h2, h3, h4, h5⟩ := h
  refine ⟨by rw [List.length_set, h1], by omega, by omega, ?_, fun t ht => ?_⟩
  · rw [List.take_succ_eq_append_getElem (by rw [List.length_set]; omega), List.getElem_set_self, List.take_set, List.set_eq_of_length_le (by rw [List.length_take]; omega), h4, List.take_succ_eq_append_getElem hj, List.filter_append, List.filter_cons, hp]
    rfl
  · rw [List.getElem?_set_ne (by omega)]; exact h5 t (by omega)
theorem Kept.skip {zs dk : List Int} {p : Int → Bool} {i j : Nat} (h : Kept zs dk p i j) (hj : j < zs.length) (hp : p zs[j] = true) : Kept zs dk p i (j + 1) := by
  obtain ⟨h1, h2, h3, h4, h5⟩ := h
  refine ⟨h1, by omega, by omega, ?_, fun t ht => h5 t (by omega)⟩
  rw [h4, List.take_succ_eq_append_getElem hj, List.filter_append, List.filter_cons, hp]
  simp
theorem Kept.start {zs : List Int} {p : Int → Bool} {k : Nat} (hk : k < zs.length) (hp : p zs[k] = true) (hno : ∀ j (hj : j < zs.length), j < k → p zs[j] = false) : Kept zs zs p k (k + 1) := by
  refine ⟨rfl, by omega, by omega, ?_, fun t _ => rfl⟩
  rw [List.take_succ_eq_append_getElem hk, List.filter_append, List.filter_cons, hp, List.filter_eq_self.2 fun x hx => ?_]
  · simp
  · obtain ⟨j, hj, rfl⟩ := List.mem_iff_getElem.1 hx
    rw [List.length_take] at hj
    rw [List.getElem_take, hno j (by omega) (by omega)]
    rfl

/-- The call returns a slice that reads as l, and leaves what lies below B. -/
def Gives (l : List Int) (B : Nat) (w : World) (e : Ending) (w' : World) : Prop := ∃ A cap, e = .returned (.slice A l.length cap) ∧ Ints w' A l ∧ Below B w w'

set_option maxRecDepth 20000 in
set_option maxHeartbeats 2000000 in
theorem delete_any (p : Int → Bool) (b1 b2 : Addr) (zs : List Int) (A : Option Addr) (cap B : Nat) (w : World) (hown : w.ownsRow B 3 1 (.slice A zs.length cap) zs.length (zs.map (Value.int .i64))) (hl : zs.length ≤ 100000) (hp : Asks b1 b2 p B w) (hB : B ≤ w.heap.size) :
    Calls Try.prog 30 #[.slice A zs.length cap, .func (.func 32) #[] #[.pointer (some b1), .pointer (some b2)]] w (Gives (zs.filter fun x => !p x) B w) := by
  have k := index_any p b1 b2 zs A cap B w (Ints.of_own hown) hl hp hB
  go_enter Try.func30, Try.ntmps30
  go_wp2_with fail
  refine k.mono ?_
  rintro e w1 ⟨hcase, h1⟩
  have O1 := Lib.hid (own_below hown h1)
  have HB1 := Lib.hid (h1.mono hB)
  have HP := Lib.hid hp
  clear hown k hp
  rcases hcase with ⟨k, hk, rfl, hpk, hno⟩ | ⟨rfl, hno⟩
  · have HK := Lib.hid (Kept.start hk hpk hno)
    clear hpk hno
    obtain ⟨g, c', hv, hg, hlt⟩ := O1.out.form (by omega)
    injection hv with e1 e2 e3
    subst e1 e3
    have addg : ∀ t, (⟨g, 0, none⟩ : Addr).add t = ⟨g, t, none⟩ := fun t => by unfold Addr.add; split <;> simp_all
    go_wp2
    go_loopw [5, 6] (fun vi vj wr => ∃ (i j : Nat) (dk : List Int), vi = .int .i64 (i : Int) ∧ vj = .int .i64 (j : Int) ∧ Hid (Kept zs dk p i j) ∧ Hid (wr.ownsRow B 3 1 (.slice (some ⟨g, 0, none⟩) zs.length cap) zs.length (dk.map (Value.int .i64))) ∧ Hid (Below B w wr)) (fun _ vj _ => zs.length + 1 - (intOf vj).toNat)
    case atStart => exact ⟨k, k + 1, zs, rfl, by go_num, HK, O1, HB1⟩
    case round =>
      obtain ⟨i, j, dk, rfl, rfl, HKp, HO, HBw⟩ := hrel
      have hlen := HKp.out.1
      have hij := HKp.out.2.1
      have hjn := HKp.out.2.2.1
      have hcells : ∀ t (ht : t < dk.length), wr.cell? ⟨g, t, none⟩ = some (.int .i64 dk[t]) := fun t ht => by
        have o' := HO.out
        rw [← hlen] at o'
        obtain ⟨ad, e, _, hc⟩ := (Ints.of_own o').at_ ht
        injection e with e
        subst e
        rwa [addg] at hc
      have HC := Lib.hid hcells
      have hfz := HO.out.frozenAt
      have HLEN := Lib.hid hlen
      by_cases hlt : j < zs.length
      · have cj := hcells j (by omega)
        have ej : dk[j]'(by omega) = zs[j] := by
          have := HKp.out.2.2.2.2 j (Nat.le_refl _)
          rw [List.getElem?_eq_getElem (by omega), List.getElem?_eq_getElem hlt] at this
          exact Option.some.inj this
        rw [ej] at cj
        have ci := hcells i (by omega)
        have fi := hfz i
        have k1 := HP.out wr zs[j] HBw.out (Nat.le_trans hB HBw.out.size)
        obtain ⟨f, hf⟩ : ∃ f, p zs[j] = f := ⟨_, rfl⟩
        rw [hf] at k1
        have hgw : g < wr.heap.size := HO.out.form (by omega) |>.elim fun g' h => by obtain ⟨c2, hv2, _, hl2⟩ := h; injection hv2 with e1; injection e1 with e1; injection e1 with e1; subst e1; exact hl2
        rcases f with _ | _
        · have HKn := Lib.hid (HKp.out.keep hlt hf)
          clear hf hcells hfz ej
          generalize zs[j] = x at *
          generalize dk[i] = old at *
          clear hlen
          go_wp2_with fail
          refine k1.mono ?_
          rintro e w2 ⟨rfl, h2⟩
          have ci2 := ((bcell h2).1 g i hgw).trans ci
          have fi2 := ((bcell h2).2 g i hgw).trans fi
          have HO2 : Hid ((w2.setCell ⟨g, i, none⟩ (.int .i64 x)).ownsRow B 3 1 (.slice (some ⟨g, 0, none⟩) zs.length cap) zs.length ((dk.set i x).map (Value.int .i64))) := Lib.hid (by
            have := ((own_below HO.out h2).stored i (.int .i64 x)).1
            rwa [← List.map_set] at this)
          have HB2 : Hid (Below B w (w2.setCell ⟨g, i, none⟩ (.int .i64 x))) := Lib.hid ((HBw.out.trans (h2.mono (Nat.le_trans hB HBw.out.size))).setCell (p := ⟨g, i, none⟩) hg _)
          clear k1 h2
          go_wp2
          go_roundw
          case rel =>
            refine ⟨_, _, _, _, _, _, _, _, _, _, _, _, _, _, _, _, _, _, _, _, _, _, _, ⟨i + 1, j + 1, dk.set i x, ?_, ?_, HKn, HO2, HB2⟩, rfl⟩
            · go_num
            · go_num
          case measure => simp [intOf]; omega
        · have HKn := Lib.hid (HKp.out.skip hlt hf)
          clear hf hcells hfz ej ci
          generalize zs[j] = x at *
          clear hlen
          go_wp2_with fail
          refine k1.mono ?_
          rintro e w2 ⟨rfl, h2⟩
          have HO2 := Lib.hid (own_below HO.out h2)
          have HB2 : Hid (Below B w w2) := Lib.hid (HBw.out.trans (h2.mono (Nat.le_trans hB HBw.out.size)))
          clear k1 h2
          go_wp2
          go_roundw
          case rel =>
            refine ⟨_, _, _, _, _, _, _, _, _, _, _, _, _, _, _, _, _, _, _, _, _, _, _, ⟨i, j + 1, dk, ?_, ?_, HKn, HO2, HB2⟩, rfl⟩
            · rfl
            · go_num
          case measure => simp [intOf]; omega
      · obtain rfl : j = zs.length := by omega
        have hcl : ∀ ty, (Builtin.clear_ #[32] ty #[.slice (some ⟨g, i, none⟩) (zs.length - i) (cap - i)]).run Try.prog wr = .ok (.tuple #[]) (wr.setCells g i (List.replicate (zs.length - i) (.int .i64 0))) :=
          fun ty => Lib.run_clear_slice wr _ _ ty _ Try.underlying32 Try.zeroValue3 rfl rfl g i _ _ (by omega) (fun t ht => by rw [hcells (i + t) (by omega)]; rfl) (fun t ht => hfz (i + t))
        have hcap : ¬ cap = i := by have := own_cap HO.out; omega
        have hcap2 : i ≤ cap := by have := own_cap HO.out; omega
        clear hcells hfz hlen
        have HE : Hid (∃ A' cap', Ending.returned (.slice (some ⟨g, 0, none⟩) i cap) = .returned (.slice A' (zs.filter fun x => !p x).length cap') ∧ Ints (wr.setCells g i (List.replicate (zs.length - i) (.int .i64 0))) A' (zs.filter fun x => !p x) ∧ Below B w (wr.setCells g i (List.replicate (zs.length - i) (.int .i64 0)))) := Lib.hid (by
          have hf := HKp.out.2.2.2.1
          rw [List.take_length] at hf
          have hl' := HLEN.out
          have hil : (dk.take i).length = i := by rw [List.length_take]; omega
          have hgw : g < wr.heap.size := HO.out.form (by omega) |>.elim fun g' h => by obtain ⟨c2, hv2, _, hl2⟩ := h; injection hv2 with e1; injection e1 with e1; injection e1 with e1; subst e1; exact hl2
          rw [← hf]
          refine ⟨some ⟨g, 0, none⟩, cap, by rw [hil], ⟨by simp, fun hn => ⟨_, rfl, ?_, fun j u hu => ?_⟩⟩, below_setCells hg _ _ _ HBw.out⟩
          · exact Nat.lt_of_lt_of_le hgw (below_setCells (Nat.le_refl g) (List.replicate (zs.length - i) (Value.int .i64 0)) i wr (Below.refl g wr)).size
          · have hj : j < i := by
              rcases Nat.lt_or_ge j i with h | h
              · exact h
              · rw [List.getElem?_eq_none (by simp; omega)] at hu; cases hu
            rw [addg, World.cell?_setCells_out g _ _ _ _ (fun _ _ => .inl hj), HC.out j (by rw [HLEN.out]; omega)]
            rw [List.getElem?_map, List.getElem?_take, if_pos hj, List.getElem?_eq_getElem (by rw [HLEN.out]; omega)] at hu
            simpa using hu)
        go_wp2_with (simp only [hcl])
        go_ret
        exact HE.out
  · have HF : Hid ((zs.filter fun x => !p x) = zs) := Lib.hid (List.filter_eq_self.2 fun x hx => by
      obtain ⟨j, hj, rfl⟩ := List.mem_iff_getElem.1 hx
      rw [hno j hj]; rfl)
    clear hno
    go_wp2
    go_ret
    rw [HF.out]
    exact ⟨A, cap, rfl, Ints.of_own O1.out, HB1.out⟩
end Go.Proofs.Ythbagggcfdgnfaa
