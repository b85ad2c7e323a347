/- Person of the code and of the reference. -/
import Derived.Test.YthbagggcfdgnfaaCnM
import Derived.Test.YthbagggcfdgnfaaAppend
import Derived.Test.YthbagggcfdgnfaaShelf
namespace Go.Proofs.Ythbagggcfdgnfaa
open Go.RowKit

/-- The call returns some person, and whether one was found. -/
def RetFound (b : Bool) (w : World) (e : Ending) (w' : World) : Prop := ∃ x : Pn, e = .returned (.tuple #[.agg #[.int .i64 x.id, .string ⟨x.nm.toArray⟩, .bool x.mb], .bool b]) ∧ Below w.heap.size w w'

set_option maxHeartbeats 1000000 in
theorem rperson_any (l : List Pn) (A : Option Addr) (cap : Nat) (id : Int) (w : World) (ha : People w A l) (hl : l.length ≤ 100000) :
    Calls Try.prog 25 #[.slice A l.length cap, .int .i64 id] w (RetFound (hasP l id) w) := by
  go_enter Try.func25, Try.ntmps25
  go_wp2
  go_loop [9] (fun i => ∃ k : Nat, k ≤ l.length ∧ i = .int .i64 (k : Int) ∧ Hid (∀ j (hj : j < l.length), j < k → l[j].id ≠ id)) (fun i => l.length + 1 - (intOf i).toNat)
  case atStart => exact ⟨0, by omega, rfl, Lib.hid fun j hj h => by omega⟩
  case round =>
    obtain ⟨k, hk, rfl, HNO⟩ := hrel
    by_cases hlt : k < l.length
    · obtain ⟨ad, rfl, hb, c0, c1, c2⟩ := People.cells (ha.alloc (.cells #[.int .i64 0, .string ⟨#[]⟩, .bool false] 46)) hlt

      by_cases heq : l[k].id = id
      · have HF : Hid (hasP l id = true) := Lib.hid (hasP_at hlt heq)
        have hq : (l[k].id == id) = true := by simpa using heq
        clear heq
        go_wp2
        exact bodyPost_ret (v := .tuple #[.agg #[.int .i64 l[k].id, .string ⟨l[k].nm.toArray⟩, .bool l[k].mb], .bool true]) (by simp [results, Try.results25, go_sem]) rfl ⟨l[k], by rw [HF.out], (by repeat (first | assumption | exact Below.refl _ _ | refine Below.alloc ?_ (by first | omega | (simp; done) | (simp; omega)) _ | refine Below.setCell ?_ (by first | omega | (simp; done) | (simp; omega)) _ | refine Below.drew ?_ | refine Below.drewN_ ?_ _ | refine Below.step ?_ (by assumption)))⟩
      · have hq : (l[k].id == id) = false := by simpa using heq
        have HE := Lib.hid heq
        clear heq
        go_wp2
        go_round
        case rel => exact ⟨k + 1, by omega, by go_num, Lib.hid fun j hj h => by
          rcases Nat.lt_or_ge j k with h' | h'
          · exact HNO.out j hj h'
          · have : j = k := by omega
            subst this; exact HE.out⟩
        case measure => simp [intOf]; omega
    · have HF : Hid (hasP l id = false) := Lib.hid (hasP_no fun j hj => HNO.out j hj (by omega))
      go_wp2
      exact bodyPost_ret (v := .tuple #[.agg #[.int .i64 0, .string ⟨#[]⟩, .bool false], .bool false]) (by simp [results, Try.results25, go_sem]) rfl ⟨⟨0, [], false⟩, by rw [HF.out], (by repeat (first | assumption | exact Below.refl _ _ | refine Below.alloc ?_ (by first | omega | (simp; done) | (simp; omega)) _ | refine Below.setCell ?_ (by first | omega | (simp; done) | (simp; omega)) _ | refine Below.drew ?_ | refine Below.drewN_ ?_ _ | refine Below.step ?_ (by assumption)))⟩

theorem isAggP : ∀ w, (isAgg 46).run Try.prog w = .ok true w := fun _ => by kernel_rfl
theorem sizeP : ∀ w, (Go.sizeOf 46).run Try.prog w = .ok 3 w := fun _ => by kernel_rfl

/-- The closure of Person: 'p.Id == id', id in the cell ⟨B, 0⟩ of the caller's. -/
theorem predP (id : Int) (B : Nat) (w : World) (hB : B < w.heap.size) (hcell : w.cell? ⟨B, 0, none⟩ = some (.int .i64 id)) :
    PredBelow Try.prog 42 #[.pointer (some ⟨B, 0, none⟩)] (fun x => .agg (encP x).toArray) (fun x => x.id == id) w := fun W x hb => by
  have hc : W.cell? ⟨B, 0, none⟩ = some (.int .i64 id) := (hb.cell (p := ⟨B, 0, none⟩) hB).trans hcell
  have hBW : B < W.heap.size := Nat.lt_of_lt_of_le hB hb.size
  have hne : B ≠ W.heap.size := by omega
  show Calls Try.prog 42 #[.agg #[.int .i64 x.id, .string ⟨x.nm.toArray⟩, .bool x.mb], .pointer (some ⟨B, 0, none⟩)] W _
  go_enter Try.func42, Try.ntmps42
  go_wp2
  all_goals (go_ret; exact ⟨by simp_all, hb.alloc hb.size _⟩)

/-- The call returns the index of a person with the Id, or -1. -/
def IdxP (l : List Pn) (id : Int) (w : World) (e : Ending) (w' : World) : Prop :=
  ((∃ k, ∃ hk : k < l.length, e = .returned (.int .i64 (k : Int)) ∧ l[k].id = id) ∨ (e = .returned (.int .i64 (-1)) ∧ ∀ j (hj : j < l.length), l[j].id ≠ id)) ∧ Below w.heap.size w w'
/-- The index of the first person with the Id. -/
theorem idx_person (l : List Pn) (A : Option Addr) (cap : Nat) (id : Int) (B : Nat) (w : World) (ha : People w A l) (hl : l.length ≤ 100000) (hB : B < w.heap.size) (hcell : w.cell? ⟨B, 0, none⟩ = some (.int .i64 id)) :
    Calls Try.prog 41 #[.slice A l.length cap, .func (.func 42) #[] #[.pointer (some ⟨B, 0, none⟩)]] w (IdxP l id w) := by
  rcases Nat.eq_zero_or_pos l.length with h0 | h0
  · obtain rfl : l = [] := List.eq_nil_of_length_eq_zero h0
    go_enter Try.func41, Try.ntmps41
    go_wp2
    go_loop [8] (fun i => i = .int .i64 0) (fun _ => 0)
    case atStart => rfl
    case round =>
      subst hrel
      go_wp2
      go_ret
      exact ⟨.inr ⟨rfl, fun j hj => by simp at hj⟩, Below.refl _ _⟩
  · obtain ⟨b, off, rfl, hb, hc⟩ := Structs.rows ha h0 (fun x => by simp [encP])
    have eg : ∀ args w, (callFunc 42 args).run Try.prog w = .ok (.enter 42 args) w := enters_of Try.func42 (by kernel_rfl) rfl
    refine (AnyQ.slices_IndexFunc Try.ixf_f41 3 isAggP sizeP encP (fun _ => rfl) (fun x => x.id == id) 42 #[.pointer (some ⟨B, 0, none⟩)] eg b off l.length cap l w
      (predP id B w hB hcell) (Nat.le_refl _) (by omega) hb hc).mono ?_
    rintro e w' ⟨rfl, hb'⟩
    refine ⟨?_, hb'⟩
    by_cases hx : ∃ k, ∃ hk : k < l.length, l[k].id = id
    · have : ∃ k, (∃ hk : k < l.length, l[k].id = id) ∧ ∀ j, j < k → ¬ ∃ hj : j < l.length, l[j].id = id := by
        obtain ⟨k, hk⟩ := hx
        induction k using Nat.strongRecOn with
        | _ k ih =>
          by_cases h2 : ∃ j, j < k ∧ ∃ hj : j < l.length, l[j].id = id
          · obtain ⟨j, hjk, hj⟩ := h2
            exact ih j hjk hj
          · exact ⟨k, hk, fun j hjk hx => h2 ⟨j, hjk, hx⟩⟩
      obtain ⟨k, ⟨hk, hid⟩, hmin⟩ := this
      refine .inl ⟨k, hk, ?_, hid⟩
      rw [Lib.idxBy_hit (fun _ y => y.id == id) l l.length k default hk (Nat.le_refl _) (by simpa [hk] using hid) (fun j hj => by
        have hj' : j < l.length := by omega
        have : l[j].id ≠ id := fun h => hmin j hj ⟨hj', h⟩
        simpa [hj'] using this)]
    · have hno : ∀ j (hj : j < l.length), l[j].id ≠ id := fun j hj h => hx ⟨j, hj, h⟩
      refine .inr ⟨?_, hno⟩
      rw [Lib.idxBy_miss (fun _ y => y.id == id) l l.length default (fun j hj => by simpa [hj] using hno j hj)]

set_option maxHeartbeats 1000000 in
theorem person_any (l : List Pn) (A : Option Addr) (cap : Nat) (id : Int) (w : World) (ha : People w A l) (hl : l.length ≤ 100000) :
    Calls Try.prog 34 #[.slice A l.length cap, .int .i64 id] w (RetFound (hasP l id) w) := by
  have hix := idx_person l A cap id w.heap.size ((w.alloc (.cells #[.int .i64 id] 3)).alloc (.cells #[.int .i64 0, .string ⟨#[]⟩, .bool false] 46)) ((ha.alloc _).alloc _) hl (by simp; omega) (by rw [World.cell?_alloc_lt _ _ _ (by simp)]; simp [go_sem])
  go_enter Try.func34, Try.ntmps34
  go_wp2_with fail
  refine hix.mono ?_
  rintro e w1 ⟨hcase, h1⟩
  have z1 := h1.size
  simp at z1
  have f0 : w1.cell? ⟨w.heap.size + 1, 0, none⟩ = some (.int .i64 0) := ((bcell h1).1 _ _ (by simp)).trans (by simp [go_sem])
  have f1 : w1.cell? ⟨w.heap.size + 1, 1, none⟩ = some (.string ⟨#[]⟩) := ((bcell h1).1 _ _ (by simp)).trans (by simp [go_sem])
  have f2 : w1.cell? ⟨w.heap.size + 1, 2, none⟩ = some (.bool false) := ((bcell h1).1 _ _ (by simp)).trans (by simp [go_sem])
  have ff := (bcell h1).2 (w.heap.size + 1)
  have H1 : Below w.heap.size w w1 := (by repeat (first | assumption | exact Below.refl _ _ | refine Below.alloc ?_ (by first | omega | (simp; done) | (simp; omega)) _ | refine Below.setCell ?_ (by first | omega | (simp; done) | (simp; omega)) _ | refine Below.drew ?_ | refine Below.drewN_ ?_ _ | refine Below.step ?_ (by assumption)))
  have ha1 := ha.below H1
  clear hix h1
  rcases hcase with ⟨k, hk, rfl, hid⟩ | ⟨rfl, hno⟩
  · have HF : Hid (hasP l id = true) := Lib.hid (hasP_at hk hid)
    obtain ⟨ad, rfl, hb, c0, c1, c2⟩ := People.cells ha1 hk
    clear hid
    go_wp2
    exact bodyPost_ret (v := .tuple #[.agg #[.int .i64 l[k].id, .string ⟨l[k].nm.toArray⟩, .bool l[k].mb], .bool true]) (by simp [results, Try.results34, go_sem, f0, f1, f2]) rfl ⟨l[k], by rw [HF.out], (by repeat (first | assumption | exact Below.refl _ _ | refine Below.alloc ?_ (by first | omega | (simp; done) | (simp; omega)) _ | refine Below.setCell ?_ (by first | omega | (simp; done) | (simp; omega)) _ | refine Below.drew ?_ | refine Below.drewN_ ?_ _ | refine Below.step ?_ (by assumption)))⟩
  · have HF : Hid (hasP l id = false) := Lib.hid (hasP_no hno)
    clear hno
    go_wp2
    exact bodyPost_ret (v := .tuple #[.agg #[.int .i64 0, .string ⟨#[]⟩, .bool false], .bool false]) (by simp [results, Try.results34, go_sem, f0, f1, f2]) rfl ⟨⟨0, [], false⟩, by rw [HF.out], (by repeat (first | assumption | exact Below.refl _ _ | refine Below.alloc ?_ (by first | omega | (simp; done) | (simp; omega)) _ | refine Below.setCell ?_ (by first | omega | (simp; done) | (simp; omega)) _ | refine Below.drew ?_ | refine Below.drewN_ ?_ _ | refine Below.step ?_ (by assumption)))⟩
end Go.Proofs.Ythbagggcfdgnfaa
