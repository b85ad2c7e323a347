/- Of, in the reference. -/
import Derived.Test.YtmgdeckooiblaaaDoorRuD
namespace Go.Proofs.YtmgdeckooiblaaaDoor
open Go.RowKit

/-- The bytes of the first k numbers. -/
def accS (l : List Int) (k : Nat) : List UInt8 := encs ((l.take k).map Int.toNat)
def ofB (l : List Int) : Bool := l.all scB
def ofV (l : List Int) : List UInt8 := if ofB l then accS l l.length else []
theorem accS_len (l : List Int) (k : Nat) (hk : k ≤ l.length) : (accS l k).length ≤ 4 * k := by
  have := (encs_len ((l.take k).map Int.toNat)).2
  rw [List.length_map, List.length_take, Nat.min_eq_left hk] at this
  exact this
theorem scal_of {p : Int} (h : scB p = true) : scal p := of_decide_eq_true h
theorem accS_next {l : List Int} {k : Nat} (hk : k < l.length) : accS l (k + 1) = accS l k ++ enc (l[k]).toNat := by
  unfold accS
  rw [List.take_succ_eq_append_getElem hk, List.map_append, encs_append]
  simp [encs]
theorem of_bad {l : List Int} {k : Nat} (hk : k < l.length) (h : scB l[k] = false) : ofV l = [] ∧ ofB l = false := by
  have e : ofB l = false := by
    unfold ofB
    rw [List.all_eq_false]
    exact ⟨l[k], List.getElem_mem hk, by rw [h]; decide⟩
  exact ⟨by unfold ofV; rw [e]; rfl, e⟩
theorem of_good {l : List Int} (h : ∀ j (hj : j < l.length), scB l[j] = true) : ofV l = accS l l.length ∧ ofB l = true := by
  have e : ofB l = true := by
    unfold ofB
    rw [List.all_eq_true]
    intro x hx
    obtain ⟨j, hj, rfl⟩ := List.getElem_of_mem hx
    exact h j hj
  exact ⟨by unfold ofV; rw [e]; rfl, e⟩

set_option maxRecDepth 20000 in
set_option maxHeartbeats 2000000 in
theorem rof_any (l : List Int) (A : Option Addr) (cap : Nat) (w : World) (ha : Ints w A l) (hl : l.length ≤ 100000) : Calls Tryd.prog 18 #[.slice A l.length cap] w (Ret (.tuple #[.string ⟨(ofV l).toArray⟩, .bool (ofB l)]) w) := by
  have HN : Hid (∀ k (hk : k < l.length), scB l[k] = false → ofV l = [] ∧ ofB l = false) := Lib.hid (fun k hk h => of_bad hk h)
  have HS : Hid ((∀ j (hj : j < l.length), scB l[j] = true) → ofV l = accS l l.length ∧ ofB l = true) := Lib.hid of_good
  generalize ofV l = V at *
  generalize ofB l = B at *
  go_enter Tryd.func18, Tryd.ntmps18
  go_wp2
  go_loopw [4, 5] (fun o i wr => ∃ (k : Nat) (t : List UInt8), k ≤ l.length ∧ t.length ≤ 4 * k ∧ i = .int .i64 (k : Int) ∧ Hid (t = accS l k) ∧ Hid (∀ j (hj : j < l.length), j < k → scB l[j] = true) ∧ o = .string ⟨t.toArray⟩ ∧ Below w.heap.size w wr) (fun _ i _ => l.length + 1 - (intOf i).toNat)
  case atStart => exact ⟨0, [], by omega, by simp, rfl, Lib.hid rfl, Lib.hid (fun j _ h => absurd h (by omega)), rfl, Below.refl _ _⟩
  case round =>
    obtain ⟨k, t, hk, htl, rfl, HD, HJ, rfl, hbw⟩ := hrel
    have hb0 := hbw.size
    by_cases hlt : k < l.length
    · obtain ⟨ad, rfl, hlb, c1⟩ := (ha.below hbw).at_ hlt
      have hltI : (k : Int) < l.length := by omega
      by_cases hsc : scB l[k] = true
      · have hs := scal_of hsc
        have ks := rscalar_any l[k] wr
        rw [hsc] at ks
        have hp : l[k] = ((l[k]).toNat : Int) := by unfold scal at hs; omega
        have HT : Hid (t ++ enc (l[k]).toNat = accS l (k + 1)) := Lib.hid (by rw [accS_next hlt, HD.out])
        have HK : Hid (∀ j (hj : j < l.length), j < k + 1 → scB l[j] = true) := Lib.hid (fun j hj h => by
          rcases Nat.lt_or_ge j k with h1 | h1
          · exact HJ.out j hj h1
          · obtain rfl : j = k := by omega
            exact hsc)
        have hel := enc_len (l[k]).toNat
        have ke : ∀ w', Calls Tryd.prog 35 #[.int .i64 l[k]] w' (Ret (.string ⟨(enc (l[k]).toNat).toArray⟩) w') := fun w' => by
          have := encoded_any (p := (l[k]).toNat) (by rw [← hp]; exact hs) w'
          rw [← hp] at this
          exact this
        clear hsc hs hp
        generalize enc (l[k]).toNat = en at *
        generalize l[k] = x at *
        go_wp2_with fail
        refine ks.mono ?_
        rintro e w1 ⟨rfl, rfl⟩
        go_wp2_with fail
        refine (ke _).mono ?_
        rintro e w2 ⟨rfl, hb2⟩
        have HB := Lib.hid (Below.step hbw hb2)
        clear hb2 ke ks
        go_wp2
        go_roundw
        case rel => exact ⟨k + 1, t ++ en, by omega, by simp; omega, by go_num, HT, HK, by congr 1, HB.out⟩
        case measure => simp [intOf]; omega
      · have hsf : scB l[k] = false := by simpa using hsc
        obtain ⟨rfl, rfl⟩ := HN.out k hlt hsf
        have ks := rscalar_any l[k] wr
        rw [hsf] at ks
        clear hsc hsf
        generalize l[k] = x at *
        go_wp2_with fail
        refine ks.mono ?_
        rintro e w1 ⟨rfl, rfl⟩
        clear ks
        go_wp2
        go_ret2
        exact Ret.mk rfl hbw
    · obtain rfl : k = l.length := by omega
      obtain ⟨rfl, rfl⟩ := HS.out (fun j hj => HJ.out j hj hj)
      have HD' := HD.out
      subst HD'
      go_wp2
      go_ret2
      exact Ret.mk rfl hbw
end Go.Proofs.YtmgdeckooiblaaaDoor
