/- Covers, the code's. -/
import Derived.Test.YtofnbohcofgfkaaSpG
import Derived.Shelf.SlicesQ.IndexFunc
namespace Go.Proofs.Ytofnbohcofgfkaa
open Go.RowKit Go.Shelf

theorem Structs.rowsI {w : World} {A : Option Addr} {l : List Sp} (h : Spans w A l) (hl : 0 < l.length) : ∃ b off, A = some ⟨b, off, none⟩ ∧ b < w.heap.size ∧
    ∀ j, j < l.length → ∀ i v, (encS l[j]!)[i]? = some v → w.cell? ⟨b, off + j * 2 + i, none⟩ = some v := Structs.rows h hl (fun x => by simp [encS])
/-- The closure of Covers. -/
theorem predC (x : Sp) (B : Nat) (w : World) (ht : TwoS w B x) :
    PredBelow Try.prog 43 #[.pointer (some ⟨B, 0, none⟩)] (fun u => .agg (encS u).toArray) (fun u => decide (u.f ≤ x.f) && decide (x.t ≤ u.t)) w := fun W u hb => by
  obtain ⟨hBW, c0, c1⟩ := ht.below hb
  have hne : B ≠ W.heap.size := by omega
  show Calls Try.prog 43 #[.agg #[.int .i64 u.f, .int .i64 u.t], .pointer (some ⟨B, 0, none⟩)] W _
  by_cases h1 : u.f ≤ x.f
  · go_enter Try.func43, Try.ntmps43
    go_wp2
    go_ret
    exact ⟨by simp [h1], hb.alloc hb.size _⟩
  · go_enter Try.func43, Try.ntmps43
    go_wp2
    go_ret
    exact ⟨by simp; intro; omega, hb.alloc hb.size _⟩

theorem index_nil (A : Option Addr) (cap : Nat) (f : Value) (w : World) :
    Calls Try.prog 47 #[.slice A 0 cap, f] w (Ret (.int .i64 (-1)) w) := by
  go_enter Try.func47, Try.ntmps47
  go_wp2
  go_loop [8] (fun i => i = .int .i64 0) (fun _ => 0)
  case atStart => rfl
  case round =>
    subst hrel
    go_wp2
    go_ret
    exact Ret.mk rfl (Below.refl _ _)

theorem contains_any (l : List Sp) (A : Option Addr) (cap : Nat) (x : Sp) (B : Nat) (w : World) (ha : Spans w A l) (hl : l.length ≤ 100000) (ht : TwoS w B x) :
    Calls Try.prog 42 #[.slice A l.length cap, .func (.func 43) #[] #[.pointer (some ⟨B, 0, none⟩)]] w (Ret (.bool (l.any fun u => decide (u.f ≤ x.f) && decide (x.t ≤ u.t))) w) := by
  rcases Nat.eq_zero_or_pos l.length with h0 | h0
  · obtain rfl : l = [] := List.eq_nil_of_length_eq_zero h0
    have hix := index_nil A cap (.func (.func 43) #[] #[.pointer (some ⟨B, 0, none⟩)]) w
    go_enter Try.func42, Try.ntmps42
    go_wp2_with fail
    refine hix.mono ?_
    rintro e w1 ⟨rfl, h1⟩
    clear hix
    go_wp2
    go_ret
    exact Ret.mk rfl h1
  · obtain ⟨b, off, rfl, hb, hc⟩ := Structs.rowsI ha h0
    have eg : ∀ args w, (callFunc 43 args).run Try.prog w = .ok (.enter 43 args) w := enters_of Try.func43 (by kernel_rfl) rfl
    refine (AnyQ.slices_ContainsFunc Try.cof_f42 2 isAggS sizeS encS (fun _ => rfl) (fun u => decide (u.f ≤ x.f) && decide (x.t ≤ u.t)) 43 #[.pointer (some ⟨B, 0, none⟩)] eg b off l.length cap l w
      (predC x B w ht) (Nat.le_refl _) (by omega) hb hc).mono ?_
    rintro e w' ⟨rfl, hb'⟩
    exact Ret.mk (by rw [List.take_length]) hb'

theorem covers_eq {l : List Sp} {s : Sp} (h : rt s = true) : coversB l s = (norm l).any fun u => decide (u.f ≤ s.f) && decide (s.t ≤ u.t) := by unfold coversB; rw [h, Bool.true_and]
theorem covers_not {l : List Sp} {s : Sp} (h : rt s = false) : coversB l s = false := by unfold coversB; rw [h, Bool.false_and]

set_option maxRecDepth 20000 in
set_option maxHeartbeats 4000000 in
theorem covers_any (l : List Sp) (x : Sp) (A : Option Addr) (ca : Nat) (w : World) (ha : Spans w A l) (hl : l.length ≤ 10000) :
    Calls Try.prog 28 #[.slice A l.length ca, .agg #[.int .i64 x.f, .int .i64 x.t]] w (Ret (.bool (coversB l x)) w) := by
  have k1 := fun w' => right_any x w'
  have k2 := fun w' (h : Below w.heap.size w w') => union_any l A ca w' (ha.below h) hl
  have hb0 : Hid (Below w.heap.size w (w.alloc (.cells #[.int .i64 x.f, .int .i64 x.t] 23)) ∧ TwoS (w.alloc (.cells #[.int .i64 x.f, .int .i64 x.t] 23)) w.heap.size x) := Lib.hid ⟨(by repeat (first | assumption | exact Below.refl _ _ | refine Below.alloc ?_ (by first | omega | (simp; done) | (simp; omega)) _ | refine Below.setCell ?_ (by first | omega | (simp; done) | (simp; omega)) _ | refine Below.drew ?_ | refine Below.drewN_ ?_ _ | refine Below.step ?_ (by assumption))), TwoS.new w x _⟩
  rcases hr : rt x with _ | _
  · rw [hr] at k1
    have HV := Lib.hid (covers_not (l := l) hr)
    clear hr
    go_enter Try.func28, Try.ntmps28
    go_wp2_with fail
    refine (k1 _).mono ?_
    rintro e w1 ⟨rfl, h1⟩
    have HE := Lib.hid (Below.step hb0.out.1 h1)
    clear h1 k1 k2
    go_wp2
    go_ret
    exact Ret.mk (show Value.bool false = _ by rw [HV.out]) HE.out
  · rw [hr] at k1
    have HV := Lib.hid (covers_eq (l := l) hr)
    have hnl := norm_len l
    clear hr
    generalize norm l = n at *
    go_enter Try.func28, Try.ntmps28
    go_wp2_with fail
    refine (k1 _).mono ?_
    rintro e w1 ⟨rfl, h1⟩
    have HT1 := Lib.hid (hb0.out.2.below h1)
    have HE := Lib.hid (Below.step hb0.out.1 h1)
    clear h1 k1
    go_wp2_with fail
    refine (k2 _ HE.out).mono ?_
    rintro e w2 ⟨A2, c2, rfl, ho2, h2⟩
    have HE2 := Lib.hid (Below.step HE.out h2)
    have k3 := contains_any n A2 c2 x w.heap.size w2 (Spans.of_own ho2) (by omega) (HT1.out.below h2)
    rw [← HV.out] at k3
    clear k2 ho2 h2
    go_wp2_with fail
    refine k3.mono ?_
    rintro e w3 ⟨rfl, h3⟩
    have HE3 := Lib.hid (Below.step HE2.out h3)
    clear h3 k3
    go_wp2
    go_ret
    exact Ret.mk rfl HE3.out
end Go.Proofs.Ytofnbohcofgfkaa
