/- The reference's Points and Of. -/
import Derived.Test.YtmgdeckooiblaaaDoorRuC
import Derived.Test.YtmgdeckooiblaaaDoorAppend
namespace Go.Proofs.YtmgdeckooiblaaaDoor
open Go.RowKit

def iv (x : Int) : Value := .int .i64 x
theorem info_int : (Tryd.prog.info? 3).map (fun i => (i.zero, i.size, i.bytes)) = some (some (.int .i64 0), 1, 8) := by kernel_rfl
/-- The call's own row of ints. -/
def OwnI (B : Nat) (w : World) (v : Value) (l : List Int) : Prop := ∃ A c, v = .slice A l.length c ∧ w.ownsRow B 3 1 (.slice A l.length c) l.length (l.map iv)
theorem OwnI.mk {B : Nat} {w : World} {v : Value} {l : List Int} {n : Nat} {xs : List Value} (h : w.ownsRow B 3 1 v n xs) (hn : n = l.length) (hx : xs = l.map iv) : OwnI B w v l := by
  obtain ⟨A, c, rfl⟩ := own_form h
  subst hn hx
  exact ⟨A, c, rfl, h⟩
theorem OwnI.ints {B : Nat} {w : World} {A : Option Addr} {l : List Int} {n c : Nat} (h : OwnI B w (.slice A n c) l) : Ints w A l := by
  obtain ⟨A', c', e, h⟩ := h
  injection e with e1 e2 e3
  subst e1 e2 e3
  exact Reads.of_own h
theorem OwnI.nil_ (w : World) (B : Nat) : OwnI B w (.slice none 0 0) [] := ⟨none, 0, rfl, World.ownsRow_nil _ _ _ _⟩
/-- The call returns a slice of ints that reads as l, and a boolean. -/
def RetIB (l : List Int) (b : Bool) (w : World) (e : Ending) (w' : World) : Prop := ∃ A cap, e = .returned (.tuple #[.slice A l.length cap, .bool b]) ∧ l.length ≤ cap ∧ Ints w' A l ∧ Below w.heap.size w w'
theorem own_cap {w : World} {B n m c : Nat} {e : TypeId} {s : Nat} {A : Option Addr} {xs : List Value} (h : w.ownsRow B e s (.slice A m c) n xs) : m = n ∧ n ≤ c := by
  rcases h.2 with ⟨e1, e2⟩ | ⟨g, cap, cur, e1, _, _, hc, _⟩
  · injection e1 with a b c'
    subst b c' e2
    exact ⟨rfl, Nat.le_refl _⟩
  · injection e1 with a b c'
    subst b c'
    exact ⟨rfl, hc⟩

/-- The numbers of a string's scalars. -/
def zs (l : List Nat) : List Int := l.map fun p : Nat => (p : Int)
def ptV (s : List UInt8) : List Int := zs ((pts s).getD [])
def ptB (s : List UInt8) : Bool := (pts s).isSome
theorem pt_some {s : List UInt8} {l : List Nat} (h : pts s = some l) : ptV s = zs l ∧ ptB s = true := by unfold ptV ptB; rw [h]; exact ⟨rfl, rfl⟩
theorem pt_none {s : List UInt8} (h : pts s = none) : ptV s = [] ∧ ptB s = false := by unfold ptV ptB; rw [h]; exact ⟨rfl, rfl⟩
/-- How far the scalars have been read. -/
def PtOK (s : List UInt8) (done : List Nat) (k : Nat) : Prop := pts s = (pts (s.drop k)).map (done ++ ·)
theorem pto_start (s : List UInt8) : PtOK s [] 0 := by unfold PtOK; cases h : pts s <;> simp [h]
theorem drop_ne {s : List UInt8} {k : Nat} (hk : k < s.length) : s.drop k ≠ [] := by
  intro e; have := congrArg List.length e; rw [List.length_drop] at this; simp at this; omega
theorem pto_bad {s : List UInt8} {done : List Nat} {k : Nat} (h : PtOK s done k) (hk : k < s.length) (hg : gd (s.drop k) = none) : pts s = none := by
  unfold PtOK at h
  rw [h, pts_step (drop_ne hk), hg]; rfl
theorem pto_next {s : List UInt8} {done : List Nat} {k p n : Nat} (h : PtOK s done k) (hk : k < s.length) (hg : gd (s.drop k) = some (p, n)) : PtOK s (done ++ [p]) (k + n) := by
  unfold PtOK at h ⊢
  rw [h, pts_step (drop_ne hk), hg]
  show Option.map _ (Option.map _ (pts ((s.drop k).drop n))) = _
  rw [List.drop_drop]
  cases pts (s.drop (k + n)) <;> simp
theorem pto_done {s : List UInt8} {done : List Nat} (h : PtOK s done s.length) : pts s = some done := by
  unfold PtOK at h
  rw [h, List.drop_eq_nil_of_le (Nat.le_refl _)]; simp [pts, ptsF]
theorem gd_len {s : List UInt8} {k p n : Nat} (hk : k < s.length) (hg : gd (s.drop k) = some (p, n)) : 1 ≤ n ∧ n ≤ 4 ∧ k + n ≤ s.length ∧ scal p := by
  obtain ⟨h1, h2, h3, _⟩ := gd_some (drop_ne hk) hg
  have := enc_len p
  rw [List.length_drop] at h3
  exact ⟨by omega, by omega, by omega, h1⟩

set_option maxRecDepth 20000 in
set_option maxHeartbeats 2000000 in
theorem rpoints_any (s : List UInt8) (hl : s.length ≤ 4000000) (w : World) : Calls Tryd.prog 15 #[.string ⟨s.toArray⟩] w (RetIB (ptV s) (ptB s) w) := by
  have HN : Hid (pts s = none → ptV s = [] ∧ ptB s = false) := Lib.hid pt_none
  have HS : Hid (∀ m, pts s = some m → ptV s = zs m ∧ ptB s = true) := Lib.hid (fun m h => pt_some h)
  generalize ptV s = V at *
  generalize ptB s = B at *
  obtain ⟨i0, hi0, hz0, hz1, hz2⟩ := info_parts info_int
  go_enter Tryd.func15, Tryd.ntmps15
  go_wp2
  go_loopw [4, 5] (fun o i wr => ∃ (k : Nat) (done : List Nat), k ≤ s.length ∧ done.length ≤ k ∧ i = .int .i64 (k : Int) ∧ Hid (PtOK s done k) ∧ OwnI w.heap.size wr o (zs done) ∧ Below w.heap.size w wr) (fun _ i _ => s.length + 1 - (intOf i).toNat)
  case atStart => exact ⟨0, [], by omega, by simp, rfl, Lib.hid (pto_start s), OwnI.nil_ _ _, Below.refl _ _⟩
  case round =>
    obtain ⟨k, done, hk, hdl, rfl, HD, ⟨A3, cap, rfl, HO⟩, hbw⟩ := hrel
    replace HO := Lib.hid HO
    have hb0 := hbw.size
    by_cases hlt : k < s.length
    · have kf := first_any s k hlt hl wr
      cases hg : gd (s.drop k) with
      | none =>
        obtain ⟨e1, e2⟩ := fst_none hg
        rw [e1, e2] at kf
        obtain ⟨rfl, rfl⟩ := HN.out (pto_bad HD.out hlt hg)
        clear hg e1 e2
        go_wp2_with fail
        refine kf.mono ?_
        rintro e w1 ⟨rfl, hb1⟩
        have HB := Lib.hid (Below.step hbw hb1)
        clear hb1 kf
        go_wp2
        go_ret2
        exact ⟨none, 0, rfl, Nat.le_refl _, Ints.nil_ _ _, HB.out⟩
      | some q =>
        obtain ⟨p, n⟩ := q
        obtain ⟨e1, e2⟩ := fst_some hg
        rw [e1, e2] at kf
        obtain ⟨n1, n4, hkn, hsc⟩ := gd_len hlt hg
        have HX := Lib.hid (pto_next HD.out hlt hg)
        have hn0 : ((n : Int) == 0) = false := by rw [beq_eq_false_iff_ne]; omega
        have hzl : (zs done).length = done.length := by simp [zs]
        clear hg e1 e2 hsc
        go_wp2_with fail
        refine kf.mono ?_
        rintro e w1 ⟨rfl, hb1⟩
        have HB := Lib.hid (Below.step hbw hb1)
        have HO1 := Lib.hid (own_below HO.out hb1)
        have hzk : (zs done).length ≤ k := by omega
        clear hzl
        have hw1 := HB.out.size
        clear hb1 kf
        go_wp2_with (at_builtin; refine wpList_append_own _ rfl _ _ 24 rfl w.heap.size 3 i0 (.int .i64 0) 1 8 Tryd.underlying24 hi0 hz0 hz1 hz2 rfl (by decide) _ _ _ rfl (HO1.out.alloc _) ⟨w1.heap.size, 0, none⟩ 1 1 [.int .i64 (p : Int)] rfl rfl (cell_one_new _ _ _) (fun x hx => by simp at hx; subst hx; rfl) (by unfold maxLen; omega) (by omega) (by simp; omega) ?_; intro v4 w4 hown4 hgrow4 _)
        obtain ⟨A4, c4, rfl⟩ := own_form hown4
        have HC : Hid (Below w.heap.size w w4) := Lib.hid ((HB.out.alloc hw1 _).trans ((Below.refl _ _).grown hgrow4 (by simp; omega) (fun g hg => (HO1.out.lt g hg).1)))
        replace hown4 := Lib.hid hown4
        clear hgrow4
        go_wp2
        go_roundw
        case rel => exact ⟨k + n, done ++ [p], by omega, by simp; omega, by go_num, HX, OwnI.mk hown4.out (by simp [zs]) (by simp [zs, iv]), HC.out⟩
        case measure => simp [intOf]; omega
    · obtain rfl : k = s.length := by omega
      have hcap := (own_cap HO.out).2
      obtain ⟨rfl, rfl⟩ := HS.out done (pto_done HD.out)
      have hS : Hid (Ints wr A3 (zs done)) := Lib.hid (OwnI.ints (B := w.heap.size) ⟨A3, cap, rfl, HO.out⟩)
      go_wp2
      go_ret2
      exact ⟨A3, cap, rfl, hcap, hS.out, hbw⟩
end Go.Proofs.YtmgdeckooiblaaaDoor
