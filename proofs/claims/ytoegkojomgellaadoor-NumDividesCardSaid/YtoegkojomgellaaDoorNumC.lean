/- The reference's Sorted, Union, Minus, Both. -/
import Derived.Test.YtoegkojomgellaaDoorNumB
namespace Go.Proofs.YtoegkojomgellaaDoor
open Go.RowKit

theorem own_cap {w : World} {B : Nat} {T : TypeId} {A : Option Addr} {n c : Nat} {xs : List Value} (h : w.ownsRow B T 1 (.slice A n c) n xs) : n ≤ c := by
  rcases h.2 with ⟨e, _⟩ | ⟨g, cap, cur, e, _, _, h1, _⟩
  · injection e with _ h1 h2; omega
  · injection e with _ h1 h2; omega

/-- A slice value that is a row of the call's own, holding the numbers of s. -/
def OwnI (w : World) (B : Nat) (s : List Int) (v : Value) : Prop := ∃ A c, v = .slice A s.length c ∧ w.ownsRow B 3 1 (.slice A s.length c) s.length (s.map (Value.int .i64))
theorem OwnI.nil_ (w : World) (B : Nat) : OwnI w B [] (.slice none 0 0) := ⟨none, 0, rfl, World.ownsRow_nil _ _ _ _⟩
theorem OwnI.below {w w' : World} {B : Nat} {s : List Int} {v : Value} (h : OwnI w B s v) (hb : Below w.heap.size w w') : OwnI w' B s v :=
  let ⟨A, c, e, ho⟩ := h; ⟨A, c, e, own_below ho hb⟩
theorem OwnI.ret {w w' : World} {s : List Int} {v : Value} (h : OwnI w' w.heap.size s v) (hb : Below w.heap.size w w') : RetInts 3 s w (.returned v) w' :=
  let ⟨A, c, e, ho⟩ := h; ⟨A, c, by rw [e], ho, hb⟩

theorem fold_step {l : List Int} {acc : List Int} {k : Nat} (hk : k < l.length) : (l.take (k + 1)).foldl put acc = put ((l.take k).foldl put acc) l[k] := by
  rw [List.take_succ_eq_append_getElem hk, List.foldl_append]; rfl
theorem fold_len (l : List Int) : ∀ acc : List Int, (l.foldl put acc).length ≤ acc.length + l.length := by
  induction l with
  | nil => intro acc; simp
  | cons x l ih =>
    intro acc
    rw [List.foldl_cons]
    have := ih (put acc x)
    have := put_len acc x
    simp; omega

/-- What a loop over a list has put so far. -/
def foldN (acc l : List Int) (k : Nat) : List Int := (l.take k).foldl put acc
theorem foldN_len (acc l : List Int) (k : Nat) : (foldN acc l k).length ≤ acc.length + l.length := by
  have := fold_len (l.take k) acc
  have h : (l.take k).length ≤ l.length := List.length_take_le' _ _
  unfold foldN; omega

set_option maxRecDepth 20000 in
set_option maxHeartbeats 1000000 in
theorem rsorted_any (l : List Int) (A : Option Addr) (cap : Nat) (w : World) (ha : Ints w A l) (hl : l.length ≤ 20000) :
    Calls Tryd.prog 21 #[.slice A l.length cap] w (RetInts 3 (setOf l) w) := by
  go_enter Tryd.func21, Tryd.ntmps21
  go_wp2
  go_loopw [3, 7] (fun v i wr => ∃ k : Nat, k ≤ l.length ∧ i = .int .i64 (k : Int) ∧ OwnI wr w.heap.size (foldN [] l k) v ∧ Below w.heap.size w wr) (fun _ i _ => l.length + 1 - (intOf i).toNat)
  case atStart => exact ⟨0, by omega, rfl, OwnI.nil_ _ _, Below.refl _ _⟩
  case round =>
    obtain ⟨k, hk, rfl, ⟨A', c', rfl, hown⟩, hbw⟩ := hrel
    have HO := Lib.hid hown
    have hcap := own_cap hown
    have hi' := Ints.of_own hown
    have hfl := foldN_len [] l k
    have hsz := hbw.size
    by_cases hlt : k < l.length
    · have HF : Hid (foldN [] l (k + 1) = put (foldN [] l k) l[k]) := Lib.hid (fold_step hlt)
      obtain ⟨ad, rfl, _, c1⟩ := (ha.below hbw).at_ hlt
      simp only [List.length_nil] at hfl
      have hp := rput_any (foldN [] l k) A' c' hcap l[k] wr hi' (by omega)
      clear hown hi'
      generalize foldN [] l k = s at *
      generalize l[k] = x at *
      go_wp2_with fail
      refine hp.mono ?_
      rintro e w2 ⟨A2, c2, rfl, o2, h2⟩
      have O2 : Hid (OwnI w2 w.heap.size (foldN [] l (k + 1)) (.slice A2 (put s x).length c2)) := Lib.hid (by rw [HF.out]; exact ⟨A2, c2, rfl, o2.mono hsz⟩)
      have hb2 := Below.step hbw h2
      clear o2 hp
      go_wp2
      go_roundw
      case rel => exact ⟨k + 1, by omega, by go_num, O2.out, hb2⟩
      case measure => simp [intOf]; omega
    · have hk' : k = l.length := by omega
      have HE : Hid (foldN [] l k = setOf l) := Lib.hid (by subst hk'; unfold foldN setOf; rw [List.take_length])
      have HR : Hid (RetInts 3 (setOf l) w (.returned (.slice A' (foldN [] l k).length c')) wr) := Lib.hid (OwnI.ret (by rw [← HE.out]; exact ⟨A', c', rfl, hown⟩) hbw)
      clear hown hi' hk'
      go_wp2
      go_ret
      exact HR.out

theorem union_eq (a b : List Int) : b.foldl put (setOf a) = union a b := inc_unique (foldl_put_inc _ _ (inc_setOf a)) (inc_setOf _) fun x => by
  show x ∈ b.foldl put (setOf a) ↔ x ∈ union a b
  rw [foldl_put_mem, mem_setOf, mem_union]

set_option maxRecDepth 20000 in
set_option maxHeartbeats 1000000 in
theorem runion_any (a b : List Int) (A B : Option Addr) (ca cb : Nat) (w : World) (ha : Ints w A a) (hb : Ints w B b) (hla : a.length ≤ 20000) (hlb : b.length ≤ 20000) :
    Calls Tryd.prog 25 #[.slice A a.length ca, .slice B b.length cb] w (RetInts 3 (union a b) w) := by
  go_enter Tryd.func25, Tryd.ntmps25
  go_wp2_with fail
  refine (rsorted_any a A ca w ha hla).mono ?_
  rintro e w1 ⟨A1, c1, rfl, o1, h1⟩
  have O1 : Hid (OwnI w1 w.heap.size (foldN (setOf a) b 0) (.slice A1 (setOf a).length c1)) := Lib.hid ⟨A1, c1, rfl, o1⟩
  have hs := setOf_length_le a
  clear o1
  go_wp2
  go_loopw [5, 11] (fun v i wr => ∃ k : Nat, k ≤ b.length ∧ i = .int .i64 (k : Int) ∧ OwnI wr w.heap.size (foldN (setOf a) b k) v ∧ Below w.heap.size w wr) (fun _ i _ => b.length + 1 - (intOf i).toNat)
  case atStart => exact ⟨0, by omega, rfl, O1.out, h1⟩
  case round =>
    obtain ⟨k, hk, rfl, ⟨A', c', rfl, hown⟩, hbw⟩ := hrel
    have HO := Lib.hid hown
    have hcap := own_cap hown
    have hi' := Ints.of_own hown
    have hfl := foldN_len (setOf a) b k
    have hsz := hbw.size
    clear O1
    by_cases hlt : k < b.length
    · have HF : Hid (foldN (setOf a) b (k + 1) = put (foldN (setOf a) b k) b[k]) := Lib.hid (fold_step hlt)
      obtain ⟨ad, rfl, _, c1⟩ := (hb.below hbw).at_ hlt
      have hp := rput_any (foldN (setOf a) b k) A' c' hcap b[k] wr hi' (by omega)
      clear hown hi'
      generalize foldN (setOf a) b k = s at *
      generalize b[k] = x at *
      go_wp2_with fail
      refine hp.mono ?_
      rintro e w2 ⟨A2, c2, rfl, o2, h2⟩
      have O2 : Hid (OwnI w2 w.heap.size (foldN (setOf a) b (k + 1)) (.slice A2 (put s x).length c2)) := Lib.hid (by rw [HF.out]; exact ⟨A2, c2, rfl, o2.mono hsz⟩)
      have hb2 := Below.step hbw h2
      clear o2 hp
      go_wp2
      go_roundw
      case rel => exact ⟨k + 1, by omega, by go_num, O2.out, hb2⟩
      case measure => simp [intOf]; omega
    · have hk' : k = b.length := by omega
      have HE : Hid (foldN (setOf a) b k = union a b) := Lib.hid (by subst hk'; unfold foldN; rw [List.take_length, union_eq])
      have HR : Hid (RetInts 3 (union a b) w (.returned (.slice A' (foldN (setOf a) b k).length c')) wr) := Lib.hid (OwnI.ret (by rw [← HE.out]; exact ⟨A', c', rfl, hown⟩) hbw)
      clear hown hi' hk'
      go_wp2
      go_ret
      exact HR.out

/-- What a loop over a list has put of the numbers that pass. -/
def foldF (p : Int → Bool) (l : List Int) (k : Nat) : List Int := ((l.take k).filter p).foldl put []
theorem foldF_len (p : Int → Bool) (l : List Int) (k : Nat) : (foldF p l k).length ≤ l.length := by
  have h1 := fold_len ((l.take k).filter p) []
  have h2 : ((l.take k).filter p).length ≤ (l.take k).length := List.length_filter_le _ _
  have h3 : (l.take k).length ≤ l.length := List.length_take_le' _ _
  simp only [List.length_nil] at h1
  unfold foldF; omega
theorem foldF_yes {p : Int → Bool} {l : List Int} {k : Nat} (hk : k < l.length) (h : p l[k] = true) : foldF p l (k + 1) = put (foldF p l k) l[k] := by
  unfold foldF
  rw [List.take_succ_eq_append_getElem hk, List.filter_append, List.foldl_append]
  simp [h]
theorem foldF_no {p : Int → Bool} {l : List Int} {k : Nat} (hk : k < l.length) (h : p l[k] = false) : foldF p l (k + 1) = foldF p l k := by
  unfold foldF
  rw [List.take_succ_eq_append_getElem hk, List.filter_append, List.foldl_append]
  simp [h]
theorem foldF_all (p : Int → Bool) (l : List Int) : foldF p l l.length = setOf (l.filter p) := by unfold foldF setOf; rw [List.take_length]

set_option maxRecDepth 20000 in
set_option maxHeartbeats 2000000 in
theorem rminus_any (a b : List Int) (A B : Option Addr) (ca cb : Nat) (w : World) (ha : Ints w A a) (hb : Ints w B b) (hla : a.length ≤ 20000) (hlb : b.length ≤ 20000) :
    Calls Tryd.prog 27 #[.slice A a.length ca, .slice B b.length cb] w (RetInts 3 (minus a b) w) := by
  have hspec : Hid (foldF (fun x => !b.contains x) a a.length = minus a b) := Lib.hid (foldF_all _ _)
  have hstep := fun (k : Nat) (hk : k < a.length) (h : b.contains a[k] = false) => foldF_yes (p := fun x => !b.contains x) hk (by simp only [h]; first | done | rfl)
  have hskip := fun (k : Nat) (hk : k < a.length) (h : b.contains a[k] = !false) => foldF_no (p := fun x => !b.contains x) hk (by simp only [h]; first | done | rfl)
  have HSTEP := Lib.hid hstep
  have HSKIP := Lib.hid hskip
  have hlen := foldF_len (fun x => !b.contains x) a
  have h00 : foldF (fun x => !b.contains x) a 0 = [] := rfl
  clear hstep hskip
  generalize foldF (fun x => !b.contains x) a = S at *
  have H00 := Lib.hid h00
  have HLEN := Lib.hid hlen
  clear h00 hlen
  go_enter Tryd.func27, Tryd.ntmps27
  go_wp2
  go_loopw [5, 9] (fun v i wr => ∃ k : Nat, k ≤ a.length ∧ i = .int .i64 (k : Int) ∧ OwnI wr w.heap.size (S k) v ∧ Below w.heap.size w wr) (fun _ i _ => a.length + 1 - (intOf i).toNat)
  case atStart => exact ⟨0, by omega, rfl, by rw [H00.out]; exact OwnI.nil_ _ _, Below.refl _ _⟩
  case round =>
    obtain ⟨k, hk, rfl, ⟨A', c', rfl, hown⟩, hbw⟩ := hrel
    have HO := Lib.hid hown
    have hcap := own_cap hown
    have hi' := Ints.of_own hown
    have hfl := HLEN.out k
    have hsz := hbw.size
    by_cases hlt : k < a.length
    · obtain ⟨ad, rfl, _, c1⟩ := (ha.below hbw).at_ hlt
      have hh := rhas_any b B cb a[k] wr (hb.below hbw) (by omega)
      by_cases hc : b.contains a[k] = false
      · have HF := Lib.hid (HSTEP.out k hlt hc)
        rw [hc] at hh
        have hp := fun w' (h : Below wr.heap.size wr w') => rput_any (S k) A' c' hcap a[k] w' (hi'.below h) (by omega)
        clear hown hi' hc
        generalize S k = s at *
        have c1' := fun w' (h : Below wr.heap.size wr w') => ((ha.below (Below.step hbw h)).at_ hlt)
        generalize a[k] = x at *
        go_wp2_with fail
        refine hh.mono ?_
        rintro e w2 ⟨rfl, h2⟩
        obtain ⟨ad', e', _, c2⟩ := c1' w2 h2
        injection e' with e'
        rw [← e'] at c2
        have hp2 := hp w2 h2
        have z2 := (Below.step hbw h2).size
        clear hh c1' hp e'
        go_wp2_with fail
        refine hp2.mono ?_
        rintro e w3 ⟨A2, c3, rfl, o3, h3⟩
        have O3 : Hid (OwnI w3 w.heap.size (S (k + 1)) (.slice A2 (put s x).length c3)) := Lib.hid (by rw [HF.out]; exact ⟨A2, c3, rfl, o3.mono z2⟩)
        have hb3 := Below.step (Below.step hbw h2) h3
        clear o3 hp2
        go_wp2
        go_roundw
        case rel => exact ⟨k + 1, by omega, by go_num, O3.out, hb3⟩
        case measure => simp [intOf]; omega
      · have hc' : b.contains a[k] = !false := by simpa using hc
        have HF := Lib.hid (HSKIP.out k hlt hc')
        rw [hc'] at hh
        clear hown hi' hc hc'
        generalize a[k] = x at *
        go_wp2_with fail
        refine hh.mono ?_
        rintro e w2 ⟨rfl, h2⟩
        have O2 : Hid (OwnI w2 w.heap.size (S (k + 1)) (.slice A' (S k).length c')) := Lib.hid (by rw [HF.out]; exact ⟨A', c', rfl, own_below HO.out h2⟩)
        have hb2 := Below.step hbw h2
        clear hh
        go_wp2
        go_roundw
        case rel => exact ⟨k + 1, by omega, by go_num, O2.out, hb2⟩
        case measure => simp [intOf]; omega
    · have hk' : k = a.length := by omega
      have HR : Hid (RetInts 3 (minus a b) w (.returned (.slice A' (S k).length c')) wr) := Lib.hid (OwnI.ret (by rw [← hspec.out, ← hk']; exact ⟨A', c', rfl, hown⟩) hbw)
      clear hown hi' hk'
      go_wp2
      go_ret
      exact HR.out

set_option maxRecDepth 20000 in
set_option maxHeartbeats 2000000 in
theorem rboth_any (a b : List Int) (A B : Option Addr) (ca cb : Nat) (w : World) (ha : Ints w A a) (hb : Ints w B b) (hla : a.length ≤ 20000) (hlb : b.length ≤ 20000) :
    Calls Tryd.prog 29 #[.slice A a.length ca, .slice B b.length cb] w (RetInts 3 (both a b) w) := by
  have hspec : Hid (foldF (fun x => b.contains x) a a.length = both a b) := Lib.hid (foldF_all _ _)
  have hstep := fun (k : Nat) (hk : k < a.length) (h : b.contains a[k] = true) => foldF_yes (p := fun x => b.contains x) hk (by simp only [h]; first | done | rfl)
  have hskip := fun (k : Nat) (hk : k < a.length) (h : b.contains a[k] = !true) => foldF_no (p := fun x => b.contains x) hk (by simp only [h]; first | done | rfl)
  have HSTEP := Lib.hid hstep
  have HSKIP := Lib.hid hskip
  have hlen := foldF_len (fun x => b.contains x) a
  have h00 : foldF (fun x => b.contains x) a 0 = [] := rfl
  clear hstep hskip
  generalize foldF (fun x => b.contains x) a = S at *
  have H00 := Lib.hid h00
  have HLEN := Lib.hid hlen
  clear h00 hlen
  go_enter Tryd.func29, Tryd.ntmps29
  go_wp2
  go_loopw [5, 9] (fun v i wr => ∃ k : Nat, k ≤ a.length ∧ i = .int .i64 (k : Int) ∧ OwnI wr w.heap.size (S k) v ∧ Below w.heap.size w wr) (fun _ i _ => a.length + 1 - (intOf i).toNat)
  case atStart => exact ⟨0, by omega, rfl, by rw [H00.out]; exact OwnI.nil_ _ _, Below.refl _ _⟩
  case round =>
    obtain ⟨k, hk, rfl, ⟨A', c', rfl, hown⟩, hbw⟩ := hrel
    have HO := Lib.hid hown
    have hcap := own_cap hown
    have hi' := Ints.of_own hown
    have hfl := HLEN.out k
    have hsz := hbw.size
    by_cases hlt : k < a.length
    · obtain ⟨ad, rfl, _, c1⟩ := (ha.below hbw).at_ hlt
      have hh := rhas_any b B cb a[k] wr (hb.below hbw) (by omega)
      by_cases hc : b.contains a[k] = true
      · have HF := Lib.hid (HSTEP.out k hlt hc)
        rw [hc] at hh
        have hp := fun w' (h : Below wr.heap.size wr w') => rput_any (S k) A' c' hcap a[k] w' (hi'.below h) (by omega)
        clear hown hi' hc
        generalize S k = s at *
        have c1' := fun w' (h : Below wr.heap.size wr w') => ((ha.below (Below.step hbw h)).at_ hlt)
        generalize a[k] = x at *
        go_wp2_with fail
        refine hh.mono ?_
        rintro e w2 ⟨rfl, h2⟩
        obtain ⟨ad', e', _, c2⟩ := c1' w2 h2
        injection e' with e'
        rw [← e'] at c2
        have hp2 := hp w2 h2
        have z2 := (Below.step hbw h2).size
        clear hh c1' hp e'
        go_wp2_with fail
        refine hp2.mono ?_
        rintro e w3 ⟨A2, c3, rfl, o3, h3⟩
        have O3 : Hid (OwnI w3 w.heap.size (S (k + 1)) (.slice A2 (put s x).length c3)) := Lib.hid (by rw [HF.out]; exact ⟨A2, c3, rfl, o3.mono z2⟩)
        have hb3 := Below.step (Below.step hbw h2) h3
        clear o3 hp2
        go_wp2
        go_roundw
        case rel => exact ⟨k + 1, by omega, by go_num, O3.out, hb3⟩
        case measure => simp [intOf]; omega
      · have hc' : b.contains a[k] = !true := by simpa using hc
        have HF := Lib.hid (HSKIP.out k hlt hc')
        rw [hc'] at hh
        clear hown hi' hc hc'
        generalize a[k] = x at *
        go_wp2_with fail
        refine hh.mono ?_
        rintro e w2 ⟨rfl, h2⟩
        have O2 : Hid (OwnI w2 w.heap.size (S (k + 1)) (.slice A' (S k).length c')) := Lib.hid (by rw [HF.out]; exact ⟨A', c', rfl, own_below HO.out h2⟩)
        have hb2 := Below.step hbw h2
        clear hh
        go_wp2
        go_roundw
        case rel => exact ⟨k + 1, by omega, by go_num, O2.out, hb2⟩
        case measure => simp [intOf]; omega
    · have hk' : k = a.length := by omega
      have HR : Hid (RetInts 3 (both a b) w (.returned (.slice A' (S k).length c')) wr) := Lib.hid (OwnI.ret (by rw [← hspec.out, ← hk']; exact ⟨A', c', rfl, hown⟩) hbw)
      clear hown hi' hk'
      go_wp2
      go_ret
      exact HR.out
end Go.Proofs.YtoegkojomgellaaDoor
