/- Clusters and Equal of the reference. -/
import Derived.Test.YtmgdeckooiblaaaDoorRuE
namespace Go.Proofs.YtmgdeckooiblaaaDoor
open Go.RowKit

/-- A string's value. -/
def sv (l : List UInt8) : Value := .string ⟨l.toArray⟩
/-- A slice of strings reads as the list l. -/
def Strs (w : World) (A : Option Addr) (l : List (List UInt8)) : Prop := Reads w w.heap.size 1 A l.length (l.map sv)
theorem Strs.below {w w' : World} {A : Option Addr} {l : List (List UInt8)} (h : Strs w A l) (hb : Below w.heap.size w w') : Strs w' A l := (Reads.below h hb).more hb.size
theorem Strs.alloc {w : World} {A : Option Addr} {l : List (List UInt8)} (h : Strs w A l) (o : Obj) : Strs (w.alloc o) A l := (Reads.alloc h (Nat.le_refl _) o).more (by simp)
theorem Strs.nil_ (w : World) (A : Option Addr) : Strs w A [] := ⟨by simp, fun h => absurd h (by simp)⟩
theorem Strs.at_ {w : World} {A : Option Addr} {l : List (List UInt8)} (h : Strs w A l) {k : Nat} (hk : k < l.length) :
    ∃ ad, A = some ad ∧ ad.block < w.heap.size ∧ w.cell? (ad.add k) = some (.string ⟨l[k].toArray⟩) := by
  obtain ⟨ad, u, e, hb, hx, hc⟩ := Reads.at_ h hk
  refine ⟨ad, e, hb, ?_⟩
  rw [hc]
  simpa [hk, sv] using hx.symm
theorem Strs.new (w : World) (l : List (List UInt8)) (T : TypeId) : Strs (w.alloc (.cells (l.map sv).toArray T)) (some ⟨w.heap.size, 0, none⟩) l :=
  ⟨by simp, fun _ => ⟨_, rfl, by simp, fun j u hu => by
    rw [show ((⟨w.heap.size, 0, none⟩ : Addr).add j) = ⟨w.heap.size, j, none⟩ by unfold Addr.add; split <;> simp_all, World.cell?_alloc_at _ _ _ _ rfl]
    simpa using hu⟩⟩
theorem info_str : (Tryd.prog.info? 9).map (fun i => (i.zero, i.size, i.bytes)) = some (some (.string ⟨#[]⟩), 1, 16) := by kernel_rfl
/-- The call's own row of strings. -/
def OwnS (B : Nat) (w : World) (v : Value) (l : List (List UInt8)) : Prop := ∃ A c, v = .slice A l.length c ∧ w.ownsRow B 9 1 (.slice A l.length c) l.length (l.map sv)
theorem OwnS.mk {B : Nat} {w : World} {v : Value} {l : List (List UInt8)} {n : Nat} {xs : List Value} (h : w.ownsRow B 9 1 v n xs) (hn : n = l.length) (hx : xs = l.map sv) : OwnS B w v l := by
  obtain ⟨A, c, rfl⟩ := own_form h
  subst hn hx
  exact ⟨A, c, rfl, h⟩
theorem OwnS.strs {B : Nat} {w : World} {A : Option Addr} {l : List (List UInt8)} {n c : Nat} (h : OwnS B w (.slice A n c) l) : Strs w A l := by
  obtain ⟨A', c', e, h⟩ := h
  injection e with e1 e2 e3
  subst e1 e2 e3
  exact Reads.of_own h
theorem OwnS.nil_ (w : World) (B : Nat) : OwnS B w (.slice none 0 0) [] := ⟨none, 0, rfl, World.ownsRow_nil _ _ _ _⟩
/-- The call returns a slice of strings that reads as l. -/
def RetS (l : List (List UInt8)) (w : World) (e : Ending) (w' : World) : Prop := ∃ A cap, e = .returned (.slice A l.length cap) ∧ l.length ≤ cap ∧ Strs w' A l ∧ Below w.heap.size w w'

/-! ### Equal -/
set_option maxHeartbeats 2000000 in
theorem requal_yes (l : List (List UInt8)) (A B : Option Addr) (ca cb : Nat) (w : World) (ha : Strs w A l) (hb : Strs w B l) (hl : l.length ≤ 4000000) :
    Calls Tryd.prog 21 #[.slice A l.length ca, .slice B l.length cb] w (Ret (.bool true) w) := by
  go_enter Tryd.func21, Tryd.ntmps21
  go_wp2
  go_loopw [5] (fun i wr => ∃ k : Nat, k ≤ l.length ∧ i = .int .i64 (k : Int) ∧ Below w.heap.size w wr) (fun i _ => l.length + 1 - (intOf i).toNat)
  case atStart => exact ⟨0, by omega, rfl, Below.refl _ _⟩
  case round =>
    obtain ⟨k, hk, rfl, hbw⟩ := hrel
    by_cases h15 : k < l.length
    · obtain ⟨a1, e1, hl1, c1⟩ := (ha.below hbw).at_ h15
      obtain ⟨b1, e2, hl2, c2⟩ := (hb.below hbw).at_ h15
      subst e1 e2
      have hlt : (k : Int) < l.length := by omega
      generalize l[k] = x at *
      go_wp2
      go_quiet (fail)
      go_wp2
      go_roundw
      case rel => exact ⟨k + 1, by omega, by go_num, Below.drewN_ hbw _⟩
      case measure => simp [intOf]; omega
    · have hlt : ¬ (k : Int) < l.length := by omega
      go_wp2
      go_ret
      exact Ret.mk rfl hbw

/-! ### Clusters -/
/-- One scalar more. -/
def addLast : List (List UInt8) → List UInt8 → List (List UInt8)
  | [], e => [e]
  | [x], e => [x ++ e]
  | x :: y :: l, e => x :: addLast (y :: l) e
def cstep (out : List (List UInt8)) (p : Nat) : List (List UInt8) := if out = [] ∨ markB p = false then out ++ [enc p] else addLast out (enc p)
def clu (l : List Nat) : List (List UInt8) := l.foldl cstep []
def clV (s : List UInt8) : List (List UInt8) := clu ((pts s).getD [])
theorem addLast_append (l : List (List UInt8)) (x e : List UInt8) : addLast (l ++ [x]) e = l ++ [x ++ e] := by
  induction l with
  | nil => rfl
  | cons y l ih => cases l with
    | nil => rfl
    | cons z l => show y :: addLast ((z :: l) ++ [x]) e = _; rw [ih]; rfl
theorem clu_next {l : List Nat} {k : Nat} (hk : k < l.length) : clu (l.take (k + 1)) = cstep (clu (l.take k)) l[k] := by
  unfold clu
  rw [List.take_succ_eq_append_getElem hk, List.foldl_append]; rfl
theorem cstep_ne (out : List (List UInt8)) (p : Nat) : cstep out p ≠ [] := by
  unfold cstep
  split
  · simp
  · cases out with
    | nil => rename_i h; simp at h
    | cons x l => cases l <;> simp [addLast]
theorem clu_ne {l : List Nat} (h : l ≠ []) : clu l ≠ [] := by
  have e : l = l.dropLast ++ [l.getLast h] := (List.dropLast_concat_getLast h).symm
  rw [e]; unfold clu; rw [List.foldl_append]; exact cstep_ne _ _
theorem cstep_len (out : List (List UInt8)) (p : Nat) : (cstep out p).length ≤ out.length + 1 := by
  unfold cstep
  split
  · simp
  · have : ∀ l : List (List UInt8), ∀ e, (addLast l e).length ≤ l.length + 1 := by
      intro l e
      induction l with
      | nil => simp [addLast]
      | cons x l ih => cases l with
        | nil => simp [addLast]
        | cons y l => simp only [addLast, List.length_cons] at ih ⊢; omega
    exact this _ _
theorem cstep_sum (out : List (List UInt8)) (p : Nat) : (cstep out p).flatten.length = out.flatten.length + (enc p).length := by
  unfold cstep
  split
  · simp
  · rename_i h
    obtain ⟨l, x, rfl⟩ : ∃ l x, out = l ++ [x] := by
      have hne : out ≠ [] := fun e => h (.inl e)
      exact ⟨out.dropLast, out.getLast hne, (List.dropLast_concat_getLast hne).symm⟩
    rw [addLast_append]; simp; omega
theorem addLast_set {l : List (List UInt8)} (h : l ≠ []) (e : List UInt8) : addLast l e = l.set (l.length - 1) (l.getLast h ++ e) := by
  obtain ⟨a, x, rfl⟩ : ∃ a x, l = a ++ [x] := ⟨l.dropLast, l.getLast h, (List.dropLast_concat_getLast h).symm⟩
  rw [addLast_append]
  simp
theorem mem_flat_len {l : List (List UInt8)} {x : List UInt8} (h : x ∈ l) : x.length ≤ l.flatten.length := by
  obtain ⟨a, b, rfl⟩ := List.append_of_mem h
  simp; omega
end Go.Proofs.YtmgdeckooiblaaaDoor
