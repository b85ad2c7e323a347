/- Slices of strings; the reference's Same, Text; copied, clean. -/
import Derived.Test.YtdjlfbfipkalbaaDoorWoE
import Derived.Lib.AppendStr
namespace Go.Proofs.YtdjlfbfipkalbaaDoor
open Go.RowKit

/-- A string's value. -/
def sv (l : List UInt8) : Value := .string ⟨l.toArray⟩
/-- A slice of strings reads as the list l. -/
def Strs (w : World) (A : Option Addr) (l : List (List UInt8)) : Prop := Reads w w.heap.size 1 A l.length (l.map sv)
theorem Strs.below {w w' : World} {A : Option Addr} {l : List (List UInt8)} (h : Strs w A l) (hb : Below w.heap.size w w') : Strs w' A l := (Reads.below h hb).more hb.size
theorem Strs.alloc {w : World} {A : Option Addr} {l : List (List UInt8)} (h : Strs w A l) (o : Obj) : Strs (w.alloc o) A l := (Reads.alloc h (Nat.le_refl _) o).more (by simp)
theorem Strs.nil_ (w : World) (A : Option Addr) : Strs w A [] := ⟨by simp, fun h => absurd h (by simp)⟩
theorem Strs.at_ {w : World} {A : Option Addr} {l : List (List UInt8)} (h : Strs w A l) {k : Nat} (hk : k < l.length) :
    ∃ ad, A = some ad ∧ ad.block < w.heap.size ∧ w.cell? (ad.add k) = some (.string ⟨l[k].toArray⟩) := by
  obtain ⟨ad, u, e, hb, hx, hc⟩ := Reads.at_ h hk
  refine ⟨ad, e, hb, ?_⟩
  rw [hc]
  simpa [hk, sv] using hx.symm
theorem info_str : (Tryd.prog.info? 9).map (fun i => (i.zero, i.size, i.bytes)) = some (some (.string ⟨#[]⟩), 1, 16) := by kernel_rfl
theorem one_str (l : List (List UInt8)) : ∀ u ∈ l.map sv, u.oneCell' = true := by
  intro u hu
  obtain ⟨c, _, rfl⟩ := List.mem_map.1 hu
  rfl
/-- The call's own row of strings. -/
def OwnS (B : Nat) (w : World) (v : Value) (l : List (List UInt8)) : Prop := ∃ A c, v = .slice A l.length c ∧ w.ownsRow B 9 1 (.slice A l.length c) l.length (l.map sv)
theorem OwnS.mk {B : Nat} {w : World} {v : Value} {l : List (List UInt8)} {n : Nat} {xs : List Value} (h : w.ownsRow B 9 1 v n xs) (hn : n = l.length) (hx : xs = l.map sv) : OwnS B w v l := by
  obtain ⟨A, c, rfl⟩ := own_form h
  subst hn hx
  exact ⟨A, c, rfl, h⟩
theorem OwnS.strs {B : Nat} {w : World} {A : Option Addr} {l : List (List UInt8)} {n c : Nat} (h : OwnS B w (.slice A n c) l) : Strs w A l := by
  obtain ⟨A', c', e, h⟩ := h
  injection e with e1 e2 e3
  subst e1 e2 e3
  exact Reads.of_own h
theorem OwnS.empty (w : World) (T : TypeId) (h : T = 9) : OwnS w.heap.size (w.alloc (.cells #[] T)) (.slice (some ⟨w.heap.size, 0, none⟩) 0 0) [] := by
  subst h
  exact ⟨_, _, rfl, own_empty w _⟩
/-- The call returns a slice of strings that reads as l. -/
def RetS (l : List (List UInt8)) (w : World) (e : Ending) (w' : World) : Prop := ∃ A cap, e = .returned (.slice A l.length cap) ∧ l.length ≤ cap ∧ Strs w' A l ∧ Below w.heap.size w w'
/-- .. and a boolean. -/
def RetSB (l : List (List UInt8)) (b : Bool) (w : World) (e : Ending) (w' : World) : Prop := ∃ A cap, e = .returned (.tuple #[.slice A l.length cap, .bool b]) ∧ l.length ≤ cap ∧ Strs w' A l ∧ Below w.heap.size w w'
theorem own_cap {w : World} {B n m c : Nat} {e : TypeId} {s : Nat} {A : Option Addr} {xs : List Value} (h : w.ownsRow B e s (.slice A m c) n xs) : m = n ∧ n ≤ c := by
  rcases h.2 with ⟨e1, e2⟩ | ⟨g, cap, cur, e1, _, _, hc, _⟩
  · injection e1 with a b c'
    subst b c' e2
    exact ⟨rfl, Nat.le_refl _⟩
  · injection e1 with a b c'
    subst b c'
    exact ⟨rfl, hc⟩

/-! ### Same -/
set_option maxHeartbeats 2000000 in
/-- Same of two lists that are the same. -/
theorem rsame_yes (l : List (List UInt8)) (A B : Option Addr) (ca cb : Nat) (w : World) (ha : Strs w A l) (hb : Strs w B l) (hl : l.length ≤ 4000000) :
    Calls Tryd.prog 24 #[.slice A l.length ca, .slice B l.length cb] w (Ret (.bool true) w) := by
  go_enter Tryd.func24, Tryd.ntmps24
  go_wp2
  go_loopw [5] (fun i wr => ∃ k : Nat, k ≤ l.length ∧ i = .int .i64 (k : Int) ∧ Below w.heap.size w wr) (fun i _ => l.length + 1 - (intOf i).toNat)
  case atStart => exact ⟨0, by omega, rfl, Below.refl _ _⟩
  case round =>
    obtain ⟨k, hk, rfl, hbw⟩ := hrel
    by_cases h15 : k < l.length
    · obtain ⟨a1, e1, hl1, c1⟩ := (ha.below hbw).at_ h15
      obtain ⟨b1, e2, hl2, c2⟩ := (hb.below hbw).at_ h15
      subst e1 e2
      have hlt : (k : Int) < l.length := by omega
      generalize l[k] = x at *
      go_wp2
      go_quiet (fail)
      go_wp2
      go_roundw
      case rel => exact ⟨k + 1, by omega, by go_num, Below.drewN_ hbw _⟩
      case measure => simp [intOf]; omega
    · have hlt : ¬ (k : Int) < l.length := by omega
      go_wp2
      go_ret
      exact Ret.mk rfl hbw

/-! ### Text of the reference -/
theorem text_take {l : List (List UInt8)} {k : Nat} (hk : k < l.length) : textL (l.take (k + 1)) = textL (l.take k) ++ l[k] ++ [10] := by
  rw [List.take_succ_eq_append_getElem hk, text_append]; simp [textL]
theorem text_take_len (l : List (List UInt8)) (k : Nat) : (textL (l.take k)).length ≤ (textL l).length := by
  conv => rhs; rw [← List.take_append_drop k l, text_append, List.length_append]
  omega
theorem text_len (l : List (List UInt8)) : l.length ≤ (textL l).length := by
  induction l with
  | nil => simp
  | cons a l ih => show _ ≤ (a ++ [10] ++ textL l).length; simp; omega
theorem text_at {l : List (List UInt8)} {k : Nat} (hk : k < l.length) : l[k].length ≤ (textL l).length := by
  have h1 := text_take hk
  have h2 := text_take_len l (k + 1)
  rw [h1] at h2
  simp at h2
  omega
theorem strCells_u8s (x : List UInt8) : Lib.strCells ⟨x.toArray⟩ = u8s x := by simp [Lib.strCells, u8s]

set_option maxRecDepth 20000 in
set_option maxHeartbeats 2000000 in
theorem rtext_any (l : List (List UInt8)) (A : Option Addr) (ca : Nat) (w : World) (ha : Strs w A l) (hl : (textL l).length ≤ 4000000) :
    Calls Tryd.prog 28 #[.slice A l.length ca] w (Ret (.string ⟨(textL l).toArray⟩) w) := by
  have hl1 := text_len l
  have HR : Hid (textL l = textL (l.take l.length)) := Lib.hid (by rw [List.take_length])
  have HL := Lib.hid (text_take_len l)
  have HAT := Lib.hid (fun k (hk : k < l.length) => text_at hk)
  generalize textL l = R at *
  obtain ⟨i0, hi0, hz0, hz1, hz2⟩ := info_parts info_u8
  go_enter Tryd.func28, Tryd.ntmps28
  go_wp2
  go_loopw [3, 4] (fun o i wr => ∃ k : Nat, k ≤ l.length ∧ i = .int .i64 (k : Int) ∧ Own8 w.heap.size wr o (textL (l.take k)) ∧ Below w.heap.size w wr) (fun _ i _ => l.length + 1 - (intOf i).toNat)
  case atStart => exact ⟨0, by omega, rfl, Own8.empty w _ rfl, (Below.refl _ _).alloc (Nat.le_refl _) _⟩
  case round =>
    obtain ⟨k, hk, rfl, ⟨A3, cap, rfl, HO⟩, hbw⟩ := hrel
    replace HO := Lib.hid HO
    have hb0 := hbw.size
    by_cases hlt : k < l.length
    · obtain ⟨ad, rfl, hz9, c1⟩ := (ha.below hbw).at_ hlt
      have HT := Lib.hid (text_take hlt)
      have hlen := HL.out k
      have hxl := HAT.out k hlt
      generalize l[k] = x at *
      generalize textL (l.take k) = acc at *
      have hsx : (⟨x.toArray⟩ : ByteArray).size = x.length := by simp [ByteArray.size]
      go_wp2_with (first
        | (at_builtin; refine Lib.wpList_append_own_string _ rfl _ _ 37 9 rfl w.heap.size 5 i0 Tryd.underlying37 Tryd.underlying9 hi0 hz0 hz1 hz2 _ _ _ rfl HO.out ⟨x.toArray⟩ rfl (by rw [hsx]; unfold maxLen; omega) (by rw [hsx]; omega) (by omega) ?_; intro v4 w4 hown4 hgrow4 _; obtain ⟨A4, c4, rfl⟩ := own_form hown4; have HB : Hid (Below w.heap.size w w4) := Lib.hid (hbw.grown hgrow4 (by omega) (fun g hg => (HO.out.lt g hg).1)); have hb4 := HB.out.size; replace hown4 := Lib.hid hown4; rw [hsx] at hown4 ⊢; clear hgrow4 c1)
        | (at_builtin; refine wpList_append_own _ rfl _ _ 37 rfl w.heap.size 5 i0 (.int .u8 0) 1 1 Tryd.underlying37 hi0 hz0 hz1 hz2 rfl (by decide) _ _ _ rfl (hown4.out.alloc _) ⟨w4.heap.size, 0, none⟩ 1 1 [.int .u8 10] rfl rfl (cell_one_new _ _ _) (fun x hx => by simp at hx; subst hx; rfl) (by unfold maxLen; omega) (by omega) (by simp; omega) ?_; intro v5 w5 hown5 hgrow5 _))
      obtain ⟨A5, c5, rfl⟩ := own_form hown5
      have HB5 : Hid (Below w.heap.size w w5) := Lib.hid ((HB.out.alloc hb4 _).trans ((Below.refl _ _).grown hgrow5 (by simp; omega) (fun g hg => (hown4.out.lt g hg).1)))
      replace hown5 := Lib.hid hown5
      clear hgrow5
      go_wp2
      go_roundw
      case rel => exact ⟨k + 1, by omega, by go_num, Own8.mk hown5.out (by rw [HT.out]; simp; omega) (by rw [HT.out, u8s_append, u8s_append, strCells_u8s]; rfl), HB5.out⟩
      case measure => simp [intOf]; omega
    · obtain rfl : k = l.length := by omega
      have kc := run_bytes_string wr A3 _ cap (Own8.bytes ⟨A3, cap, rfl, HO.out⟩)
      generalize textL (l.take l.length) = acc at *
      go_wp2
      go_ret
      exact Ret.mk (by rw [HR.out]; rfl) hbw
end Go.Proofs.YtdjlfbfipkalbaaDoor
