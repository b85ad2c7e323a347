/- The reference's Quote. -/
import Derived.Test.YtdjlfbfipkalbaaDoorWoA
import Derived.Test.YtdjlfbfipkalbaaDoorAppend
import Derived.WalkSpells
import Derived.Lib.LazyBuf
namespace Go.Proofs.YtdjlfbfipkalbaaDoor
open Go.RowKit

theorem Bytes.of_own {w : World} {base : Nat} {T : TypeId} {A : Option Addr} {n c : Nat} {l : List UInt8} (hn : l.length = n) (h : w.ownsRow base T 1 (.slice A n c) n (l.map fun c => Value.int .u8 c.toNat)) : Bytes w A l := by
  subst hn
  exact Reads.of_own h
theorem info_u8 : (Tryd.prog.info? 5).map (fun i => (i.zero, i.size, i.bytes)) = some (some (.int .u8 0), 1, 1) := by kernel_rfl
theorem one_u8 (l : List UInt8) : ∀ u ∈ l.map fun c => Value.int .u8 (c.toNat : Int), u.oneCell' = true := by
  intro u hu
  obtain ⟨c, _, rfl⟩ := List.mem_map.1 hu
  rfl
theorem own_empty (w : World) (T : TypeId) : (w.alloc (.cells #[] T)).ownsRow w.heap.size T 1 (.slice (some ⟨w.heap.size, 0, none⟩) 0 0) 0 [] :=
  ⟨rfl, .inr ⟨_, 0, #[], rfl, Nat.le_refl _, heap_alloc_new w _, Nat.le_refl _, by simp [maxLen], rfl, rfl⟩⟩
/-- The bytes of a list, as cells. -/
def u8s (l : List UInt8) : List Value := l.map fun c => Value.int .u8 c.toNat
/-- The call's own row of bytes. -/
def Own8 (B : Nat) (w : World) (v : Value) (l : List UInt8) : Prop := ∃ A c, v = .slice A l.length c ∧ w.ownsRow B 5 1 (.slice A l.length c) l.length (u8s l)
theorem Own8.mk {B : Nat} {w : World} {v : Value} {l : List UInt8} {n : Nat} {xs : List Value} (h : w.ownsRow B 5 1 v n xs) (hn : n = l.length) (hx : xs = u8s l) : Own8 B w v l := by
  obtain ⟨A, c, rfl⟩ := own_form h
  subst hn hx
  exact ⟨A, c, rfl, h⟩
theorem Own8.bytes {B : Nat} {w : World} {A : Option Addr} {l : List UInt8} {n c : Nat} (h : Own8 B w (.slice A n c) l) : Bytes w A l := by
  obtain ⟨A', c', e, h⟩ := h
  injection e with e1 e2 e3
  subst e1 e2 e3
  exact Bytes.of_own rfl h
theorem Own8.empty (w : World) (T : TypeId) (h : T = 5) : Own8 w.heap.size (w.alloc (.cells #[] T)) (.slice (some ⟨w.heap.size, 0, none⟩) 0 0) [] := by
  subst h
  exact ⟨_, _, rfl, own_empty w _⟩
theorem u8s_append (a b : List UInt8) : u8s (a ++ b) = u8s a ++ u8s b := by simp [u8s]
theorem reads_three (w : World) (a b c : Value) (t : TypeId) : Reads (w.alloc (.cells #[a, b, c] t)) (w.heap.size + 1) 1 (some ⟨w.heap.size, 0, none⟩) 3 [a, b, c] :=
  ⟨rfl, fun _ => ⟨_, rfl, by simp, fun j u hj => by
    match j, hj with
    | 0, hj => simp at hj; subst hj; simp [Addr.add]
    | 1, hj => simp at hj; subst hj; simp [Addr.add]
    | 2, hj => simp at hj; subst hj; simp [Addr.add]⟩⟩

/-- A byte's two digits. -/
theorem two_digits (c : UInt8) (h : plainB c = false) : ∃ a b : Nat, a < 16 ∧ b < 16 ∧ a = c.toNat / 16 ∧ b = c.toNat % 16 ∧ q1 c = [37, hx a, hx b] := by
  have := c.toNat_lt
  exact ⟨c.toNat / 16, c.toNat % 16, by omega, by omega, rfl, rfl, q1_not h⟩
theorem take_qs {s : List UInt8} {k : Nat} (hk : k < s.length) : qs (s.take (k + 1)) = qs (s.take k) ++ q1 s[k] := by
  rw [List.take_succ_eq_append_getElem hk, qs_append]; simp [qs]
theorem take_qs_len (s : List UInt8) (k : Nat) : (qs (s.take k)).length ≤ 3 * k := by
  have := (qs_len (s.take k)).2
  rw [List.length_take] at this
  omega

set_option maxRecDepth 20000 in
set_option maxHeartbeats 2000000 in
theorem rquote_any (s : List UInt8) (hl : s.length ≤ 4000000) (w : World) : Calls Tryd.prog 14 #[.string ⟨s.toArray⟩] w (Ret (.string ⟨(quote s).toArray⟩) w) := by
  by_cases h0 : s = []
  · subst h0
    go_enter Tryd.func14, Tryd.ntmps14
    go_wp2
    go_ret
    exact Ret.mk rfl (Below.refl _ _)
  have HR : Hid (quote s = qs (s.take s.length)) := Lib.hid (by unfold quote; rw [if_neg h0, List.take_length])
  generalize quote s = R at *
  have hl0 : 0 < s.length := List.length_pos_iff.2 h0
  have he : s.isEmpty = false := by simpa using h0
  clear h0
  obtain ⟨i0, hi0, hz0, hz1, hz2⟩ := info_parts info_u8
  go_enter Tryd.func14, Tryd.ntmps14
  go_wp2
  go_loopw [3, 4] (fun o i wr => ∃ k : Nat, k ≤ s.length ∧ i = .int .i64 (k : Int) ∧ Own8 w.heap.size wr o (qs (s.take k)) ∧ Below w.heap.size w wr) (fun _ i _ => s.length + 1 - (intOf i).toNat)
  case atStart => exact ⟨0, by omega, rfl, Own8.empty w _ rfl, (Below.refl _ _).alloc (Nat.le_refl _) _⟩
  case round =>
    obtain ⟨k, hk, rfl, ⟨A, cap, rfl, HO⟩, hbw⟩ := hrel
    replace HO := Lib.hid HO
    by_cases hlt : k < s.length
    · have hget : (({ data := s.toArray } : ByteArray)[k]'(show k < s.toArray.size by simpa using hlt)) = s[k] := rfl
      have HT := Lib.hid (take_qs hlt)
      have hlen := take_qs_len s k
      have hb0 := hbw.size
      generalize s[k] = c at *
      generalize qs (s.take k) = acc at *
      go_wp2_with fail
      refine (rplain_any c _).mono ?_
      rintro e w1 ⟨rfl, h1⟩
      have hb1 := Below.step hbw h1
      have HO1 := Lib.hid (own_below HO.out h1)
      have hs1 := h1.size
      clear h1
      cases hp : plainB c with
      | true =>
        have HQ := Lib.hid (q1_plain hp)
        clear hp
        go_wp2_with (at_builtin; refine wpList_append_own _ rfl _ _ 37 rfl w.heap.size 5 i0 (.int .u8 0) 1 1 Tryd.underlying37 hi0 hz0 hz1 hz2 rfl (by decide) _ _ _ rfl (HO1.out.alloc _) ⟨w1.heap.size, 0, none⟩ 1 1 [.int .u8 (c.toNat : Int)] rfl rfl (cell_one_new _ _ _) (fun x hx => by simp at hx; subst hx; rfl) (by unfold maxLen; omega) (by omega) (by simp; omega) ?_; intro v' w4 hown4 hgrow4 _)
        obtain ⟨A4, c4, rfl⟩ := own_form hown4
        have HB : Hid (Below w.heap.size w w4) := Lib.hid ((hb1.alloc hb1.size _).trans ((Below.refl _ _).grown hgrow4 (by simp; omega) (fun g hg => (HO1.out.lt g hg).1)))
        replace hown4 := Lib.hid hown4
        clear hgrow4
        go_wp2
        go_roundw
        case rel => exact ⟨k + 1, by omega, by go_num, Own8.mk hown4.out (by rw [HT.out, HQ.out]; simp) (by rw [HT.out, HQ.out, u8s_append]; rfl), HB.out⟩
        case measure => simp [intOf]; omega
      | false =>
        obtain ⟨a, b, ha, hb, ea, eb, hq⟩ := two_digits c hp
        have HQ := Lib.hid hq
        have e1 : ((c.toNat : Int)).tdiv 16 = (a : Int) := by rw [Int.tdiv_eq_ediv_of_nonneg (by omega)]; omega
        have e2 : ((c.toNat : Int)).tmod 16 = (b : Int) := by rw [Int.tmod_eq_emod_of_nonneg (by omega)]; omega
        have e3 : ((c.toNat : Int)) / 16 = (a : Int) := by omega
        have e4 : ((c.toNat : Int)) % 16 = (b : Int) := by omega
        have e5 : IntKind.u8.wrap (a : Int) = (a : Int) := by rw [IntKind.wrap_u8]; omega
        have i1 : (a : Int) < 16 := by omega
        have i2 : (b : Int) < 16 := by omega
        have x1 := hex_idx a ha
        have x2 := hex_idx b hb
        clear hp hq ea eb
        go_wp2
        go_region_law (refine step_append_any _ rfl (.tmp 24) (.tmp 31) _ rfl w.heap.size 5 i0 _ 1 1 Tryd.underlying37 hi0 hz0 hz1 hz2 rfl (by omega) _ _ _ rfl (HO1.out.alloc _) (w1.heap.size + 1) (some ⟨w1.heap.size, 0, none⟩) 3 3 [.int .u8 37, .int .u8 (hx a).toNat, .int .u8 (hx b).toNat] rfl (reads_three _ _ _ _ _) (one_u8 [37, hx a, hx b]) (by unfold maxLen; omega) (by omega) (by simp; omega) ?_; intro v' w4 hown4 hgrow4 _)
        all_goals
          obtain ⟨A4, c4, rfl⟩ := own_form hown4
          have HB : Hid (Below w.heap.size w w4) := Lib.hid ((((hb1.drew).alloc hb1.size _)).trans ((Below.refl _ _).grown hgrow4 (by simp; omega) (fun g hg => (HO1.out.lt g hg).1)))
          replace hown4 := Lib.hid hown4
          clear hgrow4
          go_wp2
          go_roundw
          case rel => exact ⟨k + 1, by omega, by go_num, Own8.mk hown4.out (by rw [HT.out, HQ.out]; simp) (by rw [HT.out, HQ.out, u8s_append]; rfl), HB.out⟩
          case measure => simp [intOf]; omega
    · obtain rfl : k = s.length := by omega
      have kc := run_bytes_string wr A (qs (s.take s.length)) cap (Own8.bytes ⟨A, cap, rfl, HO.out⟩)
      generalize qs (s.take s.length) = acc at *
      go_wp2
      go_ret
      exact Ret.mk (by rw [HR.out]; rfl) hbw
end Go.Proofs.YtdjlfbfipkalbaaDoor
