/- Text of the code; copied; clean; Join of the reference. -/
import Derived.Test.YtdjlfbfipkalbaaDoorWoG
namespace Go.Proofs.YtdjlfbfipkalbaaDoor
open Go.RowKit

set_option maxRecDepth 20000 in
set_option maxHeartbeats 2000000 in
theorem text_any (l : List (List UInt8)) (A : Option Addr) (ca : Nat) (w : World) (ha : Strs w A l) (hl : (textL l).length ≤ 4000000) :
    Calls Tryd.prog 27 #[.slice A l.length ca] w (Ret (.string ⟨(textL l).toArray⟩) w) := by
  have hl1 := text_len l
  have HR : Hid (textL l = textL (l.take l.length)) := Lib.hid (by rw [List.take_length])
  have HL := Lib.hid (text_take_len l)
  have HAT := Lib.hid (fun k (hk : k < l.length) => text_at hk)
  generalize textL l = R at *
  go_enter Tryd.func27, Tryd.ntmps27
  go_wp2
  go_loopw [8] (fun i wr => ∃ k : Nat, k ≤ l.length ∧ i = .int .i64 (k : Int) ∧ Bld w.heap.size w.heap.size (textL (l.take k)) wr ∧ Below w.heap.size w wr) (fun i _ => l.length + 1 - (intOf i).toNat)
  case atStart => exact ⟨0, by omega, rfl, Bld.new w, (Below.refl _ _).alloc (Nat.le_refl _) _⟩
  case round =>
    obtain ⟨k, hk, rfl, HO, hbw⟩ := hrel
    replace HO := Lib.hid HO
    have hb0 := hbw.size
    by_cases hlt : k < l.length
    · obtain ⟨ad, rfl, hz9, c1⟩ := (ha.below hbw).at_ hlt
      have HT := Lib.hid (text_take hlt)
      have hlen := HL.out k
      have hxl := HAT.out k hlt
      generalize l[k] = x at *
      generalize textL (l.take k) = acc at *
      go_wp2_with fail
      refine (put_string _ _ acc x _ HO.out (by omega) hb0).mono ?_
      rintro e w1 ⟨rfl, O1, h1⟩
      replace O1 := Lib.hid O1
      have hb1 := hbw.trans h1
      clear h1
      go_wp2_with fail
      refine (put_lit _ _ (acc ++ x) 10 _ rfl _ O1.out (by simp; omega) hb1.size).mono ?_
      rintro e w2 ⟨rfl, O2, h2⟩
      replace O2 := Lib.hid O2
      have hb2 := hb1.trans h2
      clear h2
      go_wp2
      go_roundw
      case rel => exact ⟨k + 1, by omega, by go_num, by rw [HT.out]; exact O2.out, hb2⟩
      case measure => simp [intOf]; omega
    · obtain rfl : k = l.length := by omega
      generalize textL (l.take l.length) = acc at *
      go_wp2_with fail
      refine (bld_string _ _ acc _ HO.out hb0).mono ?_
      rintro e w2 ⟨rfl, h2⟩
      have hb2 := hbw.trans h2
      go_wp2
      go_ret
      exact Ret.mk (by rw [HR.out]; rfl) hb2

set_option maxHeartbeats 1000000 in
theorem copied_any (l : List (List UInt8)) (A : Option Addr) (cap : Nat) (w : World) (hv : Strs w A l) (hl : l.length ≤ 4000000) :
    Calls Tryd.prog 20 #[.slice A l.length cap] w (RetS l w) := by
  obtain ⟨i0, hi0, hz0, hz1, hz2⟩ := info_parts info_str
  go_enter Tryd.func20, Tryd.ntmps20
  go_wp2_with (at_builtin; refine wpList_append_any _ rfl _ _ _ rfl w.heap.size 9 i0 _ 1 16 Tryd.underlying28 hi0 hz0 hz1 hz2 rfl (by omega) _ 0 [] rfl (own_empty w _) w.heap.size A l.length cap _ rfl (Reads.alloc hv (Nat.le_refl _) _) (one_str l) (by simp only [maxLen]; omega) (by omega) (by simp) ?_; intro v1 w1 hown1 hg1 hat1)
  obtain ⟨A1, c1, rfl⟩ := own_form hown1
  have hB : Below w.heap.size w w1 := ((Below.refl _ _).alloc (Nat.le_refl _) _).trans ((Below.refl _ _).grown hg1 (by simp) (fun k hk => by have h : some w.heap.size = some k := hk; injection h with h; omega))
  have HO : Hid (OwnS w.heap.size w1 (.slice A1 (0 + l.length) c1) l) := Lib.hid (OwnS.mk hown1 (by simp) rfl)
  have hcap := (own_cap hown1).2
  clear hown1 hg1 hat1 hi0 hz0 hz1 hz2
  go_wp2
  go_ret
  exact ⟨A1, c1, by simp, by omega, HO.out.strs, hB⟩

set_option maxRecDepth 20000 in
set_option maxHeartbeats 1000000 in
theorem clean_any (s : List UInt8) (hn : s ≠ []) (hc : ∀ c ∈ s, c ≠ 32 ∧ c ≠ 10) (hl : s.length ≤ 20000000) (w : World) :
    Calls Tryd.prog 18 #[.string ⟨s.toArray⟩] w (Ret (.bool true) w) := by
  have he : s.isEmpty = false := by simpa using hn
  have HC := Lib.hid hc
  clear hc hn
  go_enter Tryd.func18, Tryd.ntmps18
  go_wp2
  go_loopw [3] (fun i wr => ∃ k : Nat, k ≤ s.length ∧ i = .int .i64 (k : Int) ∧ Below w.heap.size w wr) (fun i _ => s.length + 1 - (intOf i).toNat)
  case atStart => exact ⟨0, by omega, rfl, Below.refl _ _⟩
  case round =>
    obtain ⟨k, hk, rfl, hbw⟩ := hrel
    by_cases hlt : k < s.length
    · have hget : (({ data := s.toArray } : ByteArray)[k]'(show k < s.toArray.size by simpa using hlt)) = s[k] := rfl
      have hx := HC.out s[k] (List.getElem_mem hlt)
      have n1 : ((s[k].toNat : Int) == 32) = false := by
        rw [beq_eq_false_iff_ne]; exact fun e => hx.1 (UInt8.toNat_inj.1 (by show _ = 32; omega))
      have n2 : ((s[k].toNat : Int) == 10) = false := by
        rw [beq_eq_false_iff_ne]; exact fun e => hx.2 (UInt8.toNat_inj.1 (by show _ = 10; omega))
      generalize s[k] = c at *
      clear hx
      go_wp2
      go_roundw
      case rel => exact ⟨k + 1, by omega, by go_num, hbw⟩
      case measure => simp [intOf]; omega
    · go_wp2
      go_ret
      exact Ret.mk rfl hbw

/-! ### Join -/
theorem joinC_snoc (c : UInt8) (ps : List (List UInt8)) (p : List UInt8) : joinC c (ps ++ [p]) = if ps = [] then p else joinC c ps ++ c :: p := by
  induction ps with
  | nil => rfl
  | cons q r ih =>
    cases r with
    | nil => rfl
    | cons a b =>
      show q ++ c :: joinC c (a :: b ++ [p]) = _
      rw [ih, if_neg (by simp), if_neg (by simp)]
      show _ = q ++ c :: joinC c (a :: b) ++ c :: p
      simp
theorem joinC_len (c : UInt8) (ps : List (List UInt8)) : (joinC c ps).length ≤ (textL ps).length := by
  induction ps with
  | nil => simp [joinC]
  | cons q r ih =>
    cases r with
    | nil => show q.length ≤ (q ++ [10] ++ textL []).length; simp
    | cons a b =>
      show (q ++ c :: joinC c (a :: b)).length ≤ (q ++ [10] ++ textL (a :: b)).length
      simp at ih ⊢
      omega
theorem join_take0 {l : List (List UInt8)} (h : 0 < l.length) : joinL (l.take 1) = quote l[0] := by
  cases l with
  | nil => simp at h
  | cons a r => rfl
theorem join_takeS {l : List (List UInt8)} {k : Nat} (hk : k < l.length) (h0 : 0 < k) : joinL (l.take (k + 1)) = joinL (l.take k) ++ 32 :: quote l[k] := by
  unfold joinL
  rw [List.take_succ_eq_append_getElem hk, List.map_append, List.map_cons, List.map_nil, joinC_snoc, if_neg]
  intro e
  have h : ((l.take k).map quote).length = 0 := by rw [e]; rfl
  rw [List.length_map, List.length_take] at h
  omega
/-- The room that a joined list wants. -/
def room (l : List (List UInt8)) : Nat := (textL (l.map quote)).length
theorem room_len (l : List (List UInt8)) : l.length ≤ room l := by have := text_len (l.map quote); rwa [List.length_map] at this
theorem room_at {l : List (List UInt8)} {k : Nat} (hk : k < l.length) : (joinL (l.take k)).length + (quote l[k]).length + 1 ≤ room l ∧ l[k].length ≤ room l := by
  have hk' : k < (l.map quote).length := by simpa using hk
  have h1 := text_take hk'
  have h2 := text_take_len (l.map quote) (k + 1)
  have h3 := joinC_len 32 ((l.map quote).take k)
  rw [h1] at h2
  simp only [List.getElem_map, List.length_append, List.length_cons, List.length_nil] at h2
  have h4 : (quote l[k]).length ≥ l[k].length := by
    unfold quote
    split
    · rename_i e; rw [e]; simp
    · exact (qs_len _).1
  unfold room joinL
  rw [List.map_take]
  exact ⟨by omega, by omega⟩
theorem room_join (l : List (List UInt8)) : (joinL l).length ≤ room l := joinC_len 32 _
theorem Own8.below {B : Nat} {w w' : World} {v : Value} {l : List UInt8} (h : Own8 B w v l) (hb : Below w.heap.size w w') : Own8 B w' v l := by
  obtain ⟨A, c, e, h⟩ := h
  exact ⟨A, c, e, own_below h hb⟩

set_option maxRecDepth 20000 in
set_option maxHeartbeats 4000000 in
theorem rjoin_any (l : List (List UInt8)) (A : Option Addr) (ca : Nat) (w : World) (ha : Strs w A l) (hl : room l ≤ 4000000) :
    Calls Tryd.prog 21 #[.slice A l.length ca] w (Ret (.string ⟨(joinL l).toArray⟩) w) := by
  have hl1 := room_len l
  have HR : Hid (joinL l = joinL (l.take l.length)) := Lib.hid (by rw [List.take_length])
  have HAT := Lib.hid (fun k (hk : k < l.length) => room_at hk)
  generalize joinL l = R at *
  generalize room l = N at *
  obtain ⟨i0, hi0, hz0, hz1, hz2⟩ := info_parts info_u8
  go_enter Tryd.func21, Tryd.ntmps21
  go_wp2
  go_loopw [3, 4] (fun o i wr => ∃ k : Nat, k ≤ l.length ∧ i = .int .i64 (k : Int) ∧ Own8 w.heap.size wr o (joinL (l.take k)) ∧ Below w.heap.size w wr) (fun _ i _ => l.length + 1 - (intOf i).toNat)
  case atStart => exact ⟨0, by omega, rfl, Own8.empty w _ rfl, (Below.refl _ _).alloc (Nat.le_refl _) _⟩
  case round =>
    obtain ⟨k, hk, rfl, ⟨A3, cap, rfl, HO⟩, hbw⟩ := hrel
    replace HO := Lib.hid HO
    have hb0 := hbw.size
    by_cases hlt : k < l.length
    · obtain ⟨ad, rfl, hz9, c1⟩ := (ha.below hbw).at_ hlt
      obtain ⟨hroom, hxl⟩ := HAT.out k hlt
      have k1 := fun w' => rquote_any l[k] (by omega) w'
      by_cases h0 : k = 0
      · subst h0
        rw [show ad.add 0 = ad by unfold Addr.add; simp] at c1
        have HT : Hid (joinL (l.take (0 + 1)) = joinL (l.take 0) ++ quote l[0]) := Lib.hid (join_take0 hlt)
        generalize joinL (l.take 0) = acc at *
        generalize quote l[0] = q at *
        generalize l[0] = x at *
        have hsx : (⟨q.toArray⟩ : ByteArray).size = q.length := by simp [ByteArray.size]
        go_wp2_with fail
        refine (k1 _).mono ?_
        rintro e w1 ⟨rfl, h1⟩
        have hb1 := Below.step hbw h1
        have HO1 := Lib.hid (own_below HO.out h1)
        clear k1 h1
        go_wp2_with (at_builtin; refine Lib.wpList_append_own_string _ rfl _ _ 37 9 rfl w.heap.size 5 i0 Tryd.underlying37 Tryd.underlying9 hi0 hz0 hz1 hz2 _ _ _ rfl HO1.out ⟨q.toArray⟩ rfl (by rw [hsx]; unfold maxLen; omega) (by rw [hsx]; omega) hb1.size ?_; intro v4 w4 hown4 hgrow4 _; rw [hsx] at hown4)
        obtain ⟨A4, c4, rfl⟩ := own_form hown4
        have HB : Hid (Below w.heap.size w w4) := Lib.hid (hb1.grown hgrow4 hb1.size (fun g hg => (HO1.out.lt g hg).1))
        replace hown4 := Lib.hid hown4
        clear hgrow4
        go_wp2
        go_roundw
        case rel => exact ⟨0 + 1, by omega, by go_num, Own8.mk hown4.out (by rw [HT.out]; simp) (by rw [HT.out, u8s_append, strCells_u8s]), HB.out⟩
        case measure => simp [intOf]
      · have hpos : (0 : Int) < (k : Int) := by omega
        have HT := Lib.hid (join_takeS hlt (by omega))
        have HC : Hid (∀ w', Below w.heap.size w w' → w'.cell? (ad.add k) = some (.string ⟨l[k].toArray⟩)) := Lib.hid (fun w' h => by
          obtain ⟨ad', e, _, c⟩ := (ha.below h).at_ hlt
          injection e with e
          subst e
          exact c)
        generalize joinL (l.take k) = acc at *
        generalize quote l[k] = q at *
        generalize l[k] = x at *
        have hsx : (⟨q.toArray⟩ : ByteArray).size = q.length := by simp [ByteArray.size]
        go_wp2_with (at_builtin; refine wpList_append_own _ rfl _ _ 37 rfl w.heap.size 5 i0 (.int .u8 0) 1 1 Tryd.underlying37 hi0 hz0 hz1 hz2 rfl (by decide) _ _ _ rfl (HO.out.alloc _) ⟨wr.heap.size, 0, none⟩ 1 1 [.int .u8 32] rfl rfl (cell_one_new _ _ _) (fun x hx => by simp at hx; subst hx; rfl) (by unfold maxLen; omega) (by omega) (by simp; omega) ?_; intro v3 w3 hown3 hgrow3 _; refine Hid.out ?_)
        obtain ⟨A4, c4, rfl⟩ := own_form hown3
        have HB : Hid (Below w.heap.size w w3) := Lib.hid ((hbw.alloc hb0 _).trans ((Below.refl _ _).grown hgrow3 (by simp; omega) (fun g hg => (HO.out.lt g hg).1)))
        have c13 : w3.cell? (ad.add k) = some (.string ⟨x.toArray⟩) := HC.out w3 HB.out
        replace hown3 := Lib.hid hown3
        have hb3 := HB.out
        clear hgrow3 c1
        refine Lib.hid ?_
        go_wp2_with fail
        refine (k1 _).mono ?_
        rintro e w1 ⟨rfl, h1⟩
        have hb1 := Below.step hb3 h1
        have HO1 := Lib.hid (own_below hown3.out h1)
        clear k1 h1
        go_wp2_with (at_builtin; refine Lib.wpList_append_own_string _ rfl _ _ 37 9 rfl w.heap.size 5 i0 Tryd.underlying37 Tryd.underlying9 hi0 hz0 hz1 hz2 _ _ _ rfl HO1.out ⟨q.toArray⟩ rfl (by rw [hsx]; unfold maxLen; omega) (by rw [hsx]; omega) hb1.size ?_; intro v4 w4 hown4 hgrow4 _; rw [hsx] at hown4)
        obtain ⟨A5, c5, rfl⟩ := own_form hown4
        have HB5 : Hid (Below w.heap.size w w4) := Lib.hid (hb1.grown hgrow4 hb1.size (fun g hg => (HO1.out.lt g hg).1))
        replace hown4 := Lib.hid hown4
        clear hgrow4
        go_wp2
        go_roundw
        case rel => exact ⟨k + 1, by omega, by go_num, Own8.mk hown4.out (by rw [HT.out]; simp; omega) (by rw [HT.out, u8s_append, strCells_u8s]; simp [u8s]), HB5.out⟩
        case measure => simp [intOf]; omega
    · obtain rfl : k = l.length := by omega
      have kc := run_bytes_string wr A3 _ cap (Own8.bytes ⟨A3, cap, rfl, HO.out⟩)
      generalize joinL (l.take l.length) = acc at *
      go_wp2
      go_ret
      exact Ret.mk (by rw [HR.out]; rfl) hbw
end Go.Proofs.YtdjlfbfipkalbaaDoor
