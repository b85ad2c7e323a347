/- The reference's Lines, Split, Join. -/
import Derived.Test.YtdjlfbfipkalbaaDoorWoF
namespace Go.Proofs.YtdjlfbfipkalbaaDoor
open Go.RowKit

/-- The bytes of s from f to k. -/
def piece (s : List UInt8) (f k : Nat) : List UInt8 := (s.drop f).take (k - f)
theorem piece_len (s : List UInt8) (f k : Nat) : (piece s f k).length ≤ s.length := by unfold piece; rw [List.length_take, List.length_drop]; omega
theorem extract_piece (s : List UInt8) (f k : Nat) : (⟨s.toArray⟩ : ByteArray).extract f k = ⟨(piece s f k).toArray⟩ := by
  apply ByteArray.ext
  rw [ByteArray.data_extract]
  simp [piece]
theorem piece_self (s : List UInt8) (f : Nat) : piece s f f = [] := by simp [piece]
theorem piece_succ {s : List UInt8} {f k : Nat} (hf : f ≤ k) (hk : k < s.length) : piece s f (k + 1) = piece s f k ++ [s[k]] := by
  unfold piece
  rw [show k + 1 - f = (k - f) + 1 by omega, List.take_succ_eq_append_getElem (by rw [List.length_drop]; omega)]
  simp [show f + (k - f) = k by omega]
theorem drop_piece {s : List UInt8} {f k : Nat} (hf : f ≤ k) (hk : k < s.length) : s.drop f = piece s f k ++ s[k] :: s.drop (k + 1) := by
  rw [← drop_at hk, piece]
  have := List.take_append_drop (k - f) (s.drop f)
  rw [List.drop_drop, show f + (k - f) = k by omega] at this
  exact this.symm
theorem drop_end {s : List UInt8} {f : Nat} : s.drop f = piece s f s.length := by
  unfold piece; rw [List.take_of_length_le (by simp)]
/-- No byte c from f to k. -/
def NoC (c : UInt8) (s : List UInt8) (f k : Nat) : Prop := ∀ b ∈ piece s f k, b ≠ c
theorem noC_start (c : UInt8) (s : List UInt8) (f : Nat) : NoC c s f f := by unfold NoC; rw [piece_self]; simp
theorem noC_next {c : UInt8} {s : List UInt8} {f k : Nat} (h : NoC c s f k) (hf : f ≤ k) (hk : k < s.length) (hc : s[k] ≠ c) : NoC c s f (k + 1) := by
  unfold NoC; rw [piece_succ hf hk]
  intro b hb
  rcases List.mem_append.1 hb with hb | hb
  · exact h b hb
  · simp at hb; subst hb; exact hc

/-- How far the lines have been read. -/
def LnOK (s : List UInt8) (done : List (List UInt8)) (f : Nat) : Prop := lns s = (lns (s.drop f)).map (done ++ ·)
theorem ln_start (s : List UInt8) : LnOK s [] 0 := by unfold LnOK; cases h : lns s <;> simp [h]
theorem ln_hit {s : List UInt8} {done : List (List UInt8)} {f k : Nat} (h : LnOK s done f) (hn : NoC 10 s f k) (hf : f ≤ k) (hk : k < s.length) (hc : s[k] = 10) : LnOK s (done ++ [piece s f k]) (k + 1) := by
  unfold LnOK at h ⊢
  rw [h, drop_piece hf hk, hc, lns_hit hn]
  cases lns (s.drop (k + 1)) <;> simp
theorem ln_done {s : List UInt8} {done : List (List UInt8)} {f : Nat} (h : LnOK s done f) (hf : f = s.length) : lns s = some done := by
  unfold LnOK at h
  rw [h, hf, List.drop_eq_nil_of_le (Nat.le_refl _)]; simp [lns]
theorem ln_none {s : List UInt8} {done : List (List UInt8)} {f : Nat} (h : LnOK s done f) (hn : NoC 10 s f s.length) (hf : f < s.length) : lns s = none := by
  unfold LnOK at h
  rw [h, drop_end, lns_miss _ hn]; · rfl
  intro e
  have := congrArg List.length e
  rw [← drop_end, List.length_drop] at this
  simp at this
  omega

/-- What Lines answers. -/
def lnV (s : List UInt8) : List (List UInt8) := (lns s).getD []
def lnB (s : List UInt8) : Bool := (lns s).isSome

set_option maxRecDepth 20000 in
set_option maxHeartbeats 2000000 in
theorem rlines_any (s : List UInt8) (hl : s.length ≤ 4000000) (w : World) : Calls Tryd.prog 26 #[.string ⟨s.toArray⟩] w (RetSB (lnV s) (lnB s) w) := by
  have HN : Hid (lns s = none → lnV s = [] ∧ lnB s = false) := Lib.hid (fun h => by unfold lnV lnB; rw [h]; exact ⟨rfl, rfl⟩)
  have HS : Hid (∀ m, lns s = some m → lnV s = m ∧ lnB s = true) := Lib.hid (fun m h => by unfold lnV lnB; rw [h]; exact ⟨rfl, rfl⟩)
  generalize lnV s = V at *
  generalize lnB s = B at *
  obtain ⟨i0, hi0, hz0, hz1, hz2⟩ := info_parts info_str
  go_enter Tryd.func26, Tryd.ntmps26
  go_wp2
  go_loopw [4, 5, 6] (fun o fr i wr => ∃ (k f : Nat) (done : List (List UInt8)), k ≤ s.length ∧ f ≤ k ∧ done.length ≤ f ∧ i = .int .i64 (k : Int) ∧ fr = .int .i64 (f : Int) ∧ Hid (LnOK s done f ∧ NoC 10 s f k) ∧ OwnS w.heap.size wr o done ∧ Below w.heap.size w wr) (fun _ _ i _ => s.length + 1 - (intOf i).toNat)
  case atStart => exact ⟨0, 0, [], by omega, by omega, by simp, rfl, rfl, Lib.hid ⟨ln_start s, noC_start _ _ _⟩, OwnS.empty w _ rfl, (Below.refl _ _).alloc (Nat.le_refl _) _⟩
  case round =>
    obtain ⟨k, f, done, hk, hf, hdl, rfl, rfl, HD, ⟨A3, cap, rfl, HO⟩, hbw⟩ := hrel
    replace HO := Lib.hid HO
    have hb0 := hbw.size
    by_cases hlt : k < s.length
    · have hget : (({ data := s.toArray } : ByteArray)[k]'(show k < s.toArray.size by simpa using hlt)) = s[k] := rfl
      by_cases h10 : s[k] = 10
      · have HX := Lib.hid (ln_hit HD.out.1 HD.out.2 hf hlt h10)
        have hex := extract_piece s f k
        rw [h10] at hget
        generalize piece s f k = p at *
        clear h10
        go_wp2_with (at_builtin; refine wpList_append_own _ rfl _ _ 28 rfl w.heap.size 9 i0 (.string ⟨#[]⟩) 1 16 Tryd.underlying28 hi0 hz0 hz1 hz2 rfl (by decide) _ _ _ rfl (HO.out.alloc _) ⟨wr.heap.size, 0, none⟩ 1 1 [.string ⟨p.toArray⟩] rfl rfl (cell_one_new _ _ _) (fun x hx => by simp at hx; subst hx; rfl) (by unfold maxLen; omega) (by omega) (by simp; omega) ?_; intro v4 w4 hown4 hgrow4 _)
        obtain ⟨A4, c4, rfl⟩ := own_form hown4
        have HB : Hid (Below w.heap.size w w4) := Lib.hid ((hbw.alloc hb0 _).trans ((Below.refl _ _).grown hgrow4 (by simp; omega) (fun g hg => (HO.out.lt g hg).1)))
        replace hown4 := Lib.hid hown4
        clear hgrow4
        go_wp2
        go_roundw
        case rel => exact ⟨k + 1, k + 1, done ++ [p], by omega, by omega, by simp; omega, by go_num, by go_num, Lib.hid ⟨HX.out, noC_start _ _ _⟩, OwnS.mk hown4.out (by simp) (by rw [List.map_append]; rfl), HB.out⟩
        case measure => simp [intOf]; omega
      · have HX := Lib.hid (noC_next HD.out.2 hf hlt h10)
        have hne : ((s[k].toNat : Int) == 10) = false := by
          rw [beq_eq_false_iff_ne]; exact fun e => h10 (UInt8.toNat_inj.1 (by show _ = 10; omega))
        generalize s[k] = c at *
        clear h10
        go_wp2
        go_roundw
        case rel => exact ⟨k + 1, f, done, by omega, by omega, by omega, by go_num, rfl, Lib.hid ⟨HD.out.1, HX.out⟩, ⟨A3, cap, rfl, HO.out⟩, hbw⟩
        case measure => simp [intOf]; omega
    · obtain rfl : k = s.length := by omega
      have hcap := (own_cap HO.out).2
      by_cases hfe : f = s.length
      · obtain ⟨rfl, rfl⟩ := HS.out done (ln_done HD.out.1 hfe)
        have hS : Hid (Strs wr A3 V) := Lib.hid (OwnS.strs (B := w.heap.size) ⟨A3, cap, rfl, HO.out⟩)
        subst hfe
        go_wp2
        go_ret2
        exact ⟨A3, cap, rfl, hcap, hS.out, hbw⟩
      · obtain ⟨rfl, rfl⟩ := HN.out (ln_none HD.out.1 HD.out.2 (by omega))
        have hne : ¬ (f : Int) = (s.length : Int) := by omega
        go_wp2
        go_ret2
        exact ⟨none, 0, rfl, Nat.le_refl _, Strs.nil_ _ _, hbw⟩

/-! ### Split -/
/-- How far a line has been split. -/
def SpOK (s : List UInt8) (done : List (List UInt8)) (f : Nat) : Prop := allU (pcs 32 s) = (allU (pcs 32 (s.drop f))).map (done ++ ·)
theorem sp_start (s : List UInt8) : SpOK s [] 0 := by unfold SpOK; cases h : allU (pcs 32 s) <;> simp [h]
theorem sp_bad {s : List UInt8} {done : List (List UInt8)} {f k : Nat} (h : SpOK s done f) (hn : NoC 32 s f k) (hf : f ≤ k) (hc : k = s.length ∨ ∃ (hk : k < s.length), s[k] = 32) (hu : unquote (piece s f k) = none) : allU (pcs 32 s) = none := by
  unfold SpOK at h
  rcases hc with rfl | ⟨hk, hc⟩
  · rw [h, drop_end, pcs_none hn, allU, hu]; rfl
  · rw [h, drop_piece hf hk, hc, pcs_hit hn, allU, hu]; rfl
theorem sp_hit {s : List UInt8} {done : List (List UInt8)} {f k : Nat} (h : SpOK s done f) (hn : NoC 32 s f k) (hf : f ≤ k) (hk : k < s.length) (hc : s[k] = 32) {x : List UInt8} (hu : unquote (piece s f k) = some x) : SpOK s (done ++ [x]) (k + 1) := by
  unfold SpOK at h ⊢
  rw [h, drop_piece hf hk, hc, pcs_hit hn, allU, hu]
  cases allU (pcs 32 (s.drop (k + 1))) <;> simp
theorem sp_end {s : List UInt8} {done : List (List UInt8)} {f : Nat} (h : SpOK s done f) (hn : NoC 32 s f s.length) {x : List UInt8} (hu : unquote (piece s f s.length) = some x) : allU (pcs 32 s) = some (done ++ [x]) := by
  unfold SpOK at h
  rw [h, drop_end, pcs_none hn, allU, hu]; simp [allU]
/-- What Split answers. -/
def spV (s : List UInt8) : List (List UInt8) := (splitL s).getD []
def spB (s : List UInt8) : Bool := (splitL s).isSome
/-- Unquote's answer, in parts. -/
theorem un_parts (w : List UInt8) : (unquote w = none ∧ unV w = [] ∧ unB w = false) ∨ (unquote w = some (unV w) ∧ unB w = true) := by
  unfold unV unB
  cases unquote w with
  | none => exact .inl ⟨rfl, rfl, rfl⟩
  | some s => exact .inr ⟨rfl, rfl⟩

set_option maxRecDepth 20000 in
set_option maxHeartbeats 4000000 in
theorem rsplit_any (s : List UInt8) (hl : s.length ≤ 4000000) (w : World) : Calls Tryd.prog 23 #[.string ⟨s.toArray⟩] w (RetSB (spV s) (spB s) w) := by
  by_cases h0 : s = []
  · subst h0
    go_enter Tryd.func23, Tryd.ntmps23
    go_wp2
    go_ret2
    exact ⟨none, 0, rfl, Nat.le_refl _, Strs.nil_ _ _, Below.refl _ _⟩
  have he : s.isEmpty = false := by simpa using h0
  have HN : Hid (allU (pcs 32 s) = none → spV s = [] ∧ spB s = false) := Lib.hid (fun h => by unfold spV spB splitL; rw [if_neg h0, h]; exact ⟨rfl, rfl⟩)
  have HS : Hid (∀ m, allU (pcs 32 s) = some m → spV s = m ∧ spB s = true) := Lib.hid (fun m h => by unfold spV spB splitL; rw [if_neg h0, h]; exact ⟨rfl, rfl⟩)
  clear h0
  generalize spV s = V at *
  generalize spB s = B at *
  obtain ⟨i0, hi0, hz0, hz1, hz2⟩ := info_parts info_str
  go_enter Tryd.func23, Tryd.ntmps23
  go_wp2
  go_loopw [4, 5, 6] (fun o fr i wr => ∃ (k f : Nat) (done : List (List UInt8)), k ≤ s.length + 1 ∧ f ≤ k ∧ done.length ≤ f ∧ i = .int .i64 (k : Int) ∧ fr = .int .i64 (f : Int) ∧ Hid ((k ≤ s.length → SpOK s done f ∧ NoC 32 s f k) ∧ (s.length < k → allU (pcs 32 s) = some done)) ∧ OwnS w.heap.size wr o done ∧ Below w.heap.size w wr) (fun _ _ i _ => s.length + 2 - (intOf i).toNat)
  case atStart => exact ⟨0, 0, [], by omega, by omega, by simp, rfl, rfl, Lib.hid ⟨fun _ => ⟨sp_start s, noC_start _ _ _⟩, fun h => by omega⟩, OwnS.empty w _ rfl, (Below.refl _ _).alloc (Nat.le_refl _) _⟩
  case round =>
    obtain ⟨k, f, done, hk, hf, hdl, rfl, rfl, HD, ⟨A3, cap, rfl, HO⟩, hbw⟩ := hrel
    replace HO := Lib.hid HO
    have hb0 := hbw.size
    by_cases hlt : k ≤ s.length
    · have HD1 := Lib.hid (HD.out.1 hlt)
      have hex := extract_piece s f k
      have hpl := piece_len s f k
      have HU := Lib.hid (un_parts (piece s f k))
      have k1 := fun w' => runquote_any (piece s f k) (by omega) w'
      by_cases hlt2 : k < s.length
      · have hget : (({ data := s.toArray } : ByteArray)[k]'(show k < s.toArray.size by simpa using hlt2)) = s[k] := rfl
        by_cases h32 : s[k] = 32
        · have HX := Lib.hid (fun x => sp_hit (x := x) HD1.out.1 HD1.out.2 hf hlt2 h32)
          have HY := Lib.hid (sp_bad HD1.out.1 HD1.out.2 hf (.inr ⟨hlt2, h32⟩))
          rw [h32] at hget
          generalize piece s f k = p at *
          clear h32
          go_wp2_with fail
          refine (k1 _).mono ?_
          rintro e w1 ⟨rfl, h1⟩
          have hb1 := Below.step hbw h1
          have HO1 := Lib.hid (own_below HO.out h1)
          clear k1 h1
          rcases HU.out with ⟨hu, hv, hb⟩ | ⟨hu, hb⟩
          · obtain ⟨rfl, rfl⟩ := HN.out (HY.out hu)
            rw [hv, hb]
            go_wp2
            go_ret2
            exact ⟨none, 0, rfl, Nat.le_refl _, Strs.nil_ _ _, hb1⟩
          · have HZ := Lib.hid (HX.out _ hu)
            rw [hb]
            clear hu hb HU HX HY
            generalize unV p = x at *
            go_wp2_with (at_builtin; refine wpList_append_own _ rfl _ _ 28 rfl w.heap.size 9 i0 (.string ⟨#[]⟩) 1 16 Tryd.underlying28 hi0 hz0 hz1 hz2 rfl (by decide) _ _ _ rfl (HO1.out.alloc _) ⟨w1.heap.size, 0, none⟩ 1 1 [.string ⟨x.toArray⟩] rfl rfl (cell_one_new _ _ _) (fun x hx => by simp at hx; subst hx; rfl) (by unfold maxLen; omega) (by omega) (by have := hb1.size; simp; omega) ?_; intro v4 w4 hown4 hgrow4 _)
            obtain ⟨A4, c4, rfl⟩ := own_form hown4
            have HB : Hid (Below w.heap.size w w4) := Lib.hid ((hb1.alloc hb1.size _).trans ((Below.refl _ _).grown hgrow4 (by have := hb1.size; simp; omega) (fun g hg => (HO1.out.lt g hg).1)))
            replace hown4 := Lib.hid hown4
            clear hgrow4
            go_wp2
            go_roundw
            case rel => exact ⟨k + 1, k + 1, done ++ [x], by omega, by omega, by simp; omega, by go_num, by go_num, Lib.hid ⟨fun _ => ⟨HZ.out, noC_start _ _ _⟩, fun h => by omega⟩, OwnS.mk hown4.out (by simp) (by rw [List.map_append]; rfl), HB.out⟩
            case measure => simp [intOf]; omega
        · have HX := Lib.hid (noC_next HD1.out.2 hf hlt2 h32)
          have hne : ((s[k].toNat : Int) == 32) = false := by
            rw [beq_eq_false_iff_ne]; exact fun e => h32 (UInt8.toNat_inj.1 (by show _ = 32; omega))
          generalize s[k] = c at *
          clear h32 k1 HU hex
          go_wp2
          go_roundw
          case rel => exact ⟨k + 1, f, done, by omega, by omega, by omega, by go_num, rfl, Lib.hid ⟨fun _ => ⟨HD1.out.1, HX.out⟩, fun h => by omega⟩, ⟨A3, cap, rfl, HO.out⟩, hbw⟩
          case measure => simp [intOf]; omega
      · obtain rfl : k = s.length := by omega
        have HX := Lib.hid (fun x => sp_end (x := x) HD1.out.1 HD1.out.2)
        have HY := Lib.hid (sp_bad HD1.out.1 HD1.out.2 hf (.inl rfl))
        generalize piece s f s.length = p at *
        go_wp2_with fail
        refine (k1 _).mono ?_
        rintro e w1 ⟨rfl, h1⟩
        have hb1 := Below.step hbw h1
        have HO1 := Lib.hid (own_below HO.out h1)
        clear k1 h1
        rcases HU.out with ⟨hu, hv, hb⟩ | ⟨hu, hb⟩
        · obtain ⟨rfl, rfl⟩ := HN.out (HY.out hu)
          rw [hv, hb]
          go_wp2
          go_ret2
          exact ⟨none, 0, rfl, Nat.le_refl _, Strs.nil_ _ _, hb1⟩
        · have HZ := Lib.hid (HX.out _ hu)
          rw [hb]
          clear hu hb HU HX HY
          generalize unV p = x at *
          go_wp2_with (at_builtin; refine wpList_append_own _ rfl _ _ 28 rfl w.heap.size 9 i0 (.string ⟨#[]⟩) 1 16 Tryd.underlying28 hi0 hz0 hz1 hz2 rfl (by decide) _ _ _ rfl (HO1.out.alloc _) ⟨w1.heap.size, 0, none⟩ 1 1 [.string ⟨x.toArray⟩] rfl rfl (cell_one_new _ _ _) (fun x hx => by simp at hx; subst hx; rfl) (by unfold maxLen; omega) (by omega) (by have := hb1.size; simp; omega) ?_; intro v4 w4 hown4 hgrow4 _)
          obtain ⟨A4, c4, rfl⟩ := own_form hown4
          have HB : Hid (Below w.heap.size w w4) := Lib.hid ((hb1.alloc hb1.size _).trans ((Below.refl _ _).grown hgrow4 (by have := hb1.size; simp; omega) (fun g hg => (HO1.out.lt g hg).1)))
          replace hown4 := Lib.hid hown4
          clear hgrow4
          go_wp2
          go_roundw
          case rel => exact ⟨s.length + 1, s.length + 1, done ++ [x], by omega, by omega, by simp; omega, by go_num, by go_num, Lib.hid ⟨fun h => by omega, fun _ => HZ.out⟩, OwnS.mk hown4.out (by simp) (by rw [List.map_append]; rfl), HB.out⟩
          case measure => simp [intOf]
    · obtain rfl : k = s.length + 1 := by omega
      obtain ⟨rfl, rfl⟩ := HS.out done (HD.out.2 (by omega))
      have hcap := (own_cap HO.out).2
      have hS : Hid (Strs wr A3 V) := Lib.hid (OwnS.strs (B := w.heap.size) ⟨A3, cap, rfl, HO.out⟩)
      go_wp2
      go_ret2
      exact ⟨A3, cap, rfl, hcap, hS.out, hbw⟩
end Go.Proofs.YtdjlfbfipkalbaaDoor
