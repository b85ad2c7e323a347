/- Lines of the code. -/
import Derived.Test.YtdjlfbfipkalbaaDoorWoI
import Derived.Lib.SplitLaws
namespace Go.Proofs.YtdjlfbfipkalbaaDoor
open Go.RowKit

theorem ib_hit (c : UInt8) (l : List UInt8) : Lib.indexByte (c :: l) c = 0 := by unfold Lib.indexByte; simp
theorem ib_skip {b c : UInt8} {l : List UInt8} (h : b ≠ c) {k : Nat} (hk : Lib.indexByte l c = (k : Int)) : Lib.indexByte (b :: l) c = ((k + 1 : Nat) : Int) := by
  unfold Lib.indexByte
  have h1 : (b == c) = false := by simpa using h
  have h2 : (((k : Nat) : Int) == -1) = false := by simp
  rw [h1, hk, h2]
  simp
theorem ib_miss {b c : UInt8} {l : List UInt8} (h : b ≠ c) (hk : Lib.indexByte l c = -1) : Lib.indexByte (b :: l) c = -1 := by
  unfold Lib.indexByte
  have h1 : (b == c) = false := by simpa using h
  rw [h1, hk]
  simp
/-- A byte is found at its first place. -/
theorem ib_parts (c : UInt8) : ∀ l : List UInt8, (Lib.indexByte l c = -1 ∧ ∀ b ∈ l, b ≠ c) ∨ ∃ p r, l = p ++ c :: r ∧ (∀ b ∈ p, b ≠ c) ∧ Lib.indexByte l c = (p.length : Int)
  | [] => .inl ⟨rfl, by simp⟩
  | b :: l => by
    by_cases h : b = c
    · subst h
      exact .inr ⟨[], l, rfl, by simp, ib_hit b l⟩
    · rcases ib_parts c l with ⟨h1, h2⟩ | ⟨p, r, rfl, h2, h3⟩
      · exact .inl ⟨ib_miss h h1, fun x hx => by
          rcases List.mem_cons.1 hx with rfl | hx
          · exact h
          · exact h2 x hx⟩
      · exact .inr ⟨b :: p, r, rfl, fun x hx => by
          rcases List.mem_cons.1 hx with rfl | hx
          · exact h
          · exact h2 x hx, ib_skip h h3⟩
theorem split_pcs (c : UInt8) : ∀ (n : Nat) (l : List UInt8), l.count c = n → Lib.splitK [c] 0 n l = pcs c l
  | 0, l, h => by
    rw [pcs_none fun b hb e => by subst e; have := List.count_pos_iff.2 hb; omega]
    rfl
  | n + 1, l, h => by
    have step : ∀ (k : Nat) (l : List UInt8), Lib.splitK [c] 0 (k + 1) l = if Lib.index l [c] == -1 then [l] else l.take ((Lib.index l [c]).toNat + 0) :: Lib.splitK [c] 0 k (l.drop ((Lib.index l [c]).toNat + 1)) := fun k l => rfl
    rw [step, Lib.index_one]
    rcases ib_parts c l with ⟨h1, h2⟩ | ⟨p, r, rfl, h2, h3⟩
    · exfalso
      have : l.count c = 0 := List.count_eq_zero.2 fun hc => h2 c hc rfl
      omega
    · have hp : p.count c = 0 := List.count_eq_zero.2 fun hc => h2 c hc rfl
      rw [List.count_append, List.count_cons_self, hp] at h
      rw [h3, if_neg (by simp), pcs_hit h2, Int.toNat_natCast]
      rw [show p.length + 0 = p.length by omega, List.take_left, show (p ++ c :: r).drop (p.length + 1) = r by simp, split_pcs c n r (by omega)]

theorem split_ret (p : List UInt8) (hl : p.length ≤ 4000000) (w : World) (hL : Laid w) : Calls Tryd.prog 38 #[.string ⟨p.toArray⟩, .string ⟨#[10]⟩] w (RetS (pcs 10 p) w) := by
  obtain ⟨m, hm⟩ := hL
  refine (Tryd.strings_Split ⟨p.toArray⟩ ⟨#[10]⟩ m w (by simp [ByteArray.size]; omega) hm (by decide)).mono ?_
  rintro e w' ⟨rfl, rfl⟩
  have hc : Lib.countB ⟨p.toArray⟩ ⟨#[10]⟩ = p.count 10 := by
    show Lib.count p [10] = _
    rw [Lib.count_one]
  have hd := Lib.splitB_data ⟨#[10]⟩ 0 (p.count 10) ⟨p.toArray⟩
  rw [show (ByteArray.mk #[10]).data.toList = [10] from rfl, show (ByteArray.mk p.toArray).data.toList = p by simp, split_pcs 10 _ p rfl] at hd
  have hv : (Lib.splitB ⟨#[10]⟩ 0 (p.count 10) ⟨p.toArray⟩).map Value.string = (pcs 10 p).map sv := by
    rw [← hd, List.map_map]
    apply List.map_congr_left
    intro b _
    show Value.string b = .string ⟨b.data.toList.toArray⟩
    simp
  have hn : p.count 10 + 1 = (pcs 10 p).length := by
    have h1 := congrArg List.length hd
    rw [List.length_map, Lib.splitB_all ⟨#[10]⟩ (by decide) 0 (p.count 10) ⟨p.toArray⟩ hc] at h1
    exact h1
  rw [hc, hv, hn]
  refine ⟨some ⟨w.heap.size, 0, none⟩, _, rfl, Nat.le_refl _, ⟨by simp, fun _ => ⟨_, rfl, by simp, fun j u hu => ?_⟩⟩, (Below.refl _ _).alloc (Nat.le_refl _) _⟩
  rw [show ((⟨w.heap.size, 0, none⟩ : Addr).add j) = ⟨w.heap.size, j, none⟩ by unfold Addr.add; split <;> simp_all, World.cell?_alloc_at _ _ _ _ rfl]
  simpa using hu

theorem suffix_snoc (p : List UInt8) (x c : UInt8) : Lib.hasSuffix (p ++ [x]) [c] = (x == c) ∧ (x = c → Lib.trimSuffix (p ++ [x]) [c] = p) := by
  have h : Lib.hasSuffix (p ++ [x]) [c] = (x == c) := by
    unfold Lib.hasSuffix
    by_cases hx : x = c
    · subst hx
      rw [show (x == x) = true by simp, List.isSuffixOf_iff_suffix]
      exact List.suffix_append _ _
    · rw [show (x == c) = false by simpa using hx, Bool.eq_false_iff]
      intro hs
      rw [List.isSuffixOf_iff_suffix] at hs
      obtain ⟨t, ht⟩ := hs
      have := (List.append_inj' ht rfl).2
      injection this with e
      exact hx e.symm
  refine ⟨h, fun hx => ?_⟩
  unfold Lib.trimSuffix
  rw [h, if_pos (by simpa using hx)]
  simp

set_option maxRecDepth 20000 in
set_option maxHeartbeats 2000000 in
theorem lines_any (s : List UInt8) (hl : s.length ≤ 4000000) (w : World) (hL : Laid w) : Calls Tryd.prog 25 #[.string ⟨s.toArray⟩] w (RetSB (lnV s) (lnB s) w) := by
  rcases List.eq_nil_or_concat s with rfl | ⟨p, x, rfl⟩
  · go_enter Tryd.func25, Tryd.ntmps25
    go_wp2
    go_ret2
    exact ⟨none, 0, rfl, Nat.le_refl _, Strs.nil_ _ _, Below.refl _ _⟩
  rw [List.concat_eq_append] at hl ⊢
  have k1 := Tryd.strings_CutSuffix ⟨(p ++ [x]).toArray⟩ ⟨#[10]⟩ w (by simp [ByteArray.size] at hl ⊢; omega)
  rw [show (ByteArray.mk #[10]).data.toList = [10] from rfl, show (ByteArray.mk (p ++ [x]).toArray).data.toList = p ++ [x] by simp, (suffix_snoc p x 10).1] at k1
  have he : (p ++ [x]).isEmpty = false := by simp
  by_cases hx : x = 10
  · rw [(suffix_snoc p x 10).2 hx, show (x == 10) = true by simpa using hx] at k1
    have hv : lnV (p ++ [x]) = pcs 10 p ∧ lnB (p ++ [x]) = true := by unfold lnV lnB; rw [hx, lns_end]; exact ⟨rfl, rfl⟩
    rw [hv.1, hv.2]
    have k2 := split_ret p (by simp at hl; omega) w hL
    clear hv hx
    generalize p ++ [x] = s at *
    generalize pcs 10 p = V at *
    go_enter Tryd.func25, Tryd.ntmps25
    go_wp2_with fail
    refine k1.mono ?_
    rintro e w1 ⟨rfl, rfl⟩
    clear k1
    go_wp2_with fail
    refine k2.mono ?_
    rintro e w2 ⟨A, cap, rfl, hc, hS, hb⟩
    replace hS := Lib.hid hS
    go_wp2
    go_ret2
    exact ⟨A, cap, rfl, hc, hS.out, hb⟩
  · rw [show (x == 10) = false by simpa using hx] at k1
    have hv : lnV (p ++ [x]) = [] ∧ lnB (p ++ [x]) = false := by unfold lnV lnB; rw [lns_no hx]; exact ⟨rfl, rfl⟩
    rw [hv.1, hv.2]
    clear hv hx
    generalize p ++ [x] = s at *
    generalize Lib.trimSuffix s [10] = q at *
    go_enter Tryd.func25, Tryd.ntmps25
    go_wp2_with fail
    refine k1.mono ?_
    rintro e w1 ⟨rfl, rfl⟩
    clear k1
    go_wp2
    go_ret2
    exact ⟨none, 0, rfl, Nat.le_refl _, Strs.nil_ _ _, Below.refl _ _⟩
end Go.Proofs.YtdjlfbfipkalbaaDoor
