/- Union, both sides; copied. -/
import Derived.Test.YtofnbohcofgfkaaSpI
import Derived.Test.YtofnbohcofgfkaaSpS
namespace Go.Proofs.Ytofnbohcofgfkaa
open Go.RowKit

theorem sortsS : SortsS := fun zs A cap B w h1 h2 h3 => sort_own zs A cap B w h1 h2 h3
theorem union_any (l : List Sp) (A : Option Addr) (ca : Nat) (w : World) (ha : Spans w A l) (hl : l.length ≤ 10000) :
    Calls Try.prog 20 #[.slice A l.length ca] w (RetSpans (norm l) w) := union_of sortsS l A ca w ha hl

theorem ins_len (l : List Sp) (s : Sp) : (ins l s).length ≤ l.length + 1 := by
  rw [← insAt_all l s]
  have := insAt_len l s l.length (Nat.le_refl _)
  simp
  omega
theorem own_empty3 (w : World) : (w.alloc (.cells #[] 23)).ownsRow w.heap.size 23 2 (.slice (some ⟨w.heap.size, 0, none⟩) 0 0) 0 [] :=
  ⟨rfl, .inr ⟨_, 0, #[], rfl, Nat.le_refl _, heap_alloc_new w _, Nat.le_refl _, by simp [maxLen], rfl, rfl⟩⟩
/-- How far the reference's union has come. -/
def uniAt (l : List Sp) (k : Nat) : List Sp := (l.take k).foldl (fun o s => if rt s then ins o s else o) []
theorem uniAt_next {l : List Sp} {k : Nat} (hk : k < l.length) : uniAt l (k + 1) = if rt l[k] then ins (uniAt l k) l[k] else uniAt l k := by
  unfold uniAt; rw [List.take_succ_eq_append_getElem hk, List.foldl_append]; rfl
theorem uniAt_all (l : List Sp) : uniAt l l.length = norm l := by unfold uniAt; rw [List.take_length]; exact unionR_norm l
theorem uniAt_len (l : List Sp) : ∀ k, k ≤ l.length → (uniAt l k).length ≤ k
  | 0, _ => by simp [uniAt]
  | k + 1, h => by
    rw [uniAt_next (by omega)]
    have := uniAt_len l k (by omega)
    have := ins_len (uniAt l k) l[k]
    split <;> omega
theorem norm_len (l : List Sp) : (norm l).length ≤ l.length := by rw [← uniAt_all]; exact uniAt_len l _ (Nat.le_refl _)

set_option maxRecDepth 20000 in
set_option maxHeartbeats 4000000 in
theorem runion_any (l : List Sp) (A : Option Addr) (ca : Nat) (w : World) (ha : Spans w A l) (hl : l.length ≤ 9000) :
    Calls Try.prog 22 #[.slice A l.length ca] w (RetSpans (norm l) w) := by
  have HALL := Lib.hid (uniAt_all l)
  generalize norm l = R at *
  go_enter Try.func22, Try.ntmps22
  go_wp2
  go_loopw [3, 4] (fun v i wr => ∃ k : Nat, k ≤ l.length ∧ i = .int .i64 (k : Int) ∧ OwnS wr w.heap.size (uniAt l k) v ∧ Below w.heap.size w wr) (fun _ i _ => l.length + 1 - (intOf i).toNat)
  case atStart => exact ⟨0, by omega, rfl, own_empty2 w, (by repeat (first | assumption | exact Below.refl _ _ | refine Below.alloc ?_ (by first | omega | (simp; done) | (simp; omega)) _ | refine Below.setCell ?_ (by first | omega | (simp; done) | (simp; omega)) _ | refine Below.drew ?_ | refine Below.drewN_ ?_ _ | refine Below.step ?_ (by assumption)))⟩
  case round =>
    obtain ⟨k, hk, rfl, ⟨A', c', rfl, hown⟩, hbw⟩ := hrel
    have HO := Lib.hid hown
    have hzz := hbw.size
    clear hown
    by_cases hlt : k < l.length
    · obtain ⟨ad, rfl, hadl, d0, d1⟩ := Spans.cells (ha.below hbw) hlt
      have hadb : (ad.add (k * 2)).block < wr.heap.size := by rw [block_of_add]; exact hadl
      have HN := Lib.hid (uniAt_next hlt)
      have hfl := uniAt_len l k hk
      have k1 := fun w' => rright_any l[k] w'
      generalize uniAt l k = s at *
      generalize l[k] = x at *
      rcases hr : rt x with _ | _
      · rw [hr] at k1 HN
        clear hr
        go_wp2_with fail
        refine (k1 _).mono ?_
        rintro e w1 ⟨rfl, h1⟩
        have hb1 : Below w.heap.size w w1 := Below.step hbw h1
        have HO1 : Hid (OwnS w1 w.heap.size (uniAt l (k + 1)) (.slice A' s.length c')) := Lib.hid (by
          rw [HN.out]; simp only [Bool.false_eq_true, if_false]
          exact ⟨A', c', rfl, own_below HO.out h1⟩)
        clear h1 k1
        go_wp2
        go_roundw
        case rel => exact ⟨k + 1, by omega, by go_num, HO1.out, hb1⟩
        case measure => simp [intOf]; omega
      · rw [hr] at k1 HN
        clear hr
        go_wp2_with fail
        refine (k1 _).mono ?_
        rintro e w1 ⟨rfl, h1⟩
        have hb1 : Below w.heap.size w w1 := Below.step hbw h1
        have O1 := own_below HO.out h1
        have k2 := insert_any s x A' c' w1 (Spans.of_own O1) (by omega)
        have d0' := (h1.cell (p := ad.add (k * 2)) hadb).trans d0
        have d1' := (h1.cell (p := ⟨(ad.add (k * 2)).block, (ad.add (k * 2)).off + 1, none⟩) hadb).trans d1
        have hz1 := hb1.size
        have HB1 := Lib.hid hb1
        clear h1 O1 k1 d0 d1
        go_wp2_with fail
        refine k2.mono ?_
        rintro e w2 ⟨A2, c2, rfl, ho2, h2⟩
        have hb2 : Below w.heap.size w w2 := Below.step HB1.out h2
        have HO2 : Hid (OwnS w2 w.heap.size (uniAt l (k + 1)) (.slice A2 (ins s x).length c2)) := Lib.hid (by
          rw [HN.out]; simp only [if_true]
          exact ⟨A2, c2, rfl, own_lower ho2 hz1⟩)
        clear h2 ho2 k2
        go_wp2
        go_roundw
        case rel => exact ⟨k + 1, by omega, by go_num, HO2.out, hb2⟩
        case measure => simp [intOf]; omega
    · obtain rfl : k = l.length := by omega
      rw [HALL.out] at HO
      have HR := Lib.hid (OwnS.ret ⟨A', c', rfl, HO.out⟩ hbw)
      go_wp2
      go_ret
      have h := HR.out
      rw [HALL.out]
      exact h

set_option maxRecDepth 20000 in
set_option maxHeartbeats 4000000 in
theorem copied_any (l : List Sp) (A : Option Addr) (ca : Nat) (w : World) (ha : Spans w A l) (hl : l.length ≤ 10000) :
    Calls Try.prog 21 #[.slice A l.length ca] w (RetSpans l w) := by
  obtain ⟨i0, hi, hz0, hz1, hz2⟩ := info_parts info_span
  go_enter Try.func21, Try.ntmps21
  go_wp2_with (at_builtin; refine wpList_append_any _ rfl _ _ _ rfl w.heap.size 23 i0 _ 2 16 Try.underlying30 hi hz0 hz1 hz2 rfl (by omega) _ 0 [] rfl (own_empty3 w) w.heap.size A l.length ca (l.flatMap encS) rfl (Reads.alloc (Spans.reads ha) (Nat.le_refl _) _) (one_spans _) (by simp only [maxLen]; omega) (by omega) (by simp) ?_; intro v4 w4 hown4 hg4 _)
  have HB4 : Hid (Below w.heap.size w w4) := Lib.hid (((Below.refl _ w).alloc (Nat.le_refl _) _).grown hg4 (by simp) (fun g hg => Nat.le_of_eq (Option.some.inj hg)))
  have HO4 : Hid (OwnS w4 w.heap.size l v4) := Lib.hid (by obtain ⟨A5, q5, rfl⟩ := own_form hown4; exact ⟨A5, q5, by simp, by simpa using hown4⟩)
  clear hown4 hg4
  go_wp2
  go_ret
  exact HO4.out.ret HB4.out
end Go.Proofs.Ytofnbohcofgfkaa
