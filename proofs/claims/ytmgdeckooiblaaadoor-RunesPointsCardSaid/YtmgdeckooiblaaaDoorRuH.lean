/- Of, in the code. -/
import Derived.Test.YtmgdeckooiblaaaDoorRuE
import Derived.Test.YtmgdeckooiblaaaDoorShelf
namespace Go.Proofs.YtmgdeckooiblaaaDoor
open Go.RowKit

theorem cells_enc {p : Nat} (h : scal p) : Lib.runeCells (p : Int) = (enc p).map fun c => Value.int .u8 (c.toNat : Int) := by
  have e := enc_lib h
  have hm := encN_byte h
  have hz : Lib.encodeRuneZ (p : Int) = (encN p).map (fun x : Nat => (x : Int)) := by
    unfold scal at h
    unfold encN
    by_cases h1 : p < 128
    · rw [if_pos h1, Lib.encodeRuneZ_one (by omega) (by omega)]; rfl
    · rw [if_neg h1]
      by_cases h2 : p < 2048
      · rw [if_pos h2, Lib.encodeRuneZ_two (by omega) (by omega)]; simp
      · rw [if_neg h2]
        by_cases h3 : p < 65536
        · rw [if_pos h3, Lib.encodeRuneZ_three (by omega)]; simp
        · rw [if_neg h3, Lib.encodeRuneZ_four (by omega) (by omega)]; simp
  unfold Lib.runeCells enc
  rw [hz, List.map_map, List.map_map]
  apply List.map_congr_left
  intro x hx
  show Value.int .u8 (x : Int) = Value.int .u8 ((UInt8.ofNat x).toNat : Int)
  rw [ofNat_toNat' x (hm x hx)]

def Own8 (B : Nat) (w : World) (v : Value) (l : List UInt8) : Prop := ∃ A c, v = .slice A l.length c ∧ w.ownsRow B 5 1 (.slice A l.length c) l.length (l.map fun c => Value.int .u8 (c.toNat : Int))
theorem Own8.mk {B : Nat} {w : World} {v : Value} {l : List UInt8} {n : Nat} {xs : List Value} (h : w.ownsRow B 5 1 v n xs) (hn : n = l.length) (hx : xs = l.map fun c => Value.int .u8 (c.toNat : Int)) : Own8 B w v l := by
  obtain ⟨A, c, rfl⟩ := own_form h
  subst hn hx
  exact ⟨A, c, rfl, h⟩

set_option maxRecDepth 20000 in
set_option maxHeartbeats 2000000 in
theorem of_any (l : List Int) (A : Option Addr) (cap : Nat) (w : World) (ha : Ints w A l) (hl : l.length ≤ 100000) : Calls Tryd.prog 17 #[.slice A l.length cap] w (Ret (.tuple #[.string ⟨(ofV l).toArray⟩, .bool (ofB l)]) w) := by
  have HN : Hid (∀ k (hk : k < l.length), scB l[k] = false → ofV l = [] ∧ ofB l = false) := Lib.hid (fun k hk h => of_bad hk h)
  have HS : Hid ((∀ j (hj : j < l.length), scB l[j] = true) → ofV l = accS l l.length ∧ ofB l = true) := Lib.hid of_good
  generalize ofV l = V at *
  generalize ofB l = B at *
  go_enter Tryd.func17, Tryd.ntmps17
  go_wp2
  go_loopw [4, 9] (fun o i wr => ∃ (k : Nat) (t : List UInt8), k ≤ l.length ∧ t.length ≤ 4 * k ∧ i = .int .i64 (k : Int) ∧ Hid (t = accS l k) ∧ Hid (∀ j (hj : j < l.length), j < k → scB l[j] = true) ∧ Own8 w.heap.size wr o t ∧ Below w.heap.size w wr) (fun _ i _ => l.length + 1 - (intOf i).toNat)
  case atStart => exact ⟨0, [], by omega, by simp, rfl, Lib.hid rfl, Lib.hid (fun j _ h => absurd h (by omega)), ⟨none, 0, rfl, World.ownsRow_nil _ _ _ _⟩, Below.refl _ _⟩
  case round =>
    obtain ⟨k, t, hk, htl, rfl, HD, HJ, ⟨A3, c3, rfl, HO⟩, hbw⟩ := hrel
    replace HO := Lib.hid HO
    have hb0 := hbw.size
    by_cases hlt : k < l.length
    · obtain ⟨ad, rfl, hlb, c1⟩ := (ha.below hbw).at_ hlt
      have hltI : (k : Int) < l.length := by omega
      by_cases hsc : scB l[k] = true
      · have hs := scal_of hsc
        have ks := isScalar_any l[k] wr
        rw [hsc] at ks
        have hp : l[k] = ((l[k]).toNat : Int) := by unfold scal at hs; omega
        have HT : Hid (t ++ enc (l[k]).toNat = accS l (k + 1)) := Lib.hid (by rw [accS_next hlt, HD.out])
        have HK : Hid (∀ j (hj : j < l.length), j < k + 1 → scB l[j] = true) := Lib.hid (fun j hj h => by
          rcases Nat.lt_or_ge j k with h1 | h1
          · exact HJ.out j hj h1
          · obtain rfl : j = k := by omega
            exact hsc)
        have hel := enc_len (l[k]).toNat
        have HC : Hid (Lib.runeCells l[k] = (enc (l[k]).toNat).map fun c => Value.int .u8 (c.toNat : Int)) := Lib.hid (by
          have := cells_enc (p := (l[k]).toNat) (by rw [← hp]; exact hs)
          rw [← hp] at this
          exact this)
        have HR : Hid (-2147483648 ≤ l[k] ∧ l[k] ≤ 2147483647) := Lib.hid (by unfold scal at hs; omega)
        have hw32 : IntKind.i32.wrap l[k] = l[k] := by rw [IntKind.wrap_i32]; unfold scal at hs; omega
        clear hsc hs hp
        generalize enc (l[k]).toNat = en at *
        generalize l[k] = x at *
        go_wp2_with fail
        refine ks.mono ?_
        rintro e w1 ⟨rfl, rfl⟩
        clear ks
        go_wp2_with fail
        refine (Tryd.utf8_AppendRune_plain w.heap.size _ t.length _ x HR.out.1 HR.out.2 _ HO.out (by omega) hb0).mono ?_
        rintro e w2 ⟨v', rfl, hown, o, hg⟩
        have HB : Hid (Below w.heap.size w w2) := Lib.hid ((hbw.alloc hb0 o).grown hg (by simp; omega) (fun g hg => (HO.out.lt g hg).1))
        have HN2 : Hid (Own8 w.heap.size w2 v' (t ++ en)) := Lib.hid (Own8.mk hown (by rw [HC.out]; simp) (by rw [HC.out]; simp))
        clear hg hown hw32
        go_wp2
        go_roundw
        case rel => exact ⟨k + 1, t ++ en, by omega, by simp; omega, by go_num, HT, HK, HN2.out, HB.out⟩
        case measure => simp [intOf]; omega
      · have hsf : scB l[k] = false := by simpa using hsc
        obtain ⟨rfl, rfl⟩ := HN.out k hlt hsf
        have ks := isScalar_any l[k] wr
        rw [hsf] at ks
        clear hsc hsf
        generalize l[k] = x at *
        go_wp2_with fail
        refine ks.mono ?_
        rintro e w1 ⟨rfl, rfl⟩
        clear ks
        go_wp2
        go_ret2
        exact Ret.mk rfl hbw
    · obtain rfl : k = l.length := by omega
      obtain ⟨rfl, rfl⟩ := HS.out (fun j hj => HJ.out j hj hj)
      have HD' := HD.out
      subst HD'
      have kc := run_bytes_string wr A3 (accS l l.length) c3 (Reads.of_own HO.out)
      go_wp2
      go_ret2
      exact Ret.mk rfl hbw
end Go.Proofs.YtmgdeckooiblaaaDoor
