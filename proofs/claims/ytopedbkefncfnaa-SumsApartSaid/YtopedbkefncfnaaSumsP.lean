/- The walks of changed and equal. -/
import Derived.Test.YtopedbkefncfnaaSumsN
namespace Go.Proofs.Ytopedbkefncfnaa
open Go.RowKit

theorem equal_any (a b : List UInt8) (A B : Option Addr) (ca cb : Nat) (w : World) (ha : Bytes w A a) (hb : Bytes w B b) :
    Calls Try.prog 24 #[.slice A a.length ca, .slice B b.length cb] w (Ret (.bool (a == b)) w) := by
  have h1 := run_bytes_string w A a ca ha
  have h2 := run_bytes_string w B b cb hb
  go_enter Try.func24, Try.ntmps24
  go_wp2
  go_ret
  exact Ret.mk (congrArg Value.bool (by simp)) (Below.refl _ _)

/-- The call returns bytes that read as l. -/
def RetBytes (l : List UInt8) (w : World) (e : Ending) (w' : World) : Prop := ∃ A cap, e = .returned (.slice A l.length cap) ∧ Bytes w' A l ∧ Below w.heap.size w w'

theorem xor_u8 (c x : UInt8) : bits .xor .u8 (c.toNat : Int) (x.toNat : Int) = ((c ^^^ x).toNat : Int) := by
  rw [u8_xor_nat _ _ c.toNat_lt x.toNat_lt, UInt8.toNat_xor]

/-- Block g holds four bytes. -/
def Four (w : World) (g : Nat) (x0 x1 x2 x3 : UInt8) : Prop := g < w.heap.size ∧ ∀ i : Nat, i < 4 → w.cell? ⟨g, i, none⟩ = some (.int .u8 ((sel x0 x1 x2 x3 i).toNat : Int))

theorem Four.far {w : World} {g : Nat} {x0 x1 x2 x3 : UInt8} (h : Four w g x0 x1 x2 x3) {p : Addr} (hp : g < p.block) (u : Value) : Four (w.setCell p u) g x0 x1 x2 x3 :=
  ⟨by simpa using h.1, fun i hi => (World.cell?_setCell_other w p ⟨g, i, none⟩ u (fun e => by subst e; simp at hp)).trans (h.2 i hi)⟩
theorem Four.drew {w : World} {g : Nat} {x0 x1 x2 x3 : UInt8} (h : Four w g x0 x1 x2 x3) : Four w.drew g x0 x1 x2 x3 := h
theorem own_drew {w : World} {base : Nat} {e : TypeId} {size n : Nat} {v : Value} {xs : List Value} (h : w.ownsRow base e size v n xs) : w.drew.ownsRow base e size v n xs := h

set_option maxHeartbeats 1000000 in
theorem changed_any (b : List UInt8) (B : Option Addr) (cb : Nat) (at_ : Int) (hat : Fits at_) (x0 x1 x2 x3 : UInt8) (w : World) (hb : Bytes w B b) (hl : b.length ≤ 5000) :
    Calls Try.prog 23 #[.slice B b.length cb, .int .i64 at_, .agg #[.int .u8 (x0.toNat : Int), .int .u8 (x1.toNat : Int), .int .u8 (x2.toNat : Int), .int .u8 (x3.toNat : Int)]] w
      (RetBytes (chg b at_ (sel x0 x1 x2 x3) 4) w) := by
  obtain ⟨i0, hi0, hz0, hz1, hz2⟩ := info_parts info_u8
  obtain ⟨ha1, ha2⟩ := hat
  go_enter Try.func23, Try.ntmps23
  go_wp2_with (at_builtin; refine wpList_append_any _ rfl (.tmp 9) (.tmp 10) _ rfl (w.heap.size + 1) 5 i0 _ 1 1 Try.underlying22 hi0 hz0 hz1 hz2 rfl (by omega) (.slice none 0 0) 0 [] rfl ⟨by simp, .inl ⟨rfl, rfl⟩⟩ w.heap.size B b.length cb _ rfl (Reads.alloc hb (Nat.le_refl _) _) (one_u8 b) (by simp only [maxLen]; omega) (by omega) (by simp) ?_; intro v1 w1 hown1 hg1 hat1)
  have hblk : Four (w.alloc (.cells #[.int .u8 (x0.toNat : Int), .int .u8 (x1.toNat : Int), .int .u8 (x2.toNat : Int), .int .u8 (x3.toNat : Int)] 38)) w.heap.size x0 x1 x2 x3 := ⟨by simp, fun i hi => by
    rw [World.cell?_alloc_at _ _ _ _ rfl]
    have : i = 0 ∨ i = 1 ∨ i = 2 ∨ i = 3 := by omega
    rcases this with rfl | rfl | rfl | rfl <;> rfl⟩
  have hb1 : Below w.heap.size w w1 := ((Below.refl _ _).alloc (Nat.le_refl _) _).trans ((((Below.refl _ _).grown hg1 (by simp) (by simp [Value.ownBlock]) : Below (w.heap.size + 1) _ w1)).mono (by omega))
  have hblk1 : Four w1 w.heap.size x0 x1 x2 x3 := by
    have hb' : Below (w.heap.size + 1) _ w1 := (Below.refl _ _).grown hg1 (by simp) (by simp [Value.ownBlock])
    exact ⟨Nat.lt_of_lt_of_le hblk.1 hb'.size, fun i hi => (hb'.cell (p := ⟨w.heap.size, i, none⟩) (by simp)).trans (hblk.2 i hi)⟩
  have hown : w1.ownsRow (w.heap.size + 1) 5 1 v1 b.length ((chg b at_ (sel x0 x1 x2 x3) 0).map fun c => Value.int .u8 c.toNat) := by
    rw [chg_zero]
    simpa using hown1
  clear hown1 hg1 hat1 hblk hi0 hz0 hz1 hz2
  obtain ⟨A1, c1, rfl⟩ := own_form hown
  go_loopw [8] (fun i wr => ∃ n : Nat, n ≤ 4 ∧ i = .int .i64 (n : Int) ∧ wr.ownsRow (w.heap.size + 1) 5 1 (.slice A1 b.length c1) b.length ((chg b at_ (sel x0 x1 x2 x3) n).map fun c => Value.int .u8 c.toNat) ∧ Four wr w.heap.size x0 x1 x2 x3 ∧ Below w.heap.size w wr) (fun i _ => 5 - (intOf i).toNat)
  case atStart => exact ⟨0, by omega, rfl, hown, hblk1, hb1⟩
  case round =>
    obtain ⟨n, hn, rfl, Hown, hF, hbw⟩ := hrel
    clear hown hblk1 hb1 hb
    have HO := Lib.hid Hown
    clear Hown
    by_cases h4 : n < 4
    · have hlt : (n : Int) < 4 := by omega
      by_cases hin : 0 ≤ at_ ∧ at_ + n < b.length
      · obtain ⟨k1, k2⟩ := hin
        obtain ⟨m, rfl⟩ : ∃ m : Nat, at_ = m := ⟨at_.toNat, by omega⟩
        have HC := Lib.hid (chg_set b m (sel x0 x1 x2 x3) n (m + n) (by omega) k1 (by omega))
        have hkl : m + n < b.length := by omega
        obtain ⟨g, c', hv, hg, hlt'⟩ := HO.out.form (by omega)
        injection hv with hA _ hcc
        subst hA hcc
        have hcell : wr.cell? ⟨g, m + n, none⟩ = some (.int .u8 (b[m + n].toNat : Int)) := by
          rw [HO.out.cellAt (m + n) (by omega), List.getElem?_map, chg_at _ _ _ _ _ hkl, if_neg (by omega)]
          rfl
        have hfro := HO.out.frozenAt (m + n)
        have hsel := hF.2 n h4
        have hx := xor_u8 b[m + n] (sel x0 x1 x2 x3 n)
        have q1 : (m : Int) < b.length := by omega
        have q2 : (n : Int) < (b.length : Int) - m := by omega
        have q3 : (m : Int) + n < b.length := by omega
        have q4 : (0 : Int) ≤ (m : Int) + n := by omega
        generalize b[m + n] = cc at *
        generalize sel x0 x1 x2 x3 n = xx at *
        go_wp2_with fail
        go_region
        go_wp2
        go_roundw
        case rel =>
          refine ⟨n + 1, by omega, by go_num, ?_, (hF.far (p := ⟨g, m + n, none⟩) (by show w.heap.size < g; omega) _).drew, (hbw.setCell (p := ⟨g, m + n, none⟩) (by show w.heap.size ≤ g; omega) _).drew⟩
          have hs := (HO.out.stored (m + n) (.int .u8 ((cc ^^^ xx).toNat : Int))).1
          have hm : ((chg b m (sel x0 x1 x2 x3) n).map fun c => Value.int .u8 (c.toNat : Int)).set (m + n) (.int .u8 ((cc ^^^ xx).toNat : Int)) = (chg b m (sel x0 x1 x2 x3) (n + 1)).map fun c => Value.int .u8 (c.toNat : Int) := by
            rw [← HC.out, List.map_set]
          rw [hm, UInt8.toNat_xor] at hs
          exact own_drew hs
        case measure => simp [intOf]; omega
      · have HS := Lib.hid (chg_skip b at_ (sel x0 x1 x2 x3) n hin)
        by_cases c1 : at_ < 0
        · clear hin
          go_wp2
          go_roundw
          case rel => exact ⟨n + 1, by omega, by go_num, by rw [HS.out]; exact HO.out, hF, hbw⟩
          case measure => simp [intOf]; omega
        · by_cases c2 : (b.length : Int) ≤ at_
          · have c1' : 0 ≤ at_ := by omega
            clear hin
            go_wp2
            go_roundw
            case rel => exact ⟨n + 1, by omega, by go_num, by rw [HS.out]; exact HO.out, hF, hbw⟩
            case measure => simp [intOf]; omega
          · have c1' : 0 ≤ at_ := by omega
            have c2' : at_ < b.length := by omega
            have c3 : (b.length : Int) - at_ ≤ n := by omega
            clear hin
            go_wp2
            go_roundw
            case rel => exact ⟨n + 1, by omega, by go_num, by rw [HS.out]; exact HO.out, hF, hbw⟩
            case measure => simp [intOf]; omega
    · obtain rfl : n = 4 := by omega
      have hlen := chg_len b at_ (sel x0 x1 x2 x3) 4
      go_wp2
      go_ret
      exact ⟨A1, c1, by rw [hlen]; rfl, Bytes.of_own hlen HO.out, hbw⟩
end Go.Proofs.Ytopedbkefncfnaa
