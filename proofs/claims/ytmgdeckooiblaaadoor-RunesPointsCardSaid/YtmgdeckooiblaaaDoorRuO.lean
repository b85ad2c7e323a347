/- The order of a short cluster: the library's sort of fewer than 20, by class. -/
import Derived.Test.YtmgdeckooiblaaaDoorRuH
import Derived.BigRegion
namespace Go.Proofs.YtmgdeckooiblaaaDoor
open Go.RowKit

/-- The comparison of two numbers by class. -/
def cmpC (p q : Int) : Int := Lib.compareInt (cls p) (cls q)
set_option maxRecDepth 20000 in
theorem cmpC_any (p q : Int) (w : World) : Calls Tryd.prog 39 #[.int .i64 p, .int .i64 q] w (Ret (.int .i64 (cmpC p q)) w) := by
  have k1 := fun w' => RetW.ret (class_any p w')
  have k2 := fun w' => RetW.ret (class_any q w')
  have k3 := fun w' => (Tryd.cmp_Compare_int (cls p) (cls q) w')
  have HC : Hid (cmpC p q = Lib.compareInt (cls p) (cls q)) := Lib.hid rfl
  generalize cmpC p q = R at *
  generalize cls p = a at *
  generalize cls q = c at *
  go_enter Tryd.func39, Tryd.ntmps39
  go_wp2_with fail
  refine (k1 _).mono ?_
  rintro e w1 ⟨rfl, hb1⟩
  go_wp2_with fail
  refine (k2 _).mono ?_
  rintro e w2 ⟨rfl, hb2⟩
  have HB := Lib.hid (Below.step hb1 hb2)
  clear hb1 hb2
  go_wp2_with fail
  refine (k3 _).mono ?_
  rintro e w3 ⟨rfl, rfl⟩
  go_wp2
  go_ret
  exact Ret.mk (by rw [HC.out]; rfl) HB.out
/-- A number sinks among those before it. -/
def bub : List Int → Nat → List Int
  | L, 0 => L
  | L, j + 1 => if cmpC (L.getD (j + 1) 0) (L.getD j 0) < 0 then bub ((L.set (j + 1) (L.getD j 0)).set j (L.getD (j + 1) 0)) j else L
def isort (L : List Int) : Nat → List Int
  | 0 => L
  | k + 1 => bub (isort L k) k
theorem bub_len : ∀ (j : Nat) (L : List Int), (bub L j).length = L.length
  | 0, L => rfl
  | j + 1, L => by
    unfold bub
    split
    · rw [bub_len j]; simp
    · rfl
theorem isort_len (L : List Int) : ∀ k, (isort L k).length = L.length
  | 0 => rfl
  | k + 1 => by show (bub (isort L k) k).length = _; rw [bub_len, isort_len L k]
theorem row_set {w : World} {B g n cap : Nat} {L : List Int} (h : w.ownsRow B 3 1 (.slice (some ⟨g, 0, none⟩) n cap) n (L.map (Value.int .i64))) (j : Nat) (x : Int) :
    (w.setCell ⟨g, j, none⟩ (.int .i64 x)).ownsRow B 3 1 (.slice (some ⟨g, 0, none⟩) n cap) n ((L.set j x).map (Value.int .i64)) := by
  have := (h.stored j (.int .i64 x)).1
  rwa [← List.map_set] at this
set_option maxRecDepth 20000 in
set_option maxHeartbeats 4000000 in
theorem insert_any (L : List Int) (B g : Nat) (cap : Nat) (w : World) (hn : L.length ≤ 1000) (hn1 : 1 ≤ L.length) (hBg : B ≤ g) (hBw : B ≤ w.heap.size) (ho : w.ownsRow B 3 1 (.slice (some ⟨g, 0, none⟩) L.length cap) L.length (L.map (Value.int .i64))) :
    Calls Tryd.prog 47 #[.slice (some ⟨g, 0, none⟩) L.length cap, .int .i64 0, .int .i64 (L.length : Int), .func (.func 39) #[] #[]] w fun e w' => (∃ v, e = .returned v) ∧
      w'.ownsRow B 3 1 (.slice (some ⟨g, 0, none⟩) L.length cap) L.length ((isort L L.length).map (Value.int .i64)) ∧ Below B w w' := by
  have HO0 := Lib.hid ho
  obtain ⟨n, hnn⟩ : ∃ n, n = L.length := ⟨_, rfl⟩
  have HNN := Lib.hid hnn
  rw [← hnn] at hn hn1 ho ⊢
  clear hnn ho
  go_enter Tryd.func47, Tryd.ntmps47
  go_wp2
  go_loopw [8, 9] (fun i _ wr => ∃ k : Nat, 1 ≤ k ∧ k ≤ n ∧ i = .int .i64 (k : Int) ∧ Hid (wr.ownsRow B 3 1 (.slice (some ⟨g, 0, none⟩) n cap) n ((isort L k).map (Value.int .i64))) ∧ Below B w wr) (fun i _ _ => n + 1 - (intOf i).toNat)
  case atStart => exact ⟨1, by omega, hn1, rfl, Lib.hid (by rw [HNN.out]; exact HO0.out), Below.refl _ _⟩
  case round =>
    obtain ⟨k, hk1, hk, rfl, HO, hbw⟩ := hrel
    by_cases hlt : k < n
    · have hltI : (k : Int) < (n : Int) := by omega
      have HT : Hid (isort L (k + 1) = bub (isort L k) k) := Lib.hid rfl
      have hll := isort_len L k
      generalize isort L k = Lk at *
      go_wp2
      go_loopw [9] (fun j wj => ∃ (q : Nat) (Lc : List Int), q ≤ k ∧ Lc.length = n ∧ j = .int .i64 (q : Int) ∧ Hid (bub Lc q = bub Lk k) ∧ Hid (wj.ownsRow B 3 1 (.slice (some ⟨g, 0, none⟩) n cap) n (Lc.map (Value.int .i64))) ∧ Below B w wj) (fun j _ => (intOf j).toNat)
      case atStart => exact ⟨k, Lk, Nat.le_refl _, by rw [hll, HNN.out], rfl, Lib.hid rfl, HO, hbw⟩
      case round =>
        obtain ⟨q, Lc, hq, hlc, rfl, HQ, HOj, hbj⟩ := hrel
        have hszw := hbj.size
        have hszw' : B ≤ wr.heap.size := Nat.le_trans hBw hszw
        cases q with
        | zero =>
          have HR : Hid (wr.ownsRow B 3 1 (.slice (some ⟨g, 0, none⟩) n cap) n ((isort L (k + 1)).map (Value.int .i64))) := Lib.hid (by rw [HT.out, ← HQ.out]; exact HOj.out)
          go_wp2_with fail
          go_quiet (fail)
          go_wp2
          go_roundw
          case rel => exact ⟨k + 1, by omega, by omega, by go_num, HR, Below.drewN_ hbj _⟩
          case measure => simp [intOf]; omega
        | succ p =>
          obtain ⟨x, hx⟩ : ∃ x, Lc.getD (p + 1) 0 = x := ⟨_, rfl⟩
          obtain ⟨y, hy⟩ : ∃ y, Lc.getD p 0 = y := ⟨_, rfl⟩
          have hgx : Lc[p + 1]? = some x := by rw [← hx, List.getD_eq_getElem?_getD, List.getElem?_eq_getElem (by omega)]; rfl
          have hgy : Lc[p]? = some y := by rw [← hy, List.getD_eq_getElem?_getD, List.getElem?_eq_getElem (by omega)]; rfl
          have HXC : Hid (∀ W : World, W.ownsRow B 3 1 (.slice (some ⟨g, 0, none⟩) n cap) n (Lc.map (Value.int .i64)) → W.cell? ⟨g, p + 1, none⟩ = some (.int .i64 x) ∧ W.cell? ⟨g, p, none⟩ = some (.int .i64 y) ∧ W.frozen? ⟨g, p + 1, none⟩ = false ∧ W.frozen? ⟨g, p, none⟩ = false) := Lib.hid (fun W h => ⟨by rw [h.cellAt (p + 1) (by omega), List.getElem?_map, hgx]; rfl, by rw [h.cellAt p (by omega), List.getElem?_map, hgy]; rfl, h.frozenAt _, h.frozenAt _⟩)
          have HBU : Hid (bub Lc (p + 1) = if cmpC x y < 0 then bub ((Lc.set (p + 1) y).set p x) p else Lc) := Lib.hid (by rw [← hx, ← hy]; rfl)
          clear hx hy hgx hgy
          have p1 : ∀ a : Past wr, a.val.cell? ⟨g, p + 1, none⟩ = some (.int .i64 x) := fun a => (HXC.out _ (own_below HOj.out a.below)).1
          have p2 : ∀ a : Past wr, a.val.cell? ⟨g, p, none⟩ = some (.int .i64 y) := fun a => (HXC.out _ (own_below HOj.out a.below)).2.1
          have kc := fun w' => cmpC_any x y w'
          have hd0 : decide ((0 : Int) < (p : Int) + 1) = true := decide_eq_true (by omega)
          have hpn : (p : Int) + 1 < (n : Int) := by omega
          have hpm : (p : Int) < (n : Int) := by omega
          have hp0 : (0 : Int) ≤ (p : Int) + 1 := by omega
          have hpt : ((p : Int) + 1).toNat = p + 1 := by omega
          have hwp : IntKind.i64.wrap (p : Int) = (p : Int) := by rw [IntKind.wrap_i64]; omega
          generalize cmpC x y = c at *
          go_wp2_with fail
          refine region_past (by kernel_rfl) (by kernel_rfl) ?_
          repeat (go_big_quiet_step (first | with_reducible exact Calls.past (kc _)))
          refine wpQuiet_nil ?_
          rintro w2 ⟨⟨_, hb2⟩, rfl⟩
          have HO2 := Lib.hid (own_below HOj.out hb2)
          have hbj2 : Below B w w2 := hbj.trans (hb2.mono hszw')
          by_cases hc : c < 0
          · have HQ2 : Hid (bub ((Lc.set (p + 1) y).set p x) p = bub Lk k) := Lib.hid (by rw [← HQ.out, HBU.out, if_pos hc])
            obtain ⟨c1, c2, f1, f2⟩ := HXC.out _ HO2.out
            have HS := Lib.hid (row_set (row_set HO2.out (p + 1) y) p x)
            have hB3 := Lib.hid ((hbj2.setCell (p := ⟨g, p + 1, none⟩) hBg (.int .i64 y)).setCell (p := ⟨g, p, none⟩) hBg (.int .i64 x))
            have hlc2 : ((Lc.set (p + 1) y).set p x).length = n := by simp [hlc]
            have HL2 := Lib.hid hlc2
            clear hlc2
            have hcd : decide (c < 0) = true := decide_eq_true hc
            go_wp2
            go_region
            all_goals
              go_wp2
              go_roundw
              case rel => exact ⟨p, _, by omega, HL2.out, by go_num, HQ2, HS, hB3.out.drew⟩
              case measure => simp [intOf]
          · have HR : Hid (w2.ownsRow B 3 1 (.slice (some ⟨g, 0, none⟩) n cap) n ((isort L (k + 1)).map (Value.int .i64))) := Lib.hid (by rw [HT.out, ← HQ.out, HBU.out, if_neg hc]; exact HO2.out)
            go_wp2
            go_roundw
            case rel => exact ⟨k + 1, by omega, by omega, by go_num, HR, hbj2⟩
            case measure => simp [intOf]; omega
    · obtain rfl : k = n := by omega
      go_wp2
      go_end0
      exact ⟨⟨_, rfl⟩, HO.out, hbw⟩
set_option maxRecDepth 20000 in
theorem stable_any (L : List Int) (B g : Nat) (cap : Nat) (w : World) (hn : L.length ≤ 19) (hn1 : 1 ≤ L.length) (hBg : B ≤ g) (hBw : B ≤ w.heap.size) (ho : w.ownsRow B 3 1 (.slice (some ⟨g, 0, none⟩) L.length cap) L.length (L.map (Value.int .i64))) :
    Calls Tryd.prog 45 #[.slice (some ⟨g, 0, none⟩) L.length cap, .int .i64 (L.length : Int), .func (.func 39) #[] #[]] w fun e w' => (∃ v, e = .returned v) ∧
      w'.ownsRow B 3 1 (.slice (some ⟨g, 0, none⟩) L.length cap) L.length ((isort L L.length).map (Value.int .i64)) ∧ Below B w w' := by
  have k := insert_any L B g cap w (by omega) hn1 hBg hBw ho
  generalize isort L L.length = R at *
  obtain ⟨n, hnn⟩ : ∃ n, L.length = n := ⟨_, rfl⟩
  rw [hnn] at k hn hn1 ⊢
  clear ho hnn
  have h20 : decide ((20 : Int) ≤ (n : Int)) = false := decide_eq_false (by omega)
  have h21 : decide ((20 : Int) < (n : Int)) = false := decide_eq_false (by omega)
  go_enter Tryd.func45, Tryd.ntmps45
  go_wp2
  go_loopw [7, 8] (fun a b wr => a = .int .i64 0 ∧ b = .int .i64 20 ∧ wr = w) (fun _ _ _ => 0)
  case atStart => exact ⟨rfl, rfl, rfl⟩
  case round =>
    obtain ⟨rfl, rfl, rfl⟩ := hrel
    go_wp2_with fail
    refine k.mono ?_
    rintro e w1 ⟨⟨v, rfl⟩, h1, h2⟩
    have HH := Lib.hid h1
    have HK := Lib.hid h2
    clear h1 h2
    go_wp2
    go_loopw [6] (fun bs wr => bs = .int .i64 20 ∧ wr = w1) (fun _ _ => 0)
    case atStart => exact ⟨rfl, rfl⟩
    case round =>
      obtain ⟨rfl, rfl⟩ := hrel
      go_wp2
      go_end0
      exact ⟨⟨_, rfl⟩, HH.out, HK.out⟩
set_option maxRecDepth 20000 in
theorem sort_any (L : List Int) (B g : Nat) (cap : Nat) (w : World) (hn : L.length ≤ 19) (hn1 : 1 ≤ L.length) (hBg : B ≤ g) (hBw : B ≤ w.heap.size) (ho : w.ownsRow B 3 1 (.slice (some ⟨g, 0, none⟩) L.length cap) L.length (L.map (Value.int .i64))) :
    Calls Tryd.prog 38 #[.slice (some ⟨g, 0, none⟩) L.length cap, .func (.func 39) #[] #[]] w fun e w' => (∃ v, e = .returned v) ∧
      w'.ownsRow B 3 1 (.slice (some ⟨g, 0, none⟩) L.length cap) L.length ((isort L L.length).map (Value.int .i64)) ∧ Below B w w' := by
  have k := stable_any L B g cap w hn hn1 hBg hBw ho
  go_enter Tryd.func38, Tryd.ntmps38
  go_wp2_with fail
  refine k.mono ?_
  rintro e w1 ⟨⟨v, rfl⟩, h1, h2⟩
  go_wp2
  go_end0
  exact ⟨⟨_, rfl⟩, h1, h2⟩
end Go.Proofs.YtmgdeckooiblaaaDoor
