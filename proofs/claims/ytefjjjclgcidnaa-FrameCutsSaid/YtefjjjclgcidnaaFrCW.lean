/- The law FrameCuts: its walk. -/
import Derived.Test.YtefjjjclgcidnaaFrV
import Derived.Test.YtefjjjclgcidnaaFrX
import Derived.Test.YtefjjjclgcidnaaFrN
import Derived.Test.YtefjjjclgcidnaaFrP
import Derived.Test.YtefjjjclgcidnaaFrCM
namespace Go.Proofs.Ytefjjjclgcidnaa
open Go.RowKit

/-- Two addresses lie in different blocks. -/
def SepA (A B : Option Addr) : Prop := ∀ a b, A = some a → B = some b → a.block ≠ b.block
theorem SepA.symm {A B : Option Addr} (h : SepA A B) : SepA B A := fun a b ha hb e => h b a hb ha e.symm
theorem own_blk_of (A : Option Addr) (n c : Nat) : (Value.slice A n c).ownBlock = A.map (·.block) := by cases A <;> rfl
theorem sep_kept {w w' : World} {base : Nat} {e : TypeId} {size n c m d : Nat} {A B : Option Addr} {xs : List Value} (hu : w.ownsRow base e size (.slice B n c) n xs) (hg : w.grownBy w' (Value.slice A m d).ownBlock) (hs : SepA A B) : w'.ownsRow base e size (.slice B n c) n xs :=
  hu.kept hg (by
    rw [own_blk_of, own_blk_of]
    rcases B with _ | b
    · exact .inl rfl
    · refine .inr fun h => ?_
      rcases A with _ | a
      · cases h
      · injection h with h
        exact hs a b rfl rfl h.symm)
theorem sep_new {W : Nat} {A A' B : Option Addr} {m d m' d' : Nat} (hs : SepA A B) (hat : (Value.slice A' m' d').ownBlock = (Value.slice A m d).ownBlock ∨ (Value.slice A' m' d').ownBlock = some W) (hu : ∀ b, B = some b → b.block < W) : SepA A' B := by
  rw [own_blk_of, own_blk_of] at hat
  rintro a b rfl rfl
  rcases hat with h | h
  · rcases A with _ | a0
    · cases h
    · injection h with h
      have h' : a.block = a0.block := h
      have := hs a0 b rfl rfl
      rw [h']; exact this
  · injection h with h
    have h' : a.block = W := h
    have := hu b rfl
    omega
theorem own_lt {w : World} {base : Nat} {e : TypeId} {size n c : Nat} {B : Option Addr} {xs : List Value} (h : w.ownsRow base e size (.slice B n c) n xs) : ∀ b, B = some b → b.block < w.heap.size := by
  rintro b rfl
  exact (h.lt b.block rfl).2

theorem cat_mono (ps : List (Int × List UInt8)) {a b : Nat} (h : a ≤ b) : (cat (ps.take a)).length ≤ (cat (ps.take b)).length := by
  have e : ps.take b = ps.take a ++ (ps.take b).drop a := by
    have := List.take_append_drop a (ps.take b)
    rw [List.take_take, Nat.min_eq_left h] at this
    exact this.symm
  rw [e]
  unfold cat
  rw [List.flatMap_append, List.length_append]
  omega
/-- Block k holds a struct of two cells. -/
def Two' (w : World) (k : Nat) (a b : Value) : Prop := k < w.heap.size ∧ w.cell? ⟨k, 0, none⟩ = some a ∧ w.cell? ⟨k, 1, none⟩ = some b
theorem Two'.below {w w' : World} {k : Nat} {a b : Value} (h : Two' w k a b) (hb : Below w.heap.size w w') : Two' w' k a b :=
  ⟨Nat.lt_of_lt_of_le h.1 hb.size, ((bcell hb).1 k 0 h.1).trans h.2.1, ((bcell hb).1 k 1 h.1).trans h.2.2⟩
theorem Two'.new (w : World) (a b : Value) (t : TypeId) : Two' (w.alloc (.cells #[a, b] t)) w.heap.size a b := by
  exact ⟨by simp, by simp [go_sem], by simp [go_sem]⟩

set_option maxRecDepth 20000 in
set_option maxHeartbeats 8000000 in
theorem cuts_in (w : World) (ps : List (Int × List UInt8)) (A : Option Addr) (ca : Nat) (hp : Parts w A ps) (cut : Nat) (hl : ps.length ≤ 20) (hcut : (cut : Int) ≤ 9223372036854775807) :
    Calls Try.prog 8 #[.slice A ps.length ca, .int .i64 (cut : Int)] w (Ret (.bool true) w) := by
  obtain ⟨i0, hi0, hz0, hz1, hz2⟩ := info_parts info_int
  obtain ⟨j0, hj0, hy0, hy1, hy2⟩ := info_parts info_sl
  obtain ⟨k0, hk0, hx0, hx1, hx2⟩ := info_parts info_u8
  have hl2 : ¬ ((20 : Int) < ps.length) := by omega
  have hd1 : decide ((20 : Int) < ps.length) = false := by simpa using hl2
  have hd2 : decide (20 < ps.length) = false := by simp; omega
  have hd3 : decide ((cut : Int) < 0) = false := by simp
  have HP := Lib.hid hp
  clear hp
  go_enter Try.func8, Try.ntmps8
  go_wp2
  have o1 : (((w.alloc (.cells #[] 3)).alloc (.cells #[] 22)).alloc (.cells #[] 5)).ownsRow w.heap.size 3 1 (.slice (some ⟨w.heap.size, 0, none⟩) 0 0) 0 [] := ((own_empty w _).alloc _).alloc _
  have o2 : (((w.alloc (.cells #[] 3)).alloc (.cells #[] 22)).alloc (.cells #[] 5)).ownsRow w.heap.size 22 1 (.slice (some ⟨w.heap.size + 1, 0, none⟩) 0 0) 0 [] := by
    have := own_base (own_empty (w.alloc (.cells #[] 3)) 22) (show w.heap.size ≤ (w.alloc (.cells #[] 3)).heap.size by simp)
    exact World.ownsRow.alloc (by simpa using this) _
  have o3 : (((w.alloc (.cells #[] 3)).alloc (.cells #[] 22)).alloc (.cells #[] 5)).ownsRow w.heap.size 5 1 (.slice (some ⟨w.heap.size + 1 + 1, 0, none⟩) 0 0) 0 [] := by
    have := own_base (own_empty ((w.alloc (.cells #[] 3)).alloc (.cells #[] 22)) 5) (show w.heap.size ≤ ((w.alloc (.cells #[] 3)).alloc (.cells #[] 22)).heap.size by simp; omega)
    simpa using this
  have hb3 : Below w.heap.size w (((w.alloc (.cells #[] 3)).alloc (.cells #[] 22)).alloc (.cells #[] 5)) := ((Below.refl _ _).alloc (Nat.le_refl _) _).alloc (by simp) _ |>.alloc (by simp; omega) _
  go_loopw [5, 6, 7, 8, 9] (fun ks cs al en ii wr => ∃ (i j : Nat) (K : Option Addr) (ck : Nat) (C : Option Addr) (cc : Nat) (L : Option Addr) (cl : Nat) (vs : List Value),
    i ≤ ps.length ∧ j ≤ i ∧ ii = .int .i64 (i : Int) ∧ en = .int .i64 ((cat (ps.take j)).length : Int) ∧ ks = .slice K j ck ∧ cs = .slice C j cc ∧ al = .slice L (cat (ps.take i)).length cl ∧
    wr.ownsRow w.heap.size 3 1 (.slice K j ck) j ((ps.take j).map fun q => Value.int .i64 q.1) ∧ wr.ownsRow w.heap.size 22 1 (.slice C j cc) j vs ∧ wr.ownsRow w.heap.size 5 1 (.slice L (cat (ps.take i)).length cl) (cat (ps.take i)).length (u8s (cat (ps.take i))) ∧
    SepA K C ∧ SepA K L ∧ SepA C L ∧ Hid (ContsL w [] vs ((ps.take j).map (·.2))) ∧ Below w.heap.size w wr ∧ Hid (∀ q ∈ ps.take i, OkP q) ∧ Hid ((cat (ps.take j)).length ≤ cut) ∧ Hid (j < i → cut < (cat (ps.take (j + 1))).length)) (fun _ _ _ _ ii _ => ps.length + 1 - (intOf ii).toNat)
  case atStart =>
    refine ⟨0, 0, some ⟨w.heap.size, 0, none⟩, 0, some ⟨w.heap.size + 1, 0, none⟩, 0, some ⟨w.heap.size + 1 + 1, 0, none⟩, 0, [], by omega, by omega, rfl, rfl, rfl, rfl, rfl, o1, o2, o3, ?_, ?_, ?_, Lib.hid trivial, hb3, Lib.hid (by simp), Lib.hid (by simp [cat]), Lib.hid (by omega)⟩
    all_goals (intro a b ha hb e; injection ha with ha; injection hb with hb; subst ha hb; simp at e; try omega)
  case round =>
    obtain ⟨i, j, K, ck, C, cc, L, cl, vs, hi, hji, rfl, rfl, rfl, rfl, rfl, hK, hC, hLr, s1, s2, s3, HV, hbw, HOK, HJ, HN⟩ := hrel
    have HK := Lib.hid hK
    have HC := Lib.hid hC
    have HLr := Lib.hid hLr
    have S1 := Lib.hid s1
    have S2 := Lib.hid s2
    have S3 := Lib.hid s3
    have HBW := Lib.hid hbw
    clear hK hC hLr s1 s2 s3
    by_cases hlt : i < ps.length
    · have hlt' : (i : Int) < ps.length := by omega
      have hi0' : (0 : Int) ≤ (i : Int) := by omega
      obtain ⟨ad, B, cb, rfl, hab, hc0, hc1, hcB, hfit⟩ := HP.out i hlt
      have hcw0 : wr.cell? (ad.add (i * 2)) = some (.int .i64 ps[i].1) := (hbw.cell (by rw [block_of_add]; exact hab)).trans hc0
      have hcw1 : wr.cell? (ad.add (i * 2 + 1)) = some (.slice B ps[i].2.length cb) := (hbw.cell (by rw [block_of_add]; exact hab)).trans hc1
      have hcw2 : wr.cell? ((ad.add (i * 2)).add 1) = some (.slice B ps[i].2.length cb) := by rw [add_of_add]; exact hcw1
      have hcw3 : wr.cell? ⟨(ad.add (i * 2)).block, (ad.add (i * 2)).off + 1, none⟩ = some (.slice B ps[i].2.length cb) := by
        rw [← show (ad.add (i * 2)).add 1 = ⟨(ad.add (i * 2)).block, (ad.add (i * 2)).off + 1, none⟩ by generalize ad.add (i * 2) = z; unfold Addr.add; simp]
        exact hcw2
      clear hc0 hc1
      have HCT := Lib.hid (cat_take ps i hlt)
      have HBy : Hid (∀ w', Below w.heap.size w w' → Bytes w' B ps[i].2) := Lib.hid fun w' h => hcB.below h
      have HOKi : Hid (OkP ps[i] → ∀ q ∈ ps.take (i + 1), OkP q) := Lib.hid (by
        intro h q hq
        rw [List.take_succ_eq_append_getElem hlt, List.mem_append] at hq
        rcases hq with hq | hq
        · exact HOK.out q hq
        · simp at hq; rw [hq]; exact h)
      have HPi : Hid (OkP ps[i] = (1 ≤ ps[i].1 ∧ ps[i].1 ≤ 255 ∧ ps[i].2.length ≤ 300)) := Lib.hid rfl
      have HMap1 : Hid ((ps.take (i + 1)).map (fun q => Value.int .i64 q.1) = (ps.take i).map (fun q => Value.int .i64 q.1) ++ [.int .i64 ps[i].1]) := Lib.hid (by rw [List.take_succ_eq_append_getElem hlt, List.map_append]; rfl)
      have HMap2 : Hid ((ps.take (i + 1)).map (·.2) = (ps.take i).map (·.2) ++ [ps[i].2]) := Lib.hid (by rw [List.take_succ_eq_append_getElem hlt, List.map_append]; rfl)
      have hb0 : Below w.heap.size w (wr.alloc (.cells #[.int .i64 ps[i].1, .slice B ps[i].2.length cb] 41)) := hbw.alloc hbw.size _
      have HB0 := Lib.hid hb0
      clear hcB hb0 hfit
      generalize ps[i].1 = kd at *
      generalize ps[i].2 = b at *
      by_cases g0 : kd < 1
      · have d0 : decide (kd < 1) = true := by simpa using g0
        go_wp2_with fail
        refine (awake_any _).mono ?_
        rintro e w1 ⟨rfl, h1⟩
        go_wp2
        go_ret
        exact Ret.mk rfl (Below.step HB0.out h1)
      by_cases g1 : (255 : Int) < kd
      · have d0 : decide (kd < 1) = false := by simpa using g0
        have d1 : decide ((255 : Int) < kd) = true := by simpa using g1
        go_wp2_with fail
        refine (awake_any _).mono ?_
        rintro e w1 ⟨rfl, h1⟩
        go_wp2
        go_ret
        exact Ret.mk rfl (Below.step HB0.out h1)
      by_cases g2 : (300 : Int) < (b.length : Int)
      · have d0 : decide (kd < 1) = false := by simpa using g0
        have d1 : decide ((255 : Int) < kd) = false := by simpa using g1
        have d2 : decide ((300 : Int) < (b.length : Int)) = true := by simpa using g2
        go_wp2_with fail
        refine (awake_any _).mono ?_
        rintro e w1 ⟨rfl, h1⟩
        go_wp2
        go_ret
        exact Ret.mk rfl (Below.step HB0.out h1)
      have d0 : decide (kd < 1) = false := by simpa using g0
      have d1 : decide ((255 : Int) < kd) = false := by simpa using g1
      have d2 : decide ((300 : Int) < (b.length : Int)) = false := by simpa using g2
      have d3 : decide (300 < b.length) = false := by simp; omega
      obtain ⟨k, rfl⟩ : ∃ k : Nat, kd = (k : Int) := ⟨kd.toNat, by omega⟩
      have HOKj := Lib.hid (HOKi.out (by rw [HPi.out]; omega))
      have hkb : 1 ≤ k ∧ k ≤ 255 := by omega
      have hbl : b.length ≤ 300 := by omega
      have hlen0 := cat_len (ps.take i) HOK.out
      have hlt2 : (ps.take i).length ≤ 20 := by rw [List.length_take]; omega
      have hsl := seal_bd ((k : Int), b) ⟨by show 1 ≤ (k : Int); omega, by show (k : Int) ≤ 255; omega, hbl⟩
      have hs := fun A cap w' h => seal_any k hkb b A cap w' h (by omega)
      rw [Int.toNat_natCast] at HCT
      have hsl1 : (sealL k b).length ≤ 320 := hsl.2
      have hsl2 : 7 ≤ (sealL k b).length := hsl.1
      have HCL : Hid ((cat (ps.take (i + 1))).length = (cat (ps.take i)).length + (sealL k b).length) := Lib.hid (by rw [HCT.out, List.length_append])
      have HMono : Hid (∀ j', j' ≤ i → (cat (ps.take (j' + 1))).length ≤ (cat (ps.take (i + 1))).length) := Lib.hid (fun j' hj' => cat_mono ps (by omega))
      have T0 := Two'.new wr (.int .i64 (k : Int)) (.slice B b.length cb) 41
      have hn0 : (cat (ps.take i)).length ≤ 6400 := by omega
      clear hsl hlen0 hlt2 g0 g1 g2 HOKi HPi
      generalize hN0 : (cat (ps.take i)).length = n0 at *
      have HN0 := Lib.hid hN0
      clear hN0
      generalize hS : sealL k b = s at *
      have HS := Lib.hid hS
      clear hS
      obtain ⟨t0, t1, t2⟩ := T0.below (Below.refl _ (wr.alloc (.cells #[.int .i64 (k : Int), .slice B b.length cb] 41))).drew
      have HT := Lib.hid (T0.below (Below.refl _ (wr.alloc (.cells #[.int .i64 (k : Int), .slice B b.length cb] 41))).drew)
      have HD : Hid (Below w.heap.size w (wr.alloc (.cells #[.int .i64 (k : Int), .slice B b.length cb] 41)).drew) := Lib.hid HB0.out.drew
      have HX : Hid (Below wr.heap.size wr (wr.alloc (.cells #[.int .i64 (k : Int), .slice B b.length cb] 41)).drew) := Lib.hid ((Below.refl _ _).alloc (Nat.le_refl _) _).drew
      clear T0
      have hb1 := HBW.out.size
      by_cases c9 : n0 + s.length ≤ cut
      · have f2 : (n0 : Int) + (s.length : Int) ≤ (cut : Int) := by omega
        have f3 : decide ((n0 : Int) + (s.length : Int) ≤ (cut : Int)) = true := by simpa using f2
        have f4 : decide (n0 + s.length ≤ cut) = true := by simpa using c9
        have hjj : i = j := by
          rcases Nat.eq_or_lt_of_le hji with e | e
          · exact e.symm
          · have h1 := HN.out e
            have h2 := HMono.out j hji
            rw [HCL.out] at h2
            omega
        subst hjj
        go_wp2_with fail
        go_region_held3 (fun w' => w'.cell? ⟨wr.heap.size, 0, none⟩ = some (.int .i64 (k : Int)) ∧ w'.cell? ⟨wr.heap.size, 1, none⟩ = some (.slice B b.length cb))
          (first | exact ⟨‹_›, ‹_›⟩)
          (first
            | (go_at_call 13; refine (copied_any b B cb _ (HBy.out _ HD.out) (by omega)).mono ?_; rintro e x1 ⟨A1, c1, rfl, y1, _, z1⟩; have HD := Lib.hid (Below.step HD.out z1); have HX := Lib.hid (Below.step HX.out z1); have HT := Lib.hid (HT.out.below z1); obtain ⟨_, q1, q2⟩ := HT.out; have Y1 := Lib.hid y1; clear y1)
            | (go_at_call 12; refine (hs _ _ _ Y1.out).mono ?_; rintro e x2 ⟨A2, c2, rfl, oS, z2⟩; have HD := Lib.hid (Below.step HD.out z2); have HX := Lib.hid (Below.step HX.out z2); have HT := Lib.hid (HT.out.below z2); obtain ⟨_, q1, q2⟩ := HT.out; have YS := Lib.hid (Bytes.of_own rfl oS); clear oS))
        have HK2 := Lib.hid (own_below HK.out HX.out)
        have HC2 := Lib.hid (own_below HC.out HX.out)
        have HL2 := Lib.hid (own_below HLr.out HX.out)
        have hbx := HD.out.size
        have hT2 := HT.out
        clear q1 q2 t0 t1 t2 hs
        obtain ⟨t0, q1, q2⟩ := hT2
        go_wp2_with (first
          | (at_builtin
             refine wpList_append_any _ rfl _ _ _ rfl w.heap.size 5 k0 _ 1 1 Try.underlying22 hk0 hx0 hx1 hx2 rfl (by omega) _ n0 _ rfl HL2.out x2.heap.size A2 s.length c2 _ rfl YS.out (one_u8 s) (by simp only [maxLen]; omega) (by omega) hbx ?_
             intro v3 w3 hown3 hg3 hat3
             obtain ⟨L3, c3, rfl⟩ := own_form hown3
             have HG3 : Hid (x2.grownBy w3 (Value.slice L n0 cl).ownBlock) := Lib.hid hg3
             have HA3 : Hid ((Value.slice L3 (n0 + s.length) c3).ownBlock = (Value.slice L n0 cl).ownBlock ∨ (Value.slice L3 (n0 + s.length) c3).ownBlock = some x2.heap.size) := Lib.hid hat3
             have HL3 := Lib.hid hown3
             have HK3 := Lib.hid (sep_kept HK2.out HG3.out S2.out.symm)
             have HC3 := Lib.hid (sep_kept HC2.out HG3.out S3.out.symm)
             have SK3 := Lib.hid (sep_new S2.out.symm HA3.out (own_lt HK2.out))
             have SC3 := Lib.hid (sep_new S3.out.symm HA3.out (own_lt HC2.out))
             have q3 : w3.cell? ⟨wr.heap.size, 0, none⟩ = some (.int .i64 (k : Int)) := HG3.out.cell q1 (by
               rw [own_blk_of]; intro e
               rcases L with _ | la
               · cases e
               · injection e with e
                 have := own_lt HLr.out la rfl
                 have e' : wr.heap.size = la.block := e
                 omega)
             have q4 : w3.cell? ⟨wr.heap.size, 1, none⟩ = some (.slice B b.length cb) := HG3.out.cell q2 (by
               rw [own_blk_of]; intro e
               rcases L with _ | la
               · cases e
               · injection e with e
                 have := own_lt HLr.out la rfl
                 have e' : wr.heap.size = la.block := e
                 omega)
             have hs3 := hg3.size
             clear hown3 hg3 hat3)
          | (at_builtin
             refine wpList_append_own_at _ rfl _ _ 32 rfl w.heap.size 3 i0 (.int .i64 0) 1 8 Try.underlying32 hi0 hz0 hz1 hz2 rfl (by decide) _ _ _ rfl (HK3.out.alloc _) ⟨w3.heap.size, 0, none⟩ 1 1 [.int .i64 (k : Int)] rfl rfl (cell_one_new _ _ _) (fun x hx => by simp at hx; subst hx; rfl) (by unfold maxLen; omega) (by omega) (by simp; omega) ?_
             intro v4 w4 hown4 hg4 _ hat4
             obtain ⟨K4, c4, rfl⟩ := own_form hown4
             have HG4 : Hid ((w3.alloc _).grownBy w4 (Value.slice K i ck).ownBlock) := Lib.hid hg4
             have HA4 : Hid ((Value.slice K4 (i + 1) c4).ownBlock = (Value.slice K i ck).ownBlock ∨ (Value.slice K4 (i + 1) c4).ownBlock = some (w3.alloc _).heap.size) := Lib.hid hat4
             have HK4 := Lib.hid hown4
             have HC4 := Lib.hid (sep_kept (HC3.out.alloc _) HG4.out S1.out)
             have HL4 := Lib.hid (sep_kept (HL3.out.alloc _) HG4.out SK3.out.symm)
             have SKC4 := Lib.hid (sep_new S1.out HA4.out (fun b hb => Nat.lt_of_lt_of_le (own_lt HC3.out b hb) (by simp)))
             have SKL4 := Lib.hid (sep_new SK3.out.symm HA4.out (fun b hb => Nat.lt_of_lt_of_le (own_lt HL3.out b hb) (by simp)))
             have q5 : w4.cell? ⟨wr.heap.size, 1, none⟩ = some (.slice B b.length cb) := HG4.out.cell ((World.cell?_alloc_lt w3 _ _ (by show wr.heap.size < w3.heap.size; omega)).trans q4) (by
               rw [own_blk_of]; intro e
               rcases K with _ | la
               · cases e
               · injection e with e
                 have := own_lt HK.out la rfl
                 have e' : wr.heap.size = la.block := e
                 omega)
             have hs4 : w3.heap.size + 1 ≤ w4.heap.size := by have := hg4.size; simpa using this
             clear hown4 hg4 hat4)
          | (at_builtin
             refine wpList_append_own_at _ rfl _ _ 33 rfl w.heap.size 22 j0 (.slice none 0 0) 1 24 Try.underlying33 hj0 hy0 hy1 hy2 rfl (by decide) _ _ _ rfl (HC4.out.alloc _) ⟨w4.heap.size, 0, none⟩ 1 1 [.slice B b.length cb] rfl rfl (cell_one_new _ _ _) (fun x hx => by simp at hx; subst hx; rfl) (by unfold maxLen; omega) (by omega) (by simp; omega) ?_
             intro v5 w5 hown5 hg5 _ hat5
             obtain ⟨C5, c5, rfl⟩ := own_form hown5
             have HG5 : Hid ((w4.alloc _).grownBy w5 (Value.slice C i cc).ownBlock) := Lib.hid hg5
             have HA5 : Hid ((Value.slice C5 (i + 1) c5).ownBlock = (Value.slice C i cc).ownBlock ∨ (Value.slice C5 (i + 1) c5).ownBlock = some (w4.alloc _).heap.size) := Lib.hid hat5
             have HC5 := Lib.hid hown5
             have HK5 := Lib.hid (sep_kept (HK4.out.alloc _) HG5.out SKC4.out.symm)
             have HL5 := Lib.hid (sep_kept (HL4.out.alloc _) HG5.out SC3.out.symm)
             have SCK5 := Lib.hid (sep_new SKC4.out.symm HA5.out (fun b hb => Nat.lt_of_lt_of_le (own_lt HK4.out b hb) (by simp)))
             have SCL5 := Lib.hid (sep_new SC3.out.symm HA5.out (fun b hb => Nat.lt_of_lt_of_le (own_lt HL4.out b hb) (by simp)))
             clear hown5 hg5 hat5))
        have e3 : Below w.heap.size w w3 := HD.out.grown HG3.out hbx (fun g hg => (HL2.out.lt g hg).1)
        have e4 : Below w.heap.size w w4 := (e3.alloc e3.size _).grown HG4.out (by have := e3.size; simp; omega) (fun g hg => (HK3.out.lt g hg).1)
        have e5 : Below w.heap.size w w5 := (e4.alloc e4.size _).grown HG5.out (by have := e4.size; simp; omega) (fun g hg => (HC4.out.lt g hg).1)
        go_roundw
        case rel =>
          refine ⟨i + 1, i + 1, K4, c4, C5, c5, L3, c3, vs ++ [.slice B b.length cb], by omega, by omega, by go_num, congrArg (Value.int .i64) (by rw [HCL.out]; omega), rfl, rfl, by rw [HCL.out], by rw [HMap1.out]; exact HK5.out, HC5.out, ?_, SCK5.out.symm, SKL4.out, SCL5.out, ?_, e5, HOKj, Lib.hid (by rw [HCL.out]; exact c9), Lib.hid (by omega)⟩
          · rw [HCL.out, HCT.out]
            have := HL5.out
            simpa [u8s] using this
          · refine Lib.hid ?_
            rw [HMap2.out]
            refine ContsL.snoc ⟨B, cb, rfl, HBy.out w (Below.refl _ _), fun ad e hp => ⟨?_, fun r hr => by simp at hr⟩⟩ HV.out
            obtain ⟨ad', e', hb', _⟩ := (HBy.out w (Below.refl _ _)).2 hp
            rw [e] at e'
            injection e' with e'
            rw [e']; exact hb'
        case measure => simp [intOf]; omega
      · have f2 : ¬ (n0 : Int) + (s.length : Int) ≤ (cut : Int) := by omega
        have f3 : decide ((n0 : Int) + (s.length : Int) ≤ (cut : Int)) = false := by simpa using f2
        have f4 : decide (n0 + s.length ≤ cut) = false := by simpa using c9
        go_wp2_with fail
        go_region_held3 (fun w' => w'.cell? ⟨wr.heap.size, 0, none⟩ = some (.int .i64 (k : Int)) ∧ w'.cell? ⟨wr.heap.size, 1, none⟩ = some (.slice B b.length cb))
          (first | exact ⟨‹_›, ‹_›⟩)
          (first
            | (go_at_call 13; refine (copied_any b B cb _ (HBy.out _ HD.out) (by omega)).mono ?_; rintro e x1 ⟨A1, c1, rfl, y1, _, z1⟩; have HD := Lib.hid (Below.step HD.out z1); have HX := Lib.hid (Below.step HX.out z1); have HT := Lib.hid (HT.out.below z1); obtain ⟨_, q1, q2⟩ := HT.out; have Y1 := Lib.hid y1; clear y1)
            | (go_at_call 12; refine (hs _ _ _ Y1.out).mono ?_; rintro e x2 ⟨A2, c2, rfl, oS, z2⟩; have HD := Lib.hid (Below.step HD.out z2); have HX := Lib.hid (Below.step HX.out z2); have HT := Lib.hid (HT.out.below z2); obtain ⟨_, q1, q2⟩ := HT.out; have YS := Lib.hid (Bytes.of_own rfl oS); clear oS))
        have HK2 := Lib.hid (own_below HK.out HX.out)
        have HC2 := Lib.hid (own_below HC.out HX.out)
        have HL2 := Lib.hid (own_below HLr.out HX.out)
        have hbx := HD.out.size
        have hT2 := HT.out
        clear q1 q2 t0 t1 t2 hs
        obtain ⟨t0, q1, q2⟩ := hT2
        go_wp2_with (first
          | (at_builtin
             refine wpList_append_any _ rfl _ _ _ rfl w.heap.size 5 k0 _ 1 1 Try.underlying22 hk0 hx0 hx1 hx2 rfl (by omega) _ n0 _ rfl HL2.out x2.heap.size A2 s.length c2 _ rfl YS.out (one_u8 s) (by simp only [maxLen]; omega) (by omega) hbx ?_
             intro v3 w3 hown3 hg3 hat3
             obtain ⟨L3, c3, rfl⟩ := own_form hown3
             have HG3 : Hid (x2.grownBy w3 (Value.slice L n0 cl).ownBlock) := Lib.hid hg3
             have HA3 : Hid ((Value.slice L3 (n0 + s.length) c3).ownBlock = (Value.slice L n0 cl).ownBlock ∨ (Value.slice L3 (n0 + s.length) c3).ownBlock = some x2.heap.size) := Lib.hid hat3
             have HL3 := Lib.hid hown3
             have HK3 := Lib.hid (sep_kept HK2.out HG3.out S2.out.symm)
             have HC3 := Lib.hid (sep_kept HC2.out HG3.out S3.out.symm)
             have SK3 := Lib.hid (sep_new S2.out.symm HA3.out (own_lt HK2.out))
             have SC3 := Lib.hid (sep_new S3.out.symm HA3.out (own_lt HC2.out))
             have q3 : w3.cell? ⟨wr.heap.size, 0, none⟩ = some (.int .i64 (k : Int)) := HG3.out.cell q1 (by
               rw [own_blk_of]; intro e
               rcases L with _ | la
               · cases e
               · injection e with e
                 have := own_lt HLr.out la rfl
                 have e' : wr.heap.size = la.block := e
                 omega)
             have q4 : w3.cell? ⟨wr.heap.size, 1, none⟩ = some (.slice B b.length cb) := HG3.out.cell q2 (by
               rw [own_blk_of]; intro e
               rcases L with _ | la
               · cases e
               · injection e with e
                 have := own_lt HLr.out la rfl
                 have e' : wr.heap.size = la.block := e
                 omega)
             have hs3 := hg3.size
             clear hown3 hg3 hat3))
        have e3 : Below w.heap.size w w3 := HD.out.grown HG3.out hbx (fun g hg => (HL2.out.lt g hg).1)
        go_roundw
        case rel =>
          refine ⟨i + 1, j, K, ck, C, cc, L3, c3, vs, by omega, by omega, by go_num, rfl, rfl, rfl, by rw [HCL.out], HK3.out, HC3.out, ?_, S1.out, SK3.out.symm, SC3.out.symm, HV, e3, HOKj, HJ, Lib.hid ?_⟩
          · rw [HCL.out, HCT.out]
            have := HL3.out
            simpa [u8s] using this
          · intro h
            rcases Nat.eq_or_lt_of_le hji with e | e
            · rw [e, HCL.out]; omega
            · exact HN.out e
        case measure => simp [intOf]; omega
    · obtain rfl : i = ps.length := by omega
      rw [List.take_length] at HLr HOK
      rw [List.take_length]
      have hA := cuts_all ps j cut hji HOK.out HJ.out HN.out
      have hlen := cat_len ps HOK.out
      have hcl := own_cap HLr.out
      have hbl : Bytes wr L (cat ps) := Bytes.of_own rfl HLr.out
      have hen : (ps.take j).length = j := by rw [List.length_take]; omega
      generalize cat ps = S at *
      have hSl : S.length ≤ 6400 := by omega
      clear hlen
      have hnl : ¬ (ps.length : Int) < ps.length := by omega
      obtain ⟨m, hm, hm1, hm3⟩ : ∃ m : Nat, (S.take cut).length = m ∧ m ≤ S.length ∧ ((m = S.length ∧ S.length < cut) ∨ (m = S.length ∧ cut = S.length) ∨ (m = cut ∧ ¬ S.length ≤ cut)) := ⟨min cut S.length, List.length_take, by omega, by omega⟩
      have hcp := copied_any (S.take cut) L cl wr (hbl.take_ cut) (by omega)
      have ha := fun A c w' h hv => all_any (S.take cut) A c h w' hv (by omega)
      rw [hA] at ha
      unfold RetAll at ha
      dsimp only at ha
      rw [hm] at hcp ha
      have hmapK : (ps.take j).map (fun q => Value.int .i64 q.1) = ((ps.take j).map (·.1)).map (Value.int .i64) := by rw [List.map_map]; rfl
      have hlk : ((ps.take j).map (·.1)).length = j := by rw [List.length_map, hen]
      have hlc : ((ps.take j).map (·.2)).length = j := by rw [List.length_map, hen]
      rw [hmapK] at HK
      generalize (ps.take j).map (·.1) = kl at *
      generalize (ps.take j).map (·.2) = cls at *
      generalize (cat (ps.take j)).length = en at *
      have HKC : Hid (kl.length = cls.length) := Lib.hid (by rw [hlk, hlc])
      have HLK := Lib.hid hlk
      rw [hlk] at ha
      have hKI : Hid (Ints wr K kl) := Lib.hid (by have := HK.out; rw [← hlk] at this; exact Ints.of_own this)
      have hCR := Lib.hid (Reads.of_own HC.out)
      have hml : m ≤ cl := by omega
      have hml2 : (m : Int) ≤ (cl : Int) := by omega
      have hm0 : (0 : Int) ≤ (m : Int) := by omega
      have hj20 : j ≤ 20 := by omega
      clear hA hbl HN HJ HOK hmapK hlk hlc hen
      rcases hm3 with ⟨rfl, c9⟩ | ⟨em, c9⟩ | ⟨em, c9⟩
      · have c10 : (S.length : Int) < (cut : Int) := by omega
        have c10' : ¬ (cut : Int) ≤ (S.length : Int) := by omega
        have c11 : decide ((S.length : Int) < (cut : Int)) = true := by simpa using c10
        have c12 : min (cut : Int) (S.length : Int) = (S.length : Int) := by omega
        have c14 : ¬ (cut : Int) < (S.length : Int) := by omega
        go_wp2_with fail
        all_goals (
          refine hcp.mono ?_
          rintro e x1 ⟨A1, c1, rfl, y1, gc1, z1⟩
          rw [hm] at gc1
          have H1 := Below.step HBW.out z1
          clear hcp
          rw [hm]
          go_wp2_with fail
          refine (ha _ _ _ gc1 y1).mono ?_
          rintro e x2 ⟨K6, k6, C6, c6, us, rfl, hkc, i6, r6, v6, z2⟩
          have H2 := Below.step H1 z2
          have zz := Below.step z1 z2
          have hs := fsame_yes kl cls HKC.out (by rw [HLK.out]; omega) K6 K C6 C k6 ck c6 cc us vs x2 i6 (hKI.out.below zz) (by rw [HLK.out]; exact r6) (by rw [HLK.out]; exact (hCR.out.below zz).more zz.size) v6 (HV.out.mono fun _ _ h => h.below H2)
          rw [HLK.out] at hs
          clear ha i6 r6 v6 hkc y1 gc1
          go_wp2_with fail
          refine hs.mono ?_
          rintro e x3 ⟨rfl, z3⟩
          have H3 := Below.step H2 z3
          clear hs
          go_wp2_with fail
          refine (awake_any _).mono ?_
          rintro e x4 ⟨rfl, z4⟩
          go_wp2
          go_ret
          exact Ret.mk rfl (Below.step H3 z4))
      · subst em
        subst c9
        have c12 : min (S.length : Int) (S.length : Int) = (S.length : Int) := by omega
        go_wp2_with fail
        all_goals (
          refine hcp.mono ?_
          rintro e x1 ⟨A1, c1, rfl, y1, gc1, z1⟩
          rw [hm] at gc1
          have H1 := Below.step HBW.out z1
          clear hcp
          rw [hm]
          go_wp2_with fail
          refine (ha _ _ _ gc1 y1).mono ?_
          rintro e x2 ⟨K6, k6, C6, c6, us, rfl, hkc, i6, r6, v6, z2⟩
          have H2 := Below.step H1 z2
          have zz := Below.step z1 z2
          have hs := fsame_yes kl cls HKC.out (by rw [HLK.out]; omega) K6 K C6 C k6 ck c6 cc us vs x2 i6 (hKI.out.below zz) (by rw [HLK.out]; exact r6) (by rw [HLK.out]; exact (hCR.out.below zz).more zz.size) v6 (HV.out.mono fun _ _ h => h.below H2)
          rw [HLK.out] at hs
          clear ha i6 r6 v6 hkc y1 gc1
          go_wp2_with fail
          refine hs.mono ?_
          rintro e x3 ⟨rfl, z3⟩
          have H3 := Below.step H2 z3
          clear hs
          go_wp2_with fail
          refine (awake_any _).mono ?_
          rintro e x4 ⟨rfl, z4⟩
          go_wp2
          go_ret
          exact Ret.mk rfl (Below.step H3 z4))
      · have em' := em.symm
        subst em'
        have c10 : ¬ (S.length : Int) ≤ (cut : Int) := by omega
        have c11 : decide ((S.length : Int) ≤ (cut : Int)) = false := by simpa using c10
        have c12 : min (cut : Int) (S.length : Int) = (cut : Int) := by omega
        have c13 : (cut : Int) ≤ (S.length : Int) := by omega
        go_wp2_with fail
        all_goals (
          refine hcp.mono ?_
          rintro e x1 ⟨A1, c1, rfl, y1, gc1, z1⟩
          rw [hm] at gc1
          have H1 := Below.step HBW.out z1
          clear hcp
          rw [hm]
          go_wp2_with fail
          refine (ha _ _ _ gc1 y1).mono ?_
          rintro e x2 ⟨K6, k6, C6, c6, us, rfl, hkc, i6, r6, v6, z2⟩
          have H2 := Below.step H1 z2
          have zz := Below.step z1 z2
          have hs := fsame_yes kl cls HKC.out (by rw [HLK.out]; omega) K6 K C6 C k6 ck c6 cc us vs x2 i6 (hKI.out.below zz) (by rw [HLK.out]; exact r6) (by rw [HLK.out]; exact (hCR.out.below zz).more zz.size) v6 (HV.out.mono fun _ _ h => h.below H2)
          rw [HLK.out] at hs
          clear ha i6 r6 v6 hkc y1 gc1
          go_wp2_with fail
          refine hs.mono ?_
          rintro e x3 ⟨rfl, z3⟩
          have H3 := Below.step H2 z3
          clear hs
          go_wp2_with fail
          refine (awake_any _).mono ?_
          rintro e x4 ⟨rfl, z4⟩
          go_wp2
          go_ret
          exact Ret.mk rfl (Below.step H3 z4))
end Go.Proofs.Ytefjjjclgcidnaa
