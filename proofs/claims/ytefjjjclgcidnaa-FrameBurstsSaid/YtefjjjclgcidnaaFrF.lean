/- Open. -/
import Derived.Test.YtefjjjclgcidnaaFrE
import Derived.Test.YtefjjjclgcidnaaRegion
namespace Go.Proofs.Ytefjjjclgcidnaa
open Go.RowKit

def opE (l : List UInt8) (a : Int) : Int :=
  if hdE l a ≠ 0 then hdE l a else if (l.length : Int) < hdT l a + 4 then 4 else
  if tail4 (crcZ ((l.drop a.toNat).take ((hdT l a).toNat - a.toNat))) = (l.drop (hdT l a).toNat).take 4 then 0 else 6
def opK (l : List UInt8) (a : Int) : Int := if opE l a = 0 then hdK l a else 0
def opC (l : List UInt8) (a : Int) : List UInt8 := if opE l a = 0 then (l.drop (hdF l a).toNat).take ((hdT l a).toNat - (hdF l a).toNat) else []
def opN (l : List UInt8) (a : Int) : Int := if opE l a = 0 then hdT l a + 4 else 0
theorem op_bad {l : List UInt8} {a e : Int} (h : opE l a = e) (he : e ≠ 0) : opK l a = 0 ∧ opC l a = [] ∧ opN l a = 0 ∧ opE l a = e := by
  have h0 : ¬ opE l a = 0 := by rw [h]; exact he
  exact ⟨by unfold opK; rw [if_neg h0], by unfold opC; rw [if_neg h0], by unfold opN; rw [if_neg h0], h⟩
theorem op_ok {l : List UInt8} {a : Int} (h : opE l a = 0) : opK l a = hdK l a ∧ opC l a = (l.drop (hdF l a).toNat).take ((hdT l a).toNat - (hdF l a).toNat) ∧ opN l a = hdT l a + 4 ∧ opE l a = 0 :=
  ⟨by unfold opK; rw [if_pos h], by unfold opC; rw [if_pos h], by unfold opN; rw [if_pos h], h⟩
/-- What a right header says. -/
theorem hd_bd {l : List UInt8} {a : Int} (h : hdE l a = 0) : ∃ x f t : Nat, a = (x : Int) ∧ hdF l a = (f : Int) ∧ hdT l a = (t : Int) ∧ x + 3 ≤ f ∧ f ≤ t ∧ f ≤ l.length ∧ t ≤ f + 1048576 ∧ x < l.length := by
  have h1 : ¬ (a < 0 ∨ (l.length : Int) < a) := by
    intro h2
    unfold hdE at h
    rw [if_pos h2] at h
    cases h
  obtain ⟨x, rfl⟩ : ∃ x : Nat, a = (x : Int) := ⟨a.toNat, by omega⟩
  obtain ⟨_, h2, h3, _⟩ := hd_ok h
  rw [hd_in (by omega)] at h
  unfold hdN at h
  split at h
  · cases h
  split at h
  · cases h
  split at h
  · cases h
  split at h
  · cases h
  split at h
  · exact absurd h (by assumption)
  rename_i c1 c2 c3 c4 c5
  have c5' : intE l ((x + 2 : Nat) : Int) = 0 := by
    rcases Classical.em (intE l ((x + 2 : Nat) : Int) = 0) with e | e
    · exact e
    · exact absurd e c5
  split at h
  · cases h
  rename_i c6
  have u := int_up c5'
  have b := int_bd c5'
  rw [Int.toNat_natCast] at h2 h3
  exact ⟨x, (intTo l ((x + 2 : Nat) : Int)).toNat, (intTo l ((x + 2 : Nat) : Int) + intN l ((x + 2 : Nat) : Int)).toNat, rfl, by rw [h2]; omega, by rw [h3]; omega, by omega, by omega, by omega, by omega, by omega⟩
/-- The call returns what a frame holds. -/
def RetOpen (l : List UInt8) (a : Int) (w : World) (e : Ending) (w' : World) : Prop :=
  ∃ A cap, e = .returned (.tuple #[.int .i64 (opK l a), .slice A (opC l a).length cap, .int .i64 (opN l a), .int .i64 (opE l a)]) ∧ Bytes w' A (opC l a) ∧ Below w.heap.size w w'
theorem RetOpen.bad {l : List UInt8} {a e : Int} (h : opE l a = e) (he : e ≠ 0) {w w' : World} {v : Value} (hv : v = .tuple #[.int .i64 0, .slice none 0 0, .int .i64 0, .int .i64 e]) (hb : Below w.heap.size w w') : RetOpen l a w (.returned v) w' := by
  obtain ⟨h1, h2, h3, h4⟩ := op_bad h he
  exact ⟨none, 0, by rw [hv, h1, h2, h3, h4]; rfl, by rw [h2]; exact Bytes.nil_ _ _, hb⟩
theorem header_any (l : List UInt8) (A : Option Addr) (cap : Nat) (a : Int) (w : World) (hv : Bytes w A l) (hl : l.length ≤ 90000) :
    Calls Try.prog 26 #[.slice A l.length cap, .int .i64 a] w (Ret (.tuple #[.int .i64 (hdK l a), .int .i64 (hdF l a), .int .i64 (hdT l a), .int .i64 (hdE l a)]) w) := by
  by_cases h : a < 0 ∨ (l.length : Int) < a
  · exact header_out l A cap a h w
  · obtain ⟨x, rfl⟩ : ∃ x : Nat, a = (x : Int) := ⟨a.toNat, by omega⟩
    exact header_in l A cap x (by omega) w hv hl

set_option maxRecDepth 20000 in
set_option maxHeartbeats 4000000 in
theorem open_any (l : List UInt8) (A : Option Addr) (cap : Nat) (hcap : l.length ≤ cap) (a : Int) (w : World) (hv : Bytes w A l) (hl : l.length ≤ 90000) :
    Calls Try.prog 15 #[.slice A l.length cap, .int .i64 a] w (RetOpen l a w) := by
  have hH := header_any l A cap a w hv hl
  by_cases c1 : hdE l a = 0
  rotate_left
  · have HR := Lib.hid (show opE l a = hdE l a by unfold opE; rw [if_pos c1])
    have HE := Lib.hid c1
    obtain ⟨g1, g2, g3, _⟩ := hd_bad rfl c1
    rw [g1, g2, g3] at hH
    clear g1 g2 g3
    have f1 : (hdE l a == 0) = false := by simpa using c1
    have f2 : (hdE l a != 0) = true := by simpa using c1
    clear c1
    generalize hdE l a = E at *
    go_enter Try.func15, Try.ntmps15
    go_wp2_with fail
    refine hH.mono ?_
    rintro e w1 ⟨rfl, h1⟩
    clear hH
    go_wp2
    (try simp only [Exit.inBlock, Exit.then]); refine bodyPost_ret (results_tmp4 rfl _ _ _) rfl ?_
    exact RetOpen.bad HR.out HE.out rfl h1
  obtain ⟨x, f, t, rfl, hF, hT, b1, b2, b3, b4, b5⟩ := hd_bd c1
  obtain ⟨ad, rfl, hab, _⟩ := hv.at_ b5
  have HK := Lib.hid c1
  have HF := Lib.hid hF
  have HT := Lib.hid hT
  rw [hF, hT, c1] at hH
  clear c1 hF hT
  by_cases c2 : (l.length : Int) < (t : Int) + 4
  · have HR := Lib.hid (show opE l (x : Int) = 4 by unfold opE; rw [if_neg (by rw [HK.out]; decide), HT.out, if_pos c2])
    have f1 : decide ((l.length : Int) < (t : Int) + 4) = true := by simpa using c2
    generalize hdK l (x : Int) = K at *
    go_enter Try.func15, Try.ntmps15
    go_wp2_with fail
    refine hH.mono ?_
    rintro e w1 ⟨rfl, h1⟩
    clear hH
    go_wp2
    (try simp only [Exit.inBlock, Exit.then]); refine bodyPost_ret (results_tmp4 rfl _ _ _) rfl ?_
    exact RetOpen.bad HR.out (by decide) rfl h1
  have f1 : decide ((l.length : Int) < (t : Int) + 4) = false := by simpa using c2
  have htl : t + 4 ≤ l.length := by omega
  have e1 : (x : Int) ≤ (t : Int) := by omega
  have e2 : (t : Int) ≤ (cap : Int) := by omega
  have e3 : (0 : Int) ≤ (x : Int) := by omega
  have e4 : (t : Int) ≤ (t : Int) + 4 := by omega
  have e5 : (t : Int) + 4 ≤ (cap : Int) := by omega
  have e6 : (0 : Int) ≤ (t : Int) := by omega
  have e7 : x ≤ t := by omega
  have e8 : t ≤ cap := by omega
  have e9 : ¬ cap ≤ x := by omega
  have e10 : ¬ cap ≤ t := by omega
  have e11 : ¬ cap - x = 0 := by omega
  have e12 : ¬ cap - t = 0 := by omega
  have e14' : ((t : Int) + 4).toNat - t = 4 := by omega
  have E14 := Lib.hid e14'
  clear e14'
  have hlm : ((l.drop x).take (t - x)).length = t - x := by rw [List.length_take, List.length_drop]; omega
  have hlq : ((l.drop t).take 4).length = 4 := by rw [List.length_take, List.length_drop]; omega
  have hCh := fun w' (h : Below w.heap.size w w') => checksum_any ((l.drop x).take (t - x)) (some (ad.add x)) (cap - x) w' ((hv.below h).piece (by omega)) (by unfold maxLen; omega)
  rw [hlm] at hCh
  have hCo := fun w' (h : Below w.heap.size w w') => content_any l ad cap hcap f t b2 (by omega) w' (hv.below h) hl
  have HQ := Lib.hid (fun w' (h : Below w.heap.size w w') => (hv.below h).piece (i := t) (n := 4) htl)
  have HE : Hid (opE l (x : Int) = if tail4 (crcZ ((l.drop x).take (t - x))) = (l.drop t).take 4 then 0 else 6) := Lib.hid (by
    unfold opE
    rw [if_neg (by rw [HK.out]; decide), HT.out, if_neg c2, Int.toNat_natCast, Int.toNat_natCast])
  obtain ⟨a0, a1, a2, a3, hq⟩ : ∃ a0 a1 a2 a3, tail4 (crcZ ((l.drop x).take (t - x))) = [a0, a1, a2, a3] := ⟨_, _, _, _, rfl⟩
  rw [hq] at hCh HE
  clear hq
  have HLQ := Lib.hid hlq
  generalize hK : hdK l (x : Int) = K at *
  have HKK := Lib.hid hK
  clear hK
  clear hlq hlm
  have hEq := fun w' A B ca cb h1 h2 => equal_any [a0, a1, a2, a3] ((l.drop t).take 4) A B ca cb w' h1 h2
  rw [HLQ.out] at hEq
  by_cases c3 : [a0, a1, a2, a3] = (l.drop t).take 4
  · have HR := Lib.hid (op_ok (by rw [HE.out, if_pos c3]))
    rw [show decide ([a0, a1, a2, a3] = (l.drop t).take 4) = true by simpa using c3] at hEq
    have HC : Hid ((l.drop f).take (t - f) = opC l (x : Int)) := Lib.hid (by rw [HR.out.2.1, HF.out, HT.out, Int.toNat_natCast, Int.toNat_natCast])
    rw [HC.out] at hCo
    clear c3
    generalize (l.drop t).take 4 = q at *
    go_enter Try.func15, Try.ntmps15
    go_wp2_with fail
    refine hH.mono ?_
    rintro e w1 ⟨rfl, h1⟩
    clear hH
    go_wp2_with fail
    refine (hCh _ h1).mono ?_
    rintro e w2 ⟨rfl, h2⟩
    have H2 := Below.step h1 h2
    have hsrc := Bytes.new w2 [a0, a1, a2, a3] 48
    have H3 : Below w.heap.size w (w2.alloc (.cells #[.int .u8 (a0.toNat : Int), .int .u8 (a1.toNat : Int), .int .u8 (a2.toNat : Int), .int .u8 (a3.toNat : Int)] 48)) := H2.alloc H2.size _
    clear hCh
    have HS : Hid (Bytes (w2.alloc (.cells #[.int .u8 (a0.toNat : Int), .int .u8 (a1.toNat : Int), .int .u8 (a2.toNat : Int), .int .u8 (a3.toNat : Int)] 48)).drew (some ⟨w2.heap.size, 0, none⟩) [a0, a1, a2, a3]) := Lib.hid hsrc
    have HD := Lib.hid H3.drew
    clear hsrc H3
    go_wp2_with fail
    go_region_held3 (fun _ => True) (trivial) (first | (go_at_call 27; rw [if_neg (by omega), E14.out]; refine (hEq _ _ _ _ _ HS.out (HQ.out _ HD.out)).mono ?_; rintro e w4 ⟨rfl, h4⟩; have H4 := Below.step HD.out h4; clear h4))
    clear hEq HS
    go_wp2_with fail
    refine (hCo _ H4).mono ?_
    rintro e w5 ⟨A5, c5, rfl, y5, h5⟩
    have Y5 := Lib.hid y5
    clear y5 hCo
    go_wp2
    (try simp only [Exit.inBlock, Exit.then]); refine bodyPost_ret (results_tmp4 rfl _ _ _) rfl ?_
    exact ⟨A5, c5, by rw [HR.out.1, HR.out.2.2.1, HR.out.2.2.2, HT.out, HKK.out]; rfl, Y5.out, Below.step H4 h5⟩
  · have HR := Lib.hid (show opE l (x : Int) = 6 by rw [HE.out, if_neg c3])
    rw [show decide ([a0, a1, a2, a3] = (l.drop t).take 4) = false by simpa using c3] at hEq
    clear c3 hCo
    generalize (l.drop t).take 4 = q at *
    go_enter Try.func15, Try.ntmps15
    go_wp2_with fail
    refine hH.mono ?_
    rintro e w1 ⟨rfl, h1⟩
    clear hH
    go_wp2_with fail
    refine (hCh _ h1).mono ?_
    rintro e w2 ⟨rfl, h2⟩
    have H2 := Below.step h1 h2
    have hsrc := Bytes.new w2 [a0, a1, a2, a3] 48
    have H3 : Below w.heap.size w (w2.alloc (.cells #[.int .u8 (a0.toNat : Int), .int .u8 (a1.toNat : Int), .int .u8 (a2.toNat : Int), .int .u8 (a3.toNat : Int)] 48)) := H2.alloc H2.size _
    clear hCh
    have HS : Hid (Bytes (w2.alloc (.cells #[.int .u8 (a0.toNat : Int), .int .u8 (a1.toNat : Int), .int .u8 (a2.toNat : Int), .int .u8 (a3.toNat : Int)] 48)).drew (some ⟨w2.heap.size, 0, none⟩) [a0, a1, a2, a3]) := Lib.hid hsrc
    have HD := Lib.hid H3.drew
    clear hsrc H3
    go_wp2_with fail
    go_region_held3 (fun _ => True) (trivial) (first | (go_at_call 27; rw [if_neg (by omega), E14.out]; refine (hEq _ _ _ _ _ HS.out (HQ.out _ HD.out)).mono ?_; rintro e w4 ⟨rfl, h4⟩; have H4 := Below.step HD.out h4; clear h4))
    clear hEq HS
    go_wp2
    (try simp only [Exit.inBlock, Exit.then]); refine bodyPost_ret (results_tmp4 rfl _ _ _) rfl ?_
    exact RetOpen.bad HR.out (by decide) rfl H4
end Go.Proofs.Ytefjjjclgcidnaa
