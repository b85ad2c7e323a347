/- Open, and that its content is new memory. -/
import Derived.Test.YtefjjjclgcidnaaFrH
namespace Go.Proofs.Ytefjjjclgcidnaa
open Go.RowKit

/-- The call returns what a frame holds, the content in a row of its own. -/
def RetOpenO (l : List UInt8) (a : Int) (w : World) (e : Ending) (w' : World) : Prop :=
  ∃ A cap, e = .returned (.tuple #[.int .i64 (opK l a), .slice A (opC l a).length cap, .int .i64 (opN l a), .int .i64 (opE l a)]) ∧ w'.ownsRow w.heap.size 5 1 (.slice A (opC l a).length cap) (opC l a).length (u8s (opC l a)) ∧ Below w.heap.size w w'
theorem RetOpenO.bad {l : List UInt8} {a e : Int} (h : opE l a = e) (he : e ≠ 0) {w w' : World} {v : Value} (hv : v = .tuple #[.int .i64 0, .slice none 0 0, .int .i64 0, .int .i64 e]) (hb : Below w.heap.size w w') : RetOpenO l a w (.returned v) w' := by
  obtain ⟨h1, h2, h3, h4⟩ := op_bad h he
  exact ⟨none, 0, by rw [hv, h1, h2, h3, h4]; rfl, by rw [h2]; exact ⟨rfl, .inl ⟨rfl, rfl⟩⟩, hb⟩
set_option maxHeartbeats 1000000 in
theorem bclone_own (l : List UInt8) (A : Option Addr) (cap : Nat) (w : World) (hv : Bytes w A l) (hl : l.length ≤ 100000) :
    Calls Try.prog 35 #[.slice A l.length cap] w (RetOwn w.heap.size l w) := by
  have hq := fun (w : World) (a : Option Addr) (l c : Nat) => Lib.run_eql_slice_nil (P := Try.prog) w 22 5 a l c 0 0 Try.underlying22
  obtain ⟨i0, hi0, hz0, hz1, hz2⟩ := info_parts info_u8
  rcases A with _ | ad
  · have hl0 : l = [] := by
      cases l with
      | nil => rfl
      | cons c l => obtain ⟨ad, h, _⟩ := hv.at_ (k := 0) (by simp); cases h
    subst hl0
    go_enter Try.func35, Try.ntmps35
    go_wp2
    go_ret
    exact ⟨none, 0, rfl, ⟨rfl, .inl ⟨rfl, rfl⟩⟩, Below.refl _ _⟩
  · go_enter Try.func35, Try.ntmps35
    go_wp2_with (at_builtin; refine wpList_append_any _ rfl _ _ _ rfl w.heap.size 5 i0 _ 1 1 Try.underlying22 hi0 hz0 hz1 hz2 rfl (by omega) _ 0 [] rfl (own_empty w _) w.heap.size (some ad) l.length cap _ rfl (Reads.alloc hv (Nat.le_refl _) _) (one_u8 l) (by simp only [maxLen]; omega) (by omega) (by simp) ?_; intro v1 w1 hown1 hg1 hat1)
    obtain ⟨A1, c1, rfl⟩ := own_form hown1
    have hB : Below w.heap.size w w1 := ((Below.refl _ _).alloc (Nat.le_refl _) _).trans ((Below.refl _ _).grown hg1 (by simp) (fun k hk => by have h : some w.heap.size = some k := hk; injection h with h; omega))
    have HO : Hid (w1.ownsRow w.heap.size 5 1 (.slice A1 l.length c1) l.length (u8s l)) := Lib.hid (by simpa [u8s] using hown1)
    clear hown1 hg1 hat1 hi0 hz0 hz1 hz2
    go_wp2
    go_ret
    exact ⟨A1, c1, by rw [Nat.zero_add]; rfl, HO.out, hB⟩

set_option maxHeartbeats 1000000 in
theorem content_own (l : List UInt8) (ad : Addr) (cap : Nat) (hcap : l.length ≤ cap) (f t : Nat) (hf : f ≤ t) (ht : t ≤ l.length) (w : World) (hv : Bytes w (some ad) l) (hl : l.length ≤ 90000) :
    Calls Try.prog 28 #[.slice (some ad) l.length cap, .int .i64 (f : Int), .int .i64 (t : Int)] w (RetOwn w.heap.size ((l.drop f).take (t - f)) w) := by
  have hlen : ((l.drop f).take (t - f)).length = t - f := by rw [List.length_take, List.length_drop]; omega
  have h1 : (f : Int) ≤ (t : Int) := by omega
  have h2 : (t : Int) ≤ (cap : Int) := by omega
  have h3 : (0 : Int) ≤ (f : Int) := by omega
  have h4 : t ≤ cap := by omega
  by_cases he : f = t
  · subst he
    have hc := bclone_own [] (some ad) 0 w (Bytes.nil_ _ _) (by simp)
    rw [show (l.drop f).take (f - f) = [] by simp]
    go_enter Try.func28, Try.ntmps28
    go_wp2_with fail
    refine hc.mono ?_
    rintro e w1 ⟨A1, c1, rfl, y1, b1⟩
    have Y1 := Lib.hid y1
    clear y1 hc
    go_wp2
    go_ret
    exact ⟨A1, c1, rfl, Y1.out, b1⟩
  · have hc := bclone_own ((l.drop f).take (t - f)) (some (ad.add f)) (t - f) w (hv.piece (by omega)) (by omega)
    rw [hlen] at hc
    have h5 : 0 < t - f := by omega
    have h6 : ¬ t - f = 0 := by omega
    have h7 : ¬ t ≤ f := by omega
    generalize (l.drop f).take (t - f) = r at *
    go_enter Try.func28, Try.ntmps28
    go_wp2_with fail
    refine hc.mono ?_
    rintro e w1 ⟨A1, c1, rfl, y1, b1⟩
    have Y1 := Lib.hid y1
    clear y1 hc
    go_wp2
    go_ret
    exact ⟨A1, c1, by rw [hlen]; rfl, Y1.out, b1⟩

set_option maxRecDepth 20000 in
set_option maxHeartbeats 4000000 in
theorem open_own (l : List UInt8) (A : Option Addr) (cap : Nat) (hcap : l.length ≤ cap) (a : Int) (w : World) (hv : Bytes w A l) (hl : l.length ≤ 90000) :
    Calls Try.prog 15 #[.slice A l.length cap, .int .i64 a] w (RetOpenO l a w) := by
  have hH := header_any l A cap a w hv hl
  by_cases c1 : hdE l a = 0
  rotate_left
  · have HR := Lib.hid (show opE l a = hdE l a by unfold opE; rw [if_pos c1])
    have HE := Lib.hid c1
    obtain ⟨g1, g2, g3, _⟩ := hd_bad rfl c1
    rw [g1, g2, g3] at hH
    clear g1 g2 g3
    have f1 : (hdE l a == 0) = false := by simpa using c1
    have f2 : (hdE l a != 0) = true := by simpa using c1
    clear c1
    generalize hdE l a = E at *
    go_enter Try.func15, Try.ntmps15
    go_wp2_with fail
    refine hH.mono ?_
    rintro e w1 ⟨rfl, h1⟩
    clear hH
    go_wp2
    (try simp only [Exit.inBlock, Exit.then]); refine bodyPost_ret (results_tmp4 rfl _ _ _) rfl ?_
    exact RetOpenO.bad HR.out HE.out rfl h1
  obtain ⟨x, f, t, rfl, hF, hT, b1, b2, b3, b4, b5⟩ := hd_bd c1
  obtain ⟨ad, rfl, hab, _⟩ := hv.at_ b5
  have HK := Lib.hid c1
  have HF := Lib.hid hF
  have HT := Lib.hid hT
  rw [hF, hT, c1] at hH
  clear c1 hF hT
  by_cases c2 : (l.length : Int) < (t : Int) + 4
  · have HR := Lib.hid (show opE l (x : Int) = 4 by unfold opE; rw [if_neg (by rw [HK.out]; decide), HT.out, if_pos c2])
    have f1 : decide ((l.length : Int) < (t : Int) + 4) = true := by simpa using c2
    generalize hdK l (x : Int) = K at *
    go_enter Try.func15, Try.ntmps15
    go_wp2_with fail
    refine hH.mono ?_
    rintro e w1 ⟨rfl, h1⟩
    clear hH
    go_wp2
    (try simp only [Exit.inBlock, Exit.then]); refine bodyPost_ret (results_tmp4 rfl _ _ _) rfl ?_
    exact RetOpenO.bad HR.out (by decide) rfl h1
  have f1 : decide ((l.length : Int) < (t : Int) + 4) = false := by simpa using c2
  have htl : t + 4 ≤ l.length := by omega
  have e1 : (x : Int) ≤ (t : Int) := by omega
  have e2 : (t : Int) ≤ (cap : Int) := by omega
  have e3 : (0 : Int) ≤ (x : Int) := by omega
  have e4 : (t : Int) ≤ (t : Int) + 4 := by omega
  have e5 : (t : Int) + 4 ≤ (cap : Int) := by omega
  have e6 : (0 : Int) ≤ (t : Int) := by omega
  have e7 : x ≤ t := by omega
  have e8 : t ≤ cap := by omega
  have e9 : ¬ cap ≤ x := by omega
  have e10 : ¬ cap ≤ t := by omega
  have e11 : ¬ cap - x = 0 := by omega
  have e12 : ¬ cap - t = 0 := by omega
  have e14' : ((t : Int) + 4).toNat - t = 4 := by omega
  have E14 := Lib.hid e14'
  clear e14'
  have hlm : ((l.drop x).take (t - x)).length = t - x := by rw [List.length_take, List.length_drop]; omega
  have hlq : ((l.drop t).take 4).length = 4 := by rw [List.length_take, List.length_drop]; omega
  have hCh := fun w' (h : Below w.heap.size w w') => checksum_any ((l.drop x).take (t - x)) (some (ad.add x)) (cap - x) w' ((hv.below h).piece (by omega)) (by unfold maxLen; omega)
  rw [hlm] at hCh
  have hCo := fun w' (h : Below w.heap.size w w') => content_own l ad cap hcap f t b2 (by omega) w' (hv.below h) hl
  have HQ := Lib.hid (fun w' (h : Below w.heap.size w w') => (hv.below h).piece (i := t) (n := 4) htl)
  have HE : Hid (opE l (x : Int) = if tail4 (crcZ ((l.drop x).take (t - x))) = (l.drop t).take 4 then 0 else 6) := Lib.hid (by
    unfold opE
    rw [if_neg (by rw [HK.out]; decide), HT.out, if_neg c2, Int.toNat_natCast, Int.toNat_natCast])
  obtain ⟨a0, a1, a2, a3, hq⟩ : ∃ a0 a1 a2 a3, tail4 (crcZ ((l.drop x).take (t - x))) = [a0, a1, a2, a3] := ⟨_, _, _, _, rfl⟩
  rw [hq] at hCh HE
  clear hq
  have HLQ := Lib.hid hlq
  generalize hK : hdK l (x : Int) = K at *
  have HKK := Lib.hid hK
  clear hK
  clear hlq hlm
  have hEq := fun w' A B ca cb h1 h2 => equal_any [a0, a1, a2, a3] ((l.drop t).take 4) A B ca cb w' h1 h2
  rw [HLQ.out] at hEq
  by_cases c3 : [a0, a1, a2, a3] = (l.drop t).take 4
  · have HR := Lib.hid (op_ok (by rw [HE.out, if_pos c3]))
    rw [show decide ([a0, a1, a2, a3] = (l.drop t).take 4) = true by simpa using c3] at hEq
    have HC : Hid ((l.drop f).take (t - f) = opC l (x : Int)) := Lib.hid (by rw [HR.out.2.1, HF.out, HT.out, Int.toNat_natCast, Int.toNat_natCast])
    rw [HC.out] at hCo
    clear c3
    generalize (l.drop t).take 4 = q at *
    go_enter Try.func15, Try.ntmps15
    go_wp2_with fail
    refine hH.mono ?_
    rintro e w1 ⟨rfl, h1⟩
    clear hH
    go_wp2_with fail
    refine (hCh _ h1).mono ?_
    rintro e w2 ⟨rfl, h2⟩
    have H2 := Below.step h1 h2
    have hsrc := Bytes.new w2 [a0, a1, a2, a3] 48
    have H3 : Below w.heap.size w (w2.alloc (.cells #[.int .u8 (a0.toNat : Int), .int .u8 (a1.toNat : Int), .int .u8 (a2.toNat : Int), .int .u8 (a3.toNat : Int)] 48)) := H2.alloc H2.size _
    clear hCh
    have HS : Hid (Bytes (w2.alloc (.cells #[.int .u8 (a0.toNat : Int), .int .u8 (a1.toNat : Int), .int .u8 (a2.toNat : Int), .int .u8 (a3.toNat : Int)] 48)).drew (some ⟨w2.heap.size, 0, none⟩) [a0, a1, a2, a3]) := Lib.hid hsrc
    have HD := Lib.hid H3.drew
    clear hsrc H3
    go_wp2_with fail
    go_region_held3 (fun _ => True) (trivial) (first | (go_at_call 27; rw [if_neg (by omega), E14.out]; refine (hEq _ _ _ _ _ HS.out (HQ.out _ HD.out)).mono ?_; rintro e w4 ⟨rfl, h4⟩; have H4 := Below.step HD.out h4; clear h4))
    clear hEq HS
    go_wp2_with fail
    refine (hCo _ H4).mono ?_
    rintro e w5 ⟨A5, c5, rfl, y5, h5⟩
    have Y5 := Lib.hid y5
    clear y5 hCo
    go_wp2
    (try simp only [Exit.inBlock, Exit.then]); refine bodyPost_ret (results_tmp4 rfl _ _ _) rfl ?_
    exact ⟨A5, c5, by rw [HR.out.1, HR.out.2.2.1, HR.out.2.2.2, HT.out, HKK.out]; rfl, own_base Y5.out H4.size, Below.step H4 h5⟩
  · have HR := Lib.hid (show opE l (x : Int) = 6 by rw [HE.out, if_neg c3])
    rw [show decide ([a0, a1, a2, a3] = (l.drop t).take 4) = false by simpa using c3] at hEq
    clear c3 hCo
    generalize (l.drop t).take 4 = q at *
    go_enter Try.func15, Try.ntmps15
    go_wp2_with fail
    refine hH.mono ?_
    rintro e w1 ⟨rfl, h1⟩
    clear hH
    go_wp2_with fail
    refine (hCh _ h1).mono ?_
    rintro e w2 ⟨rfl, h2⟩
    have H2 := Below.step h1 h2
    have hsrc := Bytes.new w2 [a0, a1, a2, a3] 48
    have H3 : Below w.heap.size w (w2.alloc (.cells #[.int .u8 (a0.toNat : Int), .int .u8 (a1.toNat : Int), .int .u8 (a2.toNat : Int), .int .u8 (a3.toNat : Int)] 48)) := H2.alloc H2.size _
    clear hCh
    have HS : Hid (Bytes (w2.alloc (.cells #[.int .u8 (a0.toNat : Int), .int .u8 (a1.toNat : Int), .int .u8 (a2.toNat : Int), .int .u8 (a3.toNat : Int)] 48)).drew (some ⟨w2.heap.size, 0, none⟩) [a0, a1, a2, a3]) := Lib.hid hsrc
    have HD := Lib.hid H3.drew
    clear hsrc H3
    go_wp2_with fail
    go_region_held3 (fun _ => True) (trivial) (first | (go_at_call 27; rw [if_neg (by omega), E14.out]; refine (hEq _ _ _ _ _ HS.out (HQ.out _ HD.out)).mono ?_; rintro e w4 ⟨rfl, h4⟩; have H4 := Below.step HD.out h4; clear h4))
    clear hEq HS
    go_wp2
    (try simp only [Exit.inBlock, Exit.then]); refine bodyPost_ret (results_tmp4 rfl _ _ _) rfl ?_
    exact RetOpenO.bad HR.out (by decide) rfl H4
end Go.Proofs.Ytefjjjclgcidnaa
