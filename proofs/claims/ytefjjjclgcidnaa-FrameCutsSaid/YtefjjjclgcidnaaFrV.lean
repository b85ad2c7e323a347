/- All. -/
import Derived.Test.YtefjjjclgcidnaaFrS
import Derived.Test.YtefjjjclgcidnaaFrU
namespace Go.Proofs.Ytefjjjclgcidnaa
open Go.RowKit

theorem own_ne {w : World} {base : Nat} {e : TypeId} {size n : Nat} {v : Value} {xs : List Value} (h : w.ownsRow base e size v n xs) (o : Obj) : v.ownBlock ≠ some w.heap.size := by
  intro e
  have := (h.lt _ e).2
  omega

set_option maxRecDepth 20000 in
set_option maxHeartbeats 8000000 in
theorem all_any (l : List UInt8) (A : Option Addr) (cap : Nat) (hcap : l.length ≤ cap) (w : World) (hv : Bytes w A l) (hl : l.length ≤ 10000) :
    Calls Try.prog 17 #[.slice A l.length cap] w (RetAll (allF l (l.length + 1) 0) w) := by
  obtain ⟨i0, hi0, hz0, hz1, hz2⟩ := info_parts info_int
  obtain ⟨j0, hj0, hy0, hy1, hy2⟩ := info_parts info_sl
  have HV := Lib.hid (fun w' (h : Below w.heap.size w w') => hv.below h)
  have hX : Hid (allF l (l.length + 1) 0 = ([] ++ (allF l (l.length + 1) 0).1, [] ++ (allF l (l.length + 1) 0).2.1, (allF l (l.length + 1) 0).2.2)) := Lib.hid (by simp)
  generalize hXX : allF l (l.length + 1) 0 = X at hX ⊢
  have HX0 : Hid (X = ([] ++ (allF l (l.length + 1 - 0) 0).1, [] ++ (allF l (l.length + 1 - 0) 0).2.1, (allF l (l.length + 1 - 0) 0).2.2)) := Lib.hid (by rw [Nat.sub_zero, hXX]; exact hX.out)
  clear hXX hX hv
  go_enter Try.func17, Try.ntmps17
  go_wp2
  go_loopw [5, 6, 7] (fun ks cs at_ wr => ∃ (i a : Nat) (kl : List Int) (vs : List Value) (cl : List (List UInt8)) (K : Option Addr) (ck : Nat) (C : Option Addr) (cc : Nat),
    ks = .slice K kl.length ck ∧ cs = .slice C kl.length cc ∧ at_ = .int .i64 (a : Int) ∧ kl.length = cl.length ∧
    wr.ownsRow w.heap.size 3 1 (.slice K kl.length ck) kl.length (kl.map (Value.int .i64)) ∧ wr.ownsRow w.heap.size 22 1 (.slice C kl.length cc) kl.length vs ∧
    (∀ g, (Value.slice K 0 0).ownBlock = some g → (Value.slice C 0 0).ownBlock ≠ some g) ∧ ContsL wr [.slice K 0 0, .slice C 0 0] vs cl ∧ Below w.heap.size w wr ∧ a ≤ l.length ∧ 7 * i ≤ a ∧ kl.length = i ∧
    Hid (X = (kl ++ (allF l (l.length + 1 - i) a).1, cl ++ (allF l (l.length + 1 - i) a).2.1, (allF l (l.length + 1 - i) a).2.2))) (fun _ _ at_ _ => l.length + 1 - (intOf at_).toNat)
  case atStart => exact ⟨0, 0, [], [], [], none, 0, none, 0, rfl, rfl, rfl, rfl, ⟨rfl, .inl ⟨rfl, rfl⟩⟩, ⟨rfl, .inl ⟨rfl, rfl⟩⟩, (by intro g h; cases h), trivial, Below.refl _ _, by omega, by omega, rfl, HX0⟩
  case round =>
    obtain ⟨i, a, kl, vs, cl, K, ck, C, cc, rfl, rfl, rfl, hkc, hoK, hoC, hsep, hcl, hbw, ha, hi, hki, HX⟩ := hrel
    have HoK := Lib.hid hoK
    have HoC := Lib.hid hoC
    have HS := Lib.hid hsep
    have HCL := Lib.hid hcl
    have HKC := Lib.hid hkc
    have hkl : kl.length ≤ 10000 := by omega
    clear hoK hoC hsep hcl hkc
    obtain ⟨m, hm⟩ : ∃ m, l.length + 1 - i = m + 1 := ⟨l.length - i, by omega⟩
    have hop := open_own l A cap hcap (a : Int) wr (HV.out _ hbw) (by omega)
    rw [hm] at HX
    have HKI := Lib.hid hki
    clear hki
    by_cases ho : opE l (a : Int) = 0
    · obtain ⟨x, k, hx, gk, _, _, gl, g5, g6, g7, _⟩ := op_again ho
      obtain rfl : a = x := by omega
      have HN := Lib.hid (allF_go ho kl cl HX.out)
      obtain ⟨nx, hnx⟩ : ∃ nx : Nat, opN l (a : Int) = (nx : Int) := ⟨(opN l (a : Int)).toNat, by omega⟩
      unfold RetOpenO at hop
      rw [ho, hnx] at hop
      rw [hnx, Int.toNat_natCast] at HN
      have hnx7 : a + 7 ≤ nx := by omega
      have hnl : nx ≤ l.length := by omega
      clear ho hx gk g5 g6 g7 hnx
      generalize opK l (a : Int) = kk at *
      generalize opC l (a : Int) = cn at *
      go_wp2_with fail
      refine hop.mono ?_
      clear hop
      rintro e w1 ⟨D, cd, rfl, hownD, h1⟩
      have hD := Lib.hid hownD
      have HK1 := Lib.hid (own_below HoK.out h1)
      have HC1 := Lib.hid (own_below HoC.out h1)
      have hs1 := h1.size
      have hbs := hbw.size
      clear hownD
      go_wp2_with (first
        | (at_builtin
           refine wpList_append_own_at _ rfl _ _ 32 rfl w.heap.size 3 i0 (.int .i64 0) 1 8 Try.underlying32 hi0 hz0 hz1 hz2 rfl (by decide) _ _ _ rfl (HK1.out.alloc _) ⟨w1.heap.size, 0, none⟩ 1 1 [.int .i64 kk] rfl rfl (cell_one_new _ _ _) (fun x hx => by simp at hx; subst hx; rfl) (by unfold maxLen; omega) (by omega) (by simp; omega) ?_
           intro v2 w2 hown2 hg2 _ hat2
           obtain ⟨K2, ck2, rfl⟩ := own_form hown2
           have HK2 := Lib.hid hown2
           have HG2 : Hid ((w1.alloc _).grownBy w2 (Value.slice K kl.length ck).ownBlock) := Lib.hid hg2
           have HA2 : Hid ((Value.slice K2 (kl.length + 1) ck2).ownBlock = (Value.slice K kl.length ck).ownBlock ∨ (Value.slice K2 (kl.length + 1) ck2).ownBlock = some (w1.alloc _).heap.size) := Lib.hid hat2
           have HC2 : Hid (w2.ownsRow w.heap.size 22 1 (.slice C kl.length cc) kl.length vs) := Lib.hid ((HC1.out.alloc _).kept hg2 (by
             cases hC : (Value.slice C kl.length cc).ownBlock with
             | none => exact .inl rfl
             | some g => exact .inr (fun e => by
                 have e1 : (Value.slice K 0 0).ownBlock = some g := by cases K <;> exact e.symm
                 have e2 : (Value.slice C 0 0).ownBlock = some g := by cases C <;> exact hC
                 exact HS.out g e1 e2)))
           have hs2 : w1.heap.size + 1 ≤ w2.heap.size := by have := hg2.size; simpa using this
           clear hown2 hg2 hat2)
        | (at_builtin
           refine wpList_append_own_at _ rfl _ _ 33 rfl w.heap.size 22 j0 (.slice none 0 0) 1 24 Try.underlying33 hj0 hy0 hy1 hy2 rfl (by decide) _ _ _ rfl (HC2.out.alloc _) ⟨w2.heap.size, 0, none⟩ 1 1 [.slice D cn.length cd] rfl rfl (cell_one_new _ _ _) (fun x hx => by simp at hx; subst hx; rfl) (by unfold maxLen; omega) (by omega) (by simp; omega) ?_
           intro v3 w3 hown3 hg3 _ hat3
           obtain ⟨C3, cc3, rfl⟩ := own_form hown3
           have HC3 := Lib.hid hown3
           have HG3 : Hid ((w2.alloc _).grownBy w3 (Value.slice C kl.length cc).ownBlock) := Lib.hid hg3
           have HA3 : Hid ((Value.slice C3 (kl.length + 1) cc3).ownBlock = (Value.slice C kl.length cc).ownBlock ∨ (Value.slice C3 (kl.length + 1) cc3).ownBlock = some (w2.alloc _).heap.size) := Lib.hid hat3
           clear hown3 hg3 hat3))
      have b1 : Below w.heap.size w w1 := Below.step hbw h1
      have b2 : Below w.heap.size w w2 := (b1.alloc b1.size _).grown HG2.out (by have := b1.size; simp; omega) (fun g hg => (HK1.out.lt g hg).1)
      have b3 : Below w.heap.size w w3 := (b2.alloc b2.size _).grown HG3.out (by have := b2.size; simp; omega) (fun g hg => (HC2.out.lt g hg).1)
      have ob : ∀ (A : Option Addr) (n c : Nat), (Value.slice A n c).ownBlock = (Value.slice A 0 0).ownBlock := fun A n c => by cases A <;> rfl
      have hsep2 : ∀ g, (Value.slice K2 0 0).ownBlock = some g → (Value.slice C 0 0).ownBlock ≠ some g := by
        intro g e1 e2
        have hC1 := (HC1.out.lt g (by rw [ob]; exact e2)).2
        have hA := HA2.out
        rw [ob K2, ob K] at hA
        rcases hA with e | e
        · exact HS.out g (e ▸ e1) e2
        · rw [e] at e1; injection e1 with e1; simp at e1; omega
      have hsep3 : ∀ g, (Value.slice K2 0 0).ownBlock = some g → (Value.slice C3 0 0).ownBlock ≠ some g := by
        intro g e1 e2
        have hK2 := (HK2.out.lt g (by rw [ob]; exact e1)).2
        have hA := HA3.out
        rw [ob C3, ob C] at hA
        rcases hA with e | e
        · exact hsep2 g e1 (e ▸ e2)
        · rw [e] at e2; injection e2 with e2; simp at e2; omega
      have HK3 : w3.ownsRow w.heap.size 3 1 (.slice K2 (kl.length + 1) ck2) (kl.length + 1) (kl.map (Value.int .i64) ++ [.int .i64 kk]) := (HK2.out.alloc _).kept HG3.out (by
        rw [ob K2, ob C]
        cases hK : (Value.slice K2 0 0).ownBlock with
        | none => exact .inl rfl
        | some g => exact .inr (fun e => hsep2 g hK e.symm))
      have cD : ContAt w1 [.slice K 0 0, .slice C 0 0] (.slice D cn.length cd) cn := by
        refine ⟨D, cd, rfl, Bytes.of_own rfl hD.out, fun ad e _ => ?_⟩
        subst e
        have hl1 := hD.out.lt ad.block rfl
        refine ⟨hl1.2, fun r hr => ?_⟩
        simp only [List.mem_cons, List.not_mem_nil, or_false] at hr
        rcases hr with rfl | rfl
        · intro e; have := (HoK.out.lt ad.block (by rw [ob]; exact e.symm)).2; omega
        · intro e; have := (HoC.out.lt ad.block (by rw [ob]; exact e.symm)).2; omega
      have k1 := ContsL.snoc cD (HCL.out.mono fun _ _ h => h.below h1)
      have k2 : ContsL w2 [.slice K2 0 0, .slice C 0 0] (vs ++ [.slice D cn.length cd]) (cl ++ [cn]) := k1.mono fun _ _ h =>
        (h.below ((Below.refl _ _).alloc (Nat.le_refl _) _)).grown (r := .slice K 0 0) (r' := .slice K2 0 0) (by have := HG2.out; rwa [ob] at this) (by simp) (by have := HA2.out; rwa [ob K2, ob K] at this) (fun x hx => by
          simp only [List.mem_cons, List.not_mem_nil, or_false] at hx ⊢
          rcases hx with rfl | rfl
          · exact .inl rfl
          · exact .inr (.inr rfl))
      have k3 : ContsL w3 [.slice K2 0 0, .slice C3 0 0] (vs ++ [.slice D cn.length cd]) (cl ++ [cn]) := k2.mono fun _ _ h =>
        (h.below ((Below.refl _ _).alloc (Nat.le_refl _) _)).grown (r := .slice C 0 0) (r' := .slice C3 0 0) (by have := HG3.out; rwa [ob] at this) (by simp) (by have := HA3.out; rwa [ob C3, ob C] at this) (fun x hx => by
          simp only [List.mem_cons, List.not_mem_nil, or_false] at hx ⊢
          rcases hx with rfl | rfl
          · exact .inr (.inl rfl)
          · exact .inl rfl)
      have Hs3 := Lib.hid hsep3
      have Hk3 := Lib.hid k3
      have HKK3 := Lib.hid HK3
      clear hsep2 hsep3 ob HK3 cD k1 k2 k3
      go_roundw
      case rel =>
        refine ⟨i + 1, nx, kl ++ [kk], vs ++ [.slice D cn.length cd], cl ++ [cn], K2, ck2, C3, cc3, by rw [List.length_append]; rfl, by rw [List.length_append]; rfl, rfl, by rw [List.length_append, List.length_append, HKC.out]; rfl, ?_, ?_, Hs3.out, Hk3.out, b3, hnl, by omega, by rw [List.length_append, HKI.out]; rfl, ?_⟩
        · rw [List.length_append, List.map_append]; exact HKK3.out
        · rw [List.length_append]; exact HC3.out
        · rw [show l.length + 1 - (i + 1) = m by omega]; exact HN
      case measure => simp [intOf]; omega
    · have HN := Lib.hid (allF_stop ho kl cl HX.out)
      obtain ⟨p1, p2, p3, _⟩ := op_bad rfl ho
      unfold RetOpenO at hop
      rw [p1, p2, p3] at hop
      clear p1 p2 p3
      have f1 : (opE l (a : Int) == 0) = false := by simpa using ho
      have f2 : (opE l (a : Int) != 0) = true := by simpa using ho
      clear ho
      generalize opE l (a : Int) = E at *
      go_wp2_with fail
      refine hop.mono ?_
      clear hop
      rintro e w1 ⟨D, cd, rfl, hownD, h1⟩
      have HK1 := Lib.hid (own_below HoK.out h1)
      have HC1 := Lib.hid (own_below HoC.out h1)
      clear hownD
      go_wp2
      go_ret3
      rw [HN.out]
      refine ⟨K, ck, C, cc, vs, rfl, HKC.out, Ints.of_own HK1.out, Reads.of_own HC1.out, ?_, Below.step hbw h1⟩
      exact HCL.out.mono fun _ _ h => by
        obtain ⟨A, cap, h3, h4, h5⟩ := h.below h1
        exact ⟨A, cap, h3, h4, fun ad e hp => ⟨(h5 ad e hp).1, fun r hr => by simp at hr⟩⟩
end Go.Proofs.Ytefjjjclgcidnaa
