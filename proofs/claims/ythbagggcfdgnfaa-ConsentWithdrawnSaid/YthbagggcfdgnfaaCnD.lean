/- Days of the code. -/
import Derived.Test.YthbagggcfdgnfaaCnY
import Derived.Test.YthbagggcfdgnfaaCnX
import Derived.Test.YthbagggcfdgnfaaCnE
import Derived.Test.YthbagggcfdgnfaaAppend
import Derived.Maps.OwnIn
namespace Go.Proofs.Ythbagggcfdgnfaa
open Go.RowKit Go.Shelf
attribute [local go_sem] Oper.semAt_some

/-- The marks that the rounds' loops leave. -/
def marks (Ds : List Nat) : List Deferred := Ds.map fun D => { target := .collected D, args := #[] }

/-- The boxes of Days: the consents and the recording. -/
def HeldD (b : Nat) (A : Option Addr) (n cap : Nat) (rid : Int) (nm : List UInt8) (ln dy : Int) (S : Option Addr) (m sc : Nat) (W : World) : Prop :=
  W.cell? ⟨b, 0, none⟩ = some (.slice A n cap) ∧ W.cell? ⟨b + 1, 0, none⟩ = some (.int .i64 rid) ∧ W.cell? ⟨b + 1, 1, none⟩ = some (.string ⟨nm.toArray⟩) ∧ W.cell? ⟨b + 1, 2, none⟩ = some (.int .i64 ln) ∧ W.cell? ⟨b + 1, 3, none⟩ = some (.int .i64 dy) ∧ W.cell? ⟨b + 1, 4, none⟩ = some (.slice S m sc) ∧ b + 3 ≤ W.heap.size
theorem HeldD.keep {b : Nat} {A : Option Addr} {n cap : Nat} {rid : Int} {nm : List UInt8} {ln dy : Int} {S : Option Addr} {m sc : Nat} {W W' : World} (h : HeldD b A n cap rid nm ln dy S m sc W) (hz : W.heap.size ≤ W'.heap.size) (hk : ∀ q o, b ≤ q → q < b + 2 → W'.cell? ⟨q, o, none⟩ = W.cell? ⟨q, o, none⟩) : HeldD b A n cap rid nm ln dy S m sc W' :=
  ⟨(hk _ _ (by omega) (by omega)).trans h.1, (hk _ _ (by omega) (by omega)).trans h.2.1, (hk _ _ (by omega) (by omega)).trans h.2.2.1, (hk _ _ (by omega) (by omega)).trans h.2.2.2.1, (hk _ _ (by omega) (by omega)).trans h.2.2.2.2.1, (hk _ _ (by omega) (by omega)).trans h.2.2.2.2.2.1, Nat.le_trans h.2.2.2.2.2.2 hz⟩
theorem HeldD.own {β : Type} (b : Nat) (A : Option Addr) (n cap : Nat) (rid : Int) (nm : List UInt8) (ln dy : Int) (S : Option Addr) (m sc : Nat) : Own (fun (_ : β) W => HeldD b A n cap rid nm ln dy S m sc W) :=
  fun _ _ _ _ hs hg hr => ⟨cell_kept hs.1 hg hr, cell_kept hs.2.1 hg hr, cell_kept hs.2.2.1 hg hr, cell_kept hs.2.2.2.1 hg hr, cell_kept hs.2.2.2.2.1 hg hr, cell_kept hs.2.2.2.2.2.1 hg hr, Nat.le_trans hs.2.2.2.2.2.2 hg.size⟩
/-- The box of the days, and the marks' blocks. -/
def DaysB (b : Nat) (zs : List Int) (G : Value → Prop) (W : World) : Prop := ∃ v, Boxed W (b + 1 + 1) 32 v ∧ W.ownsRow b 3 1 v zs.length (zs.map (Value.int .i64)) ∧ G v
/-- The row lies in none of three blocks. -/
def Off (B : Nat) (v : Value) : Prop := ∀ q, B ≤ q → q < B + 3 → some q ≠ v.ownBlock
def DaysM (b : Nat) (Ds : List Nat) (W : World) : Prop := Ds.Pairwise (· > ·) ∧ ∀ D ∈ Ds, b + 3 ≤ D ∧ D < W.heap.size ∧ W.heap[D]? = some (.deferred (some []))
theorem DaysM.others {b : Nat} {Ds : List Nat} {W W' : World} (h : DaysM b Ds W) (hk : KeepsOthers W W') : DaysM b Ds W' :=
  ⟨h.1, fun D hD => by have := h.2 D hD; have e := hk.same _ _ this.2.2 rfl; exact ⟨this.1, (Array.getElem?_eq_some_iff.1 e).1, e⟩⟩
theorem DaysM.ownFrom {β : Type} {b B : Nat} {Ds : List Nat} (hB : ∀ D ∈ Ds, D < B) : OwnFrom B (fun (_ : β) W => DaysM b Ds W) := fun _ _ _ _ hs hg hr =>
  ⟨hs.1, fun D hD => by
    have := hs.2 D hD
    have e := hg.block D this.2.1 (fun e => by have := (hr D e.symm).1; have := hB D hD; omega)
    exact ⟨this.1, Nat.lt_of_lt_of_le this.2.1 hg.size, e.trans this.2.2⟩⟩

theorem givenDays_take {l : List Cn} {rid : Int} {sp : List Int} {k : Nat} (hk : k < sp.length) : givenDays l rid (sp.take (k + 1)) = givenDays l rid (sp.take k) ++ (givenL l sp[k] rid l.length).map Cn.d := by
  unfold givenDays givenL
  rw [List.take_succ_eq_append_getElem hk, List.flatMap_append, List.take_length]
  simp

theorem givenDays_len (l : List Cn) (rid : Int) (sp : List Int) : ∀ k, (givenDays l rid (sp.take k)).length ≤ k * l.length
  | 0 => by simp [givenDays]
  | k + 1 => by
    rcases Nat.lt_or_ge k sp.length with h | h
    · rw [givenDays_take h, List.length_append, List.length_map, Nat.add_mul]
      have := givenDays_len l rid sp k
      have := givenL_len l sp[k] rid l.length
      omega
    · rw [List.take_of_length_le (by omega), ← List.take_of_length_le h]
      exact Nat.le_trans (givenDays_len l rid sp k) (Nat.mul_le_mul_right _ (by omega))
theorem Own.size {β : Type} (m : Nat) : Own (fun (_ : β) W => m ≤ W.heap.size) := fun _ _ _ _ hs hg _ => Nat.le_trans hs hg.size
theorem DaysM.below {b : Nat} {Ds : List Nat} {W W' : World} (h : DaysM b Ds W) (hk : Below W.heap.size W W') : DaysM b Ds W' :=
  ⟨h.1, fun D hD => by have := h.2 D hD; exact ⟨this.1, Nat.lt_of_lt_of_le this.2.1 hk.size, (hk.block D this.2.1).trans this.2.2⟩⟩
theorem days_filter {l : List Cn} {rid : Int} {sp : List Int} (h : ∀ c ∈ l, 1 ≤ c.d ∧ c.d ≤ 109573) : (setOf (givenDays l rid sp)).filter (fun x => !sameDay l rid sp x) = daysC l rid sp := by
  unfold daysC
  refine List.filter_congr fun x hx => ?_
  have hx : x ∈ givenDays l rid sp := mem_setOf.1 hx
  obtain ⟨s, _, c, hc, _, rfl⟩ := mem_given.1 hx
  have hd := h c hc
  unfold sameDay changes
  rw [show wrap64 (c.d - 1) = c.d - 1 by unfold wrap64; omega]
theorem Ints.putD {W : World} {A : Option Addr} {l : List Int} {D : Nat} {o' : Obj} (h : Ints W A l) (hD : W.heap[D]? = some (.deferred (some []))) : Ints (W.putObj D o') A l := by
  have hz : (W.putObj D o').heap.size = W.heap.size := by simp [World.putObj]
  refine ⟨h.1, fun hn => ?_⟩
  obtain ⟨ad, rfl, hlt, hc⟩ := h.2 hn
  refine ⟨ad, rfl, by rw [hz]; exact hlt, fun j u hu => ?_⟩
  have h0 := hc j u hu
  rw [← h0]
  refine World.cell?_of_block (World.putObj_heap_other fun e => ?_)
  unfold World.cell? at h0
  rw [e, hD] at h0
  split at h0 <;> simp_all
theorem leaves_marks {F : Fence} {n : Nat} {P : Program} {fn : Func} {tmps : Array Value} {R : Ending → World → Prop} {b : Nat} (I : World → Prop) (hI : ∀ W D o', I W → b + 3 ≤ D → W.heap[D]? = some (.deferred (some [])) → I (W.putObj D o')) (hend : ∀ W, I W → LeavesInM F n P fn tmps R [] .returning W) :
    ∀ (Ds : List Nat) (W : World), DaysM b Ds W → I W → LeavesInM F n P fn tmps R (marks Ds) .returning W
  | [], W, _, h => hend W h
  | D :: Ds, W, hm, h => by
    have h0 := hm.2 D (List.mem_cons_self ..)
    refine ⟨by simp, .inl ⟨D, _, rfl, run_takeDeferred h0.2.2, leaves_marks I hI hend Ds _ ⟨(List.pairwise_cons.1 hm.1).2, fun D' hD' => ?_⟩ (hI _ _ _ h h0.1 h0.2.2)⟩⟩
    have h1 := hm.2 D' (List.mem_cons_of_mem _ hD')
    have hne : D' ≠ D := by have := (List.pairwise_cons.1 hm.1).1 D' hD'; omega
    have e := (World.putObj_heap_other (w := W) (o := .deferred none) hne).trans h1.2.2
    exact ⟨h1.1, (Array.getElem?_eq_some_iff.1 e).1, e⟩
theorem DaysM.belowB {b B : Nat} {Ds : List Nat} {W W' : World} (h : DaysM b Ds W) (hk : Below B W W') (hB : ∀ D ∈ Ds, D < B) : DaysM b Ds W' :=
  ⟨h.1, fun D hD => by have := h.2 D hD; exact ⟨this.1, Nat.lt_of_lt_of_le this.2.1 hk.size, (hk.block D (hB D hD)).trans this.2.2⟩⟩
theorem belowK_b' {b D : Nat} {w W : World} {o' : Obj} (h : Below b w W) (hD : b ≤ D) (hW : W.heap[D]? = some (.deferred (some []))) : Below b w (W.putObj D o') :=
  h.trans ((Below.refl b W).grown (grownBy_putObj' W D o') (by have := (Array.getElem?_eq_some_iff.1 hW).1; omega) (fun k e => by cases e; exact hD))
theorem boxed_at {W : World} {b : Nat} (t : TypeId) (v : Value) (h : b = W.heap.size) : Boxed (W.alloc (.cells #[v] t)) b t v := by subst h; exact Boxed.new _ _ _
theorem Own.and' {β : Type} {I I' : β → World → Prop} (h : Own I) (h' : Own I') : Own (fun s W => I s W ∧ I' s W) := fun s W W' row hs hg hr => ⟨h s W W' row hs.1 hg hr, h' s W W' row hs.2 hg hr⟩

set_option maxRecDepth 100000 in
set_option maxHeartbeats 4000000 in
theorem days_in (l : List Cn) (A S : Option Addr) (cap sc : Nat) (rid ln dy : Int) (nm : List UInt8) (sp : List Int) (w : World) (ha : Cons w A l) (hs : Ints w S sp) (hl : l.length ≤ 100) (hsl : sp.length ≤ 1000) (hday : ∀ c ∈ l, 1 ≤ c.d ∧ c.d ≤ 109573) :
    CallsIn Fence.wide 3 Try.prog 20 #[.slice A l.length cap, .agg #[.int .i64 rid, .string ⟨nm.toArray⟩, .int .i64 ln, .int .i64 dy, .slice S sp.length sc]] w (Gives (daysC l rid sp) w.heap.size w) := by
  have h1 : 1 ≤ 3 := by omega
  obtain ⟨i0, hi, hz0, hz1, hz2⟩ := info_parts info_int
  have hf : Fence.wide.fn 20 := trivial
  have hro : Fence.wide.round = none := rfl
  have hf1 : Fence.wide.fn 29 := trivial
  have hf2 : Fence.wide.fn 35 := trivial
  have hf3 : Fence.wide.fn 31 := trivial
  have hf4 : Fence.wide.fn 30 := trivial
  refine callsIn_of_wp_marks Try.func20 rfl hf ?_ hro
  simp only [Try.ntmps20, List.size_toArray, List.length_cons, List.length_nil, Nat.reduceAdd, Nat.reduceSub, Array.replicate_succ, Array.replicate_zero, List.push_toArray, List.append_toArray, List.nil_append, List.cons_append]
  gi_wp2
  refine wpIn_loop (fun a' wr => ∃ u7 u13 u14 u15 u16 u17 u18 u19 u20 u27 : Value, ∃ k : Nat, ∃ Ds : List Nat, (k ≤ sp.length ∧ HeldD w.heap.size A l.length cap rid nm ln dy S sp.length sc wr ∧ DaysB w.heap.size (givenDays l rid (sp.take k)) (Off w.heap.size) wr ∧ DaysM w.heap.size Ds wr ∧ Below w.heap.size w wr) ∧ a' = { tmps := #[.slice A l.length cap, .agg #[.int .i64 rid, .string ⟨nm.toArray⟩, .int .i64 ln, .int .i64 dy, .slice S sp.length sc], .pointer (some ⟨w.heap.size, 0, none⟩), .pointer (some ⟨w.heap.size + 1, 0, none⟩), .slice none 0 0, .pointer (some ⟨w.heap.size + 1 + 1, 0, none⟩), undef, u7, undef, .pointer (some ⟨w.heap.size + 1, 4, none⟩), .slice S sp.length sc, .int .i64 (sp.length : Int), .int .i64 (k : Int), u13, u14, u15, u16, u17, u18, u19, u20, undef, undef, undef, undef, undef, undef, u27, undef, undef, undef, undef], defers := marks Ds }) (fun a' _ => sp.length + 1 - (intOf (a'.tmps.getD 12 undef)).toNat) ?_ ?_
  · refine ⟨_, _, _, _, _, _, _, _, _, _, 0, [], ⟨by omega, ?_, ?_, ?_, ?_⟩, rfl⟩
    · exact ⟨by simp [go_sem], by simp [go_sem], by simp [go_sem], by simp [go_sem], by simp [go_sem], by simp [go_sem], by simp⟩
    · exact ⟨_, boxed_at _ _ (by simp), World.ownsRow_nil _ _ _ _, fun q _ _ => by simp [Value.ownBlock]⟩
    · exact ⟨List.Pairwise.nil, fun D hD => by simp at hD⟩
    · exact (by repeat (first | assumption | exact Below.refl _ _ | refine Below.alloc ?_ (by first | omega | (simp; done) | (simp; omega)) _ | refine Below.setCell ?_ (by first | omega | (simp; done) | (simp; omega)) _ | refine Below.drew ?_ | refine Below.drewN_ ?_ _ | refine Below.step ?_ (by assumption)))
  rintro _ wr ⟨u7, u13, u14, u15, u16, u17, u18, u19, u20, u27, k, Ds, ⟨hk, HD, HV, HM, hB⟩, rfl⟩
  have ⟨b0, c0, c1, c2, c3, c4, hz⟩ := HD
  by_cases hlt : k < sp.length
  · obtain ⟨ad, rfl, _, e1⟩ := (hs.below hB).at_ hlt
    have HS := Lib.hid (givenDays_take (l := l) (rid := rid) hlt)
    have HL := Lib.hid (show (givenDays l rid (sp.take k)).length ≤ k * l.length from givenDays_len l rid sp k)
    generalize sp[k] = p at *
    gi_wp2_with (gi_at_call 29; refine (given_in Fence.wide 2 hf1 hro _ _ _ _ _ _).mono ?_; rintro e w' ⟨rfl, rfl⟩)
    obtain ⟨W0, hW0⟩ : ∃ W0, ((wr.alloc (.cells #[.slice A l.length cap] 23)).alloc (.cells #[.int .i64 p] 3)).alloc (.cells #[.int .i64 rid] 3) = W0 := ⟨_, rfl⟩
    have hs0 : W0.heap.size = wr.heap.size + 3 := by rw [← hW0]; simp
    have hbW : Below wr.heap.size wr W0 := by rw [← hW0]; exact (((Below.refl _ wr).alloc (Nat.le_refl _) _).alloc (by simp) _).alloc (by simp; omega) _
    have hB0 : Below w.heap.size w W0 := Below.step hB hbW
    have g0 : W0.cell? ⟨wr.heap.size, 0, none⟩ = some (.slice A l.length cap) := by rw [← hW0]; simp [go_sem]
    have g1 : W0.cell? ⟨wr.heap.size + 1, 0, none⟩ = some (.int .i64 p) := by rw [← hW0]; simp [go_sem]
    have g2 : W0.cell? ⟨wr.heap.size + 2, 0, none⟩ = some (.int .i64 rid) := by rw [← hW0]; simp [go_sem]
    have HD0 : HeldD w.heap.size A l.length cap rid nm ln dy (some ad) sp.length sc W0 := HD.keep hbW.size fun q o h1 h2 => (bcell hbW).1 q o (by omega)
    have HV0 : DaysB w.heap.size (givenDays l rid (sp.take k) ++ ([] : List Cn).map Cn.d) (fun v => Off w.heap.size v ∧ Off wr.heap.size v) W0 := by
      obtain ⟨v, h1, h2, h5⟩ := HV
      refine ⟨v, ?_, ?_, h5, fun q h3 h4 e => ?_⟩
      rotate_left 2
      · have := (h2.lt q e.symm).2
        omega
      · rw [← hW0]; exact ((h1.alloc _).alloc _).alloc _
      · rw [← hW0]; simpa using ((h2.alloc _).alloc _).alloc _
    have HM0 : DaysM w.heap.size Ds W0 := by rw [← hW0]; exact HM.others (((KeepsOthers.alloc _ _).trans (KeepsOthers.alloc _ _)).trans (KeepsOthers.alloc _ _))
    rw [hW0]
    clear HV
    refine wpIn_rangeFunc_ownH hro h1 (gf := 35) (lb := #[.pointer (some ⟨wr.heap.size, 0, none⟩), .pointer (some ⟨wr.heap.size + 1, 0, none⟩), .pointer (some ⟨wr.heap.size + 2, 0, none⟩)]) rfl hf2 (enters_of Try.func35 (by kernel_rfl) rfl)
      (given_stops Fence.wide 2 hf2 hro (by omega) wr.heap.size A cap p rid l w ha (by omega) W0 hB0 (by omega) g0 g1 g2) KpG.trans (KpG.putObj (by omega) (by omega)) (Below.refl _ _) (fun _ => rfl)
      (fun pre W => (((HeldD w.heap.size A l.length cap rid nm ln dy (some ad) sp.length sc W ∧ wr.heap.size + 3 ≤ W.heap.size) ∧ DaysB w.heap.size (givenDays l rid (sp.take k) ++ pre.map Cn.d) (fun v => Off w.heap.size v ∧ Off wr.heap.size v) W) ∧ DaysM w.heap.size Ds W) ∧ Below w.heap.size w W)
      (fun _ _ _ => False)
      (OwnFrom.and (OwnFrom.and (Own.from (Own.and' (Own.and' (HeldD.own _ _ _ _ _ _ _ _ _ _ _) (Own.size _)) (holdsRow_own _ _ _ _ _ (fun pre : List Cn => (givenDays l rid (sp.take k) ++ pre.map Cn.d).length) (fun pre : List Cn => (givenDays l rid (sp.take k) ++ pre.map Cn.d).map (Value.int .i64)) (fun _ v => Off w.heap.size v ∧ Off wr.heap.size v))) _) (DaysM.ownFrom (fun D hD => (HM0.2 D hD).2.1))) (ownFrom_below (Nat.le_refl _) (by omega)))
      (fun _ _ _ _ _ hs _ _ => hs)
      ⟨⟨⟨⟨HD0, by omega⟩, HV0⟩, HM0⟩, hB0⟩
      (fun x a' W => ∃ Bx, wr.heap.size + 3 ≤ Bx ∧ (W.cell? ⟨Bx, 2, none⟩ = some (.int .i64 x.d)) ∧ a' = { tmps := #[.slice A l.length cap, .agg #[.int .i64 rid, .string ⟨nm.toArray⟩, .int .i64 ln, .int .i64 dy, .slice (some ad) sp.length sc], .pointer (some ⟨w.heap.size, 0, none⟩), .pointer (some ⟨w.heap.size + 1, 0, none⟩), .slice none 0 0, .pointer (some ⟨w.heap.size + 1 + 1, 0, none⟩), undef, .int .i64 p, .pointer (some ⟨Bx, 0, none⟩), .pointer (some ⟨w.heap.size + 1, 4, none⟩), .slice (some ad) sp.length sc, .int .i64 (sp.length : Int), .int .i64 (k : Int), .bool true, .pointer (some (ad.add k)), .int .i64 p, .slice A l.length cap, .int .i64 p, .pointer (some ⟨w.heap.size + 1, 0, none⟩), .int .i64 rid, .func (.func 35) #[] #[.pointer (some ⟨wr.heap.size, 0, none⟩), .pointer (some ⟨wr.heap.size + 1, 0, none⟩), .pointer (some ⟨wr.heap.size + 2, 0, none⟩)], .agg #[.int .i64 x.p, .int .i64 x.r, .int .i64 x.d, .int .i64 x.k], undef, undef, undef, undef, undef, u27, undef, undef, undef, undef], defers := [] })
      (fun x a' => Own.from (fun _ A B row hs hg hr => by
        obtain ⟨Bx, h1, h2, h3⟩ := hs
        exact ⟨Bx, h1, cell_kept h2 hg hr, h3⟩) _) ?assign ?body ?done ?stop
    case assign =>
      rintro lp pre x W K ⟨⟨⟨⟨HDx, hzx⟩, HVx⟩, HMx⟩, hbx⟩ hK
      gi_wp2
      exact hK _ _ ((KeepsOthers.alloc _ _).from _) ⟨(Below.refl _ W).alloc (by omega) _, fun b _ h2 => World.cell?_alloc_lt _ _ _ (by show b < _; omega)⟩
        ⟨⟨⟨⟨HDx.keep (by simp) (fun q o h1 h2 => World.cell?_alloc_lt _ _ _ (by show q < _; omega)), by simp; omega⟩, (by obtain ⟨v, h1, h2, h3⟩ := HVx; exact ⟨v, h1.alloc _, h2.alloc _, h3⟩)⟩, HMx.others (KeepsOthers.alloc _ _)⟩, hbx.alloc (by omega) _⟩
        ⟨W.heap.size, hzx, by simp [go_sem], rfl⟩
    case body =>
      rintro lp pre x a' W _ _ ⟨⟨⟨⟨HDx, hzx⟩, HVx⟩, HMx⟩, hbx⟩ ⟨Bx, hBx, x2, rfl⟩ hpl
      obtain ⟨v, hv, hrow, hof1, hoff⟩ := HVx
      have hc := hv.cell
      have hf := hv.frozen
      have hlen : (givenDays l rid (sp.take k) ++ pre.map Cn.d).length ≤ 2000000 := by
        have h1 := HL.out
        have h2 : k * l.length ≤ 1000 * 100 := Nat.mul_le_mul (by omega) hl
        rw [List.length_append, List.length_map]
        omega
      have hszx := hbx.size
      have HZ : Hid (∀ zs, givenDays l rid (sp.take k) ++ pre.map Cn.d = zs → givenDays l rid (sp.take k) ++ (pre ++ [x]).map Cn.d = zs ++ [x.d]) := Lib.hid fun zs h => by rw [← h]; simp
      obtain ⟨zs, hzs⟩ : ∃ zs, givenDays l rid (sp.take k) ++ pre.map Cn.d = zs := ⟨_, rfl⟩
      have HZ := Lib.hid (HZ.out zs hzs)
      rw [hzs] at hrow hlen
      clear hzs
      gi_wp2_with (gi_at_builtin; (refine wpListIn_append_own_at _ rfl _ _ 32 rfl w.heap.size 3 i0 (.int .i64 0) 1 8 Try.underlying32 hi hz0 hz1 hz2 rfl (by decide) _ _ _ rfl (hrow.alloc _) ⟨W.heap.size, 0, none⟩ 1 1 [.int .i64 x.d] rfl rfl (cell_one_new _ _ _) (by simp [Value.oneCell']) (by simp only [maxLen]; omega) (by omega) (by simp; omega) ?_); intro v' w1 hown' hgrow _ hat; obtain ⟨g', cap', rfl⟩ := ownsRow_succ hown'; obtain ⟨hv1, hv2, hr2, hk2, hb2⟩ := hv.appended (by decide) hrow hbx.size (by omega) hown' hgrow; have hc1 := hv1.cell; have hf1 := hv1.frozen)
      have hq : ∀ q o, q < W.heap.size → q ≠ w.heap.size + 1 + 1 → some q ≠ v.ownBlock → (w1.setCell ⟨w.heap.size + 1 + 1, 0, none⟩ (.slice (some ⟨g', 0, none⟩) (zs.length + 1) cap')).cell? ⟨q, o, none⟩ = W.cell? ⟨q, o, none⟩ := fun q o h1 h2 h3 => by
        rw [World.cell?_setCell_other _ _ _ _ (by intro e; injection e with e; exact h2 e.symm), World.cell?_of_block (w := W.alloc _) (hgrow.block q (by simp; omega) h3)]
        exact World.cell?_alloc_lt _ _ _ (by exact h1)
      have hrb : ∀ B, B + 3 ≤ W.heap.size → Off B v → Off B (.slice (some ⟨g', 0, none⟩) (zs.length + 1) cap') := fun B h0 h1 q h2 h3 e => by
        rcases hat with h4 | h4
        · exact h1 q h2 h3 (e.trans h4)
        · have := e.trans h4
          simp at this
          omega
      refine ⟨hk2.from _, ⟨hb2, fun b h1 h2 => hq b 0 (by omega) (by omega) (hoff b h1 h2)⟩, ⟨⟨⟨?_, by have := hk2.size; omega⟩, ?_⟩, HMx.others hk2⟩, hbx.trans hb2⟩
      · exact HDx.keep hk2.size fun q o h1 h2 => hq q o (by omega) (by omega) (hof1 q (by omega) (by omega))
      · exact ⟨_, hv2, by rw [HZ.out]; simpa using hr2, hrb _ (by omega) hof1, hrb _ hzx hoff⟩
    case done =>
      rintro D ys W hD rfl ⟨⟨⟨⟨HDx, hzx⟩, HVx⟩, HMx⟩, hbx⟩ hK
      gi_wp2
      refine ⟨⟨_, _, _, _, _, _, _, _, _, _, k + 1, D :: Ds, ⟨by omega, HDx, ?_, ?_, hbx⟩, rfl⟩, by simp [intOf]; omega⟩
      · obtain ⟨v, h1, h2, h3, _⟩ := HVx
        exact ⟨v, h1, by rw [HS.out]; exact h2, h3⟩
      · exact ⟨List.pairwise_cons.2 ⟨fun D' h' => by have := (HM0.2 D' h').2.1; omega, HMx.1⟩, fun D' h' => by
          rcases List.mem_cons.1 h' with rfl | h'
          · exact ⟨by omega, (Array.getElem?_eq_some_iff.1 hK).1, hK⟩
          · exact HMx.2 D' h'⟩
    case stop =>
      rintro D c pre W _ _ h _
      exact h.elim
  · obtain rfl : k = sp.length := by omega
    obtain ⟨v, hv, hrow, _⟩ := HV
    rw [List.take_length] at hrow
    obtain ⟨V, vc, rfl⟩ := own_form hrow
    have hc := hv.cell
    have hlen : (givenDays l rid sp).length ≤ 100000 := by
      have h1 := givenDays_len l rid sp sp.length
      have h2 : sp.length * l.length ≤ 1000 * 100 := Nat.mul_le_mul hsl hl
      rw [List.take_length] at h1
      omega
    have hsz := hB.size
    have HF := Lib.hid (days_filter (l := l) (rid := rid) (sp := sp) hday)
    have HLs : Hid ((setOf (givenDays l rid sp)).length ≤ 100000) := Lib.hid (Nat.le_trans (setOf_length_le _) hlen)
    generalize givenDays l rid sp = zs at *
    gi_wp2_with (first
      | (gi_at_call 31; refine (callsIn_wide.2 (sorted_any zs V vc wr (Ints.of_own hrow) hlen)).mono ?_; rintro e w1 ⟨V1, vc1, rfl, own1, hb1⟩
         have O1 := Lib.hid own1
         have HB1 := Lib.hid (Below.step hB hb1)
         have HP := Lib.hid (asks_days l A S cap sc rid ln dy nm sp w.heap.size (w.heap.size + 1) wr.heap.size w1 w hsz HB1.out ha hs (by omega) (by omega) (by omega) (by omega) (((bcell hb1).1 _ 0 (by omega)).trans b0) (((bcell hb1).1 _ 0 (by omega)).trans c0) (((bcell hb1).1 _ 1 (by omega)).trans c1) (((bcell hb1).1 _ 2 (by omega)).trans c2) (((bcell hb1).1 _ 3 (by omega)).trans c3) (((bcell hb1).1 _ 4 (by omega)).trans c4))
         have HM1 := Lib.hid (DaysM.below HM hb1)
         have hz1 := hb1.size
         clear own1 hb1)
      | (gi_at_call 30; refine (callsIn_wide.2 (delete_any (sameDay l rid sp) _ _ (setOf zs) V1 vc1 wr.heap.size w1 O1.out HLs.out HP.out hz1)).mono ?_; rintro e w2 ⟨V2, vc2, rfl, hI2, hb2⟩))
    have hM2 : DaysM w.heap.size Ds w2 := DaysM.belowB (B := wr.heap.size) HM1.out hb2 (fun D hD => (HM.2 D hD).2.1)
    refine leaves_marks (fun W => Ints W V2 ((setOf zs).filter fun x => !sameDay l rid sp x) ∧ Below w.heap.size w W) (fun W D o' h h1 h2 => ⟨h.1.putD h2, belowK_b' h.2 (by omega) h2⟩) (fun W h => ?_) Ds w2 hM2 ⟨hI2, Below.trans HB1.out (hb2.mono hsz)⟩
    refine ⟨_, results_tmp rfl _ _ _, V2, vc2, ?_, ?_, h.2⟩
    · rw [← HF.out]; rfl
    · rw [← HF.out]; exact h.1

theorem days_any (l : List Cn) (A S : Option Addr) (cap sc : Nat) (rid ln dy : Int) (nm : List UInt8) (sp : List Int) (w : World) (ha : Cons w A l) (hs : Ints w S sp) (hl : l.length ≤ 100) (hsl : sp.length ≤ 1000) (hday : ∀ c ∈ l, 1 ≤ c.d ∧ c.d ≤ 109573) :
    Calls Try.prog 20 #[.slice A l.length cap, .agg #[.int .i64 rid, .string ⟨nm.toArray⟩, .int .i64 ln, .int .i64 dy, .slice S sp.length sc]] w (Gives (daysC l rid sp) w.heap.size w) :=
  callsIn_wide.1 (days_in l A S cap sc rid ln dy nm sp w ha hs hl hsl hday)
end Go.Proofs.Ythbagggcfdgnfaa
