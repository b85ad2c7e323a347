/- Arguments opened: persons, consents, a consent, a question. (open_ask5 follows the guide's page of structs to copy.) -/
import Derived.Test.YthbagggcfdgnfaaCnT
import Derived.Test.YthbagggcfdgnfaaLaw
namespace Go.Proofs.Ythbagggcfdgnfaa
open Go.RowKit Go.ChangeShapes Go.WideShapes Go.ChangeAt Go.Joins Go.Deep

section
variable {H : Type} {enc : TypeId × Value → H} {P : Program}

/-- A cell that is a slice of ints. -/
theorem cell_IntsN {t e : TypeId} (ht : P.underlying t = some (.slice e)) (he : P.underlying e = some (.int .i64)) (hc : P.cellsOf e = 1) {W : World} {fuel : Nat} {v : Value} {y : DataW H × List MemPlace}
    (hf : DataW.trod enc P W 0 (fun _ => true) true fuel t [v] = some y) (hp : ∀ x ∈ y.2, x.block < W.heap.size) :
    ∃ A l cap, v = .slice A l.length cap ∧ Ints W A l ∧ Fit l ∧ l.length ≤ maxLen := by
  rcases open_ints ht he hc hf with ⟨hcs, hx⟩ | ⟨a, len', cap', zs, hcs, _, hl, hm, hz, hx, hcell, hwz⟩
  · simp at hcs
    subst hcs
    exact ⟨none, [], 0, rfl, Ints.nil_ _ _, fun x hx => by simp at hx, by simp⟩
  · simp at hcs
    subst hcs
    subst hx
    simp only [if_true] at hz
    have hlen : (zs.take len').length = len' := by rw [List.length_take]; omega
    refine ⟨some a, zs.take len', cap', by rw [hlen], ⟨by simp, fun hn => ⟨a, rfl, ?_, fun j u hu => ?_⟩⟩, fun x hx => ?_, by rw [hlen]; omega⟩
    · have := hp (.cell a.block a.off) (MemPlace.mem_row.2 ⟨0, by omega, by simp⟩)
      exact this
    · have hj : j < len' := by
        rcases Nat.lt_or_ge j len' with h1 | h1
        · exact h1
        · rw [List.getElem?_eq_none (by simp; omega)] at hu; cases hu
      rw [hcell j (by omega)]
      rw [List.getElem?_map, List.getElem?_take, if_pos hj, List.getElem?_eq_getElem (by omega)] at hu
      rw [List.getD_eq_getElem?_getD, List.getElem?_eq_getElem (by omega)]
      simpa using hu
    · have hw := hwz x (List.mem_of_mem_take hx)
      simp [Lit.wf, IntKind.min, IntKind.max, IntKind.signed, IntKind.bits] at hw
      exact ⟨by omega, by omega⟩

/-- A cell that is a slice of structs. -/
theorem cell_structs {α : Type} [Inhabited α] {t te : TypeId} {k : Nat} {enc1 : α → List Value} {OK : α → Prop} (ht : P.underlying t = some (.slice te)) (ce : P.cellsOf te = k) (hk : 0 < k)
    {W : World} {fuel : Nat} {v : Value} {y : DataW H × List MemPlace} (hel : ∀ n cs x, DataW.trod enc P W 0 (fun _ => true) true n te cs = some x → (∀ y ∈ x.2, y.block < W.heap.size) → ∃ a, cs = enc1 a ∧ OK a)
    (hf : DataW.trod enc P W 0 (fun _ => true) true fuel t [v] = some y) (hp : ∀ x ∈ y.2, x.block < W.heap.size) :
    ∃ A l cap, v = .slice A l.length cap ∧ Structs k enc1 W A l ∧ (l.length ≤ maxLen ∧ l.length ≤ cap) ∧ ∀ a ∈ l, OK a := by
  rcases open_slice ht hf with ⟨hcs, _⟩ | ⟨a, len0, cap0, m, n, D, Pl, hcs, _, hl, hm, hmm, hx, hall⟩
  · simp at hcs
    subst hcs
    exact ⟨none, [], 0, rfl, Structs.nil_ _ _, ⟨by simp, by simp⟩, fun a ha => by simp at ha⟩
  · simp at hcs
    subst hcs
    simp only [if_true] at hmm
    obtain ⟨d, p⟩ := y
    simp only [Prod.mk.injEq] at hx
    obtain ⟨_, rfl⟩ := hx
    have key : ∀ i, ∃ q : α, i < len0 → a.block < W.heap.size ∧ OK q ∧ ∀ j v, (enc1 q)[j]? = some v → W.cell? (a.add (i * k + j)) = some v := by
      intro i
      by_cases hi2 : i < len0
      · obtain ⟨cs', e1, e2⟩ := hall i (by omega)
        rw [ce] at e1
        obtain ⟨_, hlen, hcell⟩ := World.cells?_some e1
        obtain ⟨q, rfl, ok⟩ := hel n cs' _ e2 (fun y hy => hp y (List.mem_append.2 (.inr (List.mem_flatMap.2 ⟨i, List.mem_range.2 (by omega), hy⟩))))
        refine ⟨q, fun _ => ⟨?_, ok, fun j v hv => ?_⟩⟩
        · exact hp (.cell a.block a.off) (List.mem_append.2 (.inl (MemPlace.mem_row.2 ⟨0, by rw [ce]; exact Nat.mul_pos (by omega) hk, by simp⟩)))
        · have hj : j < (enc1 q).length := by
            rcases Nat.lt_or_ge j (enc1 q).length with h1 | h1
            · exact h1
            · rw [List.getElem?_eq_none h1] at hv; cases hv
          have := hcell j (by omega)
          rw [add_of_add] at this
          rw [this]
          simpa using hv
      · exact ⟨default, fun h => absurd h hi2⟩
    obtain ⟨f, hfq⟩ := Classical.axiomOfChoice key
    have hlen : ((List.range len0).map f).length = len0 := by simp
    refine ⟨some a, (List.range len0).map f, cap0, by rw [hlen], fun i hi2 => ?_, ⟨by rw [hlen]; omega, by rw [hlen]; omega⟩, fun q hq => ?_⟩
    · rw [hlen] at hi2
      obtain ⟨g0, _, g1⟩ := hfq i hi2
      have e : ((List.range len0).map f)[i] = f i := by simp
      rw [e]
      exact ⟨a, rfl, g0, g1⟩
    · obtain ⟨i, hi, rfl⟩ := List.mem_map.1 hq
      exact (hfq i (List.mem_range.1 hi)).2.1

/-- An argument that is a struct of four ints. -/
theorem open_consent {t ti : TypeId} {f0 f1 f2 f3 : Field} (hs : P.underlying t = some (.struct #[f0, f1, f2, f3])) (hone : oneCellFields P #[f0, f1, f2, f3] = true) (hC : P.cellsOf t = 4) (h0 : f0.type = ti) (h1 : f1.type = ti) (h2 : f2.type = ti) (h3 : f3.type = ti) (hi : P.underlying ti = some (.int .i64))
    {W : World} {base : Nat} {r : Reach} {v : Value} {d : DataW H} {p : List MemPlace} (hv : Value.okWide P W r base t v) (h : DataW.Trod enc P W 0 (fun _ => true) true t v d p) :
    ∃ c : Cn, v = .agg #[.int .i64 c.p, .int .i64 c.r, .int .i64 c.d, .int .i64 c.k] ∧ OkC c := by
  obtain ⟨v0, v1, v2, v3, y0, y1, y2, y3, n, rfl, _, _, k0, k1, k2, k3⟩ := open_agg4 hs hone hC hv h
  rw [h0] at k0
  rw [h1] at k1
  rw [h2] at k2
  rw [h3] at k3
  obtain ⟨a, e0, _, w0⟩ := DataW.trod_int hi k0
  obtain ⟨b, e1, _, w1⟩ := DataW.trod_int hi k1
  obtain ⟨c, e2, _, w2⟩ := DataW.trod_int hi k2
  obtain ⟨d, e3, _, w3⟩ := DataW.trod_int hi k3
  simp at e0 e1 e2 e3
  subst e0 e1 e2 e3
  simp [Lit.wf, IntKind.min, IntKind.max, IntKind.signed, IntKind.bits] at w0 w1 w2 w3
  have f0' : Fits a := ⟨by omega, by omega⟩
  have f1' : Fits b := ⟨by omega, by omega⟩
  have f2' : Fits c := ⟨by omega, by omega⟩
  have f3' : Fits d := ⟨by omega, by omega⟩
  exact ⟨⟨a, b, c, d⟩, rfl, f0', f1', f2', f3'⟩

theorem open_agg5 {r : Reach} {b0 : Nat} {t : TypeId} {w : World} {base : Nat} {spare : Nat → Bool} {held : Bool} {f0 f1 f2 f3 f4 : Field} {v : Value} {d : DataW H} {p : List MemPlace} (hs : P.underlying t = some (.struct #[f0, f1, f2, f3, f4])) (hone : oneCellFields P #[f0, f1, f2, f3, f4] = true) (hC : P.cellsOf t = 5)
    (hv : Value.okWide P w r b0 t v) (h : DataW.Trod enc P w base spare held t v d p) :
    ∃ (v0 v1 v2 v3 v4 : Value) (y0 y1 y2 y3 y4 : DataW H × List MemPlace) (n : Nat), v = .agg #[v0, v1, v2, v3, v4] ∧ d = .agg [y0.1, y1.1, y2.1, y3.1, y4.1] ∧ p = y0.2 ++ (y1.2 ++ (y2.2 ++ (y3.2 ++ y4.2))) ∧
      DataW.trod enc P w base spare held n f0.type [v0] = some y0 ∧ DataW.trod enc P w base spare held n f1.type [v1] = some y1 ∧ DataW.trod enc P w base spare held n f2.type [v2] = some y2 ∧ DataW.trod enc P w base spare held n f3.type [v3] = some y3 ∧ DataW.trod enc P w base spare held n f4.type [v4] = some y4 := by
  obtain ⟨cs, rfl, hsz⟩ := okWide_struct hs hv
  obtain ⟨l⟩ := cs
  match l, hsz.trans hC with
  | [c0, c1, c2, c3, c4], _ =>
    obtain ⟨fuel, hf⟩ := h
    obtain ⟨xs, n, _, hx, _, hlen, hg⟩ := DataW.trod_struct hs hf
    obtain ⟨o0, k0⟩ := hone_of hone 0 f0 rfl
    obtain ⟨o1, k1⟩ := hone_of hone 1 f1 rfl
    obtain ⟨o2, k2⟩ := hone_of hone 2 f2 rfl
    obtain ⟨o3, k3⟩ := hone_of hone 3 f3 rfl
    obtain ⟨o4, k4⟩ := hone_of hone 4 f4 rfl
    match xs, hlen with
    | [y0, y1, y2, y3, y4], _ =>
      simp only [Prod.mk.injEq] at hx
      exact ⟨c0, c1, c2, c3, c4, y0, y1, y2, y3, y4, n, rfl, by simpa using hx.1, by simpa using hx.2, by simpa [Value.cells, o0, k0] using hg 0 f0 rfl, by simpa [Value.cells, o1, k1] using hg 1 f1 rfl, by simpa [Value.cells, o2, k2] using hg 2 f2 rfl, by simpa [Value.cells, o3, k3] using hg 3 f3 rfl, by simpa [Value.cells, o4, k4] using hg 4 f4 rfl⟩

/-- An argument that is a question: persons, consents, three ints. -/
theorem open_ask {t tp tc te tf ti : TypeId} {f0 f1 f2 f3 f4 : Field} (hs : P.underlying t = some (.struct #[f0, f1, f2, f3, f4])) (hone : oneCellFields P #[f0, f1, f2, f3, f4] = true) (hC : P.cellsOf t = 5)
    (h0 : f0.type = tp) (h1 : f1.type = tc) (h2 : f2.type = ti) (h3 : f3.type = ti) (h4 : f4.type = ti)
    (htp : P.underlying tp = some (.slice te)) (htc : P.underlying tc = some (.slice tf)) (hi : P.underlying ti = some (.int .i64)) (kp : P.cellsOf te = 3) (kc : P.cellsOf tf = 4)
    {W : World} (help : ∀ n cs x, DataW.trod enc P W 0 (fun _ => true) true n te cs = some x → (∀ y ∈ x.2, y.block < W.heap.size) → ∃ a, cs = encP a ∧ OkP a)
    (helc : ∀ n cs x, DataW.trod enc P W 0 (fun _ => true) true n tf cs = some x → (∀ y ∈ x.2, y.block < W.heap.size) → ∃ a, cs = encC a ∧ OkC a)
    {base : Nat} {r : Reach} {v : Value} {d : DataW H} {p : List MemPlace} (hv : Value.okWide P W r base t v) (h : DataW.Trod enc P W 0 (fun _ => true) true t v d p) (hp : ∀ x ∈ p, x.block < W.heap.size) :
    ∃ (A : Option Addr) (ps : List Pn) (ca : Nat) (B : Option Addr) (l : List Cn) (cb : Nat) (x y z : Int), v = .agg #[.slice A ps.length ca, .slice B l.length cb, .int .i64 x, .int .i64 y, .int .i64 z] ∧
      People W A ps ∧ (∀ a ∈ ps, OkP a) ∧ Cons W B l ∧ (∀ a ∈ l, OkC a) ∧ Fits x ∧ Fits y ∧ Fits z ∧ ps.length ≤ maxLen ∧ l.length ≤ maxLen ∧ l.length ≤ cb := by
  obtain ⟨v0, v1, v2, v3, v4, y0, y1, y2, y3, y4, n, rfl, _, rfl, k0, k1, k2, k3, k4⟩ := open_agg5 hs hone hC hv h
  rw [h0] at k0
  rw [h1] at k1
  rw [h2] at k2
  rw [h3] at k3
  rw [h4] at k4
  obtain ⟨A, ps, ca, rfl, i0, l0, o0⟩ := cell_structs htp kp (by omega) help k0 (fun x hx => hp x (by simp [hx]))
  obtain ⟨B, l, cb, rfl, i1, l1, o1⟩ := cell_structs htc kc (by omega) helc k1 (fun x hx => hp x (by simp [hx]))
  obtain ⟨a, q2, _, w2⟩ := DataW.trod_int hi k2
  obtain ⟨b, q3, _, w3⟩ := DataW.trod_int hi k3
  obtain ⟨c, q4, _, w4⟩ := DataW.trod_int hi k4
  simp at q2 q3 q4
  subst q2 q3 q4
  simp [Lit.wf, IntKind.min, IntKind.max, IntKind.signed, IntKind.bits] at w2 w3 w4
  exact ⟨A, ps, ca, B, l, cb, a, b, c, rfl, i0, o0, i1, o1, ⟨by omega, by omega⟩, ⟨by omega, by omega⟩, ⟨by omega, by omega⟩, l0.1, l1.1, l1.2⟩
end
end Go.Proofs.Ythbagggcfdgnfaa
