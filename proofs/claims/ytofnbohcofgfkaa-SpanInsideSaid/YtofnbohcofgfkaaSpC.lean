/- Slices of spans. -/
import Derived.Test.YtofnbohcofgfkaaSpA
import Derived.Test.YtofnbohcofgfkaaStr
import Derived.Test.YtofnbohcofgfkaaAppend
namespace Go.Proofs.Ytofnbohcofgfkaa
open Go.RowKit

def encS (x : Sp) : List Value := [.int .i64 x.f, .int .i64 x.t]
abbrev Spans (w : World) (A : Option Addr) (l : List Sp) : Prop := Structs 2 encS w A l
theorem add_plus (a : Addr) (m j : Nat) (hj : j ≠ 0) : a.add (m + j) = ⟨(a.add m).block, (a.add m).off + j, none⟩ := by
  unfold Addr.add
  by_cases hm : m = 0 <;> simp [hm, hj, Nat.add_assoc]
theorem Spans.cells {w : World} {A : Option Addr} {l : List Sp} (h : Spans w A l) {i : Nat} (hi : i < l.length) : ∃ ad, A = some ad ∧ ad.block < w.heap.size ∧ w.cell? (ad.add (i * 2)) = some (.int .i64 l[i].f) ∧
    w.cell? ⟨(ad.add (i * 2)).block, (ad.add (i * 2)).off + 1, none⟩ = some (.int .i64 l[i].t) := by
  obtain ⟨ad, e, hlt, hc⟩ := h i hi
  refine ⟨ad, e, hlt, hc 0 _ rfl, ?_⟩
  rw [← add_plus _ _ _ (by decide)]; exact hc 1 _ rfl

theorem flat_get (l : List Sp) : ∀ j, (l.flatMap encS)[j]? = (l[j / 2]?).bind fun x => (encS x)[j % 2]? := by
  induction l with
  | nil => intro j; simp
  | cons x l ih =>
    intro j
    rw [List.flatMap_cons]
    rcases Nat.lt_or_ge j 2 with h | h
    · rw [List.getElem?_append_left (by simpa [encS] using h), Nat.div_eq_of_lt h, Nat.mod_eq_of_lt h]; rfl
    · obtain ⟨q, rfl⟩ : ∃ q, j = q + 2 := ⟨j - 2, by omega⟩
      rw [List.getElem?_append_right (by simp [encS]), show (encS x).length = 2 from rfl, Nat.add_sub_cancel, ih, Nat.add_div_right _ (by omega), Nat.add_mod_right]
      rfl
theorem flat_len (l : List Sp) : (l.flatMap encS).length = l.length * 2 := by
  induction l with
  | nil => rfl
  | cons x l ih => rw [List.flatMap_cons, List.length_append, ih, List.length_cons, show (encS x).length = 2 from rfl]; omega
theorem one_spans (l : List Sp) : ∀ u ∈ l.flatMap encS, u.oneCell' = true := by
  intro u hu
  obtain ⟨x, _, hx⟩ := List.mem_flatMap.1 hu
  simp [encS] at hx
  rcases hx with rfl | rfl <;> rfl
theorem Spans.reads {w : World} {A : Option Addr} {l : List Sp} (h : Spans w A l) : Reads w w.heap.size 2 A l.length (l.flatMap encS) := by
  refine ⟨flat_len l, fun hn => ?_⟩
  obtain ⟨ad, rfl, hlt⟩ := Structs.addr h hn
  refine ⟨ad, rfl, hlt, fun j u hu => ?_⟩
  rw [flat_get] at hu
  obtain ⟨x, hx, hxu⟩ := Option.bind_eq_some_iff.1 hu
  obtain ⟨hi, rfl⟩ := List.getElem?_eq_some_iff.1 hx
  obtain ⟨ad', e, _, hc⟩ := h (j / 2) hi
  injection e with e
  subst e
  have := hc (j % 2) u hxu
  rwa [show j / 2 * 2 + j % 2 = j by omega] at this
theorem Spans.of_reads {w : World} {A : Option Addr} {l : List Sp} (h : Reads w w.heap.size 2 A l.length (l.flatMap encS)) : Spans w A l := fun i hi => by
  obtain ⟨ad, rfl, hlt, hc⟩ := h.2 (by omega)
  refine ⟨ad, rfl, hlt, fun j v hv => hc _ _ ?_⟩
  have hj : j < 2 := by
    rcases Nat.lt_or_ge j 2 with h1 | h1
    · exact h1
    · rw [List.getElem?_eq_none (by simpa [encS] using h1)] at hv; cases hv
  rw [flat_get, show (i * 2 + j) / 2 = i by omega, show (i * 2 + j) % 2 = j by omega, List.getElem?_eq_getElem hi]
  exact hv
theorem Spans.one (w : World) (x : Sp) (t : TypeId) : Spans (w.alloc (.cells #[.int .i64 x.f, .int .i64 x.t] t)) (some ⟨w.heap.size, 0, none⟩) [x] := fun i hi => by
  obtain rfl : i = 0 := by simpa using hi
  refine ⟨_, rfl, by simp, fun j v hv => ?_⟩
  rw [Nat.zero_mul, Nat.zero_add, show ((⟨w.heap.size, 0, none⟩ : Addr).add j) = ⟨w.heap.size, j, none⟩ by unfold Addr.add; split <;> simp_all, World.cell?_alloc_at _ _ _ _ rfl]
  simpa [encS] using hv
/-- A slice value that is a row of the call's own, holding the spans of s. -/
def OwnS (w : World) (B : Nat) (s : List Sp) (v : Value) : Prop := ∃ A c, v = .slice A s.length c ∧ w.ownsRow B 23 2 (.slice A s.length c) s.length (s.flatMap encS)
theorem OwnS.nil_ (w : World) (B : Nat) : OwnS w B [] (.slice none 0 0) := ⟨none, 0, rfl, World.ownsRow_nil _ _ _ _⟩
/-- The call returns a slice of its own, of these spans. -/
def RetSpans (l : List Sp) (w : World) (e : Ending) (w' : World) : Prop := ∃ A cap, e = .returned (.slice A l.length cap) ∧ w'.ownsRow w.heap.size 23 2 (.slice A l.length cap) l.length (l.flatMap encS) ∧ Below w.heap.size w w'
theorem OwnS.ret {w w' : World} {s : List Sp} {v : Value} (h : OwnS w' w.heap.size s v) (hb : Below w.heap.size w w') : RetSpans s w (.returned v) w' :=
  let ⟨A, c, e, ho⟩ := h; ⟨A, c, by rw [e], ho, hb⟩
theorem Spans.of_own {w : World} {B c : Nat} {A : Option Addr} {s : List Sp} (h : w.ownsRow B 23 2 (.slice A s.length c) s.length (s.flatMap encS)) : Spans w A s := Spans.of_reads (Reads.of_own h)
abbrev zeroS : Value := .agg #[.int .i64 0, .int .i64 0]
theorem info_span : (Try.prog.info? 23).map (fun i => (i.zero, i.size, i.bytes)) = some (some zeroS, 2, 16) := by kernel_rfl
end Go.Proofs.Ytofnbohcofgfkaa
