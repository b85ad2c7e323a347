/- Frames one after the other, cut anywhere. -/
import Derived.Test.YtefjjjclgcidnaaFrU
namespace Go.Proofs.Ytefjjjclgcidnaa
open Go.RowKit

/-- A kind and a content. -/
def OkP (q : Int × List UInt8) : Prop := 1 ≤ q.1 ∧ q.1 ≤ 255 ∧ q.2.length ≤ 300
/-- A slice of kinds and contents reads as a list. -/
def Parts (w : World) (A : Option Addr) (ps : List (Int × List UInt8)) : Prop :=
  ∀ i (h : i < ps.length), ∃ ad B cb, A = some ad ∧ ad.block < w.heap.size ∧ w.cell? (ad.add (i * 2)) = some (.int .i64 ps[i].1) ∧ w.cell? (ad.add (i * 2 + 1)) = some (.slice B ps[i].2.length cb) ∧ Bytes w B ps[i].2 ∧ Fits ps[i].1
/-- Frames one after the other. -/
def cat (ps : List (Int × List UInt8)) : List UInt8 := ps.flatMap fun q => sealL q.1.toNat q.2
theorem cat_snoc (ps : List (Int × List UInt8)) (q : Int × List UInt8) : cat (ps ++ [q]) = cat ps ++ sealL q.1.toNat q.2 := by simp [cat]
theorem cat_cons (ps : List (Int × List UInt8)) (q : Int × List UInt8) : cat (q :: ps) = sealL q.1.toNat q.2 ++ cat ps := by simp [cat]
theorem cat_take (ps : List (Int × List UInt8)) (i : Nat) (h : i < ps.length) : cat (ps.take (i + 1)) = cat (ps.take i) ++ sealL ps[i].1.toNat ps[i].2 := by
  rw [List.take_succ_eq_append_getElem h, cat_snoc]
theorem seal_bd (q : Int × List UInt8) (h : OkP q) : 7 ≤ (sealL q.1.toNat q.2).length ∧ (sealL q.1.toNat q.2).length ≤ 320 := by
  have h1 := sealL_len q.1.toNat q.2
  have h2 := sealM_len q.1.toNat q.2
  have h3 := h.2.2
  omega
theorem cat_len : ∀ (ps : List (Int × List UInt8)), (∀ q ∈ ps, OkP q) → (cat ps).length ≤ 320 * ps.length
  | [], _ => by simp [cat]
  | q :: ps, h => by
    rw [cat_cons, List.length_append, List.length_cons]
    have h1 := (seal_bd q (h q (by simp))).2
    have h2 := cat_len ps (fun x hx => h x (by simp [hx]))
    omega
/-- All of frames that are followed by what is none. -/
theorem allF_cat (r : List UInt8) : ∀ (ps : List (Int × List UInt8)) (p : List UInt8) (n : Nat), (∀ q ∈ ps, OkP q) → ps.length < n → opE (p ++ cat ps ++ r) ((p ++ cat ps).length : Int) ≠ 0 →
    allF (p ++ cat ps ++ r) n p.length = (ps.map (·.1), ps.map (·.2), (p ++ cat ps).length)
  | [], p, n + 1, _, _, h => by
    have e : cat [] = [] := rfl
    rw [e, List.append_nil] at h ⊢
    rw [allF, if_neg h]
    rfl
  | q :: ps, p, n + 1, hq, hn, h => by
    obtain ⟨q1, q2, q3⟩ := hq q (by simp)
    have e : p ++ cat (q :: ps) ++ r = p ++ sealL q.1.toNat q.2 ++ (cat ps ++ r) := by rw [cat_cons]; simp
    have e2 : p ++ cat (q :: ps) ++ r = (p ++ sealL q.1.toNat q.2) ++ cat ps ++ r := by rw [cat_cons]; simp
    have e3 : p ++ cat (q :: ps) = (p ++ sealL q.1.toNat q.2) ++ cat ps := by rw [cat_cons]; simp
    obtain ⟨b1, b2, b3, b4⟩ := op_back p q.2 (cat ps ++ r) q.1.toNat (by omega) (by omega)
    rw [← e] at b1 b2 b3 b4
    rw [allF, if_pos b4, b1, b2, b3, Int.toNat_natCast]
    rw [e3] at h ⊢
    have ih := allF_cat r ps (p ++ sealL q.1.toNat q.2) n (fun x hx => hq x (by simp [hx])) (by simpa using hn) h
    rw [show p.length + (sealL q.1.toNat q.2).length = (p ++ sealL q.1.toNat q.2).length by simp, ih]
    simp
    omega
theorem op_nil (l : List UInt8) {a : Nat} (h : a = l.length) : opE l ((a : Nat) : Int) ≠ 0 := by subst h; rw [op_end]; decide
/-- A frame that was cut is none. -/
theorem op_cut (p b : List UInt8) (k : Nat) (hk : 1 ≤ k ∧ k ≤ 255) (hb : b.length ≤ 1048576) (c : Nat) (hc : c < (sealL k b).length) : opE (p ++ (sealL k b).take c) (p.length : Int) ≠ 0 := by
  have hS : sealL k b = 76 :: UInt8.ofNat k :: (encI b.length ++ (b ++ tail4 (crcZ (sealM k b)))) := by simp [sealL, sealM]
  rcases c with _ | _ | c
  · rw [List.take_zero, List.append_nil, op_end]; decide
  · have e : p ++ (sealL k b).take (0 + 1) = p ++ 76 :: [] := by rw [hS]; rfl
    have h : hdE (p ++ (sealL k b).take (0 + 1)) (p.length : Int) = 4 := by
      rw [e, hd_in (by simp)]
      unfold hdN
      rw [if_neg (by simp), if_neg (by rw [cB_at p [] 76 _ rfl]; decide), if_pos (by simp)]
    rw [op_hd h (by decide)]; decide
  · have e : p ++ (sealL k b).take (c + 1 + 1) = p ++ 76 :: (UInt8.ofNat k :: (encI b.length ++ (b ++ tail4 (crcZ (sealM k b)))).take c) := by rw [hS]; simp
    have e1 : p ++ (sealL k b).take (c + 1 + 1) = (p ++ [76]) ++ UInt8.ofNat k :: (encI b.length ++ (b ++ tail4 (crcZ (sealM k b)))).take c := by rw [e]; simp
    have c0 : cB (p ++ (sealL k b).take (c + 1 + 1)) p.length = 76 := by rw [e]; exact cB_at p _ 76 _ rfl
    have c1 : cB (p ++ (sealL k b).take (c + 1 + 1)) (p.length + 1) = k := by rw [e1, cB_at (p ++ [76]) _ _ _ (by simp)]; simp; omega
    have hsl := sealL_len k b
    have hml : (sealM k b).length = 2 + (encI b.length).length + b.length := by simp [sealM]; omega
    have hpos : 0 < (encI b.length).length := encU_pos 9 _
    have hlen : (p ++ (sealL k b).take (c + 1 + 1)).length = p.length + (c + 2) := by rw [List.length_append, List.length_take]; omega
    have e3 : (p ++ [76, UInt8.ofNat k]).length = p.length + 2 := by simp
    by_cases hcc : c < (encI b.length).length
    · have e2 : p ++ (sealL k b).take (c + 1 + 1) = (p ++ [76, UInt8.ofNat k]) ++ (encI b.length).take c := by rw [e, List.take_append_of_le_length (by omega)]; simp
      have i1 := int_cut (p ++ [76, UInt8.ofNat k]) b.length c hcc
      rw [← e2, e3] at i1
      generalize p ++ (sealL k b).take (c + 1 + 1) = l at *
      have h : ∃ x, hdE l (p.length : Int) = x ∧ x ≠ 0 := by
        rw [hd_in (by omega)]
        unfold hdN
        rw [if_neg (by omega), if_neg (by rw [c0]; decide)]
        split
        · exact ⟨_, rfl, by decide⟩
        · rw [if_neg (by omega), if_pos (by rw [i1]; decide), i1]
          exact ⟨_, rfl, by decide⟩
      obtain ⟨x, h1, h2⟩ := h
      rw [op_hd h1 h2]; exact h2
    · have e2 : p ++ (sealL k b).take (c + 1 + 1) = (p ++ [76, UInt8.ofNat k]) ++ encI b.length ++ (b ++ tail4 (crcZ (sealM k b))).take (c - (encI b.length).length) := by
        rw [e, List.take_append, List.take_of_length_le (by omega)]; simp
      obtain ⟨i1, i2, i3⟩ := int_back (p ++ [76, UInt8.ofNat k]) ((b ++ tail4 (crcZ (sealM k b))).take (c - (encI b.length).length)) b.length ⟨by omega, by omega⟩
      have e4 : ((p ++ [76, UInt8.ofNat k] ++ encI b.length).length : Int) = ((p.length + 2 + (encI b.length).length : Nat) : Int) := by rw [List.length_append, e3]
      rw [← e2, e3] at i1 i2 i3
      rw [e4] at i3
      generalize p ++ (sealL k b).take (c + 1 + 1) = l at *
      have h0 : hdE l (p.length : Int) = 0 := by
        rw [hd_in (by omega)]
        unfold hdN
        rw [if_neg (by omega), if_neg (by rw [c0]; decide), if_neg (by omega), if_neg (by omega), if_neg (by rw [i1]; decide), if_neg (by rw [i2]; omega)]
      obtain ⟨_, _, h3, _⟩ := hd_ok h0
      rw [Int.toNat_natCast, i2, i3] at h3
      have : opE l (p.length : Int) = 4 := by unfold opE; rw [if_neg (by rw [h0]; decide), h3, if_pos (by omega)]
      rw [this]; decide
theorem cat_len_ge : ∀ (ps : List (Int × List UInt8)), (∀ q ∈ ps, OkP q) → 7 * ps.length ≤ (cat ps).length
  | [], _ => by simp
  | q :: ps, h => by
    rw [cat_cons, List.length_append, List.length_cons]
    have h1 := (seal_bd q (h q (by simp))).1
    have h2 := cat_len_ge ps (fun x hx => h x (by simp [hx]))
    omega
/-- All of frames that were cut: those that are complete. -/
theorem cuts_all (ps : List (Int × List UInt8)) (j cut : Nat) (hj : j ≤ ps.length) (hok : ∀ q ∈ ps, OkP q) (h1 : (cat (ps.take j)).length ≤ cut) (h2 : j < ps.length → cut < (cat (ps.take (j + 1))).length) :
    allF ((cat ps).take cut) (((cat ps).take cut).length + 1) 0 = ((ps.take j).map (·.1), (ps.take j).map (·.2), (cat (ps.take j)).length) := by
  have hokj : ∀ q ∈ ps.take j, OkP q := fun q hq => hok q (List.mem_of_mem_take hq)
  have hge := cat_len_ge (ps.take j) hokj
  have hsplit : cat ps = cat (ps.take j) ++ cat (ps.drop j) := by
    have e : ps = ps.take j ++ ps.drop j := (List.take_append_drop j ps).symm
    have : cat (ps.take j ++ ps.drop j) = cat (ps.take j) ++ cat (ps.drop j) := by unfold cat; rw [List.flatMap_append]
    rw [← this, ← e]
  obtain ⟨r, hr, hop⟩ : ∃ r, (cat ps).take cut = [] ++ cat (ps.take j) ++ r ∧ opE ([] ++ cat (ps.take j) ++ r) (([] ++ cat (ps.take j)).length : Int) ≠ 0 := by
    rcases Nat.lt_or_ge j ps.length with hlt | hge2
    · have hd : ps.drop j = ps[j] :: ps.drop (j + 1) := List.drop_eq_getElem_cons hlt
      obtain ⟨k1, k2, k3⟩ := hok ps[j] (List.getElem_mem hlt)
      have hc := h2 hlt
      rw [cat_take ps j hlt, List.length_append] at hc
      refine ⟨(sealL ps[j].1.toNat ps[j].2).take (cut - (cat (ps.take j)).length), ?_, ?_⟩
      · rw [hsplit, hd, cat_cons, List.take_append, List.take_of_length_le h1, List.take_append_of_le_length (by omega), List.nil_append]
      · rw [List.nil_append]
        exact op_cut (cat (ps.take j)) ps[j].2 ps[j].1.toNat (by omega) (by omega) _ (by omega)
    · have hjl : j = ps.length := by omega
      subst hjl
      rw [List.take_length] at h1 ⊢
      refine ⟨[], ?_, ?_⟩
      · rw [List.take_of_length_le h1]; simp
      · rw [List.append_nil, List.nil_append]
        exact op_nil _ rfl
  have hlen : (ps.take j).length < ((cat ps).take cut).length + 1 := by
    rw [hr]
    simp only [List.length_append, List.length_nil]
    omega
  have := allF_cat r (ps.take j) [] (((cat ps).take cut).length + 1) hokj hlen hop
  rw [← hr] at this
  simpa using this
end Go.Proofs.Ytefjjjclgcidnaa
