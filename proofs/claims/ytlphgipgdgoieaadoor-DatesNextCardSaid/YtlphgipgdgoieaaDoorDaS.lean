/- How strings.SplitN parts the text of a day: plain mathematics. -/
import Derived.Test.YtlphgipgdgoieaaDoorDaT
import Derived.Lib.Split
import Derived.Lib.IndexBytes
namespace Go.Proofs.YtlphgipgdgoieaaDoor

theorem ib_hit (c : UInt8) (l : List UInt8) : Lib.indexByte (c :: l) c = 0 := by unfold Lib.indexByte; simp
theorem ib_skip {b c : UInt8} {l : List UInt8} (h : b ≠ c) {k : Nat} (hk : Lib.indexByte l c = (k : Int)) : Lib.indexByte (b :: l) c = ((k + 1 : Nat) : Int) := by
  unfold Lib.indexByte
  have h1 : (b == c) = false := by simpa using h
  have h2 : (((k : Nat) : Int) == -1) = false := by simp
  rw [h1, hk, h2]
  simp
theorem ib_miss {b c : UInt8} {l : List UInt8} (h : b ≠ c) (hk : Lib.indexByte l c = -1) : Lib.indexByte (b :: l) c = -1 := by
  unfold Lib.indexByte
  have h1 : (b == c) = false := by simpa using h
  rw [h1, hk]
  simp
theorem ib_d2 {n : Nat} (h : n < 100) (l : List UInt8) : Lib.indexByte (d2 n ++ 45 :: l) 45 = 2 :=
  ib_skip (dg_ne (by omega)) (k := 1) (ib_skip (dg_ne (by omega)) (k := 0) (ib_hit 45 l))
theorem ib_d4 {n : Nat} (h : n < 10000) (l : List UInt8) : Lib.indexByte (d4 n ++ 45 :: l) 45 = 4 :=
  ib_skip (dg_ne (by omega)) (k := 3) (ib_skip (dg_ne (by omega)) (k := 2) (ib_skip (dg_ne (by omega)) (k := 1) (ib_skip (dg_ne (by omega)) (k := 0) (ib_hit 45 l))))
theorem ib_none {n : Nat} (h : n < 100) : Lib.indexByte (d2 n) 45 = -1 := ib_miss (dg_ne (by omega)) (ib_miss (dg_ne (by omega)) rfl)
theorem split_txt {y m d : Nat} (h1 : y < 10000) (h2 : m < 100) (h3 : d < 100) : Lib.splitK [45] 0 3 (txt y m d) = [d4 y, d2 m, d2 d] := by
  have e1 : Lib.index (txt y m d) [45] = 4 := by rw [Lib.index_one]; exact ib_d4 h1 _
  have e2 : Lib.index (d2 m ++ 45 :: d2 d) [45] = 2 := by rw [Lib.index_one]; exact ib_d2 h2 _
  have e3 : Lib.index (d2 d) [45] = -1 := by rw [Lib.index_one]; exact ib_none h3
  have step : ∀ (k : Nat) (l : List UInt8), Lib.splitK [45] 0 (k + 1) l = if Lib.index l [45] == -1 then [l] else l.take ((Lib.index l [45]).toNat + 0) :: Lib.splitK [45] 0 k (l.drop ((Lib.index l [45]).toNat + 1)) := fun k l => rfl
  rw [step 2, e1, if_neg (by decide)]
  show d4 y :: Lib.splitK [45] 0 2 (d2 m ++ 45 :: d2 d) = _
  rw [step 1, e2, if_neg (by decide)]
  show d4 y :: d2 m :: Lib.splitK [45] 0 1 (d2 d) = _
  rw [step 0, e3, if_pos (by decide)]
end Go.Proofs.YtlphgipgdgoieaaDoor
