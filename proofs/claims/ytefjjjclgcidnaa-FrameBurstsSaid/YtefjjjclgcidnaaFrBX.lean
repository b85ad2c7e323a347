/- The law FrameBursts: its walk, all cases. -/
import Derived.Test.YtefjjjclgcidnaaFrBW
namespace Go.Proofs.Ytefjjjclgcidnaa
open Go.RowKit

theorem bursts_walk (w : World) (kind : Int) (_ : Fits kind) (b : List UInt8) (B : Option Addr) (cb : Nat) (_ : b.length ≤ maxLen) (hb : Bytes w B b) (a : Int) (ha : Fits a) (p : Nat) (hp : p < 4294967296) :
    Calls Try.prog 9 #[.int .i64 kind, .slice B b.length cb, .int .i64 a, .int .u32 (p : Int)] w (Ret (.bool true) w) := by
  by_cases h0 : kind < 1
  · exact bursts_no0 w kind b B cb a p h0
  by_cases h1 : (255 : Int) < kind
  · exact bursts_no1 w kind b B cb a p h0 h1
  by_cases h2 : (300 : Int) < (b.length : Int)
  · exact bursts_no2 w kind b B cb a p h0 h1 h2
  by_cases h3 : a < 0
  · exact bursts_no3 w kind b B cb a p h0 h1 h2 h3
  by_cases h4 : p = 0
  · exact bursts_no4 w kind b B cb a p h0 h1 h2 h3 h4
  obtain ⟨k, rfl⟩ : ∃ k : Nat, kind = (k : Int) := ⟨kind.toNat, by omega⟩
  obtain ⟨x, rfl⟩ : ∃ x : Nat, a = (x : Int) := ⟨a.toNat, by omega⟩
  exact bursts_in w k (by omega) b B cb hb (by omega) x ha.2 p hp h4
end Go.Proofs.Ytefjjjclgcidnaa
