/- The functions of chapter 1 that take a number of rings, both ways. -/
import Derived.Test.YtmjeilimdnngpaaDoorA1
import Derived.Test.YtmjeilimdnngpaaDoorS4
namespace Go.Proofs.YtmjeilimdnngpaaDoor
open Go Go.RowKit RM













/-- a number of rings, or none -/
theorem rings_cases (n : Int) : (n < 1 ∨ 20 < n) ∨ ∃ m : Nat, n = (m : Int) ∧ 1 ≤ m ∧ m ≤ 20 := by
  by_cases h : n < 1 ∨ 20 < n
  · left; exact h
  · right; exact ⟨n.toNat, by omega, by omega, by omega⟩
end Go.Proofs.YtmjeilimdnngpaaDoor
