/- Moves of a ring, states of numbers: both ways. -/
import Derived.Test.YtmbijomjilicgabDoorA3
namespace Go.Proofs.YtmbijomjilicgabDoor
open Go Go.RowKit RM



theorem canB_true (n x : Nat) (k : Int) (h1 : 1 ≤ n) (h : canB n x k = true) : ∃ j : Nat, k = (j : Int) ∧ j < n := by
  by_cases h0 : k = 0
  · exact ⟨0, h0, h1⟩
  · by_cases hk : k < 0 ∨ (n : Int) ≤ k
    · rw [canB_out n x k (by omega)] at h; cases h
    · exact ⟨k.toNat, by omega, by omega⟩
/-- the state behind a move, if it can be made -/
def mvS (n x : Nat) (k : Int) : ByteArray := if canB n x k then ST n (x ^^^ 2 ^ k.toNat) else ⟨#[]⟩





/-- the state with a number, if there is one -/
def nthB (n : Int) (m : Int) : Bool := decide (1 ≤ n) && decide (n ≤ 20) && decide (0 ≤ m) && decide (m < 2 ^ n.toNat)
def nthS (n : Int) (m : Int) : ByteArray := if nthB n m then ST n.toNat (gray m.toNat) else ⟨#[]⟩









end Go.Proofs.YtmbijomjilicgabDoor
