/- Rows apart, by where they lie. -/
import Derived.Test.YtfnhmacnghkgiaeDoorStrs
namespace Go.Proofs.YtfnhmacnghkgiaeDoor
open Go Go.RowKit RM
theorem ne_bse {u v : Value} {c : Nat} (hv : ∀ k, v.ownBlock = some k → k < c) (hu : ∀ k, u.ownBlock = some k → c ≤ k) : v.ownBlock = none ∨ v.ownBlock ≠ u.ownBlock := by
  cases e : v.ownBlock with
  | none => left; rfl
  | some a =>
    right
    intro e2
    have := hu a e2.symm
    have := hv a e
    omega
theorem ne_bse2 {u v : Value} {c : Nat} (hv : ∀ k, v.ownBlock = some k → c ≤ k) (hu : ∀ k, u.ownBlock = some k → k < c) : v.ownBlock = none ∨ v.ownBlock ≠ u.ownBlock := by
  cases e : v.ownBlock with
  | none => left; rfl
  | some a =>
    right
    intro e2
    have := hu a e2.symm
    have := hv a e
    omega
end Go.Proofs.YtfnhmacnghkgiaeDoor
