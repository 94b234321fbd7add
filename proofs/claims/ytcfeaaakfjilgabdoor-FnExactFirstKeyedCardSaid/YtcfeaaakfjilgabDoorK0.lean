/- Numbers reflected and back, both ways. -/
import Derived.Test.YtcfeaaakfjilgabDoorS1
import Derived.Laws.Bits64
namespace Go.Proofs.YtcfeaaakfjilgabDoor
open Go Go.RowKit RM

theorem bits_xor_i64_nat (a b : Nat) (ha : a < 9223372036854775808) (hb : b < 9223372036854775808) :
    bits .xor .i64 (a : Int) (b : Int) = ((a ^^^ b : Nat) : Int) := by
  have hx : a ^^^ b < 2 ^ 63 := Nat.xor_lt_two_pow (by omega) (by omega)
  have h1 : (BitVec.ofInt 64 (a : Int)).toNat = a := by
    rw [BitVec.ofInt_natCast, BitVec.toNat_ofNat]; exact Nat.mod_eq_of_lt (by omega)
  have h2 : (BitVec.ofInt 64 (b : Int)).toNat = b := by
    rw [BitVec.ofInt_natCast, BitVec.toNat_ofNat]; exact Nat.mod_eq_of_lt (by omega)
  show IntKind.i64.wrap ((BitVec.ofInt 64 (a : Int) ^^^ BitVec.ofInt 64 (b : Int)).toNat : Int) = _
  rw [BitVec.toNat_xor, h1, h2, IntKind.wrap_i64]
  omega
theorem gray_bits (n : Nat) (hn : n < 9223372036854775808) : bits BinOp.xor IntKind.i64 (n : Int) ((n : Int) / 2) = ((gray n : Nat) : Int) := by
  rw [show ((n : Int) / 2) = ((n / 2 : Nat) : Int) from by omega, bits_xor_i64_nat n (n / 2) hn (by omega)]
  unfold gray; rw [shr1]
theorem num40 (x : Nat) (h : x < 1099511627776) : num x < 1099511627776 := num_lt 40 x h
theorem gray40 (x : Nat) (h : x < 1099511627776) : gray x < 1099511627776 := gray_lt 40 x h











/-- a number that is one, or none -/
theorem refl_cases (n : Int) : (n < 0 ∨ 1000000000000 < n) ∨ ∃ m : Nat, n = (m : Int) ∧ m ≤ 1000000000000 := by
  by_cases h : n < 0 ∨ 1000000000000 < n
  · left; exact h
  · right; exact ⟨n.toNat, by omega, by omega⟩
end Go.Proofs.YtcfeaaakfjilgabDoor
