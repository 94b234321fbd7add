/- Numbers reflected and back, both ways. -/
import Derived.Test.YtmjeilimdnngpaaDoorS1
import Derived.Laws.Bits64
namespace Go.Proofs.YtmjeilimdnngpaaDoor
open Go Go.RowKit RM

theorem bits_xor_i64_nat (a b : Nat) (ha : a < 9223372036854775808) (hb : b < 9223372036854775808) :
    bits .xor .i64 (a : Int) (b : Int) = ((a ^^^ b : Nat) : Int) := by
  have hx : a ^^^ b < 2 ^ 63 := Nat.xor_lt_two_pow (by omega) (by omega)
  have h1 : (BitVec.ofInt 64 (a : Int)).toNat = a := by
    rw [BitVec.ofInt_natCast, BitVec.toNat_ofNat]; exact Nat.mod_eq_of_lt (by omega)
  have h2 : (BitVec.ofInt 64 (b : Int)).toNat = b := by
    rw [BitVec.ofInt_natCast, BitVec.toNat_ofNat]; exact Nat.mod_eq_of_lt (by omega)
  show IntKind.i64.wrap ((BitVec.ofInt 64 (a : Int) ^^^ BitVec.ofInt 64 (b : Int)).toNat : Int) = _
  rw [BitVec.toNat_xor, h1, h2, IntKind.wrap_i64]
  omega
theorem gray_bits (n : Nat) (hn : n < 9223372036854775808) : bits BinOp.xor IntKind.i64 (n : Int) ((n : Int) / 2) = ((gray n : Nat) : Int) := by
  rw [show ((n : Int) / 2) = ((n / 2 : Nat) : Int) from by omega, bits_xor_i64_nat n (n / 2) hn (by omega)]
  unfold gray; rw [shr1]
theorem num40 (x : Nat) (h : x < 1099511627776) : num x < 1099511627776 := num_lt 40 x h
theorem gray40 (x : Nat) (h : x < 1099511627776) : gray x < 1099511627776 := gray_lt 40 x h

theorem reflected_core (n y : Nat) (w : World) (hn : n < 1099511627776) (hz : bits BinOp.xor IntKind.i64 (n : Int) ((n : Int) / 2) = (y : Int)) : Calls Tryd.prog 99 #[.int .i64 n] w fun e w' => e = .returned (.int .i64 y) ∧ w = w' := by
  go_enter Tryd.func99, Tryd.ntmps99
  go_wp2
  go_ret; exact ⟨rfl, rfl⟩

theorem reflected_any (n : Nat) (w : World) (hn : n < 1099511627776) : Calls Tryd.prog 99 #[.int .i64 n] w fun e w' => e = .returned (.int .i64 ((gray n : Nat) : Int)) ∧ w = w' :=
  reflected_core n (gray n) w hn (gray_bits n (by omega))

theorem unreflected_any (x : Nat) (w : World) (hx : x < 1099511627776) : Calls Tryd.prog 98 #[.int .i64 x] w fun e w' => e = .returned (.int .i64 ((num x : Nat) : Int)) ∧ w = w' := by
  go_enter Tryd.func98, Tryd.ntmps98
  go_wp2
  go_loop [3, 4] (fun a r => ∃ m q : Nat, a = .int .i64 m ∧ r = .int .i64 q ∧ m < 1099511627776 ∧ q < 1099511627776 ∧ Hid (m ^^^ num q = num x)) (fun _ r => (intOf r).toNat)
  case atStart => exact ⟨0, x, rfl, rfl, by omega, hx, Lib.hid (by simp)⟩
  case round =>
    obtain ⟨m, q, rfl, rfl, hm, hq, he⟩ := hrel
    by_cases h : q = 0
    · subst h
      have HF : Hid (m = num x) := Lib.hid (by have := he.out; rw [num_zero] at this; simpa using this)
      go_wp2
      go_ret; exact ⟨ret_int (by rw [HF.out]), rfl⟩
    · have hne : ((q : Int) != 0) = true := by simp; omega
      have hxor := bits_xor_i64_nat m q (by omega) (by omega)
      have hlt : m ^^^ q < 1099511627776 := Nat.xor_lt_two_pow (n := 40) hm hq
      have HX : Hid ((m ^^^ q) ^^^ num (q / 2) = num x) := Lib.hid (by
        rw [← he.out, num_xor q, Nat.xor_assoc])
      go_wp2
      go_round
      case rel => exact ⟨m ^^^ q, q / 2, rfl, vi (by omega), hlt, by omega, HX⟩
      all_goals (simp [intOf] <;> omega)








/-- a number that is one, or none -/
theorem refl_cases (n : Int) : (n < 0 ∨ 1000000000000 < n) ∨ ∃ m : Nat, n = (m : Int) ∧ m ≤ 1000000000000 := by
  by_cases h : n < 0 ∨ 1000000000000 < n
  · left; exact h
  · right; exact ⟨n.toNat, by omega, by omega⟩
end Go.Proofs.YtmjeilimdnngpaaDoor
