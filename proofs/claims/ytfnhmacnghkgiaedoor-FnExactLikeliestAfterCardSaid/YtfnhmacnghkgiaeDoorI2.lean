/- Bars: numbers, sums of digits, which ring can be moved. -/
import Derived.Test.YtfnhmacnghkgiaeDoorI1
import Derived.Test.YtfnhmacnghkgiaeDoorI0
import Derived.Test.YtfnhmacnghkgiaeDoorK0
namespace Go.Proofs.YtfnhmacnghkgiaeDoor
open Go Go.RowKit RM

theorem greatest_core (n : Nat) (X : Int) (w : World) (hX : Hid ((2 : Int) ^ n = X)) (h0 : 0 ≤ X) (h1 : X ≤ 1048576) (hn : n ≤ 20) : Calls Tryd.prog 52 #[.int .i64 n] w fun e w' => e = .returned (.int .i64 (X - 1)) ∧ w = w' := by
  have hw1 : (2 : Int) ^ n = X := hX
  go_enter Tryd.func52, Tryd.ntmps52
  go_wp2
  go_ret; exact ⟨rfl, rfl⟩

theorem pow20 {n : Nat} (hn : n ≤ 20) : 2 ^ n ≤ 1048576 := Nat.pow_le_pow_right (n := 2) (by omega) hn
theorem pow_pos1 (n : Nat) : 1 ≤ 2 ^ n := Nat.two_pow_pos n
theorem pow_cast (n : Nat) : ((2 : Int) ^ n) = ((2 ^ n : Nat) : Int) := by simp
theorem greatest_any (n : Nat) (w : World) (hn : n ≤ 20) : Calls Tryd.prog 52 #[.int .i64 n] w fun e w' => e = .returned (.int .i64 ((2 ^ n - 1 : Nat) : Int)) ∧ w = w' := by
  have h1 := pow20 hn
  have h2 := pow_pos1 n
  have h := greatest_core n ((2 ^ n : Nat) : Int) w (Lib.hid (pow_cast n)) (by omega) (by omega) hn
  rw [show ((2 ^ n - 1 : Nat) : Int) = ((2 ^ n : Nat) : Int) - 1 from by omega]; exact h

theorem number_any (n x : Nat) (w : World) (hx : x < 1048576) : Calls Tryd.prog 46 #[(.agg #[.int .i64 ((ctz (x) : Nat) : Int), .bool (onB (x)), .int .i64 ((n : Nat) : Int), .int .u64 ((x : Nat) : Int)])] w fun e w' => e = .returned (.int .i64 ((num x : Nat) : Int)) ∧ Below w.heap.size w w' := by
  have HU := Lib.hid fun w => unreflected_any x w (by omega)
  go_enter Tryd.func46, Tryd.ntmps46
  go_wp2_with fail
  refine (HU.out _).mono ?_; rintro e w' ⟨rfl, rfl⟩
  go_wp2_with fail
  go_ret; exact ⟨rfl, (Below.refl _ _).alloc (Nat.le_refl _) _⟩





end Go.Proofs.YtfnhmacnghkgiaeDoor
