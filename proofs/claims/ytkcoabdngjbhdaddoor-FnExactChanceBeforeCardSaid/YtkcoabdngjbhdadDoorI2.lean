/- Bars: numbers, sums of digits, which ring can be moved. -/
import Derived.Test.YtkcoabdngjbhdadDoorI1
import Derived.Test.YtkcoabdngjbhdadDoorI0
import Derived.Test.YtkcoabdngjbhdadDoorK0
namespace Go.Proofs.YtkcoabdngjbhdadDoor
open Go Go.RowKit RM

theorem pow20 {n : Nat} (hn : n ≤ 20) : 2 ^ n ≤ 1048576 := Nat.pow_le_pow_right (n := 2) (by omega) hn
theorem pow_pos1 (n : Nat) : 1 ≤ 2 ^ n := Nat.two_pow_pos n
theorem pow_cast (n : Nat) : ((2 : Int) ^ n) = ((2 ^ n : Nat) : Int) := by simp

theorem number_any (n x : Nat) (w : World) (hx : x < 1048576) : Calls Tryd.prog 16 #[(.agg #[.int .i64 ((ctz (x) : Nat) : Int), .bool (onB (x)), .int .i64 ((n : Nat) : Int), .int .u64 ((x : Nat) : Int)])] w fun e w' => e = .returned (.int .i64 ((num x : Nat) : Int)) ∧ Below w.heap.size w w' := by
  have HU := Lib.hid fun w => unreflected_any x w (by omega)
  go_enter Tryd.func16, Tryd.ntmps16
  go_wp2_with fail
  refine (HU.out _).mono ?_; rintro e w' ⟨rfl, rfl⟩
  go_wp2_with fail
  go_ret; exact ⟨rfl, (Below.refl _ _).alloc (Nat.le_refl _) _⟩





end Go.Proofs.YtkcoabdngjbhdadDoor
