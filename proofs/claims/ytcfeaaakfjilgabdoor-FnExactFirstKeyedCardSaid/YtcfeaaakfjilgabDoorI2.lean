/- Bars: numbers, sums of digits, which ring can be moved. -/
import Derived.Test.YtcfeaaakfjilgabDoorI1
import Derived.Test.YtcfeaaakfjilgabDoorI0
import Derived.Test.YtcfeaaakfjilgabDoorK0
namespace Go.Proofs.YtcfeaaakfjilgabDoor
open Go Go.RowKit RM

theorem pow20 {n : Nat} (hn : n ≤ 20) : 2 ^ n ≤ 1048576 := Nat.pow_le_pow_right (n := 2) (by omega) hn
theorem pow_pos1 (n : Nat) : 1 ≤ 2 ^ n := Nat.two_pow_pos n
theorem pow_cast (n : Nat) : ((2 : Int) ^ n) = ((2 ^ n : Nat) : Int) := by simp






end Go.Proofs.YtcfeaaakfjilgabDoor
