/- Chapter 2: texts of digits, read; how many choices there are; both ways. -/
import Derived.Test.YtbgdhiieeegnjacDoorK1
import Derived.Test.YtbgdhiieeegnjacDoorI0
import Derived.Test.YtbgdhiieeegnjacDoorC3
import Derived.Lib.OthersKept
namespace Go.Proofs.YtbgdhiieeegnjacDoor
open Go Go.RowKit RM

/-- which texts are those of digits -/
def dtB (l : List UInt8) : Bool := decide (1 ≤ l.length) && decide (l.length ≤ 40) && okB l
theorem dt_len (s : ByteArray) (h : s.size < 1 ∨ 40 < s.size) : dtB s.data.toList = false := by
  unfold dtB
  have : (decide (1 ≤ s.data.toList.length) && decide (s.data.toList.length ≤ 40)) = false := by simp; omega
  rw [this]; rfl
theorem dt_no (s : ByteArray) (h : okB s.data.toList = false) : dtB s.data.toList = false := by unfold dtB; rw [h]; simp
theorem dt_yes (s : ByteArray) (h1 : 1 ≤ s.size) (h2 : s.size ≤ 40) (h : okB s.data.toList = true) : dtB s.data.toList = true := by
  unfold dtB; rw [h]; simp; omega

theorem isDigits_yes (n : Int) (w : World) (h1 : 1 ≤ n) (h2 : n ≤ 40) : Calls Tryd.prog 22 #[.int .i64 n] w fun e w' => e = .returned (.bool true) ∧ w = w' := by
  go_enter Tryd.func22, Tryd.ntmps22
  go_wp2
  go_ret; exact ⟨rfl, rfl⟩

theorem isDigits_no (n : Int) (w : World) (h : n < 1 ∨ 40 < n) : Calls Tryd.prog 22 #[.int .i64 n] w fun e w' => e = .returned (.bool false) ∧ w = w' := by
  by_cases h1 : n < 1
  · clear h
    go_enter Tryd.func22, Tryd.ntmps22
    go_wp2
    go_ret; exact ⟨rfl, rfl⟩
  · have h2 : 40 < n := by omega
    clear h
    go_enter Tryd.func22, Tryd.ntmps22
    go_wp2
    go_ret; exact ⟨ret_bool (by simp; omega), rfl⟩





end Go.Proofs.YtbgdhiieeegnjacDoor
