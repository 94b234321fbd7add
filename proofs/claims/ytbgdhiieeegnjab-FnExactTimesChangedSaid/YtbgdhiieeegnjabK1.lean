/- Chapter 2: the functions of numbers, both ways. -/
import Derived.Test.YtbgdhiieeegnjabK0
import Derived.Test.YtbgdhiieeegnjabC1
namespace Go.Proofs.Ytbgdhiieeegnjab
open Go Go.RowKit RM

/-- a number and whether there is one; the world is as it was -/
def QI (w : World) (r : Int) (ok : Bool) (e : Ending) (w' : World) : Prop := e = .returned (.tuple #[.int .i64 r, .bool ok]) ∧ w = w'

/-- a number and whether there is one; nothing that was there is written -/
def QB0 (w : World) (r : Int) (ok : Bool) (e : Ending) (w' : World) : Prop := e = .returned (.tuple #[.int .i64 r, .bool ok]) ∧ Below w.heap.size w w'

theorem iRefOf_no (n : Int) (w : World) (h : n < 0 ∨ 1000000000000 < n) : Calls Try.prog 21 #[.int .i64 n] w fun e w' => QI w 0 false e w' := by
  have hR := Lib.hid fun w => isRefl_no n w h
  clear h
  go_enter Try.func21, Try.ntmps21
  go_wp2_with fail
  refine (hR.out _).mono ?_; rintro e w' ⟨rfl, rfl⟩
  go_wp2_with fail
  go_ret2; exact ⟨rfl, rfl⟩

theorem iRefOf_yes (n : Nat) (w : World) (h : n ≤ 1000000000000) : Calls Try.prog 21 #[.int .i64 n] w fun e w' => QI w ((gray n : Nat) : Int) true e w' := by
  have hR := Lib.hid fun w => isRefl_yes n w (by omega) (by omega)
  have hG := Lib.hid fun w => reflected_any n w (by omega)
  go_enter Try.func21, Try.ntmps21
  go_wp2_with fail
  refine (hR.out _).mono ?_; rintro e w' ⟨rfl, rfl⟩
  go_wp2_with fail
  refine (hG.out _).mono ?_; rintro e w' ⟨rfl, rfl⟩
  go_wp2_with fail
  go_ret2; exact ⟨rfl, rfl⟩

theorem sRefOf_no (n : Int) (w : World) (h : n < 0 ∨ 1000000000000 < n) : Calls Try.prog 20 #[.int .i64 n] w fun e w' => QI w 0 false e w' := by
  have hR := Lib.hid fun w => nuIs_no n w h
  clear h
  go_enter Try.func20, Try.ntmps20
  go_wp2_with fail
  refine (hR.out _).mono ?_; rintro e w' ⟨rfl, rfl⟩
  go_wp2_with fail
  go_ret2; exact ⟨rfl, rfl⟩

theorem sRefOf_yes (n : Nat) (w : World) (h : n ≤ 1000000000000) : Calls Try.prog 20 #[.int .i64 n] w fun e w' => QI w ((gray n : Nat) : Int) true e w' := by
  have hR := Lib.hid fun w => nuIs_yes n w (by omega) (by omega)
  have hG := Lib.hid fun w => nuOf_any n w (by omega)
  go_enter Try.func20, Try.ntmps20
  go_wp2_with fail
  refine (hR.out _).mono ?_; rintro e w' ⟨rfl, rfl⟩
  go_wp2_with fail
  refine (hG.out _).mono ?_; rintro e w' ⟨rfl, rfl⟩
  go_wp2_with fail
  go_ret2; exact ⟨rfl, rfl⟩

theorem iNumOf_no (n : Int) (w : World) (h : n < 0 ∨ 1000000000000 < n) : Calls Try.prog 23 #[.int .i64 n] w fun e w' => QI w 0 false e w' := by
  have hR := Lib.hid fun w => isRefl_no n w h
  clear h
  go_enter Try.func23, Try.ntmps23
  go_wp2_with fail
  refine (hR.out _).mono ?_; rintro e w' ⟨rfl, rfl⟩
  go_wp2_with fail
  go_ret2; exact ⟨rfl, rfl⟩

theorem iNumOf_yes (n : Nat) (w : World) (h : n ≤ 1000000000000) : Calls Try.prog 23 #[.int .i64 n] w fun e w' => QI w ((num n : Nat) : Int) true e w' := by
  have hR := Lib.hid fun w => isRefl_yes n w (by omega) (by omega)
  have hG := Lib.hid fun w => unreflected_any n w (by omega)
  go_enter Try.func23, Try.ntmps23
  go_wp2_with fail
  refine (hR.out _).mono ?_; rintro e w' ⟨rfl, rfl⟩
  go_wp2_with fail
  refine (hG.out _).mono ?_; rintro e w' ⟨rfl, rfl⟩
  go_wp2_with fail
  go_ret2; exact ⟨rfl, rfl⟩

theorem sNumOf_no (n : Int) (w : World) (h : n < 0 ∨ 1000000000000 < n) : Calls Try.prog 22 #[.int .i64 n] w fun e w' => QI w 0 false e w' := by
  have hR := Lib.hid fun w => nuIs_no n w h
  clear h
  go_enter Try.func22, Try.ntmps22
  go_wp2_with fail
  refine (hR.out _).mono ?_; rintro e w' ⟨rfl, rfl⟩
  go_wp2_with fail
  go_ret2; exact ⟨rfl, rfl⟩

theorem sNumOf_yes (n : Nat) (w : World) (h : n ≤ 1000000000000) : Calls Try.prog 22 #[.int .i64 n] w fun e w' => QI w ((num n : Nat) : Int) true e w' := by
  have hR := Lib.hid fun w => nuIs_yes n w (by omega) (by omega)
  have hG := Lib.hid fun w => nuBack_any n w (by omega)
  go_enter Try.func22, Try.ntmps22
  go_wp2_with fail
  refine (hR.out _).mono ?_; rintro e w' ⟨rfl, rfl⟩
  go_wp2_with fail
  refine (hG.out _).mono ?_; rintro e w' ⟨rfl, rfl⟩
  go_wp2_with fail
  go_ret2; exact ⟨rfl, rfl⟩

theorem iSum_no1 (a b : Int) (w : World) (h : a < 0 ∨ 1000000000000 < a) : Calls Try.prog 25 #[.int .i64 a, .int .i64 b] w fun e w' => QI w 0 false e w' := by
  have hR := Lib.hid fun w => isRefl_no a w h
  clear h
  go_enter Try.func25, Try.ntmps25
  go_wp2_with fail
  refine (hR.out _).mono ?_; rintro e w' ⟨rfl, rfl⟩
  go_wp2_with fail
  go_ret2; exact ⟨rfl, rfl⟩

theorem iSum_no2 (a : Nat) (b : Int) (w : World) (ha : a ≤ 1000000000000) (h : b < 0 ∨ 1000000000000 < b) : Calls Try.prog 25 #[.int .i64 a, .int .i64 b] w fun e w' => QI w 0 false e w' := by
  have hR := Lib.hid fun w => isRefl_yes a w (by omega) (by omega)
  have hR2 := Lib.hid fun w => isRefl_no b w h
  clear h
  go_enter Try.func25, Try.ntmps25
  go_wp2_with fail
  refine (hR.out _).mono ?_; rintro e w' ⟨rfl, rfl⟩
  go_wp2_with fail
  refine (hR2.out _).mono ?_; rintro e w' ⟨rfl, rfl⟩
  go_wp2_with fail
  go_ret2; exact ⟨rfl, rfl⟩

theorem iSum_yes (a b : Nat) (w : World) (ha : a ≤ 1000000000000) (hb : b ≤ 1000000000000) : Calls Try.prog 25 #[.int .i64 a, .int .i64 b] w fun e w' => QI w ((a ^^^ b : Nat) : Int) true e w' := by
  have hR := Lib.hid fun w => isRefl_yes a w (by omega) (by omega)
  have hR2 := Lib.hid fun w => isRefl_yes b w (by omega) (by omega)
  have hx := bits_xor_i64_nat a b (by omega) (by omega)
  generalize a ^^^ b = y at *
  go_enter Try.func25, Try.ntmps25
  go_wp2_with fail
  refine (hR.out _).mono ?_; rintro e w' ⟨rfl, rfl⟩
  go_wp2_with fail
  refine (hR2.out _).mono ?_; rintro e w' ⟨rfl, rfl⟩
  go_wp2_with fail
  go_ret2; exact ⟨rfl, rfl⟩

theorem sSum_no1 (a b : Int) (w : World) (h : a < 0 ∨ 1000000000000 < a) : Calls Try.prog 24 #[.int .i64 a, .int .i64 b] w fun e w' => QI w 0 false e w' := by
  have hR := Lib.hid fun w => nuIs_no a w h
  clear h
  go_enter Try.func24, Try.ntmps24
  go_wp2_with fail
  refine (hR.out _).mono ?_; rintro e w' ⟨rfl, rfl⟩
  go_wp2_with fail
  go_ret2; exact ⟨rfl, rfl⟩

theorem sSum_no2 (a : Nat) (b : Int) (w : World) (ha : a ≤ 1000000000000) (h : b < 0 ∨ 1000000000000 < b) : Calls Try.prog 24 #[.int .i64 a, .int .i64 b] w fun e w' => QI w 0 false e w' := by
  have hR := Lib.hid fun w => nuIs_yes a w (by omega) (by omega)
  have hR2 := Lib.hid fun w => nuIs_no b w h
  clear h
  go_enter Try.func24, Try.ntmps24
  go_wp2_with fail
  refine (hR.out _).mono ?_; rintro e w' ⟨rfl, rfl⟩
  go_wp2_with fail
  refine (hR2.out _).mono ?_; rintro e w' ⟨rfl, rfl⟩
  go_wp2_with fail
  go_ret2; exact ⟨rfl, rfl⟩

theorem sSum_yes (a b : Nat) (w : World) (ha : a ≤ 1000000000000) (hb : b ≤ 1000000000000) : Calls Try.prog 24 #[.int .i64 a, .int .i64 b] w fun e w' => QI w ((a ^^^ b : Nat) : Int) true e w' := by
  have hR := Lib.hid fun w => nuIs_yes a w (by omega) (by omega)
  have hR2 := Lib.hid fun w => nuIs_yes b w (by omega) (by omega)
  have hx := bits_xor_i64_nat a b (by omega) (by omega)
  generalize a ^^^ b = y at *
  go_enter Try.func24, Try.ntmps24
  go_wp2_with fail
  refine (hR.out _).mono ?_; rintro e w' ⟨rfl, rfl⟩
  go_wp2_with fail
  refine (hR2.out _).mono ?_; rintro e w' ⟨rfl, rfl⟩
  go_wp2_with fail
  go_ret2; exact ⟨rfl, rfl⟩
end Go.Proofs.Ytbgdhiieeegnjab
