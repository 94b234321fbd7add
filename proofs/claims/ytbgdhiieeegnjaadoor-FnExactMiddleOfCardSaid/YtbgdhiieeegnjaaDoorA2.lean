/- The functions of chapter 1 that take a number of rings, both ways. -/
import Derived.Test.YtbgdhiieeegnjaaDoorA1
import Derived.Test.YtbgdhiieeegnjaaDoorS4
namespace Go.Proofs.YtbgdhiieeegnjaaDoor
open Go Go.RowKit RM

theorem iAllOn_no (n : Int) (w : World) (h : n < 1 ∨ 20 < n) : Calls Tryd.prog 18 #[.int .i64 n] w fun e w' => AnsS w ⟨#[]⟩ false e w' := by
  go_enter Tryd.func18, Tryd.ntmps18
  go_wp2_with (go_at_call 49; refine (isRingCount_no _ _ h).mono ?_; rintro e w' ⟨rfl, rfl⟩)
  go_ret2; exact ⟨rfl, Below.refl _ _⟩

theorem iAllOn_yes (n : Nat) (w : World) (h1 : 1 ≤ n) (h : n ≤ 20) (hT : TabOk w) : Calls Tryd.prog 18 #[.int .i64 n] w fun e w' => AnsS w (ST n (2 ^ n - 1)) true e w' := by
  have hT := Lib.hid hT
  have hB := Lib.hid fun w hw => barAllOn_any n w h hw
  have hX := Lib.hid fun w => text_any n (2 ^ n - 1) w (by have := pow20 h; have := pow_pos1 n; omega) h
  generalize 2 ^ n - 1 = x at *
  go_enter Tryd.func18, Tryd.ntmps18
  go_wp2_with fail
  refine (isRingCount_yes _ _ (by omega) (by omega)).mono ?_; rintro e w' ⟨rfl, rfl⟩
  go_wp2_with fail
  refine (hB.out _ hT.out).mono ?_; rintro e w1 ⟨rfl, hb⟩
  have hb := Lib.hid hb
  go_wp2_with fail
  refine (hX.out _).mono ?_; rintro e w2 ⟨rfl, hb2⟩
  have hb2 := Lib.hid hb2
  go_wp2_with fail
  go_ret2; exact ⟨rfl, bt hb.out hb2.out⟩

theorem sAllOn_no (n : Int) (w : World) (h : n < 1 ∨ 20 < n) : Calls Tryd.prog 17 #[.int .i64 n] w fun e w' => AnsS w ⟨#[]⟩ false e w' := by
  have hR := Lib.hid fun w => by
    have := riRings_any n w
    rw [show (decide (1 ≤ n) && decide (n ≤ 20)) = false from by simp; omega] at this; exact this
  go_enter Tryd.func17, Tryd.ntmps17
  go_wp2_with fail
  refine (hR.out _).mono ?_; rintro e w' ⟨rfl, rfl⟩
  go_wp2_with fail
  go_ret2; exact ⟨rfl, Below.refl _ _⟩

theorem sAllOn_yes (n : Nat) (w : World) (h1 : 1 ≤ n) (h : n ≤ 20) : Calls Tryd.prog 17 #[.int .i64 n] w fun e w' => AnsS w (ST n (2 ^ n - 1)) true e w' := by
  have hR := Lib.hid fun w => by
    have := riRings_any n w
    rw [show (decide (1 ≤ (n : Int)) && decide ((n : Int) ≤ 20)) = true from by simp; omega] at this; exact this
  have hA := Lib.hid fun w => riAll_any n w h
  generalize 2 ^ n - 1 = x at *
  go_enter Tryd.func17, Tryd.ntmps17
  go_wp2_with fail
  refine (hR.out _).mono ?_; rintro e w' ⟨rfl, rfl⟩
  go_wp2_with fail
  refine (hA.out _).mono ?_; rintro e w' ⟨rfl, rfl⟩
  go_wp2_with fail
  go_ret2; exact ⟨rfl, Below.refl _ _⟩

theorem iClear_no (n : Int) (w : World) (h : n < 1 ∨ 20 < n) : Calls Tryd.prog 36 #[.int .i64 n] w fun e w' => AnsI w 0 false e w' := by
  go_enter Tryd.func36, Tryd.ntmps36
  go_wp2_with (go_at_call 49; refine (isRingCount_no _ _ h).mono ?_; rintro e w' ⟨rfl, rfl⟩)
  go_ret2; exact ⟨rfl, Below.refl _ _⟩

theorem iClear_yes (n : Nat) (w : World) (h1 : 1 ≤ n) (h : n ≤ 20) (hT : TabOk w) : Calls Tryd.prog 36 #[.int .i64 n] w fun e w' => AnsI w ((num (2 ^ n - 1) : Nat) : Int) true e w' := by
  have hT := Lib.hid hT
  have hB := Lib.hid fun w hw => barAllOn_any n w h hw
  have hX := Lib.hid fun w => number_any n (2 ^ n - 1) w (by have := pow20 h; have := pow_pos1 n; omega)
  generalize 2 ^ n - 1 = x at *
  go_enter Tryd.func36, Tryd.ntmps36
  go_wp2_with fail
  refine (isRingCount_yes _ _ (by omega) (by omega)).mono ?_; rintro e w' ⟨rfl, rfl⟩
  go_wp2_with fail
  refine (hB.out _ hT.out).mono ?_; rintro e w1 ⟨rfl, hb⟩
  have hb := Lib.hid hb
  go_wp2_with fail
  refine (hX.out _).mono ?_; rintro e w2 ⟨rfl, hb2⟩
  have hb2 := Lib.hid hb2
  go_wp2_with fail
  go_ret2; exact ⟨rfl, bt hb.out hb2.out⟩

theorem sClear_no (n : Int) (w : World) (h : n < 1 ∨ 20 < n) : Calls Tryd.prog 35 #[.int .i64 n] w fun e w' => AnsI w 0 false e w' := by
  have hR := Lib.hid fun w => by
    have := riRings_any n w
    rw [show (decide (1 ≤ n) && decide (n ≤ 20)) = false from by simp; omega] at this; exact this
  go_enter Tryd.func35, Tryd.ntmps35
  go_wp2_with fail
  refine (hR.out _).mono ?_; rintro e w' ⟨rfl, rfl⟩
  go_wp2_with fail
  go_ret2; exact ⟨rfl, Below.refl _ _⟩

theorem sClear_yes (n : Nat) (w : World) (h1 : 1 ≤ n) (h : n ≤ 20) : Calls Tryd.prog 35 #[.int .i64 n] w fun e w' => AnsI w ((num (2 ^ n - 1) : Nat) : Int) true e w' := by
  have hR := Lib.hid fun w => by
    have := riRings_any n w
    rw [show (decide (1 ≤ (n : Int)) && decide ((n : Int) ≤ 20)) = true from by simp; omega] at this; exact this
  have hA := Lib.hid fun w => riAll_any n w h
  have hN := Lib.hid fun w => riNumber_ST n (2 ^ n - 1) w h (by have := pow_pos1 n; omega)
  generalize 2 ^ n - 1 = x at *
  go_enter Tryd.func35, Tryd.ntmps35
  go_wp2_with fail
  refine (hR.out _).mono ?_; rintro e w' ⟨rfl, rfl⟩
  go_wp2_with fail
  refine (hA.out _).mono ?_; rintro e w' ⟨rfl, rfl⟩
  go_wp2_with fail
  refine (hN.out _).mono ?_; rintro e w' ⟨rfl, rfl⟩
  go_wp2_with fail
  go_ret2; exact ⟨rfl, Below.refl _ _⟩

theorem iEnd_no (n : Int) (w : World) (h : n < 1 ∨ 20 < n) : Calls Tryd.prog 38 #[.int .i64 n] w fun e w' => AnsS w ⟨#[]⟩ false e w' := by
  go_enter Tryd.func38, Tryd.ntmps38
  go_wp2_with (go_at_call 49; refine (isRingCount_no _ _ h).mono ?_; rintro e w' ⟨rfl, rfl⟩)
  go_ret2; exact ⟨rfl, Below.refl _ _⟩

theorem iEnd_yes (n : Nat) (w : World) (h1 : 1 ≤ n) (h : n ≤ 20) (hT : TabOk w) : Calls Tryd.prog 38 #[.int .i64 n] w fun e w' => AnsS w (ST n (gray (2 ^ n - 1))) true e w' := by
  have hT := Lib.hid hT
  have hx : 2 ^ n - 1 < 1048576 := by have := pow20 h; have := pow_pos1 n; omega
  have hG := Lib.hid fun w => greatest_any n w h
  have hB := Lib.hid fun w hw => barOfNumber_any n (2 ^ n - 1) w h hx hw
  have hX := Lib.hid fun w => text_any n (gray (2 ^ n - 1)) w (gray_lt 20 _ hx) h
  clear hx
  generalize 2 ^ n - 1 = x at *
  generalize gray x = y at *
  go_enter Tryd.func38, Tryd.ntmps38
  go_wp2_with fail
  refine (isRingCount_yes _ _ (by omega) (by omega)).mono ?_; rintro e w' ⟨rfl, rfl⟩
  go_wp2_with fail
  refine (hG.out _).mono ?_; rintro e w' ⟨rfl, rfl⟩
  go_wp2_with fail
  refine (hB.out _ hT.out).mono ?_; rintro e w1 ⟨rfl, hb⟩
  have hb := Lib.hid hb
  go_wp2_with fail
  refine (hX.out _).mono ?_; rintro e w2 ⟨rfl, hb2⟩
  have hb2 := Lib.hid hb2
  go_wp2_with fail
  go_ret2; exact ⟨rfl, bt hb.out hb2.out⟩

theorem sEnd_no (n : Int) (w : World) (h : n < 1 ∨ 20 < n) : Calls Tryd.prog 37 #[.int .i64 n] w fun e w' => AnsS w ⟨#[]⟩ false e w' := by
  have hR := Lib.hid fun w => by
    have := riRings_any n w
    rw [show (decide (1 ≤ n) && decide (n ≤ 20)) = false from by simp; omega] at this; exact this
  go_enter Tryd.func37, Tryd.ntmps37
  go_wp2_with fail
  refine (hR.out _).mono ?_; rintro e w' ⟨rfl, rfl⟩
  go_wp2_with fail
  go_ret2; exact ⟨rfl, Below.refl _ _⟩

theorem sEnd_core (n X : Nat) (w : World) (h1 : 1 ≤ n) (h : n ≤ 20) (hX : (2 : Int) ^ n = (X : Int)) (b1 : 1 ≤ X) (b2 : X ≤ 1048576) : Calls Tryd.prog 37 #[.int .i64 n] w fun e w' => AnsS w (ST n (gray (X - 1))) true e w' := by
  have hR := Lib.hid fun w => by
    have := riRings_any n w
    rw [show (decide (1 ≤ (n : Int)) && decide ((n : Int) ≤ 20)) = true from by simp; omega] at this; exact this
  have hA := Lib.hid fun w => riState_any n (X - 1) w h (by omega)
  have ex : ((X - 1 : Nat) : Int) = (X : Int) - 1 := by omega
  rw [ex] at hA
  clear ex
  go_enter Tryd.func37, Tryd.ntmps37
  go_wp2_with fail
  refine (hR.out _).mono ?_; rintro e w' ⟨rfl, rfl⟩
  go_wp2_with fail
  refine (hA.out _).mono ?_; rintro e w' ⟨rfl, q, rfl⟩
  go_wp2_with fail
  go_ret2; exact ⟨rfl, below_q _ _⟩

theorem sEnd_yes (n : Nat) (w : World) (h1 : 1 ≤ n) (h : n ≤ 20) : Calls Tryd.prog 37 #[.int .i64 n] w fun e w' => AnsS w (ST n (gray (2 ^ n - 1))) true e w' :=
  sEnd_core n (2 ^ n) w h1 h (pow_cast n) (pow_pos1 n) (pow20 h)

/-- a number of rings, or none -/
theorem rings_cases (n : Int) : (n < 1 ∨ 20 < n) ∨ ∃ m : Nat, n = (m : Int) ∧ 1 ≤ m ∧ m ≤ 20 := by
  by_cases h : n < 1 ∨ 20 < n
  · left; exact h
  · right; exact ⟨n.toNat, by omega, by omega, by omega⟩
end Go.Proofs.YtbgdhiieeegnjaaDoor
