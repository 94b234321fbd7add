/- Chapter 2: the digit that changes, both ways. -/
import Derived.Test.YtbgdhiieeegnjacDoorK1
import Derived.Test.YtbgdhiieeegnjacDoorI1
import Derived.Test.YtbgdhiieeegnjacDoorPow
namespace Go.Proofs.YtbgdhiieeegnjacDoor
open Go Go.RowKit RM

theorem up_ctz (n : Nat) : up n = ctz (n + 1) := by
  induction n using Nat.strongRecOn with
  | ind n ih =>
    by_cases h : n % 2 = 0
    · rw [up_even h, ctz_odd (by omega)]
    · rw [up_odd (by omega), ctz_even (by omega) (by omega), ih (n / 2) (by omega)]
      congr 2; omega
theorem up_more (n k : Nat) (h : n.testBit k = true) : up (n / 2 ^ k) = up (n / 2 ^ (k + 1)) + 1 := by
  have a := div_bit n k
  rw [bitN_one h] at a
  rw [up_odd a]
  have : n / 2 ^ k / 2 = n / 2 ^ (k + 1) := by rw [Nat.pow_succ, Nat.div_div_eq_div_mul]
  rw [this]
theorem up_stop (n k : Nat) (h : n.testBit k = false) : up (n / 2 ^ k) = 0 := by
  have a := div_bit n k
  rw [bitN_off h] at a
  exact up_even a

theorem nuChanged_any (n : Nat) (w : World) (hn : n < 1099511627776) : Calls Tryd.prog 16 #[.int .i64 n] w fun e w' => e = .returned (.int .i64 ((up n : Nat) : Int)) ∧ w = w' := by
  go_enter Tryd.func16, Tryd.ntmps16
  go_wp2
  go_loop [3] (fun d => ∃ k : Nat, k ≤ 40 ∧ d = .int .i64 k ∧ Hid (up n = k + up (n / 2 ^ k))) (fun d => 41 - (intOf d).toNat)
  case atStart => exact ⟨0, by omega, rfl, Lib.hid (by simp)⟩
  case round =>
    obtain ⟨k, hk, rfl, hu⟩ := hrel
    have hbit := and_bit40 n k hn
    cases hb : n.testBit k
    · have HF : Hid (up n = k) := Lib.hid (by rw [hu.out, up_stop n k hb]; rfl)
      rw [bitN_off hb] at hbit
      clear hb
      go_wp2
      go_ret; exact ⟨ret_int (by rw [HF.out]), rfl⟩
    · have HT : Hid (up n = (k + 1) + up (n / 2 ^ (k + 1))) := Lib.hid (by rw [hu.out, up_more n k hb]; omega)
      have hk2 : k < 40 := by
        rcases Nat.lt_or_ge k 40 with g | g
        · exact g
        · rw [bit_high (n := 40) (by omega) g] at hb; cases hb
      rw [bitN_one hb] at hbit
      clear hb
      go_wp2
      go_round
      case rel => exact ⟨k + 1, by omega, by go_num, HT⟩
      all_goals (simp [intOf] <;> omega)

theorem iChanged_no (n : Int) (w : World) (h : n < 0 ∨ 1000000000000 < n) : Calls Tryd.prog 7 #[.int .i64 n] w fun e w' => QI w 0 false e w' := by
  have hR := Lib.hid fun w => isRefl_no n w h
  clear h
  go_enter Tryd.func7, Tryd.ntmps7
  go_wp2_with fail
  refine (hR.out _).mono ?_; rintro e w' ⟨rfl, rfl⟩
  go_wp2_with fail
  go_ret2; exact ⟨rfl, rfl⟩

theorem iChanged_yes (n : Nat) (w : World) (h : n ≤ 1000000000000) (hT : TabOk w) : Calls Tryd.prog 7 #[.int .i64 n] w fun e w' => QI w ((up n : Nat) : Int) true e w' := by
  have hR := Lib.hid fun w => isRefl_yes n w (by omega) (by omega)
  have hZ := Lib.hid fun w hw => tz_any (n + 1) w (by omega) (by omega) hw
  rw [← up_ctz n, show ((n + 1 : Nat) : Int) = (n : Int) + 1 from by omega] at hZ
  have hT := Lib.hid hT
  generalize up n = u at *
  go_enter Tryd.func7, Tryd.ntmps7
  go_wp2_with fail
  refine (hR.out _).mono ?_; rintro e w' ⟨rfl, rfl⟩
  go_wp2_with fail
  refine (hZ.out _ hT.out).mono ?_; rintro e w' ⟨rfl, rfl⟩
  go_wp2_with fail
  go_ret2; exact ⟨rfl, rfl⟩

theorem sChanged_no (n : Int) (w : World) (h : n < 0 ∨ 1000000000000 < n) : Calls Tryd.prog 6 #[.int .i64 n] w fun e w' => QI w 0 false e w' := by
  have hR := Lib.hid fun w => nuIs_no n w h
  clear h
  go_enter Tryd.func6, Tryd.ntmps6
  go_wp2_with fail
  refine (hR.out _).mono ?_; rintro e w' ⟨rfl, rfl⟩
  go_wp2_with fail
  go_ret2; exact ⟨rfl, rfl⟩

theorem sChanged_yes (n : Nat) (w : World) (h : n ≤ 1000000000000) : Calls Tryd.prog 6 #[.int .i64 n] w fun e w' => QI w ((up n : Nat) : Int) true e w' := by
  have hR := Lib.hid fun w => nuIs_yes n w (by omega) (by omega)
  have hG := Lib.hid fun w => nuChanged_any n w (by omega)
  go_enter Tryd.func6, Tryd.ntmps6
  go_wp2_with fail
  refine (hR.out _).mono ?_; rintro e w' ⟨rfl, rfl⟩
  go_wp2_with fail
  refine (hG.out _).mono ?_; rintro e w' ⟨rfl, rfl⟩
  go_wp2_with fail
  go_ret2; exact ⟨rfl, rfl⟩
end Go.Proofs.YtbgdhiieeegnjacDoor
