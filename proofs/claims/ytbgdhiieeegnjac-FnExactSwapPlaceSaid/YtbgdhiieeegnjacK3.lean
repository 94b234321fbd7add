/- Chapter 2: sizes, sets, how many choices there are; both ways. -/
import Derived.Test.YtbgdhiieeegnjacK1
import Derived.Test.YtbgdhiieeegnjacC3
import Derived.Test.YtbgdhiieeegnjacInts
namespace Go.Proofs.Ytbgdhiieeegnjac
open Go Go.RowKit RM

theorem isSize_yes (n : Int) (w : World) (h1 : 1 ≤ n) (h2 : n ≤ 20) : Calls Try.prog 67 #[.int .i64 n] w fun e w' => e = .returned (.bool true) ∧ w = w' := by
  go_enter Try.func67, Try.ntmps67
  go_wp2
  go_ret; exact ⟨rfl, rfl⟩

theorem isSize_no (n : Int) (w : World) (h : n < 1 ∨ 20 < n) : Calls Try.prog 67 #[.int .i64 n] w fun e w' => e = .returned (.bool false) ∧ w = w' := by
  by_cases h1 : n < 1
  · clear h
    go_enter Try.func67, Try.ntmps67
    go_wp2
    go_ret; exact ⟨rfl, rfl⟩
  · have h2 : 20 < n := by omega
    clear h
    go_enter Try.func67, Try.ntmps67
    go_wp2
    go_ret; exact ⟨ret_bool (by simp; omega), rfl⟩

theorem isRank_yes (r c : Int) (w : World) (h1 : 0 ≤ r) (h2 : r < c) : Calls Try.prog 44 #[.int .i64 r, .int .i64 c] w fun e w' => e = .returned (.bool true) ∧ w = w' := by
  go_enter Try.func44, Try.ntmps44
  go_wp2
  go_ret; exact ⟨rfl, rfl⟩

theorem isRank_no (r c : Int) (w : World) (h : r < 0 ∨ c ≤ r) : Calls Try.prog 44 #[.int .i64 r, .int .i64 c] w fun e w' => e = .returned (.bool false) ∧ w = w' := by
  by_cases h1 : r < 0
  · clear h
    go_enter Try.func44, Try.ntmps44
    go_wp2
    go_ret; exact ⟨rfl, rfl⟩
  · have h2 : c ≤ r := by omega
    clear h
    go_enter Try.func44, Try.ntmps44
    go_wp2
    go_ret; exact ⟨ret_bool (by simp; omega), rfl⟩

theorem isCount_yes (n c : Int) (w : World) (h1 : 1 ≤ n) (h2 : n ≤ 20) (h3 : 0 ≤ c) (h4 : c ≤ n) : Calls Try.prog 41 #[.int .i64 n, .int .i64 c] w fun e w' => e = .returned (.bool true) ∧ w = w' := by
  have hS := Lib.hid fun w => isSize_yes n w h1 h2
  go_enter Try.func41, Try.ntmps41
  go_wp2_with fail
  refine (hS.out _).mono ?_; rintro e w' ⟨rfl, rfl⟩
  go_wp2_with fail
  go_ret; exact ⟨rfl, rfl⟩

theorem isCount_no (n c : Int) (w : World) (h : (n < 1 ∨ 20 < n) ∨ (1 ≤ n ∧ n ≤ 20 ∧ (c < 0 ∨ (0 ≤ c ∧ n < c)))) : Calls Try.prog 41 #[.int .i64 n, .int .i64 c] w fun e w' => e = .returned (.bool false) ∧ w = w' := by
  rcases h with h | ⟨h1, h2, h | ⟨h3, h⟩⟩
  · have hS := Lib.hid fun w => isSize_no n w h
    clear h
    go_enter Try.func41, Try.ntmps41
    go_wp2_with fail
    refine (hS.out _).mono ?_; rintro e w' ⟨rfl, rfl⟩
    go_wp2_with fail
    go_ret; exact ⟨rfl, rfl⟩
  · have hS := Lib.hid fun w => isSize_yes n w h1 h2
    go_enter Try.func41, Try.ntmps41
    go_wp2_with fail
    refine (hS.out _).mono ?_; rintro e w' ⟨rfl, rfl⟩
    go_wp2_with fail
    go_ret; exact ⟨rfl, rfl⟩
  · have hS := Lib.hid fun w => isSize_yes n w h1 h2
    go_enter Try.func41, Try.ntmps41
    go_wp2_with fail
    refine (hS.out _).mono ?_; rintro e w' ⟨rfl, rfl⟩
    go_wp2_with fail
    go_ret; exact ⟨ret_bool (by simp; omega), rfl⟩

theorem nuSize_yes (n : Int) (w : World) (h1 : 1 ≤ n) (h2 : n ≤ 20) : Calls Try.prog 39 #[.int .i64 n] w fun e w' => e = .returned (.bool true) ∧ w = w' := by
  go_enter Try.func39, Try.ntmps39
  go_wp2_with fail
  refine (l1In_yes _ _ _ _ h1 h2).mono ?_; rintro e w' ⟨rfl, rfl⟩
  go_wp2_with fail
  go_ret; exact ⟨rfl, rfl⟩

theorem nuSize_no (n : Int) (w : World) (h : n < 1 ∨ 20 < n) : Calls Try.prog 39 #[.int .i64 n] w fun e w' => e = .returned (.bool false) ∧ w = w' := by
  go_enter Try.func39, Try.ntmps39
  go_wp2_with fail
  refine (l1In_no _ _ _ _ h).mono ?_; rintro e w' ⟨rfl, rfl⟩
  go_wp2_with fail
  go_ret; exact ⟨rfl, rfl⟩

theorem ch_stepI (s k : Nat) (hs : s ≤ 20) (hk : k ≤ 20) : ∃ P : Nat, P ≤ 4000000 ∧ IntKind.i64.wrap (((ch s k : Nat) : Int) * ((s : Int) - (k : Int))) = (P : Int) ∧ (P : Int) / ((k : Int) + 1) = ((ch s (k + 1) : Nat) : Int) := by
  have hb := ch_le (s := s) (k := k) hs (by omega)
  by_cases h : k ≤ s
  · have hm : ch s k * (s - k) ≤ 184756 * 20 := Nat.mul_le_mul hb (by omega)
    refine ⟨ch s k * (s - k), by omega, ?_, ?_⟩
    · rw [show ((s : Int) - (k : Int)) = ((s - k : Nat) : Int) by omega, ← Int.natCast_mul, IntKind.wrap_i64]
      generalize ch s k * (s - k) = P at *
      omega
    · rw [ch_succ, show ((k : Int) + 1) = ((k + 1 : Nat) : Int) by omega, ← Int.natCast_ediv]
  · have h0 : ch s k = 0 := ch_over hs (by omega) (by omega)
    have h1 : ch s (k + 1) = 0 := ch_over hs (by omega) (by omega)
    refine ⟨0, by omega, ?_, ?_⟩
    · rw [h0]; simp [IntKind.wrap_i64]
    · rw [h1]; simp

theorem choices_any (s n : Nat) (w : World) (hs : s ≤ 20) (hn : n ≤ 21) : Calls Try.prog 42 #[.int .i64 s, .int .i64 n] w fun e w' => e = .returned (.int .i64 ((ch s n : Nat) : Int)) ∧ w = w' := by
  go_enter Try.func42, Try.ntmps42
  go_wp2_with fail
  go_loop [5, 8] (fun c i => ∃ k m : Nat, k ≤ n ∧ i = .int .i64 k ∧ c = .int .i64 m ∧ m ≤ 184756 ∧ Hid (ch s k = m)) (fun _ i => n - (intOf i).toNat)
  case atStart => exact ⟨0, 1, Nat.zero_le _, rfl, rfl, by omega, rfl⟩
  case round =>
    obtain ⟨k, m, hk, rfl, rfl, hm, hd⟩ := hrel
    by_cases hlt : k < n
    · obtain ⟨P, hP, e1, e2⟩ := ch_stepI s k hs (by omega)
      have hb := ch_le (s := s) (k := k + 1) hs (by omega)
      obtain ⟨m2, hm2⟩ : ∃ m2, m2 = ch s (k + 1) := ⟨_, rfl⟩
      rw [← hm2] at e2 hb
      rw [hd.out] at e1
      have HM := Lib.hid hm2.symm
      clear hm2
      have hk1 : ((k : Int) + 1 == 0) = false := by simp; omega
      go_wp2
      go_round
      case rel => exact ⟨k + 1, m2, by omega, by go_num, rfl, hb, HM⟩
      all_goals (simp [intOf] <;> omega)
    · obtain rfl : k = n := by omega
      go_wp2
      go_ret; exact ⟨ret_int (by rw [hd.out]), rfl⟩

theorem nuChoices_any (s n : Nat) (w : World) (hs : s ≤ 20) (hn : n ≤ 21) : Calls Try.prog 40 #[.int .i64 s, .int .i64 n] w fun e w' => e = .returned (.int .i64 ((ch s n : Nat) : Int)) ∧ w = w' := by
  go_enter Try.func40, Try.ntmps40
  go_wp2_with fail
  go_loop [5, 6] (fun c i => ∃ k m : Nat, k ≤ n ∧ i = .int .i64 k ∧ c = .int .i64 m ∧ m ≤ 184756 ∧ Hid (ch s k = m)) (fun _ i => n - (intOf i).toNat)
  case atStart => exact ⟨0, 1, Nat.zero_le _, rfl, rfl, by omega, rfl⟩
  case round =>
    obtain ⟨k, m, hk, rfl, rfl, hm, hd⟩ := hrel
    by_cases hlt : k < n
    · obtain ⟨P, hP, e1, e2⟩ := ch_stepI s k hs (by omega)
      have hb := ch_le (s := s) (k := k + 1) hs (by omega)
      obtain ⟨m2, hm2⟩ : ∃ m2, m2 = ch s (k + 1) := ⟨_, rfl⟩
      rw [← hm2] at e2 hb
      rw [hd.out] at e1
      have HM := Lib.hid hm2.symm
      clear hm2
      have hk1 : ((k : Int) + 1 == 0) = false := by simp; omega
      go_wp2
      go_round
      case rel => exact ⟨k + 1, m2, by omega, by go_num, rfl, hb, HM⟩
      all_goals (simp [intOf] <;> omega)
    · obtain rfl : k = n := by omega
      go_wp2
      go_ret; exact ⟨ret_int (by rw [hd.out]), rfl⟩

theorem iCountC_no (n c : Int) (w : World) (h : (n < 1 ∨ 20 < n) ∨ (1 ≤ n ∧ n ≤ 20 ∧ (c < 0 ∨ (0 ≤ c ∧ n < c)))) : Calls Try.prog 15 #[.int .i64 n, .int .i64 c] w fun e w' => QI w 0 false e w' := by
  have hS := Lib.hid fun w => isCount_no n c w h
  clear h
  go_enter Try.func15, Try.ntmps15
  go_wp2_with fail
  refine (hS.out _).mono ?_; rintro e w' ⟨rfl, rfl⟩
  go_wp2_with fail
  go_ret2; exact ⟨rfl, rfl⟩

theorem iCountC_yes (s n : Nat) (w : World) (h1 : 1 ≤ s) (h2 : s ≤ 20) (h3 : n ≤ s) : Calls Try.prog 15 #[.int .i64 s, .int .i64 n] w fun e w' => QI w ((ch s n : Nat) : Int) true e w' := by
  have hS := Lib.hid fun w => isCount_yes (s : Int) (n : Int) w (by omega) (by omega) (by omega) (by omega)
  have hC := Lib.hid fun w => choices_any s n w h2 (by omega)
  go_enter Try.func15, Try.ntmps15
  go_wp2_with fail
  refine (hS.out _).mono ?_; rintro e w' ⟨rfl, rfl⟩
  go_wp2_with fail
  refine (hC.out _).mono ?_; rintro e w' ⟨rfl, rfl⟩
  go_wp2_with fail
  go_ret2; exact ⟨rfl, rfl⟩

theorem sCountC_no (n c : Int) (w : World) (h : (n < 1 ∨ 20 < n) ∨ (1 ≤ n ∧ n ≤ 20 ∧ (c < 0 ∨ (0 ≤ c ∧ n < c)))) : Calls Try.prog 14 #[.int .i64 n, .int .i64 c] w fun e w' => QI w 0 false e w' := by
  rcases h with h | ⟨h1, h2, h⟩
  · have hS := Lib.hid fun w => nuSize_no n w h
    clear h
    go_enter Try.func14, Try.ntmps14
    go_wp2_with fail
    refine (hS.out _).mono ?_; rintro e w' ⟨rfl, rfl⟩
    go_wp2_with fail
    go_ret2; exact ⟨rfl, rfl⟩
  · have hS := Lib.hid fun w => nuSize_yes n w h1 h2
    have hL := Lib.hid fun w => l1In_no c 0 n w (by omega)
    clear h
    go_enter Try.func14, Try.ntmps14
    go_wp2_with fail
    refine (hS.out _).mono ?_; rintro e w' ⟨rfl, rfl⟩
    go_wp2_with fail
    refine (hL.out _).mono ?_; rintro e w' ⟨rfl, rfl⟩
    go_wp2_with fail
    go_ret2; exact ⟨rfl, rfl⟩

theorem sCountC_yes (s n : Nat) (w : World) (h1 : 1 ≤ s) (h2 : s ≤ 20) (h3 : n ≤ s) : Calls Try.prog 14 #[.int .i64 s, .int .i64 n] w fun e w' => QI w ((ch s n : Nat) : Int) true e w' := by
  have hS := Lib.hid fun w => nuSize_yes (s : Int) w (by omega) (by omega)
  have hL := Lib.hid fun w => l1In_yes (n : Int) 0 (s : Int) w (by omega) (by omega)
  have hC := Lib.hid fun w => nuChoices_any s n w h2 (by omega)
  go_enter Try.func14, Try.ntmps14
  go_wp2_with fail
  refine (hS.out _).mono ?_; rintro e w' ⟨rfl, rfl⟩
  go_wp2_with fail
  refine (hL.out _).mono ?_; rintro e w' ⟨rfl, rfl⟩
  go_wp2_with fail
  refine (hC.out _).mono ?_; rintro e w' ⟨rfl, rfl⟩
  go_wp2_with fail
  go_ret2; exact ⟨rfl, rfl⟩

/-- a size and a count, or none -/
theorem count_cases (n c : Int) : ((n < 1 ∨ 20 < n) ∨ (1 ≤ n ∧ n ≤ 20 ∧ (c < 0 ∨ (0 ≤ c ∧ n < c)))) ∨ ∃ s k : Nat, n = (s : Int) ∧ c = (k : Int) ∧ 1 ≤ s ∧ s ≤ 20 ∧ k ≤ s := by
  by_cases h : (n < 1 ∨ 20 < n) ∨ (1 ≤ n ∧ n ≤ 20 ∧ (c < 0 ∨ (0 ≤ c ∧ n < c)))
  · left; exact h
  · right; exact ⟨n.toNat, c.toNat, by omega, by omega, by omega, by omega, by omega⟩
end Go.Proofs.Ytbgdhiieeegnjac
