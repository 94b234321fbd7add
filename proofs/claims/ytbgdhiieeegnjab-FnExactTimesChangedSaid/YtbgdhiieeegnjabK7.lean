/- Chapter 2: how often a digit changes, both ways. -/
import Derived.Test.YtbgdhiieeegnjabK1
namespace Go.Proofs.Ytbgdhiieeegnjab
open Go Go.RowKit RM


/-- how often a digit changes up to a number -/
def tvI (n k : Nat) : Int := ((n / 2 ^ k : Nat) : Int) - ((n / 2 ^ (k + 1) : Nat) : Int)
theorem tv_bd (n k : Nat) (h : n ≤ 1000000000000) : -1000000000000 ≤ tvI n k ∧ tvI n k ≤ 1000000000000 := by
  have b1 : n / 2 ^ k ≤ n := Nat.div_le_self _ _
  have b2 : n / 2 ^ (k + 1) ≤ n := Nat.div_le_self _ _
  unfold tvI
  generalize n / 2 ^ k = u at *
  generalize n / 2 ^ (k + 1) = v at *
  omega

theorem tvUp_any (n k : Nat) (w : World) (hk : k ≤ 50) (hn : n ≤ 1000000000000) : Calls Try.prog 43 #[.int .i64 n, .int .i64 k] w fun e w' => e = .returned (.int .i64 (tvI n k)) ∧ ∃ q, w' = w.drewN q := by
  unfold tvI
  have e1 : ((n / 2 ^ k : Nat) : Int) = (n : Int) / 2 ^ k := by simp
  have e2 : ((n / 2 ^ (k + 1) : Nat) : Int) = (n : Int) / 2 ^ (k + 1) := by simp
  have b1 : n / 2 ^ k ≤ n := Nat.div_le_self _ _
  have b2 : n / 2 ^ (k + 1) ≤ n := Nat.div_le_self _ _
  have b3 : (0 : Int) ≤ (n : Int) / 2 ^ k := by rw [← e1]; exact Int.natCast_nonneg _
  have b4 : (0 : Int) ≤ (n : Int) / 2 ^ (k + 1) := by rw [← e2]; exact Int.natCast_nonneg _
  have c1 : n / 2 ^ k ≤ 1000000000000 := by omega
  have c2 : n / 2 ^ (k + 1) ≤ 1000000000000 := by omega
  have b5 : (n : Int) / 2 ^ k ≤ 1000000000000 := by rw [← e1]; exact Int.le_trans (Int.ofNat_le.2 c1) (by decide)
  have b6 : (n : Int) / 2 ^ (k + 1) ≤ 1000000000000 := by rw [← e2]; exact Int.le_trans (Int.ofNat_le.2 c2) (by decide)
  rw [e1, e2]
  clear e1 e2 b1 b2 c1 c2
  go_enter Try.func43, Try.ntmps43
  go_wp2
  go_quiet (fail)
  go_wp2
  go_ret; exact ⟨rfl, _, rfl⟩

theorem nuTimes_any (n k : Nat) (w : World) (hk : k ≤ 50) (hn : n ≤ 1000000000000) : Calls Try.prog 42 #[.int .i64 n, .int .i64 k] w fun e w' => e = .returned (.int .i64 (tvI n k)) ∧ ∃ q, w' = w.drewN q := by
  unfold tvI
  have e1 : ((n / 2 ^ k : Nat) : Int) = (n : Int) / 2 ^ k := by simp
  have e2 : ((n / 2 ^ (k + 1) : Nat) : Int) = (n : Int) / 2 ^ (k + 1) := by simp
  have b1 : n / 2 ^ k ≤ n := Nat.div_le_self _ _
  have b2 : n / 2 ^ (k + 1) ≤ n := Nat.div_le_self _ _
  have b3 : (0 : Int) ≤ (n : Int) / 2 ^ k := by rw [← e1]; exact Int.natCast_nonneg _
  have b4 : (0 : Int) ≤ (n : Int) / 2 ^ (k + 1) := by rw [← e2]; exact Int.natCast_nonneg _
  have c1 : n / 2 ^ k ≤ 1000000000000 := by omega
  have c2 : n / 2 ^ (k + 1) ≤ 1000000000000 := by omega
  have b5 : (n : Int) / 2 ^ k ≤ 1000000000000 := by rw [← e1]; exact Int.le_trans (Int.ofNat_le.2 c1) (by decide)
  have b6 : (n : Int) / 2 ^ (k + 1) ≤ 1000000000000 := by rw [← e2]; exact Int.le_trans (Int.ofNat_le.2 c2) (by decide)
  rw [e1, e2]
  clear e1 e2 b1 b2 c1 c2
  go_enter Try.func42, Try.ntmps42
  go_wp2
  go_quiet (fail)
  go_wp2
  go_ret; exact ⟨rfl, _, rfl⟩

/-- an argument that is none: which test says so -/
theorem iTimesC_no (a b d : Int) (w : World) (h : (a < 0 ∨ 1000000000000 < a) ∨ (0 ≤ a ∧ a ≤ 1000000000000 ∧ (b < 0 ∨ 1000000000000 < b)) ∨ (0 ≤ a ∧ a ≤ 1000000000000 ∧ 0 ≤ b ∧ b ≤ 1000000000000 ∧ (b < a ∨ (a ≤ b ∧ (d < 0 ∨ (0 ≤ d ∧ 50 < d)))))) :
    Calls Try.prog 27 #[.int .i64 a, .int .i64 b, .int .i64 d] w fun e w' => QB0 w 0 false e w' := by
  rcases h with h | ⟨h1, h2, h⟩ | ⟨h1, h2, h3, h4, h⟩
  · have hR := Lib.hid fun w => isRefl_no a w h
    clear h
    go_enter Try.func27, Try.ntmps27
    go_wp2_with fail
    refine (hR.out _).mono ?_; rintro e w' ⟨rfl, rfl⟩
    go_wp2_with fail
    go_ret2; exact ⟨rfl, Below.refl _ _⟩
  · have hR := Lib.hid fun w => isRefl_yes a w h1 h2
    have hR2 := Lib.hid fun w => isRefl_no b w h
    clear h h1 h2
    go_enter Try.func27, Try.ntmps27
    go_wp2_with fail
    refine (hR.out _).mono ?_; rintro e w' ⟨rfl, rfl⟩
    go_wp2_with fail
    refine (hR2.out _).mono ?_; rintro e w' ⟨rfl, rfl⟩
    go_wp2_with fail
    go_ret2; exact ⟨rfl, Below.refl _ _⟩
  · have hR := Lib.hid fun w => isRefl_yes a w h1 h2
    have hR2 := Lib.hid fun w => isRefl_yes b w h3 h4
    rcases h with h | ⟨h5, h | ⟨h6, h⟩⟩
    all_goals
      go_enter Try.func27, Try.ntmps27
      go_wp2_with fail
      refine (hR.out _).mono ?_; rintro e w' ⟨rfl, rfl⟩
      go_wp2_with fail
      refine (hR2.out _).mono ?_; rintro e w' ⟨rfl, rfl⟩
      go_wp2_with fail
      go_ret2; exact ⟨rfl, Below.refl _ _⟩

theorem iTimesC_yes (a b d : Nat) (w : World) (ha : a ≤ 1000000000000) (hb : b ≤ 1000000000000) (hab : a ≤ b) (hd : d ≤ 50) :
    Calls Try.prog 27 #[.int .i64 a, .int .i64 b, .int .i64 d] w fun e w' => QB0 w (tvI b d - tvI a d) true e w' := by
  have hR := Lib.hid fun w => isRefl_yes a w (by omega) (by omega)
  have hR2 := Lib.hid fun w => isRefl_yes b w (by omega) (by omega)
  have CA := Lib.hid fun w => tvUp_any a d w hd ha
  have CB := Lib.hid fun w => tvUp_any b d w hd hb
  have BA := tv_bd a d ha
  have BB := tv_bd b d hb
  generalize tvI a d = x at *
  generalize tvI b d = y at *
  obtain ⟨B1, B2⟩ := BA
  obtain ⟨B3, B4⟩ := BB
  go_enter Try.func27, Try.ntmps27
  go_wp2_with fail
  refine (hR.out _).mono ?_; rintro e w' ⟨rfl, rfl⟩
  go_wp2_with fail
  refine (hR2.out _).mono ?_; rintro e w' ⟨rfl, rfl⟩
  go_wp2_with fail
  refine (CB.out _).mono ?_; rintro e v1 ⟨rfl, qa, rfl⟩
  go_wp2_with fail
  refine (CA.out _).mono ?_; rintro e v2 ⟨rfl, qb, rfl⟩
  go_wp2_with fail
  go_ret2; exact ⟨rfl, below_drewN (Below.refl _ _) _⟩

theorem sTimesC_no (a b d : Int) (w : World) (h : (a < 0 ∨ 1000000000000 < a) ∨ (0 ≤ a ∧ a ≤ 1000000000000 ∧ (b < 0 ∨ 1000000000000 < b)) ∨ (0 ≤ a ∧ a ≤ 1000000000000 ∧ 0 ≤ b ∧ b ≤ 1000000000000 ∧ (b < a ∨ (a ≤ b ∧ (d < 0 ∨ (0 ≤ d ∧ 50 < d)))))) :
    Calls Try.prog 26 #[.int .i64 a, .int .i64 b, .int .i64 d] w fun e w' => QB0 w 0 false e w' := by
  rcases h with h | ⟨h1, h2, h⟩ | ⟨h1, h2, h3, h4, h⟩
  · have hR := Lib.hid fun w => nuIs_no a w h
    clear h
    go_enter Try.func26, Try.ntmps26
    go_wp2_with fail
    refine (hR.out _).mono ?_; rintro e w' ⟨rfl, rfl⟩
    go_wp2_with fail
    go_ret2; exact ⟨rfl, Below.refl _ _⟩
  · have hR := Lib.hid fun w => nuIs_yes a w h1 h2
    have hR2 := Lib.hid fun w => nuIs_no b w h
    clear h h1 h2
    go_enter Try.func26, Try.ntmps26
    go_wp2_with fail
    refine (hR.out _).mono ?_; rintro e w' ⟨rfl, rfl⟩
    go_wp2_with fail
    refine (hR2.out _).mono ?_; rintro e w' ⟨rfl, rfl⟩
    go_wp2_with fail
    go_ret2; exact ⟨rfl, Below.refl _ _⟩
  · have hR := Lib.hid fun w => nuIs_yes a w h1 h2
    have hR2 := Lib.hid fun w => nuIs_yes b w h3 h4
    rcases h with h | ⟨h5, h⟩
    · go_enter Try.func26, Try.ntmps26
      go_wp2_with fail
      refine (hR.out _).mono ?_; rintro e w' ⟨rfl, rfl⟩
      go_wp2_with fail
      refine (hR2.out _).mono ?_; rintro e w' ⟨rfl, rfl⟩
      go_wp2_with fail
      go_ret2; exact ⟨rfl, Below.refl _ _⟩
    · have hL := Lib.hid fun w => l1In_no d 0 50 w (by omega)
      clear h
      go_enter Try.func26, Try.ntmps26
      go_wp2_with fail
      refine (hR.out _).mono ?_; rintro e w' ⟨rfl, rfl⟩
      go_wp2_with fail
      refine (hR2.out _).mono ?_; rintro e w' ⟨rfl, rfl⟩
      go_wp2_with fail
      refine (hL.out _).mono ?_; rintro e w' ⟨rfl, rfl⟩
      go_wp2_with fail
      go_ret2; exact ⟨rfl, Below.refl _ _⟩

theorem sTimesC_yes (a b d : Nat) (w : World) (ha : a ≤ 1000000000000) (hb : b ≤ 1000000000000) (hab : a ≤ b) (hd : d ≤ 50) :
    Calls Try.prog 26 #[.int .i64 a, .int .i64 b, .int .i64 d] w fun e w' => QB0 w (tvI b d - tvI a d) true e w' := by
  have hR := Lib.hid fun w => nuIs_yes a w (by omega) (by omega)
  have hR2 := Lib.hid fun w => nuIs_yes b w (by omega) (by omega)
  have hL := Lib.hid fun w => l1In_yes d 0 50 w (by omega) (by omega)
  have CA := Lib.hid fun w => nuTimes_any a d w hd ha
  have CB := Lib.hid fun w => nuTimes_any b d w hd hb
  have BA := tv_bd a d ha
  have BB := tv_bd b d hb
  generalize tvI a d = x at *
  generalize tvI b d = y at *
  obtain ⟨B1, B2⟩ := BA
  obtain ⟨B3, B4⟩ := BB
  go_enter Try.func26, Try.ntmps26
  go_wp2_with fail
  refine (hR.out _).mono ?_; rintro e w' ⟨rfl, rfl⟩
  go_wp2_with fail
  refine (hR2.out _).mono ?_; rintro e w' ⟨rfl, rfl⟩
  go_wp2_with fail
  refine (hL.out _).mono ?_; rintro e w' ⟨rfl, rfl⟩
  go_wp2_with fail
  refine (CB.out _).mono ?_; rintro e v1 ⟨rfl, qa, rfl⟩
  go_wp2_with fail
  refine (CA.out _).mono ?_; rintro e v2 ⟨rfl, qb, rfl⟩
  go_wp2_with fail
  go_ret2; exact ⟨rfl, below_drewN (Below.refl _ _) _⟩

/-- what is told of three numbers -/
theorem times_cases (a b d : Int) : ((a < 0 ∨ 1000000000000 < a) ∨ (0 ≤ a ∧ a ≤ 1000000000000 ∧ (b < 0 ∨ 1000000000000 < b)) ∨ (0 ≤ a ∧ a ≤ 1000000000000 ∧ 0 ≤ b ∧ b ≤ 1000000000000 ∧ (b < a ∨ (a ≤ b ∧ (d < 0 ∨ (0 ≤ d ∧ 50 < d)))))) ∨
    ∃ x y z : Nat, a = (x : Int) ∧ b = (y : Int) ∧ d = (z : Int) ∧ x ≤ 1000000000000 ∧ y ≤ 1000000000000 ∧ x ≤ y ∧ z ≤ 50 := by
  by_cases h : (a < 0 ∨ 1000000000000 < a) ∨ (0 ≤ a ∧ a ≤ 1000000000000 ∧ (b < 0 ∨ 1000000000000 < b)) ∨ (0 ≤ a ∧ a ≤ 1000000000000 ∧ 0 ≤ b ∧ b ≤ 1000000000000 ∧ (b < a ∨ (a ≤ b ∧ (d < 0 ∨ (0 ≤ d ∧ 50 < d)))))
  · left; exact h
  · right; exact ⟨a.toNat, b.toNat, d.toNat, by omega, by omega, by omega, by omega, by omega, by omega, by omega⟩
end Go.Proofs.Ytbgdhiieeegnjab
