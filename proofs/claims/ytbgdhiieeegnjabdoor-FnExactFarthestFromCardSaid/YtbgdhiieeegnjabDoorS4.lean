import Derived.Test.YtbgdhiieeegnjabDoorS3
namespace Go.Proofs.YtbgdhiieeegnjabDoor
open Go Go.RowKit RM






theorem l1Most_any (a b : Int) (w : World) : Calls Tryd.prog 35 #[.int .i64 a, .int .i64 b] w fun e w' => e = .returned (.int .i64 (max a b)) ∧ w = w' := by
  by_cases h : b < a
  all_goals
    go_enter Tryd.func35, Tryd.ntmps35
    go_wp2
    go_ret; exact ⟨ret_int (by omega), rfl⟩

theorem l1Least_any (a b : Int) (w : World) : Calls Tryd.prog 42 #[.int .i64 a, .int .i64 b] w fun e w' => e = .returned (.int .i64 (min a b)) ∧ w = w' := by
  by_cases h : a < b
  all_goals
    go_enter Tryd.func42, Tryd.ntmps42
    go_wp2
    go_ret; exact ⟨ret_int (by omega), rfl⟩

theorem l1Abs_any (a : Int) (w : World) (h1 : -1048576 ≤ a) (h2 : a ≤ 1048576) : Calls Tryd.prog 29 #[.int .i64 a] w fun e w' => e = .returned (.int .i64 (max a (-a))) ∧ w = w' := by
  go_enter Tryd.func29, Tryd.ntmps29
  go_wp2_with (go_at_call 35; refine (l1Most_any _ _ _).mono ?_; rintro e w' ⟨rfl, rfl⟩)
  go_ret; exact ⟨rfl, rfl⟩

def sgn (a : Int) : Int := if 0 < a then 1 else if a < 0 then -1 else 0
theorem l1Sign_any (a : Int) (w : World) : Calls Tryd.prog 46 #[.int .i64 a] w fun e w' => e = .returned (.int .i64 (sgn a)) ∧ w = w' := by
  by_cases h : 0 < a
  · have e : sgn a = 1 := by unfold sgn; rw [if_pos h]
    rw [e]
    go_enter Tryd.func46, Tryd.ntmps46
    go_wp2
    go_ret; exact ⟨rfl, rfl⟩
  · by_cases h2 : a < 0
    · have e : sgn a = -1 := by unfold sgn; rw [if_neg h, if_pos h2]
      rw [e]
      go_enter Tryd.func46, Tryd.ntmps46
      go_wp2
      go_ret; exact ⟨rfl, rfl⟩
    · have e : sgn a = 0 := by unfold sgn; rw [if_neg h, if_neg h2]
      rw [e]
      go_enter Tryd.func46, Tryd.ntmps46
      go_wp2
      go_ret; exact ⟨rfl, rfl⟩


theorem riHalved_any (n k : Nat) (w : World) (hk : k < 20) (hn : n < 1048576) : Calls Tryd.prog 43 #[.int .i64 n, .int .i64 k] w fun e w' => e = .returned (.int .i64 (((n / 2 ^ k : Nat) : Int) - ((n / 2 ^ (k + 1) : Nat) : Int))) ∧ ∃ q, w' = w.drewN q := by
  have e1 : ((n / 2 ^ k : Nat) : Int) = (n : Int) / 2 ^ k := by simp
  have e2 : ((n / 2 ^ (k + 1) : Nat) : Int) = (n : Int) / 2 ^ (k + 1) := by simp
  have b1 : n / 2 ^ k ≤ n := Nat.div_le_self _ _
  have b2 : n / 2 ^ (k + 1) ≤ n := Nat.div_le_self _ _
  have b3 : (0 : Int) ≤ (n : Int) / 2 ^ k := by rw [← e1]; exact Int.natCast_nonneg _
  have b4 : (0 : Int) ≤ (n : Int) / 2 ^ (k + 1) := by rw [← e2]; exact Int.natCast_nonneg _
  have c1 : n / 2 ^ k ≤ 1048576 := by omega
  have c2 : n / 2 ^ (k + 1) ≤ 1048576 := by omega
  have b5 : (n : Int) / 2 ^ k ≤ 1048576 := by rw [← e1]; exact Int.le_trans (Int.ofNat_le.2 c1) (by decide)
  have b6 : (n : Int) / 2 ^ (k + 1) ≤ 1048576 := by rw [← e2]; exact Int.le_trans (Int.ofNat_le.2 c2) (by decide)
  rw [e1, e2]
  clear e1 e2 b1 b2 c1 c2
  go_enter Tryd.func43, Tryd.ntmps43
  go_wp2
  go_quiet (fail)
  go_wp2
  go_ret; exact ⟨rfl, _, rfl⟩

theorem riTwo_ab (a b : ByteArray) (w : World) (ha : a.size ≤ maxLen) (hb : b.size ≤ maxLen) (c d : Bool) (hc : Hid (goodB a.data.toList = c)) (hd : Hid (goodB b.data.toList = d)) :
    Calls Tryd.prog 24 #[.string a, .string b] w fun e w' => e = .returned (.bool (c && d && ((a.size : Int) == (b.size : Int)))) ∧ w = w' := by
  have A := riGood_any a w ha
  have B := riGood_any b w hb
  rw [hc.out] at A
  rw [hd.out] at B
  have A := Lib.hid A
  have B := Lib.hid B
  clear ha hb hc hd
  cases c
  · go_enter Tryd.func24, Tryd.ntmps24
    go_wp2_with fail
    refine A.out.mono ?_; rintro e w' ⟨rfl, rfl⟩
    go_wp2_with fail
    go_ret; exact ⟨rfl, rfl⟩
  · cases d
    · go_enter Tryd.func24, Tryd.ntmps24
      go_wp2_with fail
      refine A.out.mono ?_; rintro e w' ⟨rfl, rfl⟩
      go_wp2_with fail
      refine B.out.mono ?_; rintro e w' ⟨rfl, rfl⟩
      go_wp2_with fail
      go_ret; exact ⟨rfl, rfl⟩
    · go_enter Tryd.func24, Tryd.ntmps24
      go_wp2_with fail
      refine A.out.mono ?_; rintro e w' ⟨rfl, rfl⟩
      go_wp2_with fail
      refine B.out.mono ?_; rintro e w' ⟨rfl, rfl⟩
      go_wp2_with fail
      go_ret; exact ⟨rfl, rfl⟩

/-- two states of as many rings, or not -/
def twoB (a b : ByteArray) : Bool := goodB a.data.toList && goodB b.data.toList && ((a.size : Int) == (b.size : Int))
theorem riTwo_any (a b : ByteArray) (w : World) (ha : a.size ≤ maxLen) (hb : b.size ≤ maxLen) :
    Calls Tryd.prog 24 #[.string a, .string b] w fun e w' => e = .returned (.bool (twoB a b)) ∧ w = w' :=
  riTwo_ab a b w ha hb _ _ (Lib.hid rfl) (Lib.hid rfl)

theorem of_two (a b : ByteArray) (h : twoB a b = true) : ∃ n x y, 1 ≤ n ∧ n ≤ 20 ∧ x < 2 ^ n ∧ y < 2 ^ n ∧ a = ST n x ∧ b = ST n y := by
  unfold twoB at h
  simp only [Bool.and_eq_true, beq_iff_eq] at h
  obtain ⟨⟨h1, h2⟩, h3⟩ := h
  obtain ⟨n, x, a1, a2, a3, rfl⟩ := of_good a h1
  obtain ⟨m, y, b1, b2, b3, rfl⟩ := of_good b h2
  rw [ST_size, ST_size] at h3
  obtain rfl : n = m := by omega
  exact ⟨n, x, y, a1, a2, a3, b3, rfl, rfl⟩
theorem two_ST (n x y : Nat) (h1 : 1 ≤ n) (h2 : n ≤ 20) : twoB (ST n x) (ST n y) = true := by
  unfold twoB; rw [good_ST n x h1 h2, good_ST n y h1 h2, ST_size, ST_size]; simp

/-- the number of the state next to x on the way to y -/
def nxt (x y : Nat) : Nat := if num x < num y then num x + 1 else if num y < num x then num x - 1 else num x
theorem nxt_lt (n x y : Nat) (hx : x < 2 ^ n) (hy : y < 2 ^ n) : nxt x y < 2 ^ n := by
  have a := num_lt n x hx
  have b := num_lt n y hy
  unfold nxt; split <;> (try split) <;> omega
theorem riNext_ST (n x y : Nat) (w : World) (hn : n ≤ 20) (hx : x < 2 ^ n) (hy : y < 2 ^ n) :
    Calls Tryd.prog 26 #[.string (ST n x), .string (ST n y)] w fun e w' => e = .returned (.string (ST n (gray (nxt x y)))) ∧ ∃ q, w' = w.drewN q := by
  have p20 : 2 ^ n ≤ 1048576 := Nat.pow_le_pow_right (n := 2) (by omega) hn
  have hnx := num_lt n x hx
  have hny := num_lt n y hy
  have hz := nxt_lt n x y hx hy
  have hsz : Hid ((ST n x).size = n) := Lib.hid (ST_size n x)
  have A := Lib.hid fun w => riNumber_ST n x w hn hx
  have B := Lib.hid fun w => riNumber_ST n y w hn hy
  have hs : Hid (((num x : Nat) : Int) + sgn (((num y : Nat) : Int) - ((num x : Nat) : Int)) = ((nxt x y : Nat) : Int)) := Lib.hid (by
    unfold sgn nxt
    by_cases h1 : num x < num y
    · rw [if_pos (by omega), if_pos h1]; omega
    · by_cases h2 : num y < num x
      · rw [if_neg (by omega), if_pos (by omega), if_neg h1, if_pos h2]; omega
      · rw [if_neg (by omega), if_neg (by omega), if_neg h1, if_neg h2]; omega)
  generalize nxt x y = z at *
  generalize num x = X at *
  generalize num y = Y at *
  have hsg : -1 ≤ sgn ((Y : Int) - (X : Int)) ∧ sgn ((Y : Int) - (X : Int)) ≤ 1 := by unfold sgn; split <;> (try split) <;> omega
  clear hx hy
  go_enter Tryd.func26, Tryd.ntmps26
  go_wp2_with fail
  refine (A.out _).mono ?_; rintro e w' ⟨rfl, rfl⟩
  go_wp2_with fail
  refine (B.out _).mono ?_; rintro e w' ⟨rfl, rfl⟩
  go_wp2_with fail
  refine (A.out _).mono ?_; rintro e w' ⟨rfl, rfl⟩
  go_wp2_with fail
  refine (l1Sign_any _ _).mono ?_; rintro e w' ⟨rfl, rfl⟩
  go_wp2_with fail
  rw [hs.out, hsz.out]
  refine (riState_any n z _ hn (by omega)).mono ?_; rintro e w' ⟨rfl, q, rfl⟩
  go_wp2_with fail
  go_ret; exact ⟨rfl, q, rfl⟩

theorem all_ones (n k : Nat) (h : k < n) : (2 ^ n - 1).testBit k = true := by simp [h]

end Go.Proofs.YtbgdhiieeegnjabDoor
