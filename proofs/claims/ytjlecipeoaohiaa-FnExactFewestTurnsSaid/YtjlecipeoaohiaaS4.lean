import Derived.Test.YtjlecipeoaohiaaS3
namespace Go.Proofs.Ytjlecipeoaohiaa
open Go Go.RowKit RM







theorem l1Least_any (a b : Int) (w : World) : Calls Try.prog 99 #[.int .i64 a, .int .i64 b] w fun e w' => e = .returned (.int .i64 (min a b)) ∧ w = w' := by
  by_cases h : a < b
  all_goals
    go_enter Try.func99, Try.ntmps99
    go_wp2
    go_ret; exact ⟨ret_int (by omega), rfl⟩


def sgn (a : Int) : Int := if 0 < a then 1 else if a < 0 then -1 else 0




/-- two states of as many rings, or not -/
def twoB (a b : ByteArray) : Bool := goodB a.data.toList && goodB b.data.toList && ((a.size : Int) == (b.size : Int))

theorem of_two (a b : ByteArray) (h : twoB a b = true) : ∃ n x y, 1 ≤ n ∧ n ≤ 20 ∧ x < 2 ^ n ∧ y < 2 ^ n ∧ a = ST n x ∧ b = ST n y := by
  unfold twoB at h
  simp only [Bool.and_eq_true, beq_iff_eq] at h
  obtain ⟨⟨h1, h2⟩, h3⟩ := h
  obtain ⟨n, x, a1, a2, a3, rfl⟩ := of_good a h1
  obtain ⟨m, y, b1, b2, b3, rfl⟩ := of_good b h2
  rw [ST_size, ST_size] at h3
  obtain rfl : n = m := by omega
  exact ⟨n, x, y, a1, a2, a3, b3, rfl, rfl⟩
theorem two_ST (n x y : Nat) (h1 : 1 ≤ n) (h2 : n ≤ 20) : twoB (ST n x) (ST n y) = true := by
  unfold twoB; rw [good_ST n x h1 h2, good_ST n y h1 h2, ST_size, ST_size]; simp

/-- the number of the state next to x on the way to y -/
def nxt (x y : Nat) : Nat := if num x < num y then num x + 1 else if num y < num x then num x - 1 else num x
theorem nxt_lt (n x y : Nat) (hx : x < 2 ^ n) (hy : y < 2 ^ n) : nxt x y < 2 ^ n := by
  have a := num_lt n x hx
  have b := num_lt n y hy
  unfold nxt; split <;> (try split) <;> omega

theorem all_ones (n k : Nat) (h : k < n) : (2 ^ n - 1).testBit k = true := by simp [h]

end Go.Proofs.Ytjlecipeoaohiaa
