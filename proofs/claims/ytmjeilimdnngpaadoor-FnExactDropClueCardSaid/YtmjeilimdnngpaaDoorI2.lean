/- Bars: numbers, sums of digits, which ring can be moved. -/
import Derived.Test.YtmjeilimdnngpaaDoorI1
import Derived.Test.YtmjeilimdnngpaaDoorI0
import Derived.Test.YtmjeilimdnngpaaDoorK0
namespace Go.Proofs.YtmjeilimdnngpaaDoor
open Go Go.RowKit RM

theorem greatest_core (n : Nat) (X : Int) (w : World) (hX : Hid ((2 : Int) ^ n = X)) (h0 : 0 ≤ X) (h1 : X ≤ 1048576) (hn : n ≤ 20) : Calls Tryd.prog 82 #[.int .i64 n] w fun e w' => e = .returned (.int .i64 (X - 1)) ∧ w = w' := by
  have hw1 : (2 : Int) ^ n = X := hX
  go_enter Tryd.func82, Tryd.ntmps82
  go_wp2
  go_ret; exact ⟨rfl, rfl⟩

theorem pow20 {n : Nat} (hn : n ≤ 20) : 2 ^ n ≤ 1048576 := Nat.pow_le_pow_right (n := 2) (by omega) hn
theorem pow_pos1 (n : Nat) : 1 ≤ 2 ^ n := Nat.two_pow_pos n
theorem pow_cast (n : Nat) : ((2 : Int) ^ n) = ((2 ^ n : Nat) : Int) := by simp
theorem greatest_any (n : Nat) (w : World) (hn : n ≤ 20) : Calls Tryd.prog 82 #[.int .i64 n] w fun e w' => e = .returned (.int .i64 ((2 ^ n - 1 : Nat) : Int)) ∧ w = w' := by
  have h1 := pow20 hn
  have h2 := pow_pos1 n
  have h := greatest_core n ((2 ^ n : Nat) : Int) w (Lib.hid (pow_cast n)) (by omega) (by omega) hn
  rw [show ((2 ^ n - 1 : Nat) : Int) = ((2 ^ n : Nat) : Int) - 1 from by omega]; exact h

theorem number_any (n x : Nat) (w : World) (hx : x < 1048576) : Calls Tryd.prog 78 #[(.agg #[.int .i64 ((ctz (x) : Nat) : Int), .bool (onB (x)), .int .i64 ((n : Nat) : Int), .int .u64 ((x : Nat) : Int)])] w fun e w' => e = .returned (.int .i64 ((num x : Nat) : Int)) ∧ Below w.heap.size w w' := by
  have HU := Lib.hid fun w => unreflected_any x w (by omega)
  go_enter Tryd.func78, Tryd.ntmps78
  go_wp2_with fail
  refine (HU.out _).mono ?_; rintro e w' ⟨rfl, rfl⟩
  go_wp2_with fail
  go_ret; exact ⟨rfl, (Below.refl _ _).alloc (Nat.le_refl _) _⟩

/-- whether the ring k can be moved -/
theorem canMove_out (n x : Nat) (k : Int) (w : World) (h : k < 0 ∨ (n : Int) ≤ k) :
    Calls Tryd.prog 81 #[(.agg #[.int .i64 ((ctz (x) : Nat) : Int), .bool (onB (x)), .int .i64 ((n : Nat) : Int), .int .u64 ((x : Nat) : Int)]), .int .i64 k] w fun e w' => e = .returned (.bool false) ∧ Below w.heap.size w w' := by
  by_cases h1 : k < 0
  all_goals
    go_enter Tryd.func81, Tryd.ntmps81
    go_wp2
    go_ret; exact ⟨rfl, (Below.refl _ _).alloc (Nat.le_refl _) _⟩

theorem canMove_zero (n x : Nat) (w : World) (h : 1 ≤ n) :
    Calls Tryd.prog 81 #[(.agg #[.int .i64 ((ctz (x) : Nat) : Int), .bool (onB (x)), .int .i64 ((n : Nat) : Int), .int .u64 ((x : Nat) : Int)]), .int .i64 0] w fun e w' => e = .returned (.bool true) ∧ Below w.heap.size w w' := by
  go_enter Tryd.func81, Tryd.ntmps81
  go_wp2
  go_ret; exact ⟨rfl, (Below.refl _ _).alloc (Nat.le_refl _) _⟩

theorem canMove_pos (n x j : Nat) (b : Bool) (w : World) (h : j + 1 < n) (hn : n ≤ 20) (p : Nat) :
    Calls Tryd.prog 81 #[.agg #[.int .i64 p, .bool b, .int .i64 n, .int .u64 x], .int .i64 ((j + 1 : Nat) : Int)] w fun e w' => e = .returned (.bool (b && decide (p = j))) ∧ Below w.heap.size w w' := by
  have ej : ((j + 1 : Nat) : Int) = (j : Int) + 1 := by omega
  rw [ej]; clear ej
  have h0 : ((j : Int) + 1 == 0) = false := by simp; omega
  by_cases hp : p = j
  · subst hp
    cases b
    all_goals
      go_enter Tryd.func81, Tryd.ntmps81
      go_wp2
      go_ret; exact ⟨ret_bool (by simp), (Below.refl _ _).alloc (Nat.le_refl _) _⟩
  · have hp' : ¬ (p : Int) = (j : Int) := by omega
    have e : decide (p = j) = false := by simp [hp]
    rw [e]
    clear hp e
    cases b
    all_goals
      go_enter Tryd.func81, Tryd.ntmps81
      go_wp2
      go_ret; exact ⟨ret_bool (by simp), (Below.refl _ _).alloc (Nat.le_refl _) _⟩

theorem canMove_any (n x : Nat) (k : Int) (w : World) (h1 : 1 ≤ n) (hn : n ≤ 20) :
    Calls Tryd.prog 81 #[(.agg #[.int .i64 ((ctz (x) : Nat) : Int), .bool (onB (x)), .int .i64 ((n : Nat) : Int), .int .u64 ((x : Nat) : Int)]), .int .i64 k] w fun e w' => e = .returned (.bool (canB n x k)) ∧ Below w.heap.size w w' := by
  by_cases h0 : k = 0
  · subst h0; rw [canB_zero]; exact canMove_zero n x w h1
  · by_cases hk : k < 0 ∨ (n : Int) ≤ k
    · rw [canB_out n x k (by omega)]; exact canMove_out n x k w hk
    · obtain ⟨j, rfl⟩ : ∃ j : Nat, k = ((j + 1 : Nat) : Int) := ⟨(k - 1).toNat, by omega⟩
      rw [canB_ctz n x j (by omega)]
      exact canMove_pos n x j (onB x) w (by omega) hn (ctz x)

end Go.Proofs.YtmjeilimdnngpaaDoor
