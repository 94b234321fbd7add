/- Chapter 2: sizes, sets, how many choices there are; both ways. -/
import Derived.Test.YtbgdhiieeegnjacDoorK1
import Derived.Test.YtbgdhiieeegnjacDoorC3
import Derived.Test.YtbgdhiieeegnjacDoorInts
namespace Go.Proofs.YtbgdhiieeegnjacDoor
open Go Go.RowKit RM

theorem isSize_yes (n : Int) (w : World) (h1 : 1 ≤ n) (h2 : n ≤ 20) : Calls Tryd.prog 25 #[.int .i64 n] w fun e w' => e = .returned (.bool true) ∧ w = w' := by
  go_enter Tryd.func25, Tryd.ntmps25
  go_wp2
  go_ret; exact ⟨rfl, rfl⟩

theorem isSize_no (n : Int) (w : World) (h : n < 1 ∨ 20 < n) : Calls Tryd.prog 25 #[.int .i64 n] w fun e w' => e = .returned (.bool false) ∧ w = w' := by
  by_cases h1 : n < 1
  · clear h
    go_enter Tryd.func25, Tryd.ntmps25
    go_wp2
    go_ret; exact ⟨rfl, rfl⟩
  · have h2 : 20 < n := by omega
    clear h
    go_enter Tryd.func25, Tryd.ntmps25
    go_wp2
    go_ret; exact ⟨ret_bool (by simp; omega), rfl⟩

theorem isRank_yes (r c : Int) (w : World) (h1 : 0 ≤ r) (h2 : r < c) : Calls Tryd.prog 26 #[.int .i64 r, .int .i64 c] w fun e w' => e = .returned (.bool true) ∧ w = w' := by
  go_enter Tryd.func26, Tryd.ntmps26
  go_wp2
  go_ret; exact ⟨rfl, rfl⟩

theorem isRank_no (r c : Int) (w : World) (h : r < 0 ∨ c ≤ r) : Calls Tryd.prog 26 #[.int .i64 r, .int .i64 c] w fun e w' => e = .returned (.bool false) ∧ w = w' := by
  by_cases h1 : r < 0
  · clear h
    go_enter Tryd.func26, Tryd.ntmps26
    go_wp2
    go_ret; exact ⟨rfl, rfl⟩
  · have h2 : c ≤ r := by omega
    clear h
    go_enter Tryd.func26, Tryd.ntmps26
    go_wp2
    go_ret; exact ⟨ret_bool (by simp; omega), rfl⟩



theorem nuSize_yes (n : Int) (w : World) (h1 : 1 ≤ n) (h2 : n ≤ 20) : Calls Tryd.prog 24 #[.int .i64 n] w fun e w' => e = .returned (.bool true) ∧ w = w' := by
  go_enter Tryd.func24, Tryd.ntmps24
  go_wp2_with fail
  refine (l1In_yes _ _ _ _ h1 h2).mono ?_; rintro e w' ⟨rfl, rfl⟩
  go_wp2_with fail
  go_ret; exact ⟨rfl, rfl⟩

theorem nuSize_no (n : Int) (w : World) (h : n < 1 ∨ 20 < n) : Calls Tryd.prog 24 #[.int .i64 n] w fun e w' => e = .returned (.bool false) ∧ w = w' := by
  go_enter Tryd.func24, Tryd.ntmps24
  go_wp2_with fail
  refine (l1In_no _ _ _ _ h).mono ?_; rintro e w' ⟨rfl, rfl⟩
  go_wp2_with fail
  go_ret; exact ⟨rfl, rfl⟩

theorem ch_stepI (s k : Nat) (hs : s ≤ 20) (hk : k ≤ 20) : ∃ P : Nat, P ≤ 4000000 ∧ IntKind.i64.wrap (((ch s k : Nat) : Int) * ((s : Int) - (k : Int))) = (P : Int) ∧ (P : Int) / ((k : Int) + 1) = ((ch s (k + 1) : Nat) : Int) := by
  have hb := ch_le (s := s) (k := k) hs (by omega)
  by_cases h : k ≤ s
  · have hm : ch s k * (s - k) ≤ 184756 * 20 := Nat.mul_le_mul hb (by omega)
    refine ⟨ch s k * (s - k), by omega, ?_, ?_⟩
    · rw [show ((s : Int) - (k : Int)) = ((s - k : Nat) : Int) by omega, ← Int.natCast_mul, IntKind.wrap_i64]
      generalize ch s k * (s - k) = P at *
      omega
    · rw [ch_succ, show ((k : Int) + 1) = ((k + 1 : Nat) : Int) by omega, ← Int.natCast_ediv]
  · have h0 : ch s k = 0 := ch_over hs (by omega) (by omega)
    have h1 : ch s (k + 1) = 0 := ch_over hs (by omega) (by omega)
    refine ⟨0, by omega, ?_, ?_⟩
    · rw [h0]; simp [IntKind.wrap_i64]
    · rw [h1]; simp







/-- a size and a count, or none -/
theorem count_cases (n c : Int) : ((n < 1 ∨ 20 < n) ∨ (1 ≤ n ∧ n ≤ 20 ∧ (c < 0 ∨ (0 ≤ c ∧ n < c)))) ∨ ∃ s k : Nat, n = (s : Int) ∧ c = (k : Int) ∧ 1 ≤ s ∧ s ≤ 20 ∧ k ≤ s := by
  by_cases h : (n < 1 ∨ 20 < n) ∨ (1 ≤ n ∧ n ≤ 20 ∧ (c < 0 ∨ (0 ≤ c ∧ n < c)))
  · left; exact h
  · right; exact ⟨n.toNat, c.toNat, by omega, by omega, by omega, by omega, by omega⟩
end Go.Proofs.YtbgdhiieeegnjacDoor
