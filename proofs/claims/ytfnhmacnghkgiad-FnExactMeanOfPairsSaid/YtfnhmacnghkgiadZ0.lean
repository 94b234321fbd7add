/- Chapter 7: numbers of rings for walks, both ways. -/
import Derived.Test.YtfnhmacnghkgiadS1
namespace Go.Proofs.Ytfnhmacnghkgiad
open Go Go.RowKit RM
theorem isWalk_any (n : Int) (w : World) (b : Bool) (h : (decide (1 ≤ n) && decide (n ≤ 12)) = b) : Calls Try.prog 10 #[.int .i64 n] w fun e w' => e = .returned (.bool b) ∧ w = w' := by
  subst h
  by_cases h1 : 1 ≤ n
  · have d1 : decide (1 ≤ n) = true := by simpa using h1
    by_cases h2 : n ≤ 12
    · have d2 : decide (n ≤ 12) = true := by simpa using h2
      go_enter Try.func10, Try.ntmps10
      go_wp2_with fail
      go_ret; exact ⟨ret_bool (by simp [*]), rfl⟩
    · have d2 : decide (n ≤ 12) = false := by simpa using h2
      go_enter Try.func10, Try.ntmps10
      go_wp2_with fail
      go_ret; exact ⟨ret_bool (by simp [*]), rfl⟩
  · have d1 : decide (1 ≤ n) = false := by simpa using h1
    go_enter Try.func10, Try.ntmps10
    go_wp2_with fail
    go_ret; exact ⟨ret_bool (by simp [*]), rfl⟩
theorem waRings_any (n : Int) (w : World) (b : Bool) (h : (decide (1 ≤ n) && decide (n ≤ 12)) = b) : Calls Try.prog 9 #[.int .i64 n] w fun e w' => e = .returned (.bool b) ∧ w = w' := by
  have hL : Hid (∀ w, Calls Try.prog 15 #[.int .i64 n, .int .i64 1, .int .i64 12] w fun e w' => e = .returned (.bool b) ∧ w = w') := Lib.hid fun w => by
    cases b
    · exact l1In_no n 1 12 w (by simp at h; omega)
    · simp at h; exact l1In_yes n 1 12 w h.1 h.2
  clear h
  go_enter Try.func9, Try.ntmps9
  go_wp2_with fail
  refine (hL.out _).mono ?_; rintro e w' ⟨rfl, rfl⟩
  go_wp2_with fail
  go_ret; exact ⟨rfl, rfl⟩
end Go.Proofs.Ytfnhmacnghkgiad
