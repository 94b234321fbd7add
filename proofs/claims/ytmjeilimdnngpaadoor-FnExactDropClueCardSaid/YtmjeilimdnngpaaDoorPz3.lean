/- Clues and puzzles by the model: which there are, which states fit them. -/
import Derived.Test.YtmjeilimdnngpaaDoorPz2
import Derived.Test.YtmjeilimdnngpaaDoorS4
namespace Go.Proofs.YtmjeilimdnngpaaDoor
open Go Go.RowKit RM
theorem l1In_any (n lo hi : Int) (w : World) : Calls Tryd.prog 46 #[.int .i64 n, .int .i64 lo, .int .i64 hi] w fun e w' => e = .returned (.bool (inB n lo hi)) ∧ w = w' := by
  cases h : inB n lo hi with
  | true => exact l1In_yes n lo hi w (inB_yes h).1 (inB_yes h).2
  | false => exact l1In_no n lo hi w (inB_no h)

theorem pzRings_any (R : Int) (w : World) : Calls Tryd.prog 65 #[.int .i64 R] w fun e w' => e = .returned (.bool (inB R 1 7)) ∧ w = w' := by
  have hL := Lib.hid fun w => l1In_any R 1 7 w
  generalize inB R 1 7 = ok at *
  go_enter Tryd.func65, Tryd.ntmps65
  go_wp2_with fail
  refine (hL.out _).mono ?_; rintro e w' ⟨rfl, rfl⟩
  go_wp2_with fail
  go_ret; exact ⟨rfl, rfl⟩

theorem pzClue_0 (n : Nat) (a b : Int) (A B : Bool) (w : World) (h1 : 1 ≤ n) (h7 : n ≤ 7) (hA : inB a 0 ((n : Int) - 1) = A) (hB : inB b 0 1 = B) :
    Calls Tryd.prog 48 #[.int .i64 n, .agg #[.int .i64 0, .int .i64 a, .int .i64 b]] w fun e w' => e = .returned (.bool (A && B)) ∧ Below w.heap.size w w' := by
  have LA := Lib.hid fun w => l1In_any a 0 ((n : Int) - 1) w
  rw [hA] at LA
  have LB := Lib.hid fun w => l1In_any b 0 1 w
  rw [hB] at LB
  cases A with
  | false =>
    clear hA hB
    go_enter Tryd.func48, Tryd.ntmps48
    go_wp2_with fail
    refine (LA.out _).mono ?_; rintro e w' ⟨rfl, rfl⟩
    go_wp2_with fail
    go_ret; exact ⟨rfl, ba1 w _⟩
  | true =>
    clear hA hB
    go_enter Tryd.func48, Tryd.ntmps48
    go_wp2_with fail
    refine (LA.out _).mono ?_; rintro e w' ⟨rfl, rfl⟩
    go_wp2_with fail
    refine (LB.out _).mono ?_; rintro e w' ⟨rfl, rfl⟩
    go_wp2_with fail
    go_ret; exact ⟨rfl, ba1 w _⟩

theorem pzClue_4 (n : Nat) (a b : Int) (A B : Bool) (w : World) (h1 : 1 ≤ n) (h7 : n ≤ 7) (hA : inB a 0 ((n : Int) - 1) = A) (hB : inB b 0 1 = B) :
    Calls Tryd.prog 48 #[.int .i64 n, .agg #[.int .i64 4, .int .i64 a, .int .i64 b]] w fun e w' => e = .returned (.bool (A && B)) ∧ Below w.heap.size w w' := by
  have LA := Lib.hid fun w => l1In_any a 0 ((n : Int) - 1) w
  rw [hA] at LA
  have LB := Lib.hid fun w => l1In_any b 0 1 w
  rw [hB] at LB
  cases A with
  | false =>
    clear hA hB
    go_enter Tryd.func48, Tryd.ntmps48
    go_wp2_with fail
    refine (LA.out _).mono ?_; rintro e w' ⟨rfl, rfl⟩
    go_wp2_with fail
    go_ret; exact ⟨rfl, ba1 w _⟩
  | true =>
    clear hA hB
    go_enter Tryd.func48, Tryd.ntmps48
    go_wp2_with fail
    refine (LA.out _).mono ?_; rintro e w' ⟨rfl, rfl⟩
    go_wp2_with fail
    refine (LB.out _).mono ?_; rintro e w' ⟨rfl, rfl⟩
    go_wp2_with fail
    go_ret; exact ⟨rfl, ba1 w _⟩

theorem pzClue_1 (n : Nat) (a b : Int) (A B : Bool) (w : World) (h1 : 1 ≤ n) (h7 : n ≤ 7) (hA : inB a 0 (n : Int) = A) (hB : (b == 0) = B) :
    Calls Tryd.prog 48 #[.int .i64 n, .agg #[.int .i64 1, .int .i64 a, .int .i64 b]] w fun e w' => e = .returned (.bool (A && B)) ∧ Below w.heap.size w w' := by
  have LA := Lib.hid fun w => l1In_any a 0 (n : Int) w
  rw [hA] at LA
  cases A with
  | false =>
    clear hA
    go_enter Tryd.func48, Tryd.ntmps48
    go_wp2_with fail
    refine (LA.out _).mono ?_; rintro e w' ⟨rfl, rfl⟩
    go_wp2_with fail
    go_ret; exact ⟨rfl, ba1 w _⟩
  | true =>
    clear hA
    go_enter Tryd.func48, Tryd.ntmps48
    go_wp2_with fail
    refine (LA.out _).mono ?_; rintro e w' ⟨rfl, rfl⟩
    go_wp2_with fail
    go_ret; exact ⟨rfl, ba1 w _⟩

theorem pzClue_2 (n : Nat) (a b : Int) (A B : Bool) (w : World) (h1 : 1 ≤ n) (h7 : n ≤ 7) (hA : inB a 2 9 = A) (hB : inB b 0 (a - 1) = B) (ha : A = true → 2 ≤ a ∧ a ≤ 9) :
    Calls Tryd.prog 48 #[.int .i64 n, .agg #[.int .i64 2, .int .i64 a, .int .i64 b]] w fun e w' => e = .returned (.bool (A && B)) ∧ Below w.heap.size w w' := by
  have LA := Lib.hid fun w => l1In_any a 2 9 w
  rw [hA] at LA
  have LB := Lib.hid fun w => l1In_any b 0 (a - 1) w
  rw [hB] at LB
  cases A with
  | false =>
    clear hA hB ha
    go_enter Tryd.func48, Tryd.ntmps48
    go_wp2_with fail
    refine (LA.out _).mono ?_; rintro e w' ⟨rfl, rfl⟩
    go_wp2_with fail
    go_ret; exact ⟨rfl, ba1 w _⟩
  | true =>
    obtain ⟨a2, a9⟩ := ha rfl
    clear hA hB ha
    go_enter Tryd.func48, Tryd.ntmps48
    go_wp2_with fail
    refine (LA.out _).mono ?_; rintro e w' ⟨rfl, rfl⟩
    go_wp2_with fail
    refine (LB.out _).mono ?_; rintro e w' ⟨rfl, rfl⟩
    go_wp2_with fail
    go_ret; exact ⟨rfl, ba1 w _⟩

theorem pzClue_3 (n : Nat) (a b : Int) (A B : Bool) (X : Nat) (hX : Hid ((2 : Int) ^ n = (X : Int))) (hX1 : 1 ≤ X) (hX2 : X ≤ 128) (w : World) (h1 : 1 ≤ n) (h7 : n ≤ 7) (hA : inB a 0 ((X : Int) - 1) = A) (hB : inB b 0 127 = B) :
    Calls Tryd.prog 48 #[.int .i64 n, .agg #[.int .i64 3, .int .i64 a, .int .i64 b]] w fun e w' => e = .returned (.bool (A && B)) ∧ Below w.heap.size w w' := by
  have LA := Lib.hid fun w => l1In_any a 0 ((X : Int) - 1) w
  rw [hA] at LA
  have LB := Lib.hid fun w => l1In_any b 0 127 w
  rw [hB] at LB
  cases A with
  | false =>
    clear hA hB
    have hX3 := hX.out
    have hw1 : IntKind.i64.wrap (X : Int) = (X : Int) := by rw [IntKind.wrap_i64]; omega
    have hw2 : IntKind.i64.wrap ((X : Int) - 1) = (X : Int) - 1 := by rw [IntKind.wrap_i64]; omega
    go_enter Tryd.func48, Tryd.ntmps48
    go_wp2_with fail
    go_quiet ((go_at_call 46; first | with_reducible exact Calls.quiet_of_same ((LA.out _).mono fun _ _ h => ⟨h.1, h.2.symm⟩)))
    go_wp2_with fail
    go_ret; exact ⟨rfl, by first | exact ba1 w _ | exact (ba1 w _).drew | exact below_drewN (ba1 w _) _⟩
  | true =>
    clear hA hB
    have hX3 := hX.out
    have hw1 : IntKind.i64.wrap (X : Int) = (X : Int) := by rw [IntKind.wrap_i64]; omega
    have hw2 : IntKind.i64.wrap ((X : Int) - 1) = (X : Int) - 1 := by rw [IntKind.wrap_i64]; omega
    go_enter Tryd.func48, Tryd.ntmps48
    go_wp2_with fail
    go_quiet ((go_at_call 46; first | with_reducible exact Calls.quiet_of_same ((LA.out _).mono fun _ _ h => ⟨h.1, h.2.symm⟩) | with_reducible exact Calls.quiet_of_same ((LB.out _).mono fun _ _ h => ⟨h.1, h.2.symm⟩)))
    go_wp2_with fail
    go_ret; exact ⟨rfl, by first | exact ba1 w _ | exact (ba1 w _).drew | exact below_drewN (ba1 w _) _⟩

theorem pzClue_no (n : Nat) (k a b : Int) (w : World) (h0 : (k == 0) = false) (h1 : (k == 1) = false) (h2 : (k == 2) = false) (h3 : (k == 3) = false) (h4 : (k == 4) = false) :
    Calls Tryd.prog 48 #[.int .i64 n, .agg #[.int .i64 k, .int .i64 a, .int .i64 b]] w fun e w' => e = .returned (.bool false) ∧ Below w.heap.size w w' := by
  go_enter Tryd.func48, Tryd.ntmps48
  go_wp2_with fail
  go_ret; exact ⟨rfl, ba1 w _⟩

theorem pzClue_any (n : Nat) (k a b : Int) (w : World) (h1 : 1 ≤ n) (h7 : n ≤ 7) :
    Calls Tryd.prog 48 #[.int .i64 n, .agg #[.int .i64 k, .int .i64 a, .int .i64 b]] w fun e w' => e = .returned (.bool (cluOk n ⟨k, a, b⟩)) ∧ Below w.heap.size w w' := by
  by_cases k0 : k = 0
  · subst k0; exact pzClue_0 n a b _ _ w h1 h7 rfl rfl
  by_cases k1 : k = 1
  · subst k1; exact pzClue_1 n a b _ _ w h1 h7 rfl rfl
  by_cases k2 : k = 2
  · subst k2; exact pzClue_2 n a b _ _ w h1 h7 rfl rfl (fun h => inB_yes h)
  by_cases k3 : k = 3
  · subst k3; exact pzClue_3 n a b _ _ (2 ^ n) (Lib.hid (by simp)) (Nat.two_pow_pos n) (pow7 h7) w h1 h7 rfl rfl
  by_cases k4 : k = 4
  · subst k4; exact pzClue_4 n a b _ _ w h1 h7 rfl rfl
  rw [cluOk_none n k a b k0 k1 k2 k3 k4]
  exact pzClue_no n k a b w (by simpa using k0) (by simpa using k1) (by simpa using k2) (by simpa using k3) (by simpa using k4)

end Go.Proofs.YtmjeilimdnngpaaDoor
