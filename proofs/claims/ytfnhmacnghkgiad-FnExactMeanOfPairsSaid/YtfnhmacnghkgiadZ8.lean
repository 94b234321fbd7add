/- Chapter 7: MeanNumber, MeanOfPairs, both ways. -/
import Derived.Test.YtfnhmacnghkgiadZ2
import Derived.Test.YtfnhmacnghkgiadZ0
namespace Go.Proofs.Ytfnhmacnghkgiad
open Go Go.RowKit RM
theorem trow {w a b : World} (h : Below w.heap.size w a) (k : Below a.heap.size a b) : Below w.heap.size w b := h.trans (k.mono h.size)
theorem gN_core (n : Nat) (X : Int) (w : World) (hX : Hid ((2 : Int) ^ n = X)) (h0 : 0 ≤ X) (h1 : X ≤ 1048576) (hn : n ≤ 20) : Calls Try.prog 12 #[.int .i64 n] w fun e w' => e = .returned (.int .i64 (X - 1)) ∧ w = w' := by
  have h2 := hX.out
  go_enter Try.func12, Try.ntmps12
  go_wp2_with fail
  go_ret; exact ⟨rfl, rfl⟩
theorem gN_any (n : Nat) (w : World) (hn : n ≤ 12) : Calls Try.prog 12 #[.int .i64 n] w fun e w' => e = .returned (.int .i64 (((2 ^ n : Nat) : Int) - 1)) ∧ w = w' := by
  have hp := Nat.pow_le_pow_right (n := 2) (by omega) hn
  have hX : (2 : Int) ^ n = ((2 ^ n : Nat) : Int) := by simp
  generalize 2 ^ n = X at *
  exact gN_core n (X : Int) w (Lib.hid hX) (by omega) (by omega) (by omega)
theorem iMN_no (n : Int) (w : World) (hI : Hid (∀ w, Calls Try.prog 10 #[.int .i64 n] w fun e w' => e = .returned (.bool false) ∧ w = w')) :
    Calls Try.prog 6 #[.int .i64 n] w fun e w' => e = .returned (.tuple #[.int .i64 0, .int .i64 0, .bool false]) ∧ Below w.heap.size w w' := by
  go_enter Try.func6, Try.ntmps6
  go_wp2_with fail
  refine (hI.out _).mono ?_; rintro e w' ⟨rfl, rfl⟩
  go_wp2_with fail
  refine bodyPost_ret (v := .tuple #[.int .i64 0, .int .i64 0, .bool false]) ?_ rfl ⟨rfl, Below.refl _ _⟩
  simp [results, Try.results6, go_sem]
theorem iMN_yes (n : Int) (N P Q : Nat) (w : World) (hI : Hid (∀ w, Calls Try.prog 10 #[.int .i64 n] w fun e w' => e = .returned (.bool true) ∧ w = w'))
    (hG : Hid (∀ w, Calls Try.prog 12 #[.int .i64 n] w fun e w' => e = .returned (.int .i64 (N : Int)) ∧ w = w'))
    (hR : Hid (∀ w, Calls Try.prog 11 #[.int .i64 N, .int .i64 2] w fun e w' => e = .returned (RA P Q) ∧ Below w.heap.size w w')) :
    Calls Try.prog 6 #[.int .i64 n] w fun e w' => e = .returned (.tuple #[.int .i64 P, .int .i64 Q, .bool true]) ∧ Below w.heap.size w w' := by
  have hX := Lib.hid fun w => told_any P Q w
  go_enter Try.func6, Try.ntmps6
  go_wp2_with fail
  refine (hI.out _).mono ?_; rintro e w' ⟨rfl, rfl⟩
  go_wp2_with fail
  refine (hG.out _).mono ?_; rintro e w' ⟨rfl, rfl⟩
  go_wp2_with fail
  refine (hR.out _).mono ?_; rintro e w2 ⟨rfl, hb2⟩
  go_wp2_with fail
  refine (hX.out _).mono ?_; rintro e w3 ⟨rfl, hb3⟩
  go_wp2_with fail
  refine bodyPost_ret (v := .tuple #[.int .i64 P, .int .i64 Q, .bool true]) ?_ rfl ⟨rfl, trow hb2 hb3⟩
  simp [results, Try.results6, go_sem]
theorem sMN_no (n : Int) (w : World) (hI : Hid (∀ w, Calls Try.prog 9 #[.int .i64 n] w fun e w' => e = .returned (.bool false) ∧ w = w')) :
    Calls Try.prog 5 #[.int .i64 n] w fun e w' => e = .returned (.tuple #[.int .i64 0, .int .i64 0, .bool false]) ∧ Below w.heap.size w w' := by
  go_enter Try.func5, Try.ntmps5
  go_wp2_with fail
  refine (hI.out _).mono ?_; rintro e w' ⟨rfl, rfl⟩
  go_wp2_with fail
  refine bodyPost_ret (v := .tuple #[.int .i64 0, .int .i64 0, .bool false]) ?_ rfl ⟨rfl, Below.refl _ _⟩
  simp [results, Try.results5, go_sem]
theorem sMN_yes (n : Nat) (X : Int) (w : World) (hn : n ≤ 12) (hX : (2 : Int) ^ n = X) (h1 : 1 ≤ X) (h2 : X ≤ 4096) (hI : Hid (∀ w, Calls Try.prog 9 #[.int .i64 n] w fun e w' => e = .returned (.bool true) ∧ w = w')) :
    Calls Try.prog 5 #[.int .i64 n] w fun e w' => e = .returned (.tuple #[.int .i64 (X - 1), .int .i64 2, .bool true]) ∧ Below w.heap.size w w' := by
  go_enter Try.func5, Try.ntmps5
  go_wp2_with fail
  refine (hI.out _).mono ?_; rintro e w' ⟨rfl, rfl⟩
  go_wp2_with fail
  refine bodyPost_ret (v := .tuple #[.int .i64 (X - 1), .int .i64 2, .bool true]) ?_ rfl ⟨rfl, Below.refl _ _⟩
  simp [results, Try.results5, go_sem]
theorem walk_cases (n : Int) : (decide (1 ≤ n) && decide (n ≤ 12)) = false ∨ ∃ m : Nat, n = (m : Int) ∧ 1 ≤ m ∧ m ≤ 12 := by
  by_cases h : 1 ≤ n ∧ n ≤ 12
  · right; exact ⟨n.toNat, by omega, by omega, by omega⟩
  · left; simp; omega
theorem MeanNumber_both (n : Int) (_ : (Lit.int .i64 n).wf = true) : ∃ (r s : Int) (ok : Bool),
    (∀ w, Calls Try.prog 5 #[.int .i64 n] w fun e w' => e = .returned (.tuple #[.int .i64 r, .int .i64 s, .bool ok]) ∧ Below w.heap.size w w') ∧
    (∀ w, Calls Try.prog 6 #[.int .i64 n] w fun e w' => e = .returned (.tuple #[.int .i64 r, .int .i64 s, .bool ok]) ∧ Below w.heap.size w w') := by
  rcases walk_cases n with h | ⟨m, rfl, h1, h2⟩
  · exact ⟨0, 0, false, fun w => sMN_no n w (Lib.hid fun w => waRings_any n w _ h), fun w => iMN_no n w (Lib.hid fun w => isWalk_any n w _ h)⟩
  · have hp := Nat.pow_le_pow_right (n := 2) (by omega) h2
    have h3 := Nat.two_pow_pos m
    obtain ⟨l1, l2⟩ := mean_low m h1 h2
    refine ⟨((2 ^ m : Nat) : Int) - 1, 2, true, fun w => sMN_yes m _ w h2 (by simp) (by omega) (by omega) (Lib.hid fun w => waRings_any m w _ (by simp; omega)), fun w => ?_⟩
    have := iMN_yes m (2 ^ m - 1) (2 ^ m - 1) 2 w (Lib.hid fun w => isWalk_any m w _ (by simp; omega)) (Lib.hid fun w => by
      have := gN_any m w h2
      rw [show ((2 ^ m : Nat) : Int) - 1 = ((2 ^ m - 1 : Nat) : Int) from by omega] at this; exact this) (Lib.hid fun w => by
      have := ratioOf_any (2 ^ m - 1) 2 w (by omega) (by omega) (by omega)
      rw [l1, l2] at this; exact this)
    rw [show ((2 ^ m : Nat) : Int) - 1 = ((2 ^ m - 1 : Nat) : Int) from by omega]
    exact this
theorem iMP_no (n : Int) (w : World) (hI : Hid (∀ w, Calls Try.prog 10 #[.int .i64 n] w fun e w' => e = .returned (.bool false) ∧ w = w')) :
    Calls Try.prog 8 #[.int .i64 n] w fun e w' => e = .returned (.tuple #[.int .i64 0, .int .i64 0, .bool false]) ∧ Below w.heap.size w w' := by
  go_enter Try.func8, Try.ntmps8
  go_wp2_with fail
  refine (hI.out _).mono ?_; rintro e w' ⟨rfl, rfl⟩
  go_wp2_with fail
  refine bodyPost_ret (v := .tuple #[.int .i64 0, .int .i64 0, .bool false]) ?_ rfl ⟨rfl, Below.refl _ _⟩
  simp [results, Try.results8, go_sem]
theorem iMP_yes (n : Int) (N M P Q : Nat) (T : Nat → Nat) (w : World) (hN : N ≤ 4096) (hM : (N : Int) * N = (M : Int)) (hM2 : M ≤ 16777216)
    (h0 : Hid (T 0 = 0)) (hT : Hid (∀ k, k < N → ∃ q : Nat, T (k + 1) = T k + q ∧ 2 * (k : Int) * ((N : Int) - k) = (q : Int))) (hB : Hid (∀ k, k ≤ N → T k ≤ 137438953472))
    (hI : Hid (∀ w, Calls Try.prog 10 #[.int .i64 n] w fun e w' => e = .returned (.bool true) ∧ w = w'))
    (hG : Hid (∀ w, Calls Try.prog 12 #[.int .i64 n] w fun e w' => e = .returned (.int .i64 ((N : Int) - 1)) ∧ w = w'))
    (hR : Hid (∀ w, Calls Try.prog 11 #[.int .i64 (T N : Nat), .int .i64 M] w fun e w' => e = .returned (RA P Q) ∧ Below w.heap.size w w')) :
    Calls Try.prog 8 #[.int .i64 n] w fun e w' => e = .returned (.tuple #[.int .i64 P, .int .i64 Q, .bool true]) ∧ Below w.heap.size w w' := by
  have hX := Lib.hid fun w => told_any P Q w
  go_enter Try.func8, Try.ntmps8
  go_wp2_with fail
  refine (hI.out _).mono ?_; rintro e w' ⟨rfl, rfl⟩
  go_wp2_with fail
  refine (hG.out _).mono ?_; rintro e w' ⟨rfl, rfl⟩
  go_wp2_with fail
  go_loopw [6, 15] (fun s i wr => ∃ k : Nat, k ≤ N ∧ s = .int .i64 (T k : Nat) ∧ i = .int .i64 k ∧ wr = w) (fun _ i _ => N - (intOf i).toNat)
  case atStart => exact ⟨0, Nat.zero_le _, by rw [h0.out]; rfl, rfl, rfl⟩
  case round =>
    obtain ⟨k, hk, rfl, rfl, rfl⟩ := hrel
    by_cases hlt : k < N
    · obtain ⟨q, hs, hq⟩ := hT.out k hlt
      have b1 := hB.out k hk
      have b2 := hB.out (k + 1) hlt
      generalize hT2 : T (k + 1) = t2 at *
      generalize T k = t1 at *
      replace hT2 := Lib.hid hT2
      have hs' : (t1 : Int) + (q : Int) = (t2 : Int) := by omega
      clear hs
      go_wp2_with fail
      go_roundw
      case rel => exact ⟨k + 1, by omega, vi (by rw [hT2.out]), by go_num, by first | rfl | trivial⟩
      all_goals (simp [intOf] <;> omega)
    · obtain rfl : k = N := by omega
      go_wp2_with fail
      refine (hR.out _).mono ?_; rintro e w2 ⟨rfl, hb2⟩
      go_wp2_with fail
      refine (hX.out _).mono ?_; rintro e w3 ⟨rfl, hb3⟩
      go_wp2_with fail
      refine bodyPost_ret (v := .tuple #[.int .i64 P, .int .i64 Q, .bool true]) ?_ rfl ⟨rfl, trow hb2 hb3⟩
      simp [results, Try.results8, go_sem]
theorem sMP_no (n : Int) (w : World) (hI : Hid (∀ w, Calls Try.prog 9 #[.int .i64 n] w fun e w' => e = .returned (.bool false) ∧ w = w')) :
    Calls Try.prog 7 #[.int .i64 n] w fun e w' => e = .returned (.tuple #[.int .i64 0, .int .i64 0, .bool false]) ∧ Below w.heap.size w w' := by
  go_enter Try.func7, Try.ntmps7
  go_wp2_with fail
  refine (hI.out _).mono ?_; rintro e w' ⟨rfl, rfl⟩
  go_wp2_with fail
  refine bodyPost_ret (v := .tuple #[.int .i64 0, .int .i64 0, .bool false]) ?_ rfl ⟨rfl, Below.refl _ _⟩
  simp [results, Try.results7, go_sem]
theorem sMP_yes (n N M P Q : Nat) (w : World) (hn : n ≤ 12) (hX : (2 : Int) ^ n = (N : Int)) (h1 : 1 ≤ N) (h2 : N ≤ 4096) (hM : (N : Int) * N = (M : Int)) (hM1 : 1 ≤ M) (hM2 : M ≤ 16777216) (hI : Hid (∀ w, Calls Try.prog 9 #[.int .i64 n] w fun e w' => e = .returned (.bool true) ∧ w = w'))
    (hL : Hid (∀ w, Calls Try.prog 14 #[.int .i64 ((M : Int) - 1), .int .i64 (3 * (N : Int))] w fun e w' => e = .returned (.tuple #[.int .i64 P, .int .i64 Q]) ∧ Below w.heap.size w w')) :
    Calls Try.prog 7 #[.int .i64 n] w fun e w' => e = .returned (.tuple #[.int .i64 P, .int .i64 Q, .bool true]) ∧ Below w.heap.size w w' := by
  go_enter Try.func7, Try.ntmps7
  go_wp2_with fail
  refine (hI.out _).mono ?_; rintro e w' ⟨rfl, rfl⟩
  go_wp2_with fail
  refine (hL.out _).mono ?_; rintro e w2 ⟨rfl, hb2⟩
  go_wp2_with fail
  refine bodyPost_ret (v := .tuple #[.int .i64 P, .int .i64 Q, .bool true]) ?_ rfl ⟨rfl, hb2⟩
  simp [results, Try.results7, go_sem]
theorem pairS_le (N : Nat) (h : 1 ≤ N) (hN : N ≤ 4096) (k : Nat) (hk : k ≤ N) : pairS N k ≤ 137438953472 := by
  have h1 := pairS_mono N k N hk
  have h2 := pairS_all N h
  have h3 : N * (N * N - 1) ≤ 4096 * (4096 * 4096) := Nat.mul_le_mul hN (Nat.le_trans (Nat.sub_le _ _) (Nat.mul_le_mul hN hN))
  omega
theorem MeanOfPairs_both (n : Int) (_ : (Lit.int .i64 n).wf = true) : ∃ (r s : Int) (ok : Bool),
    (∀ w, Calls Try.prog 7 #[.int .i64 n] w fun e w' => e = .returned (.tuple #[.int .i64 r, .int .i64 s, .bool ok]) ∧ Below w.heap.size w w') ∧
    (∀ w, Calls Try.prog 8 #[.int .i64 n] w fun e w' => e = .returned (.tuple #[.int .i64 r, .int .i64 s, .bool ok]) ∧ Below w.heap.size w w') := by
  rcases walk_cases n with h | ⟨m, rfl, h1, h2⟩
  · exact ⟨0, 0, false, fun w => sMP_no n w (Lib.hid fun w => waRings_any n w _ h), fun w => iMP_no n w (Lib.hid fun w => isWalk_any n w _ h)⟩
  · have hp := Nat.pow_le_pow_right (n := 2) (by omega) h2
    have h3 := Nat.two_pow_pos m
    obtain ⟨l1, l2⟩ := pair_low m h1 h2
    have hG := fun w => gN_any m w h2
    have hX : (2 : Int) ^ m = ((2 ^ m : Nat) : Int) := by simp
    generalize hYtfnhmacnghkgiad : 2 ^ m = N at *
    have hM2 : N * N ≤ 4096 * 4096 := Nat.mul_le_mul hp hp
    have hM1 : 1 ≤ N * N := Nat.mul_le_mul h3 h3
    have hM : (N : Int) * N = ((N * N : Nat) : Int) := by simp
    refine ⟨_, _, true, fun w => sMP_yes m N (N * N) (lowP (N * N - 1) (3 * N)) (lowQ (N * N - 1) (3 * N)) w h2 hX h3 hp hM hM1 hM2 (Lib.hid fun w => waRings_any m w _ (by simp; omega)) (Lib.hid fun w => ?_), fun w => ?_⟩
    · have := waLow_any (N * N - 1) (3 * N) w (by omega) (by omega) (by omega)
      rw [show ((N * N : Nat) : Int) - 1 = ((N * N - 1 : Nat) : Int) from by omega, show (3 : Int) * (N : Int) = ((3 * N : Nat) : Int) from by omega]
      exact this
    · rw [← l1, ← l2]
      refine iMP_yes m N (N * N) _ _ (pairS N) w hp hM hM2 (Lib.hid rfl) (Lib.hid fun k hk => ⟨2 * k * (N - k), rfl, ?_⟩) (Lib.hid fun k hk => pairS_le N h3 hp k hk) (Lib.hid fun w => isWalk_any m w _ (by simp; omega)) (Lib.hid hG) (Lib.hid fun w => ratioOf_any _ _ w (by have := pairS_le N h3 hp N (Nat.le_refl _); omega) (by omega) (by omega))
      rw [Int.natCast_mul, Int.natCast_mul, Int.ofNat_sub (by omega)]
      rfl
end Go.Proofs.Ytfnhmacnghkgiad
