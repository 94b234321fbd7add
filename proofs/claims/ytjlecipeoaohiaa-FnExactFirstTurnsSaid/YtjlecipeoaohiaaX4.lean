/- The program's check of boxes. -/
import Derived.Test.YtjlecipeoaohiaaX3
namespace Go.Proofs.Ytjlecipeoaohiaa
open Go Go.RowKit RM
theorem isBS_any (P S : Int) (w : World) : Calls Try.prog 85 #[.int .i64 P, .int .i64 S] w fun e w' => e = .returned (.bool (szI P S)) ∧ w = w' := by
  rcases szI_cases P S with ⟨h, e⟩ | ⟨p, s, rfl, rfl, h1, h2, h3, h4, e⟩
  · rw [e]
    clear e
    by_cases c1 : P < 1
    · clear h
      go_enter Try.func85, Try.ntmps85
      go_wp2_with fail
      go_ret; exact ⟨rfl, rfl⟩
    by_cases c2 : 6 < P
    · clear h
      go_enter Try.func85, Try.ntmps85
      go_wp2_with fail
      go_ret; exact ⟨rfl, rfl⟩
    by_cases c3 : S < 2
    · clear h
      go_enter Try.func85, Try.ntmps85
      go_wp2_with fail
      go_ret; exact ⟨rfl, rfl⟩
    have c4 : 5 < S := by omega
    clear h
    go_enter Try.func85, Try.ntmps85
    go_wp2_with fail
    go_ret; exact ⟨rfl, rfl⟩
  · rw [e]
    have hpw := Lib.hid (fun k (hk : k ≤ 6) => pow_small h4 k hk)
    have hst := Lib.hid (fun k => Nat.pow_succ (n := s) (m := k))
    have h0 : Hid (s ^ 0 = 1) := Lib.hid rfl
    obtain ⟨PW, hPW⟩ : ∃ f : Nat → Nat, f = fun k => s ^ k := ⟨_, rfl⟩
    have e9 : ∀ k, s ^ k = PW k := fun k => by rw [hPW]
    simp only [e9] at hpw hst h0 ⊢
    clear e e9 hPW
    go_enter Try.func85, Try.ntmps85
    go_wp2_with fail
    go_loop [5, 21] (fun q i => ∃ k : Nat, k ≤ p ∧ i = .int .i64 k ∧ q = .int .i64 (PW k : Nat)) (fun _ i => p - (intOf i).toNat)
    case atStart => exact ⟨0, by omega, rfl, by rw [h0.out]; rfl⟩
    case round =>
      obtain ⟨k, hk, rfl, rfl⟩ := hrel
      by_cases h : k < p
      · have g1 := hpw.out k (by omega)
        have g2 := hpw.out (k + 1) (by omega)
        have g3 := hst.out k
        rw [g3] at g2
        have hc : ((PW k * s : Nat) : Int) = (PW k : Int) * s := by simp
        have hm : (PW k : Int) * s ≤ 15625 := by rw [← hc]; omega
        have hm0 : 0 ≤ (PW k : Int) * s := by rw [← hc]; omega
        have hc2 : Hid (((PW (k + 1) : Nat) : Int) = (PW k : Int) * s) := Lib.hid (by rw [g3, hc])
        clear hc g2 g3
        go_wp2_with fail
        go_round
        case rel => exact ⟨k + 1, by omega, by go_num, vi hc2.out.symm⟩
        all_goals (simp [intOf] <;> omega)
      · obtain rfl : k = p := by omega
        have g1 := hpw.out k (by omega)
        go_wp2_with fail
        go_ret; exact ⟨ret_bool (by rw [Bool.eq_iff_iff, decide_eq_true_eq, decide_eq_true_eq]; omega), rfl⟩
theorem countR_any (p s : Nat) (w : World) (hp : p ≤ 6) (h1 : 1 ≤ s) (hs : s ≤ 5) : Calls Try.prog 87 #[.int .i64 p, .int .i64 s] w fun e w' => e = .returned (.int .i64 ((p * (s - 1) : Nat) : Int)) ∧ w = w' := by
  have hms := mulsub (p := p) (s := s) h1
  have h24 := mul24 hp hs
  have hm0 : 0 ≤ (p : Int) * ((s : Int) - 1) := by rw [hms]; omega
  have hm1 : (p : Int) * ((s : Int) - 1) ≤ 24 := by rw [hms]; omega
  replace hms := Lib.hid hms
  go_enter Try.func87, Try.ntmps87
  go_wp2_with fail
  go_ret; exact ⟨ret_int hms.out, rfl⟩
theorem sideOf_any (c : Int) (w : World) (h0 : 0 ≤ c) (h1 : c ≤ 2147483647) : Calls Try.prog 96 #[.int .i32 c] w fun e w' => e = .returned (.int .i64 (c - 48)) ∧ w' = w := by
  have hw1 : IntKind.i32.wrap (c - 48) = c - 48 := by simp [IntKind.wrap, IntKind.signed, IntKind.bits]; omega
  go_enter Try.func96, Try.ntmps96
  go_wp2_with fail
  go_ret; exact ⟨by first | rfl | simp, rfl⟩
theorem hasSide_any (P S x : Int) (u : Value) (w : World) (b : Bool) (h : (decide (0 ≤ x) && decide (x < S)) = b) : Calls Try.prog 95 #[.agg #[.int .i64 P, .int .i64 S, u], .int .i64 x] w fun e w' => e = .returned (.bool b) ∧ Below w.heap.size w w' := by
  subst h
  by_cases h1 : 0 ≤ x
  · rw [decide_eq_true h1]
    have h2 : decide (0 ≤ x) = true := decide_eq_true h1
    go_enter Try.func95, Try.ntmps95
    go_wp2_with fail
    go_ret; exact ⟨rfl, ba1 w _⟩
  · rw [decide_eq_false h1]
    have h2 : decide (0 ≤ x) = false := decide_eq_false h1
    go_enter Try.func95, Try.ntmps95
    go_wp2_with fail
    go_ret; exact ⟨rfl, ba1 w _⟩
end Go.Proofs.Ytjlecipeoaohiaa
