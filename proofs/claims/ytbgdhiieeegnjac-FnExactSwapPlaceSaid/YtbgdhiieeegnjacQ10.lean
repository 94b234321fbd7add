/- Chapter 2: the list with a rank in the order by swaps: both. -/
import Derived.Test.YtbgdhiieeegnjacQ8
namespace Go.Proofs.Ytbgdhiieeegnjac
open Go Go.RowKit RM

theorem nuSw_any (s : Nat) : ∀ (r : Nat) (w : World), s ≤ 10 → r < fac s → Calls Try.prog 51 #[.int .i64 s, .int .i64 r] w fun e w' => RetW w (swL s r) e w' := by
  induction s with
  | zero => intro r w _ _; exact nuSw_zero _ w
  | succ s ih =>
    intro r w hs hr
    have hq := fac_div hr
    have hm := Nat.mod_lt r (show 0 < s + 1 by omega)
    have hf := (fac_le (s := s) (by omega)).2
    have hf2 := (fac_le (s := s + 1) (by omega)).2
    by_cases h0 : s = 0
    · subst h0
      obtain rfl : r = 0 := by have : fac (0 + 1) = 1 := rfl
                               omega
      exact nuSw_one w
    · rw [swL_ins, show ((s + 1 : Nat) : Int) = (s : Int) + 1 from by omega]
      refine nuSw_step s r (r / (s + 1)) (r % (s + 1)) _ w (by omega) (by omega) (by omega) ?_ ?_ (by omega) hm (putAt s r) (putAt_le s r) (Lib.hid (swL_len s _)) (Lib.hid ?_) (Lib.hid fun w => ih _ w (by omega) hq)
      · rw [Int.natCast_ediv]; congr 1
      · rw [Int.natCast_emod]; congr 1
      · unfold putAt
        by_cases e : r / (s + 1) % 2 = 0
        · left; rw [if_pos e]; generalize r / (s + 1) = q at *; generalize r % (s + 1) = t at *; constructor <;> omega
        · right; rw [if_neg e]; generalize r / (s + 1) = q at *; generalize r % (s + 1) = t at *; constructor <;> omega

theorem iSwA_size (n r : Int) (w : World) (h : n < 1 ∨ 10 < n) : Calls Try.prog 25 #[.int .i64 n, .int .i64 r] w fun e w' => RetI w [] false e w' := by
  have hS := Lib.hid fun w => isSw_no n w h
  clear h
  go_enter Try.func25, Try.ntmps25
  go_wp2_with fail
  refine (hS.out _).mono ?_; rintro e w' ⟨rfl, rfl⟩
  go_wp2_with fail
  go_ret2; exact ⟨_, rfl, OwnI.nil _ _, Below.refl _ _⟩

theorem iSwA_rank (s P : Nat) (r : Int) (w : World) (h1 : 1 ≤ s) (h2 : s ≤ 10) (hP : fac s = P) (h : r < 0 ∨ (P : Int) ≤ r) : Calls Try.prog 25 #[.int .i64 s, .int .i64 r] w fun e w' => RetI w [] false e w' := by
  have hS := Lib.hid fun w => isSw_yes (s : Int) w (by omega) (by omega)
  have hO := Lib.hid fun w => orders_any s w h2
  rw [hP] at hO
  have hR := Lib.hid fun w => isRank_no r P w h
  clear h hP
  go_enter Try.func25, Try.ntmps25
  go_wp2_with fail
  refine (hS.out _).mono ?_; rintro e w' ⟨rfl, rfl⟩
  go_wp2_with fail
  refine (hO.out _).mono ?_; rintro e w' ⟨rfl, rfl⟩
  go_wp2_with fail
  refine (hR.out _).mono ?_; rintro e w' ⟨rfl, rfl⟩
  go_wp2_with fail
  go_ret2; exact ⟨_, rfl, OwnI.nil _ _, Below.refl _ _⟩

theorem iSwA_yes (s P m : Nat) (w : World) (h1 : 1 ≤ s) (h2 : s ≤ 10) (hP : fac s = P) (h : m < P) : Calls Try.prog 25 #[.int .i64 s, .int .i64 m] w fun e w' => RetI w (swL s m) true e w' := by
  have hS := Lib.hid fun w => isSw_yes (s : Int) w (by omega) (by omega)
  have hO := Lib.hid fun w => orders_any s w h2
  have hf := (fac_le (s := s) h2).2
  rw [hP] at hO hf
  have hR := Lib.hid fun w => isRank_yes (m : Int) P w (by omega) (by omega)
  have hL := Lib.hid fun w => swapped_any s m w h2 (by omega)
  clear h hP
  generalize swL s m = xs at *
  go_enter Try.func25, Try.ntmps25
  go_wp2_with fail
  refine (hS.out _).mono ?_; rintro e w' ⟨rfl, rfl⟩
  go_wp2_with fail
  refine (hO.out _).mono ?_; rintro e w' ⟨rfl, rfl⟩
  go_wp2_with fail
  refine (hR.out _).mono ?_; rintro e w' ⟨rfl, rfl⟩
  go_wp2_with fail
  refine (hL.out _).mono ?_; rintro e w' ⟨v, rfl, ho, hb⟩
  have ho := Lib.hid ho
  have hb := Lib.hid hb
  go_wp2_with fail
  go_ret2; exact ⟨_, rfl, ho.out, hb.out⟩

theorem sSwA_size (n r : Int) (w : World) (h : n < 1 ∨ 10 < n) : Calls Try.prog 24 #[.int .i64 n, .int .i64 r] w fun e w' => RetI w [] false e w' := by
  have hS := Lib.hid fun w => l1In_no n 1 10 w h
  clear h
  go_enter Try.func24, Try.ntmps24
  go_wp2_with fail
  refine (hS.out _).mono ?_; rintro e w' ⟨rfl, rfl⟩
  go_wp2_with fail
  go_ret2; exact ⟨_, rfl, OwnI.nil _ _, Below.refl _ _⟩

theorem sSwA_rank (s P : Nat) (r : Int) (w : World) (h1 : 1 ≤ s) (h2 : s ≤ 10) (hP : fac s = P) (h : r < 0 ∨ (P : Int) ≤ r) : Calls Try.prog 24 #[.int .i64 s, .int .i64 r] w fun e w' => RetI w [] false e w' := by
  have hS := Lib.hid fun w => l1In_yes (s : Int) 1 10 w (by omega) (by omega)
  have hO := Lib.hid fun w => nuLists_any s w h1 h2
  have hf := (fac_le (s := s) h2).2
  rw [hP] at hO hf
  have hR := Lib.hid fun w => l1In_no r 0 ((P : Int) - 1) w (by omega)
  clear h hP
  go_enter Try.func24, Try.ntmps24
  go_wp2_with fail
  refine (hS.out _).mono ?_; rintro e w' ⟨rfl, rfl⟩
  go_wp2_with fail
  refine (hO.out _).mono ?_; rintro e w' ⟨rfl, rfl⟩
  go_wp2_with fail
  refine (hR.out _).mono ?_; rintro e w' ⟨rfl, rfl⟩
  go_wp2_with fail
  go_ret2; exact ⟨_, rfl, OwnI.nil _ _, Below.refl _ _⟩

theorem sSwA_yes (s P m : Nat) (w : World) (h1 : 1 ≤ s) (h2 : s ≤ 10) (hP : fac s = P) (h : m < P) : Calls Try.prog 24 #[.int .i64 s, .int .i64 m] w fun e w' => RetI w (swL s m) true e w' := by
  have hS := Lib.hid fun w => l1In_yes (s : Int) 1 10 w (by omega) (by omega)
  have hO := Lib.hid fun w => nuLists_any s w h1 h2
  have hf := (fac_le (s := s) h2).2
  rw [hP] at hO hf
  have hR := Lib.hid fun w => l1In_yes (m : Int) 0 ((P : Int) - 1) w (by omega) (by omega)
  have hL := Lib.hid fun w => nuSw_any s m w h2 (by omega)
  clear h hP
  generalize swL s m = xs at *
  go_enter Try.func24, Try.ntmps24
  go_wp2_with fail
  refine (hS.out _).mono ?_; rintro e w' ⟨rfl, rfl⟩
  go_wp2_with fail
  refine (hO.out _).mono ?_; rintro e w' ⟨rfl, rfl⟩
  go_wp2_with fail
  refine (hR.out _).mono ?_; rintro e w' ⟨rfl, rfl⟩
  go_wp2_with fail
  refine (hL.out _).mono ?_; rintro e w' ⟨v, rfl, ho, hb⟩
  have ho := Lib.hid ho
  have hb := Lib.hid hb
  go_wp2_with fail
  go_ret2; exact ⟨_, rfl, ho.out, hb.out⟩

theorem swapped_both (n r : Int) : ∃ xs ok, (∀ w, Calls Try.prog 24 #[.int .i64 n, .int .i64 r] w fun e w' => RetI w xs ok e w') ∧ (∀ w, Calls Try.prog 25 #[.int .i64 n, .int .i64 r] w fun e w' => RetI w xs ok e w') ∧ xs.length ≤ 20 := by
  by_cases hn : n < 1 ∨ 10 < n
  · exact ⟨[], false, fun w => sSwA_size n r w hn, fun w => iSwA_size n r w hn, by simp⟩
  · obtain ⟨s, rfl⟩ : ∃ s : Nat, n = s := ⟨n.toNat, by omega⟩
    by_cases hr : r < 0 ∨ ((fac s : Nat) : Int) ≤ r
    · exact ⟨[], false, fun w => sSwA_rank s _ r w (by omega) (by omega) rfl hr, fun w => iSwA_rank s _ r w (by omega) (by omega) rfl hr, by simp⟩
    · obtain ⟨m, rfl⟩ : ∃ m : Nat, r = m := ⟨r.toNat, by omega⟩
      exact ⟨swL s m, true, fun w => sSwA_yes s _ m w (by omega) (by omega) rfl (by omega), fun w => iSwA_yes s _ m w (by omega) (by omega) rfl (by omega), by rw [swL_len]; omega⟩
end Go.Proofs.Ytbgdhiieeegnjac
