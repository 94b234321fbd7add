/- Chapter 2: the set with a rank, both ways. -/
import Derived.Test.YtbgdhiieeegnjacDoorK3
import Derived.Test.YtbgdhiieeegnjacDoorPow
import Derived.Deep.QuietTactic
import Derived.BigQuiet
namespace Go.Proofs.YtbgdhiieeegnjacDoor
open Go Go.RowKit RM

/-- a digit by the table, in the walk's words -/
theorem tab_digit (g k : Nat) (hk : k < 41) : ((g : Int).tdiv ((2 ^ k : Nat) : Int)) = ((g / 2 ^ k : Nat) : Int) ∧ (((g / 2 ^ k : Nat) : Int)).tmod 2 = ((bitN g k : Nat) : Int) := by
  constructor
  · rw [Int.tdiv_eq_ediv_of_nonneg (Int.natCast_nonneg _), Int.natCast_ediv]
  · rw [Int.tmod_eq_emod_of_nonneg (Int.natCast_nonneg _)]
    have := div_bit g k
    omega

/-- which sizes and ranks; the answer -/
def stB (n r : Int) : Bool := decide (1 ≤ n) && decide (n ≤ 20) && (decide (0 ≤ r) && decide (r < ((2 ^ n.toNat : Nat) : Int)))
def stA (n r : Int) : List Int := if stB n r then setL n.toNat (gray r.toNat) else []
theorem st_cases (n r : Int) : ((n < 1 ∨ 20 < n) ∧ stB n r = false ∧ stA n r = []) ∨
    (∃ s : Nat, n = (s : Int) ∧ 1 ≤ s ∧ s ≤ 20 ∧ (r < 0 ∨ ((2 ^ s : Nat) : Int) ≤ r) ∧ stB n r = false ∧ stA n r = []) ∨
    (∃ s m : Nat, n = (s : Int) ∧ r = (m : Int) ∧ 1 ≤ s ∧ s ≤ 20 ∧ m < 2 ^ s ∧ stB n r = true ∧ stA n r = setL s (gray m)) := by
  by_cases h : n < 1 ∨ 20 < n
  · left
    have e : stB n r = false := by
      unfold stB
      have : (decide (1 ≤ n) && decide (n ≤ 20)) = false := by simp; omega
      rw [this]; rfl
    exact ⟨h, e, by unfold stA; rw [e]; rfl⟩
  · right
    obtain ⟨s, rfl⟩ : ∃ s : Nat, n = (s : Int) := ⟨n.toNat, by omega⟩
    have e0 : (decide ((1 : Int) ≤ (s : Int)) && decide ((s : Int) ≤ 20)) = true := by simp; omega
    by_cases hr : r < 0 ∨ ((2 ^ s : Nat) : Int) ≤ r
    · left
      have e : stB (s : Int) r = false := by
        unfold stB; rw [e0, Int.toNat_natCast, Bool.true_and]
        generalize 2 ^ s = X at *
        simp; omega
      exact ⟨s, rfl, by omega, by omega, hr, e, by unfold stA; rw [e]; rfl⟩
    · right
      have e : stB (s : Int) r = true := by
        unfold stB; rw [e0, Int.toNat_natCast, Bool.true_and]
        generalize 2 ^ s = X at *
        simp; omega
      refine ⟨s, r.toNat, rfl, by omega, by omega, by omega, ?_, e, ?_⟩
      · generalize 2 ^ s = X at *; omega
      · unfold stA; rw [e]; simp

theorem iSet_no (n r : Int) (w : World) (h : n < 1 ∨ 20 < n) : Calls Tryd.prog 11 #[.int .i64 n, .int .i64 r] w fun e w' => RetI w [] false e w' := by
  have hS := Lib.hid fun w => isSize_no n w h
  clear h
  go_enter Tryd.func11, Tryd.ntmps11
  go_wp2_with fail
  refine (hS.out _).mono ?_; rintro e w' ⟨rfl, rfl⟩
  go_wp2_with fail
  go_ret2; exact ⟨_, rfl, OwnI.nil _ _, Below.refl _ _⟩

theorem iSet_norank (s : Nat) (r : Int) (w : World) (h1 : 1 ≤ s) (h2 : s ≤ 20) (h : r < 0 ∨ ((2 ^ s : Nat) : Int) ≤ r) (hT : PowOk w) : Calls Tryd.prog 11 #[.int .i64 s, .int .i64 r] w fun e w' => RetI w [] false e w' := by
  have hS := Lib.hid fun w => isSize_yes (s : Int) w (by omega) (by omega)
  have hR := Lib.hid fun w => isRank_no r ((2 ^ s : Nat) : Int) w h
  have hc := hT s (by omega)
  generalize ((2 ^ s : Nat) : Int) = X at *
  clear h hT
  go_enter Tryd.func11, Tryd.ntmps11
  go_wp2_with fail
  refine (hS.out _).mono ?_; rintro e w' ⟨rfl, rfl⟩
  go_wp2_with fail
  refine (hR.out _).mono ?_; rintro e w' ⟨rfl, rfl⟩
  go_wp2_with fail
  go_ret2; exact ⟨_, rfl, OwnI.nil _ _, Below.refl _ _⟩

theorem iSet_yes (s m : Nat) (w : World) (h1 : 1 ≤ s) (h2 : s ≤ 20) (h : m < 2 ^ s) (hT : PowOk w) : Calls Tryd.prog 11 #[.int .i64 s, .int .i64 m] w fun e w' => RetI w (setL s (gray m)) true e w' := by
  have hS := Lib.hid fun w => isSize_yes (s : Int) w (by omega) (by omega)
  have hR := Lib.hid fun w => isRank_yes (m : Int) ((2 ^ s : Nat) : Int) w (by omega) (by generalize 2 ^ s = X at *; omega)
  have hc := hT s (by omega)
  have hp := pow40 (j := s) (by omega)
  have hm : m < 1099511627776 := by generalize 2 ^ s = X at *; omega
  have hG := Lib.hid fun w => (reflected_any m w hm).mono fun e w' (h : e = .returned (.int .i64 ((gray m : Nat) : Int)) ∧ w = w') => (⟨h.1, h.2.symm⟩ : e = .returned (.int .i64 ((gray m : Nat) : Int)) ∧ w' = w)
  have hT := Lib.hid hT
  generalize ((2 ^ s : Nat) : Int) = X at *
  clear h hp
  have hgl := gray40 m hm
  generalize gray m = g at *
  go_enter Tryd.func11, Tryd.ntmps11
  go_wp2_with fail
  refine (hS.out _).mono ?_; rintro e w' ⟨rfl, rfl⟩
  go_wp2_with fail
  refine (hR.out _).mono ?_; rintro e w' ⟨rfl, rfl⟩
  go_wp2_with fail
  clear hc hR
  go_loopw [6, 20] (fun o i wr => ∃ k : Nat, k ≤ s ∧ i = .int .i64 k ∧ Hid (OwnI wr w.heap.size o (setL k g)) ∧ Hid (Below w.heap.size w wr)) (fun _ i _ => s - (intOf i).toNat)
  case atStart => exact ⟨0, by omega, rfl, OwnI.nil _ _, Below.refl _ _⟩
  case round =>
    obtain ⟨k, hk, rfl, ho, hb⟩ := hrel
    by_cases hlt : k < s
    · have hk41 : (k : Int) < 41 := by omega
      have hc := (hT.out.below hb.out) k (by omega)
      obtain ⟨e1, e2⟩ := tab_digit g k (by omega)
      have hp := pow40 (j := k) (by omega)
      have hz : (((2 ^ k : Nat) : Int) == 0) = false := by generalize 2 ^ k = X at *; simp; omega
      have hlen : Hid ((setL k g).length ≤ 2000000) := Lib.hid (by have := setL_len k g; omega)
      have hz2 : ¬ (((2 ^ k : Nat) : Int) = 0) := by generalize 2 ^ k = X at *; omega
      have hy1 : (1 : Int) ≤ ((2 ^ k : Nat) : Int) := by generalize 2 ^ k = X at *; omega
      have hy2 : ((2 ^ k : Nat) : Int) ≤ 1099511627776 := by generalize 2 ^ k = X at *; omega
      have hd1 : (0 : Int) ≤ ((g / 2 ^ k : Nat) : Int) := Int.natCast_nonneg _
      have hd2 : ((g / 2 ^ k : Nat) : Int) ≤ 1099511627776 := by
        have := Nat.div_le_self g (2 ^ k)
        generalize g / 2 ^ k = X at *; omega
      generalize ((2 ^ k : Nat) : Int) = Y at *
      generalize ((g / 2 ^ k : Nat) : Int) = D at *
      clear hp
      cases hbit : g.testBit k
      · have HN := Lib.hid (setL_off k g hbit)
        rw [bitN_off hbit] at e2
        clear hbit
        go_wp2_with fail
        go_quiet ((go_at_call 23; refine Calls.quiet_of_same (hG.out _)))
        go_wp2_with fail
        go_roundw
        case rel => exact ⟨k + 1, by omega, by go_num, Lib.hid (by rw [HN.out]; exact ho.out.drewN _), Lib.hid (below_drewN hb.out _)⟩
        all_goals (simp [intOf] <;> omega)
      · have HY := Lib.hid (setL_one k g hbit)
        rw [bitN_one hbit] at e2
        clear hbit
        go_wp2_with fail
        go_quiet ((go_at_call 23; refine Calls.quiet_of_same (hG.out _)))
        obtain ⟨W1, hW1⟩ : ∃ W1, W1 = wr.drewN nq := ⟨_, rfl⟩
        rw [← hW1]
        have ho1 : Hid (OwnI W1 w.heap.size _ (setL k g)) := Lib.hid (by rw [hW1]; exact ho.out.drewN nq)
        have hb1 : Hid (Below w.heap.size w W1) := Lib.hid (by rw [hW1]; exact below_drewN hb.out nq)
        clear hW1
        go_wp2_with (at_builtin; refine app_int _ rfl _ _ rfl w.heap.size _ _ rfl (ho1.out.alloc _) W1.heap.size _ rfl (by simp; rfl) hlen.out (by have := hb1.out.size; simp; omega) ?_; intro v' w' ho' hg')
        have ho2 := Lib.hid ho'
        have hg2 := Lib.hid hg'
        clear ho' hg'
        go_roundw
        case rel =>
          refine ⟨k + 1, by omega, by go_num, Lib.hid ?_, Lib.hid ?_⟩
          · rw [HY.out]; exact ho2.out
          · exact bel_own (hb1.out.alloc hb1.out.size _) (ho1.out.alloc _) hg2.out (by have := hb1.out.size; simp; omega)
        all_goals (simp [intOf] <;> omega)
    · obtain rfl : k = s := by omega
      go_wp2_with fail
      go_ret2
      exact ⟨_, rfl, ho.out, hb.out⟩

theorem sSet_no (n r : Int) (w : World) (h : n < 1 ∨ 20 < n) : Calls Tryd.prog 10 #[.int .i64 n, .int .i64 r] w fun e w' => RetI w [] false e w' := by
  have hS := Lib.hid fun w => nuSize_no n w h
  clear h
  go_enter Tryd.func10, Tryd.ntmps10
  go_wp2_with fail
  refine (hS.out _).mono ?_; rintro e w' ⟨rfl, rfl⟩
  go_wp2_with fail
  go_ret2; exact ⟨_, rfl, OwnI.nil _ _, Below.refl _ _⟩

theorem sSet_norank (s X : Nat) (r : Int) (w : World) (h1 : 1 ≤ s) (h2 : s ≤ 20) (hX : (2 : Int) ^ s = (X : Int)) (b1 : 1 ≤ X) (b2 : X ≤ 1048576) (h : r < 0 ∨ (X : Int) ≤ r) : Calls Tryd.prog 10 #[.int .i64 s, .int .i64 r] w fun e w' => RetI w [] false e w' := by
  have hS := Lib.hid fun w => nuSize_yes (s : Int) w (by omega) (by omega)
  have hR := Lib.hid fun w => l1In_no r 0 ((X : Int) - 1) w (by omega)
  clear h
  go_enter Tryd.func10, Tryd.ntmps10
  go_wp2_with fail
  refine (hS.out _).mono ?_; rintro e w' ⟨rfl, rfl⟩
  go_wp2_with fail
  refine (hR.out _).mono ?_; rintro e w' ⟨rfl, rfl⟩
  go_wp2_with fail
  go_ret2; exact ⟨_, rfl, OwnI.nil _ _, Below.refl _ _⟩

theorem sSet_yes (s m X : Nat) (w : World) (h1 : 1 ≤ s) (h2 : s ≤ 20) (hX : (2 : Int) ^ s = (X : Int)) (b1 : 1 ≤ X) (b2 : X ≤ 1048576) (h : m < X) : Calls Tryd.prog 10 #[.int .i64 s, .int .i64 m] w fun e w' => RetI w (setL s (gray m)) true e w' := by
  have hS := Lib.hid fun w => nuSize_yes (s : Int) w (by omega) (by omega)
  have hR := Lib.hid fun w => l1In_yes (m : Int) 0 ((X : Int) - 1) w (by omega) (by omega)
  have hG := Lib.hid fun w => nuOf_any m w (by omega)
  have hgl := gray40 m (by omega)
  generalize gray m = g at *
  go_enter Tryd.func10, Tryd.ntmps10
  go_wp2_with fail
  refine (hS.out _).mono ?_; rintro e w' ⟨rfl, rfl⟩
  go_wp2_with fail
  refine (hR.out _).mono ?_; rintro e w' ⟨rfl, rfl⟩
  go_wp2_with fail
  clear hX hR
  go_loopw [6, 7] (fun o i wr => ∃ k : Nat, k ≤ s ∧ i = .int .i64 k ∧ Hid (OwnI wr w.heap.size o (setL k g)) ∧ Hid (Below w.heap.size w wr)) (fun _ i _ => s - (intOf i).toNat)
  case atStart => exact ⟨0, by omega, rfl, OwnI.nil _ _, Below.refl _ _⟩
  case round =>
    obtain ⟨k, hk, rfl, ho, hb⟩ := hrel
    by_cases hlt : k < s
    · have hbit := and_bit40 g k hgl
      have hlen : Hid ((setL k g).length ≤ 2000000) := Lib.hid (by have := setL_len k g; omega)
      cases hb1 : g.testBit k
      · have HN := Lib.hid (setL_off k g hb1)
        rw [bitN_off hb1] at hbit
        clear hb1
        go_wp2_with fail
        refine (hG.out _).mono ?_; rintro e w' ⟨rfl, rfl⟩
        go_wp2_with fail
        go_roundw
        case rel => exact ⟨k + 1, by omega, by go_num, Lib.hid (by rw [HN.out]; exact ho.out), hb⟩
        all_goals (simp [intOf] <;> omega)
      · have HY := Lib.hid (setL_one k g hb1)
        rw [bitN_one hb1] at hbit
        clear hb1
        go_wp2_with fail
        refine (hG.out _).mono ?_; rintro e w' ⟨rfl, rfl⟩
        go_wp2_with (at_builtin; refine app_int _ rfl _ _ rfl w.heap.size _ _ rfl (ho.out.alloc _) wr.heap.size _ rfl (by simp; rfl) hlen.out (by have := hb.out.size; simp; omega) ?_; intro v' w' ho' hg')
        have ho2 := Lib.hid ho'
        have hg2 := Lib.hid hg'
        clear ho' hg'
        go_roundw
        case rel =>
          refine ⟨k + 1, by omega, by go_num, Lib.hid ?_, Lib.hid ?_⟩
          · rw [HY.out]; exact ho2.out
          · exact bel_own (hb.out.alloc hb.out.size _) (ho.out.alloc _) hg2.out (by have := hb.out.size; simp; omega)
        all_goals (simp [intOf] <;> omega)
    · obtain rfl : k = s := by omega
      go_wp2_with fail
      go_ret2
      exact ⟨_, rfl, ho.out, hb.out⟩

theorem set_both (n r : Int) : (∀ w, Calls Tryd.prog 10 #[.int .i64 n, .int .i64 r] w fun e w' => RetI w (stA n r) (stB n r) e w') ∧ (∀ w, PowOk w → Calls Tryd.prog 11 #[.int .i64 n, .int .i64 r] w fun e w' => RetI w (stA n r) (stB n r) e w') ∧ (stA n r).length ≤ 20 := by
  rcases st_cases n r with ⟨h, e1, e2⟩ | ⟨s, rfl, h1, h2, hr, e1, e2⟩ | ⟨s, m, rfl, rfl, h1, h2, hr, e1, e2⟩
  · rw [e1, e2]; exact ⟨fun w => sSet_no n r w h, fun w _ => iSet_no n r w h, by simp⟩
  · rw [e1, e2]
    have hX := pow_cast' s
    have hb : 2 ^ s ≤ 1048576 := Nat.pow_le_pow_right (n := 2) (by omega) h2
    exact ⟨fun w => sSet_norank s (2 ^ s) r w h1 h2 hX (Nat.two_pow_pos s) hb hr, fun w hw => iSet_norank s r w h1 h2 hr hw, by simp⟩
  · rw [e1, e2]
    have hX := pow_cast' s
    have hb : 2 ^ s ≤ 1048576 := Nat.pow_le_pow_right (n := 2) (by omega) h2
    exact ⟨fun w => sSet_yes s m (2 ^ s) w h1 h2 hX (Nat.two_pow_pos s) hb hr, fun w hw => iSet_yes s m w h1 h2 hr hw, Nat.le_trans (setL_len s _) h2⟩
end Go.Proofs.YtbgdhiieeegnjacDoor
