/- Chapter 2: the rank of a set, both ways. -/
import Derived.Test.YtbgdhiieeegnjadDoorK4
import Derived.Test.YtbgdhiieeegnjadDoorPow
namespace Go.Proofs.YtbgdhiieeegnjadDoor
open Go Go.RowKit RM

/-- a set's rank, or 0 -/
def rsA (n : Int) (l : List Int) : Int := if setB n l then ((num (smP l) : Nat) : Int) else 0
theorem setB_parts' {n : Int} {l : List Int} (h : setB n l = true) : 1 ≤ n ∧ n ≤ 20 ∧ risF n 0 l = true := by
  unfold setB at h
  simp only [Bool.and_eq_true, decide_eq_true_eq] at h
  exact ⟨h.1.1, h.1.2, h.2⟩

theorem iRankS_no (n : Int) (p : Option Addr) (len cap : Nat) (w : World) (hS : Hid (∀ w', w = w' → Calls Tryd.prog 11 #[.int .i64 n, .slice p len cap] w' fun e w'' => e = .returned (.bool false) ∧ w' = w'')) :
    Calls Tryd.prog 6 #[.int .i64 n, .slice p len cap] w fun e w' => QB0 w 0 false e w' := by
  go_enter Tryd.func6, Tryd.ntmps6
  go_wp2_with fail
  refine (hS.out _ rfl).mono ?_; rintro e w' ⟨rfl, rfl⟩
  go_wp2_with fail
  go_ret2; exact ⟨rfl, Below.refl _ _⟩

theorem iRankS_nil (n : Int) (p : Option Addr) (cap : Nat) (w : World) (h1 : 1 ≤ n) (h2 : n ≤ 20) :
    Calls Tryd.prog 6 #[.int .i64 n, .slice p 0 cap] w fun e w' => QB0 w 0 true e w' := by
  have hS := Lib.hid fun w => isSet_nil n p cap w h1 h2
  have hU := Lib.hid fun w => by
    have := unreflected_any 0 w (by omega)
    rw [num_zero] at this; exact this
  go_enter Tryd.func6, Tryd.ntmps6
  go_wp2_with fail
  refine (hS.out _).mono ?_; rintro e w' ⟨rfl, rfl⟩
  go_wp2_with fail
  go_loop [6, 15] (fun b i => i = .int .i64 0 ∧ b = .int .i64 0) (fun _ _ => 0)
  case atStart => exact ⟨rfl, rfl⟩
  case round =>
    obtain ⟨rfl, rfl⟩ := hrel
    go_wp2_with fail
    refine (hU.out _).mono ?_; rintro e w' ⟨rfl, rfl⟩
    go_wp2_with fail
    go_ret2; exact ⟨rfl, Below.refl _ _⟩

theorem iRankS_some (n : Int) (xs : List Int) (b cap len : Nat) (w : World) (h1 : 1 ≤ n) (h2 : n ≤ 20) (hr : Hid (risF n 0 xs = true)) (hlen : len ≤ 20) (hx : Hid (xs.length = len)) (hT : PowOk w)
    (hc : Hid (∀ i (h : i < xs.length), w.cell? ⟨b, i, none⟩ = some (.int .i64 xs[i]))) :
    Calls Tryd.prog 6 #[.int .i64 n, .slice (some ⟨b, 0, none⟩) len cap] w fun e w' => QB0 w ((num (smP xs) : Nat) : Int) true e w' := by
  have hT := Lib.hid hT
  have hS := Lib.hid fun w' (e : w = w') => by
    subst e
    have := isSet_some n xs b cap len w h1 h2 (by omega) hx hc
    rw [hr.out] at this; exact this
  go_enter Tryd.func6, Tryd.ntmps6
  go_wp2_with fail
  refine (hS.out _ rfl).mono ?_; rintro e w' ⟨rfl, rfl⟩
  go_wp2_with fail
  go_loop [6, 15] (fun l i => ∃ k m : Nat, k ≤ len ∧ i = .int .i64 k ∧ l = .int .i64 m ∧ m < 1048576 ∧ Hid (smP (xs.take k) = m)) (fun _ i => len - (intOf i).toNat)
  case atStart => exact ⟨0, 0, by omega, rfl, rfl, by omega, rfl⟩
  case round =>
    obtain ⟨k, m, hk, rfl, rfl, hm, hs⟩ := hrel
    by_cases hlt : k < len
    · have hkx : k < xs.length := by rw [hx.out]; exact hlt
      have hrd := hc.out k hkx
      obtain ⟨hb1, hb2⟩ := ris_bd n xs 0 hr.out xs[k] (List.getElem_mem _)
      obtain ⟨y, hy⟩ : ∃ y : Nat, xs[k] = (y : Int) := ⟨xs[k].toNat, by omega⟩
      have hst := Lib.hid (smP_take xs k hkx)
      have hbd := smP_bd n xs (k + 1) h1 h2 hr.out
      rw [hy, Int.toNat_natCast, hs.out] at hst
      rw [hst.out] at hbd
      rw [hy] at hrd hb1 hb2
      have hcp := hT.out y (by omega)
      have hy41 : (y : Int) < 41 := by omega
      generalize 2 ^ y = P at *
      clear hy
      go_wp2
      go_round
      case rel => exact ⟨k + 1, m + P, by omega, by go_num, by go_num, hbd, hst⟩
      all_goals (simp [intOf] <;> omega)
    · have HF : Hid (smP xs = m) := Lib.hid (by have := hs.out; rw [List.take_of_length_le (by rw [hx.out]; omega)] at this; exact this)
      have hU := Lib.hid fun w => unreflected_any m w (by omega)
      go_wp2_with fail
      refine (hU.out _).mono ?_; rintro e w' ⟨rfl, rfl⟩
      go_wp2_with fail
      go_ret2
      rw [HF.out]; exact ⟨rfl, Below.refl _ _⟩

theorem iRankS_any (n : Int) (v : Value) (xs : List Int) (B : Nat) (w : World) (hn : xs.length ≤ 2000000) (hT : PowOk w) (h : OwnI w B v xs) :
    Calls Tryd.prog 6 #[.int .i64 n, v] w fun e w' => QB0 w (rsA n xs) (setB n xs) e w' := by
  have hS := fun w' (e : w = w') => isSet_any n v xs B w' hn (e ▸ h)
  unfold rsA
  cases hb : setB n xs
  · rw [hb] at hS
    rw [if_neg (by simp)]
    rcases h.form with ⟨rfl, rfl⟩ | ⟨g, cap, rfl, _, _, hc, _, _⟩
    · exact iRankS_no n none 0 0 w (Lib.hid hS)
    · exact iRankS_no n _ _ _ w (Lib.hid hS)
  · rw [if_pos rfl]
    obtain ⟨h1, h2, hr⟩ := setB_parts' hb
    rcases h.form with ⟨rfl, rfl⟩ | ⟨g, cap, rfl, _, _, hc, _, _⟩
    · have := iRankS_nil n none 0 w h1 h2
      rw [smP_nil, num_zero]; exact this
    · have := ris_len n xs 0 (by omega) hr
      exact iRankS_some n xs g cap _ w h1 h2 (Lib.hid hr) (by omega) (Lib.hid rfl) hT (Lib.hid hc)

theorem sRankS_size (n : Int) (p : Option Addr) (len cap : Nat) (w : World) (h : n < 1 ∨ 20 < n) :
    Calls Tryd.prog 4 #[.int .i64 n, .slice p len cap] w fun e w' => QB0 w 0 false e w' := by
  have hS := Lib.hid fun w => nuSize_no n w h
  clear h
  go_enter Tryd.func4, Tryd.ntmps4
  go_wp2_with fail
  refine (hS.out _).mono ?_; rintro e w' ⟨rfl, rfl⟩
  go_wp2_with fail
  go_ret2; exact ⟨rfl, Below.refl _ _⟩

theorem sRankS_no (n : Int) (p : Option Addr) (len cap : Nat) (w : World) (h1 : 1 ≤ n) (h2 : n ≤ 20)
    (hL : Hid (∀ w', w = w' → Calls Tryd.prog 9 #[.slice p len cap, .int .i64 0, .int .i64 (n - 1)] w' fun e w'' => e = .returned (.bool false) ∧ ∃ q, w'' = w'.drewN q)) :
    Calls Tryd.prog 4 #[.int .i64 n, .slice p len cap] w fun e w' => QB0 w 0 false e w' := by
  have hS := Lib.hid fun w => nuSize_yes n w h1 h2
  go_enter Tryd.func4, Tryd.ntmps4
  go_wp2_with fail
  refine (hS.out _).mono ?_; rintro e w' ⟨rfl, rfl⟩
  go_wp2_with fail
  refine (hL.out _ rfl).mono ?_; rintro e w' ⟨rfl, q, rfl⟩
  go_wp2_with fail
  go_ret2; exact ⟨rfl, below_drewN (Below.refl _ _) _⟩

theorem sRankS_nil (n : Int) (p : Option Addr) (cap : Nat) (w : World) (h1 : 1 ≤ n) (h2 : n ≤ 20)
    (hL : Hid (∀ w', w = w' → Calls Tryd.prog 9 #[.slice p 0 cap, .int .i64 0, .int .i64 (n - 1)] w' fun e w'' => e = .returned (.bool true) ∧ ∃ q, w'' = w'.drewN q)) :
    Calls Tryd.prog 4 #[.int .i64 n, .slice p 0 cap] w fun e w' => QB0 w 0 true e w' := by
  have hS := Lib.hid fun w => nuSize_yes n w h1 h2
  have hU := Lib.hid fun w => by
    have := nuBack_any 0 w (by omega)
    rw [num_zero] at this; exact this
  go_enter Tryd.func4, Tryd.ntmps4
  go_wp2_with fail
  refine (hS.out _).mono ?_; rintro e w' ⟨rfl, rfl⟩
  go_wp2_with fail
  refine (hL.out _ rfl).mono ?_; rintro e w' ⟨rfl, q, rfl⟩
  go_wp2_with fail
  go_loop [6, 21] (fun b i => i = .int .i64 0 ∧ b = .int .i64 0) (fun _ _ => 0)
  case atStart => exact ⟨rfl, rfl⟩
  case round =>
    obtain ⟨rfl, rfl⟩ := hrel
    go_wp2_with fail
    refine (hU.out _).mono ?_; rintro e w' ⟨rfl, rfl⟩
    go_wp2_with fail
    go_ret2; exact ⟨rfl, below_drewN (Below.refl _ _) _⟩

theorem sRankS_some (n : Int) (xs : List Int) (b cap len : Nat) (w : World) (h1 : 1 ≤ n) (h2 : n ≤ 20) (hr : Hid (risF n 0 xs = true)) (hlen : len ≤ 20) (hx : Hid (xs.length = len))
    (hc : Hid (∀ i (h : i < xs.length), w.cell? ⟨b, i, none⟩ = some (.int .i64 xs[i])))
    (hL : Hid (∀ w', w = w' → Calls Tryd.prog 9 #[.slice (some ⟨b, 0, none⟩) len cap, .int .i64 0, .int .i64 (n - 1)] w' fun e w'' => e = .returned (.bool true) ∧ ∃ q, w'' = w'.drewN q)) :
    Calls Tryd.prog 4 #[.int .i64 n, .slice (some ⟨b, 0, none⟩) len cap] w fun e w' => QB0 w ((num (smP xs) : Nat) : Int) true e w' := by
  have hS := Lib.hid fun w => nuSize_yes n w h1 h2
  go_enter Tryd.func4, Tryd.ntmps4
  go_wp2_with fail
  refine (hS.out _).mono ?_; rintro e w' ⟨rfl, rfl⟩
  go_wp2_with fail
  refine (hL.out _ rfl).mono ?_; rintro e w' ⟨rfl, q, rfl⟩
  go_wp2_with fail
  go_loop [6, 21] (fun l i => ∃ k m : Nat, k ≤ len ∧ i = .int .i64 k ∧ l = .int .i64 m ∧ m < 1048576 ∧ Hid (smP (xs.take k) = m)) (fun _ i => len - (intOf i).toNat)
  case atStart => exact ⟨0, 0, by omega, rfl, rfl, by omega, rfl⟩
  case round =>
    obtain ⟨k, m, hk, rfl, rfl, hm, hs⟩ := hrel
    by_cases hlt : k < len
    · have hkx : k < xs.length := by rw [hx.out]; exact hlt
      have hrd := hc.out k hkx
      obtain ⟨hb1, hb2⟩ := ris_bd n xs 0 hr.out xs[k] (List.getElem_mem _)
      obtain ⟨y, hy⟩ : ∃ y : Nat, xs[k] = (y : Int) := ⟨xs[k].toNat, by omega⟩
      have hst := Lib.hid (smP_take xs k hkx)
      have hbd := smP_bd n xs (k + 1) h1 h2 hr.out
      rw [hy, Int.toNat_natCast, hs.out] at hst
      rw [hst.out] at hbd
      rw [hy] at hrd hb1 hb2
      have hpw := pow_cast' y
      have hpl : 2 ^ y ≤ 1048576 := Nat.pow_le_pow_right (n := 2) (by omega) (show y ≤ 20 by omega)
      obtain ⟨P, hP⟩ : ∃ P, P = 2 ^ y := ⟨_, rfl⟩
      rw [← hP] at hst hbd hpw hpl
      clear hy hP
      go_wp2
      go_round
      case rel => exact ⟨k + 1, m + P, by omega, by go_num, by go_num, hbd, hst⟩
      all_goals (simp [intOf] <;> omega)
    · have HF : Hid (smP xs = m) := Lib.hid (by have := hs.out; rw [List.take_of_length_le (by rw [hx.out]; omega)] at this; exact this)
      have hU := Lib.hid fun w => nuBack_any m w (by omega)
      go_wp2_with fail
      refine (hU.out _).mono ?_; rintro e w' ⟨rfl, rfl⟩
      go_wp2_with fail
      go_ret2
      rw [HF.out]; exact ⟨rfl, below_drewN (Below.refl _ _) _⟩

theorem sRankS_any (n : Int) (v : Value) (xs : List Int) (B : Nat) (w : World) (hn : xs.length ≤ 2000000) (h : OwnI w B v xs) :
    Calls Tryd.prog 4 #[.int .i64 n, v] w fun e w' => QB0 w (rsA n xs) (setB n xs) e w' := by
  by_cases hs : n < 1 ∨ 20 < n
  · have e1 := setB_size xs hs
    have e2 : rsA n xs = 0 := by unfold rsA; rw [e1]; rfl
    rw [e1, e2]
    rcases h.form with ⟨rfl, rfl⟩ | ⟨g, cap, rfl, _, _, hc, _, _⟩
    · exact sRankS_size n _ _ _ w hs
    · exact sRankS_size n _ _ _ w hs
  · have hL := fun w' (e : w = w') => rising_any n v xs B w' (by omega) (by omega) hn (e ▸ h)
    have e1 := setB_in (n := n) xs (by omega) (by omega)
    rw [← e1] at hL
    cases hb : setB n xs
    · rw [hb] at hL
      have e2 : rsA n xs = 0 := by unfold rsA; rw [hb]; rfl
      rw [e2]
      rcases h.form with ⟨rfl, rfl⟩ | ⟨g, cap, rfl, _, _, hc, _, _⟩
      · exact sRankS_no n none 0 0 w (by omega) (by omega) (Lib.hid hL)
      · exact sRankS_no n _ _ _ w (by omega) (by omega) (Lib.hid hL)
    · rw [hb] at hL
      have e2 : rsA n xs = ((num (smP xs) : Nat) : Int) := by unfold rsA; rw [hb]; rfl
      rw [e2]
      obtain ⟨h1, h2, hr⟩ := setB_parts' hb
      rcases h.form with ⟨rfl, rfl⟩ | ⟨g, cap, rfl, _, _, hc, _, _⟩
      · have := sRankS_nil n none 0 w h1 h2 (Lib.hid hL)
        rw [smP_nil, num_zero]; exact this
      · have := ris_len n xs 0 (by omega) hr
        exact sRankS_some n xs g cap _ w h1 h2 (Lib.hid hr) (by omega) (Lib.hid rfl) (Lib.hid hc) (Lib.hid hL)
end Go.Proofs.YtbgdhiieeegnjadDoor
