/- Chapter 7: LikeliestAfter: both ways together. -/
import Derived.Test.YtfnhmacnghkgiaeDoorZK
namespace Go.Proofs.YtfnhmacnghkgiaeDoor
open Go Go.RowKit RM
set_option linter.unusedVariables false
theorem LikeliestAfter_both (a : ByteArray) (k : Int) (ha : a.size ≤ maxLen) (_ : (Lit.int .i64 k).wf = true) : ∃ (r : List ByteArray) (ok : Bool), r.length ≤ 10000 ∧
    (∀ w, Calls Tryd.prog 17 #[.string a, .int .i64 k] w fun e w' => RetT w r ok e w') ∧
    (∀ w, TabOk w → Calls Tryd.prog 18 #[.string a, .int .i64 k] w fun e w' => RetT w r ok e w') := by
  have hsm := fun w => waSmall_any a a k w ha ha
  cases h : smB a a k
  · rw [h] at hsm
    refine ⟨[], false, by simp, fun w => sLA_no a k w (Lib.hid hsm), fun w hT => ?_⟩
    cases h2 : walkB a a
    · exact iLA_no a k 0 0 0 false w hT (Lib.hid fun w hw => twb_any a a w ha ha h2 hw) (Lib.hid fun e => by cases e)
    · obtain ⟨n, x, y, h1, h2', h3, h4, rfl, hy⟩ := walk_of a a h2
      obtain ⟨-, rfl⟩ := ST_inj h3 h4 hy
      unfold smB at h
      rw [h2, Bool.true_and] at h
      exact iLA_no _ k n x x true w hT (Lib.hid fun w hw => twb_ST n x x w h1 h2' h3 h4 hw) (Lib.hid fun _ w => isLen_any k w _ h)
  · rw [h] at hsm
    obtain ⟨n, x, y, N, h1, h2, h3, h4, h5, rfl, hy, rfl⟩ := sm_cases a a k h
    obtain ⟨-, rfl⟩ := ST_inj h3 h4 hy
    have hp := Nat.pow_le_pow_right (n := 2) (by omega) h2
    have hp2 := Nat.pow_le_pow_right (n := 2) (by omega) h1
    have hX := num_lt n x h3
    have hww := fun w => waChances_any (num x) (2 ^ n - 1) N w (by omega) (by omega) (by omega) h5
    have hwf := fun w => walksFrom_any n x N 2 w h1 h2 h3 h5 (by omega)
    have hlen := win_lt (2 ^ n - 1) (num x) N (by omega) (by omega)
    have hbig := fun i => wk_le (2 ^ n - 1) 2 (num x) (by omega) (by omega) (by omega) N i
    have hsup := fun i => wk_sup (2 ^ n - 1) 2 (num x) (by omega) N i
    obtain ⟨i0, hi0, hpos⟩ := wk_some (2 ^ n - 1) 2 (num x) (by omega) (by omega) (by omega) N
    obtain ⟨hz1, hz2⟩ := pow40 N h5
    have hZ : (2 : Int) ^ N = ((2 ^ N : Nat) : Int) := by simp
    have hPn : (2 : Int) ^ n = ((2 ^ n : Nat) : Int) := by simp
    have hPm : ((2 ^ n : Nat) : Int) - 1 = ((2 ^ n - 1 : Nat) : Int) := by omega
    generalize 2 ^ N = Z at *
    generalize hf : wk (2 ^ n - 1) 2 (num x) N = f at *
    obtain ⟨L, hL⟩ : ∃ L, L = 2 ^ n - 1 := ⟨_, rfl⟩
    rw [← hL] at hww hwf hlen hi0 hPm hsup
    have hlo1 : loW (num x) N ≤ num x := by unfold loW; omega
    have hhi1 : hiW L (num x) N ≤ L := by unfold hiW; omega
    have hhi2 : num x ≤ hiW L (num x) N := by unfold hiW; omega
    have hout : ∀ i, (i < loW (num x) N ∨ loW (num x) N + (hiW L (num x) N - loW (num x) N + 1) ≤ i) → f i = 0 := fun i hi => hsup i (by unfold loW hiW at *; omega)
    have hfb : ∀ i, f i ≤ 1099511627776 := fun i => Nat.le_trans (hbig i) hz2
    obtain ⟨m, hm⟩ : ∃ m, m = hiW L (num x) N - loW (num x) N + 1 := ⟨_, rfl⟩
    rw [← hm] at hwf hlen hout
    obtain ⟨lo, hlo⟩ : ∃ lo, lo = loW (num x) N := ⟨_, rfl⟩
    rw [← hlo] at hwf hout hlo1
    have hMX : 0 < moN f (L + 1) := Nat.lt_of_lt_of_le hpos (moN_ge f (L + 1) i0 (by omega))
    have hMXb := moN_le f 1099511627776 hfb (L + 1)
    have hmx := mo_win f lo m (L + 1) (by omega) (by omega) hout
    have hEnd : liL n 0 f (moN f (L + 1)) (L + 1) = liL n lo f (moN f (L + 1)) m := by
      obtain ⟨r, hr⟩ : ∃ r, L + 1 = lo + m + r := ⟨L + 1 - (lo + m), by omega⟩
      have a1 := li_behind n f (moN f (L + 1)) (lo + m) (fun i hi => by rw [hout i (.inr hi)]; omega) r
      have a2 := li_in n f (moN f (L + 1)) lo (fun i hi => by rw [hout i (.inl hi)]; omega) m
      rw [← hr] at a1
      rw [a1, a2]
    generalize hMM : moN f (L + 1) = MX at *
    refine ⟨liL n 0 f MX (L + 1), true, Nat.le_trans (liL_len _ _ _ _ _) (by omega), fun w => ?_, fun w hT => ?_⟩
    · refine sLA_yes _ n N (num x) (L + 1) 0 ((2 ^ n : Nat) : Int) f (moN f) (fun k => liL n 0 f MX k) w (Lib.hid (ST_size n x)) h2 hPn (by omega) (by omega) (by omega) (by omega) (Lib.hid hfb) (Lib.hid rfl) (Lib.hid fun _ => rfl) (Lib.hid fun k => moN_le f _ hfb k) (Lib.hid rfl) (Lib.hid fun k hk => ?_) (Lib.hid fun k hk => ?_) (Lib.hid fun k => liL_len _ _ _ _ _) (Lib.hid hsm) (Lib.hid fun w => riNumber_ST n x w (by omega) h3) (Lib.hid fun w => ?_) (Lib.hid fun w m hm => ?_)
      · rw [hMM] at hk
        have := liL_yes n 0 f MX k (by rw [Nat.zero_add]; exact hk)
        rw [Nat.zero_add] at this; exact this
      · rw [hMM] at hk
        exact liL_no n 0 f MX k (by rw [Nat.zero_add]; exact hk)
      · rw [hPm]; exact hww w
      · refine (riState_any n m w (by omega) (by omega)).mono ?_
        rintro e w' ⟨rfl, q, rfl⟩; exact ⟨rfl, below_drewN (Below.refl _ _) q⟩
    · rw [hEnd]
      refine iLA_yes _ n x x N lo m MX 0 (fun i => f (lo + i)) (fun C => lowP C Z) (fun C => lowQ C Z) (fun k => liL n lo f MX k) w hT (by omega) hlen (by omega) (by omega) h2 (Lib.hid fun w hw => twb_ST n x x w h1 h2 h3 h4 hw) (Lib.hid fun w => isLen_any N w true (by simp; omega)) (Lib.hid fun w => ?_) (Lib.hid fun w B g c ho => ?_) (Lib.hid fun w g c C hC => chance_any n N lo _ C _ _ Z w h5 hZ hz2 (Lib.hid fun w => ratioOf_any _ _ w (by omega) (by omega) (by omega)) _ c g rfl) hMXb (Lib.hid fun i => hfb _) (Lib.hid fun i => low_beq _ _ Z (by omega)) (Lib.hid fun w i hi hw => ?_) (Lib.hid fun w i hi => text_any n _ w (gray_lt 20 _ (by omega)) (by omega)) (Lib.hid rfl) (Lib.hid fun k hk => liL_yes n lo f MX k hk) (Lib.hid fun k hk => liL_no n lo f MX k hk) (Lib.hid fun k => liL_len _ _ _ _ _)
      · have := hwf w
        exact this
      · have := max_any g c B m (fnR m (fun i => f (lo + i))) (fun i => ((f (lo + i) : Nat) : Int)) w hlen (by omega) (fnR_len _ _) (Lib.hid fun k hk => fnR_get _ _ k hk) ho
        rw [hmx] at this; exact this
      · have := barOfNumber_any n (lo + i) w (by omega) (by omega) hw
        rw [show ((lo + i : Nat) : Int) = (lo : Int) + i from by omega] at this; exact this
end Go.Proofs.YtfnhmacnghkgiaeDoor
