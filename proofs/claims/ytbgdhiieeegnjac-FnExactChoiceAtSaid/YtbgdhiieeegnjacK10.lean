/- Chapter 2: the choice with a rank: the model; what both say. -/
import Derived.Test.YtbgdhiieeegnjacK9
namespace Go.Proofs.Ytbgdhiieeegnjac
open Go Go.RowKit RM

/-- a call hands back integers in memory of its own -/
def RetL (w : World) (xs : List Int) (e : Ending) (w' : World) : Prop := ∃ v, e = .returned v ∧ OwnI w' w.heap.size v xs ∧ Below w.heap.size w w'

theorem nuCho_zero (s r : Int) (w : World) : Calls Try.prog 43 #[.int .i64 s, .int .i64 0, .int .i64 r] w fun e w' => RetL w [] e w' := by
  go_enter Try.func43, Try.ntmps43
  go_wp2
  go_ret; exact ⟨_, rfl, OwnI.nil _ _, Below.refl _ _⟩

theorem nuCho_low (s c r W : Nat) (xs : List Int) (w : World) (hs : s < 20) (hc : 1 ≤ c) (hc2 : c ≤ s) (hr : r < W)
    (hN : Hid (∀ w, Calls Try.prog 40 #[.int .i64 s, .int .i64 c] w fun e w' => e = .returned (.int .i64 W) ∧ w = w'))
    (hI : Hid (∀ w, Calls Try.prog 43 #[.int .i64 s, .int .i64 c, .int .i64 r] w fun e w' => RetL w xs e w')) :
    Calls Try.prog 43 #[.int .i64 ((s : Int) + 1), .int .i64 c, .int .i64 r] w fun e w' => RetL w xs e w' := by
  have hz : ((c : Int) == 0) = false := by simp; omega
  go_enter Try.func43, Try.ntmps43
  go_wp2_with fail
  refine (hN.out _).mono ?_; rintro e w' ⟨rfl, rfl⟩
  go_wp2_with fail
  refine (hI.out _).mono ?_; rintro e w2 ⟨v, rfl, ho, hb⟩
  have ho := Lib.hid ho
  have hb := Lib.hid hb
  go_wp2_with fail
  go_ret; exact ⟨_, rfl, ho.out, hb.out⟩

theorem nuCho_high (s c r W C R : Nat) (xs : List Int) (w : World) (hs : s < 20) (hc : 1 ≤ c) (hc2 : c ≤ s + 1) (hr : W ≤ r) (hr2 : r ≤ 200000) (hC : C ≤ 184756) (hR : (C : Int) - 1 - ((r : Int) - W) = R) (hW0 : s < c → W = 0) (hxl : Hid (xs.length ≤ 2000000))
    (hN : Hid (∀ w, Calls Try.prog 40 #[.int .i64 s, .int .i64 c] w fun e w' => e = .returned (.int .i64 W) ∧ w = w'))
    (hM : Hid (∀ w, Calls Try.prog 40 #[.int .i64 s, .int .i64 ((c : Int) - 1)] w fun e w' => e = .returned (.int .i64 C) ∧ w = w'))
    (hI : Hid (∀ w, Calls Try.prog 43 #[.int .i64 s, .int .i64 ((c : Int) - 1), .int .i64 R] w fun e w' => RetL w xs e w')) :
    Calls Try.prog 43 #[.int .i64 ((s : Int) + 1), .int .i64 c, .int .i64 r] w fun e w' => RetL w (xs ++ [(s : Int)]) e w' := by
  have hz : ((c : Int) == 0) = false := by simp; omega
  by_cases hlt : c ≤ s
  · clear hW0
    go_enter Try.func43, Try.ntmps43
    go_wp2_with fail
    refine (hN.out _).mono ?_; rintro e w' ⟨rfl, rfl⟩
    go_wp2_with fail
    refine (hM.out _).mono ?_; rintro e w' ⟨rfl, rfl⟩
    go_wp2_with fail
    refine (hI.out _).mono ?_; rintro e w2 ⟨v, rfl, ho, hb⟩
    have ho := Lib.hid ho
    have hb := Lib.hid hb
    go_wp2_with (at_builtin; refine app_int _ rfl _ _ rfl w.heap.size _ _ rfl (ho.out.alloc _) w2.heap.size _ rfl (by simp; rfl) hxl.out (by have := hb.out.size; simp; omega) ?_; intro v' w' ho' hg')
    have ho2 := Lib.hid ho'
    have hb2 := Lib.hid (bel_own (hb.out.alloc hb.out.size _) (ho.out.alloc _) hg' (by have := hb.out.size; simp; omega))
    clear ho' hg'
    go_wp2_with fail
    go_ret; exact ⟨_, rfl, ho2.out, hb2.out⟩
  · obtain rfl := hW0 (by omega)
    have hR2 : (C : Int) - 1 - (r : Int) = R := by omega
    clear hW0 hR
    go_enter Try.func43, Try.ntmps43
    go_wp2_with fail
    refine (hM.out _).mono ?_; rintro e w' ⟨rfl, rfl⟩
    go_wp2_with fail
    refine (hI.out _).mono ?_; rintro e w2 ⟨v, rfl, ho, hb⟩
    have ho := Lib.hid ho
    have hb := Lib.hid hb
    go_wp2_with (at_builtin; refine app_int _ rfl _ _ rfl w.heap.size _ _ rfl (ho.out.alloc _) w2.heap.size _ rfl (by simp; rfl) hxl.out (by have := hb.out.size; simp; omega) ?_; intro v' w' ho' hg')
    have ho2 := Lib.hid ho'
    have hb2 := Lib.hid (bel_own (hb.out.alloc hb.out.size _) (ho.out.alloc _) hg' (by have := hb.out.size; simp; omega))
    clear ho' hg'
    go_wp2_with fail
    go_ret; exact ⟨_, rfl, ho2.out, hb2.out⟩

theorem nuCho_any (s : Nat) : ∀ (c r : Nat) (w : World), s ≤ 20 → c ≤ s → r < ch s c → Calls Try.prog 43 #[.int .i64 s, .int .i64 c, .int .i64 r] w fun e w' => RetL w (choL s c r) e w' := by
  induction s with
  | zero =>
    intro c r w hs hc hr
    obtain rfl : c = 0 := by omega
    exact nuCho_zero _ _ w
  | succ s ih =>
    intro c r w hs hc hr
    by_cases h0 : c = 0
    · subst h0
      rw [ch_zero] at hr
      obtain rfl : r = 0 := by omega
      rw [choL_zero]; exact nuCho_zero _ _ w
    · rw [show ((s + 1 : Nat) : Int) = (s : Int) + 1 from by omega]
      by_cases hlow : r < ch s c
      · rw [choL_low s c r hlow]
        have hcs := cho_low (s := s) (by omega) hc hlow
        exact nuCho_low s c r _ _ w (by omega) (by omega) hcs hlow (Lib.hid fun w => nuChoices_any s c w (by omega) (by omega)) (Lib.hid fun w => ih c r w (by omega) hcs hlow)
      · obtain ⟨a1, a2, a3, a4⟩ := cho_step (s := s) (by omega) hc hr hlow
        have b2 := ch_le (s := s) (k := c - 1) (by omega) (by omega)
        have b3 := ch_le (s := s + 1) (k := c) (by omega) (by omega)
        rw [choL_high s c r hlow]
        refine nuCho_high s c r (ch s c) (ch s (c - 1)) (ch s (c - 1) - 1 - (r - ch s c)) _ w (by omega) a1 hc (by omega) (by omega) b2 (by omega) (fun h => ch_over (by omega) (by omega) h) (Lib.hid ?_) (Lib.hid fun w => nuChoices_any s c w (by omega) (by omega)) (Lib.hid fun w => ?_) (Lib.hid fun w => ?_)
        · rw [choL_len s _ _ (by omega) a2 a4]; omega
        · have := nuChoices_any s (c - 1) w (by omega) (by omega)
          rw [show ((c - 1 : Nat) : Int) = (c : Int) - 1 from by omega] at this; exact this
        · have := ih (c - 1) (ch s (c - 1) - 1 - (r - ch s c)) w (by omega) a2 a4
          rw [show ((c - 1 : Nat) : Int) = (c : Int) - 1 from by omega] at this; exact this

theorem sChoice_no (n c r : Int) (w : World) (h : (n < 1 ∨ 20 < n) ∨ (1 ≤ n ∧ n ≤ 20 ∧ (c < 0 ∨ (0 ≤ c ∧ n < c)))) : Calls Try.prog 16 #[.int .i64 n, .int .i64 c, .int .i64 r] w fun e w' => RetI w [] false e w' := by
  rcases h with h | ⟨h1, h2, h⟩
  · have hS := Lib.hid fun w => nuSize_no n w h
    clear h
    go_enter Try.func16, Try.ntmps16
    go_wp2_with fail
    refine (hS.out _).mono ?_; rintro e w' ⟨rfl, rfl⟩
    go_wp2_with fail
    go_ret2; exact ⟨_, rfl, OwnI.nil _ _, Below.refl _ _⟩
  · have hS := Lib.hid fun w => nuSize_yes n w h1 h2
    have hL := Lib.hid fun w => l1In_no c 0 n w (by omega)
    clear h
    go_enter Try.func16, Try.ntmps16
    go_wp2_with fail
    refine (hS.out _).mono ?_; rintro e w' ⟨rfl, rfl⟩
    go_wp2_with fail
    refine (hL.out _).mono ?_; rintro e w' ⟨rfl, rfl⟩
    go_wp2_with fail
    go_ret2; exact ⟨_, rfl, OwnI.nil _ _, Below.refl _ _⟩

theorem sChoice_norank (s k : Nat) (r : Int) (w : World) (h1 : 1 ≤ s) (h2 : s ≤ 20) (h3 : k ≤ s) (h : r < 0 ∨ (ch s k : Int) ≤ r) : Calls Try.prog 16 #[.int .i64 s, .int .i64 k, .int .i64 r] w fun e w' => RetI w [] false e w' := by
  have hS := Lib.hid fun w => nuSize_yes (s : Int) w (by omega) (by omega)
  have hL := Lib.hid fun w => l1In_yes (k : Int) 0 (s : Int) w (by omega) (by omega)
  have hC := Lib.hid fun w => nuChoices_any s k w h2 (by omega)
  have hb := ch_le (s := s) (k := k) (by omega) (by omega)
  have hR := Lib.hid fun w => l1In_no r 0 (((ch s k : Nat) : Int) - 1) w (by omega)
  clear h
  generalize ch s k = C at *
  go_enter Try.func16, Try.ntmps16
  go_wp2_with fail
  refine (hS.out _).mono ?_; rintro e w' ⟨rfl, rfl⟩
  go_wp2_with fail
  refine (hL.out _).mono ?_; rintro e w' ⟨rfl, rfl⟩
  go_wp2_with fail
  refine (hC.out _).mono ?_; rintro e w' ⟨rfl, rfl⟩
  go_wp2_with fail
  refine (hR.out _).mono ?_; rintro e w' ⟨rfl, rfl⟩
  go_wp2_with fail
  go_ret2; exact ⟨_, rfl, OwnI.nil _ _, Below.refl _ _⟩

theorem sChoice_yes (s k m : Nat) (w : World) (h1 : 1 ≤ s) (h2 : s ≤ 20) (h3 : k ≤ s) (h : m < ch s k) : Calls Try.prog 16 #[.int .i64 s, .int .i64 k, .int .i64 m] w fun e w' => RetI w (choL s k m) true e w' := by
  have hS := Lib.hid fun w => nuSize_yes (s : Int) w (by omega) (by omega)
  have hL := Lib.hid fun w => l1In_yes (k : Int) 0 (s : Int) w (by omega) (by omega)
  have hC := Lib.hid fun w => nuChoices_any s k w h2 (by omega)
  have hb := ch_le (s := s) (k := k) (by omega) (by omega)
  have hR := Lib.hid fun w => l1In_yes (m : Int) 0 (((ch s k : Nat) : Int) - 1) w (by omega) (by omega)
  have hN := Lib.hid fun w => nuCho_any s k m w h2 h3 h
  clear h
  generalize ch s k = C at *
  go_enter Try.func16, Try.ntmps16
  go_wp2_with fail
  refine (hS.out _).mono ?_; rintro e w' ⟨rfl, rfl⟩
  go_wp2_with fail
  refine (hL.out _).mono ?_; rintro e w' ⟨rfl, rfl⟩
  go_wp2_with fail
  refine (hC.out _).mono ?_; rintro e w' ⟨rfl, rfl⟩
  go_wp2_with fail
  refine (hR.out _).mono ?_; rintro e w' ⟨rfl, rfl⟩
  go_wp2_with fail
  refine (hN.out _).mono ?_; rintro e w2 ⟨v, rfl, ho, hbb⟩
  have ho := Lib.hid ho
  have hbb := Lib.hid hbb
  go_wp2_with fail
  go_ret2; exact ⟨_, rfl, ho.out, hbb.out⟩

theorem choice_both (n c r : Int) : (∀ w, Calls Try.prog 16 #[.int .i64 n, .int .i64 c, .int .i64 r] w fun e w' => RetI w (chA n c r) (chB n c r) e w') ∧ (∀ w, Calls Try.prog 17 #[.int .i64 n, .int .i64 c, .int .i64 r] w fun e w' => RetI w (chA n c r) (chB n c r) e w') ∧ (chA n c r).length ≤ 20 := by
  rcases ch_cases n c r with ⟨h, e1, e2⟩ | ⟨s, k, rfl, rfl, h1, h2, h3, hr, e1, e2⟩ | ⟨s, k, m, rfl, rfl, rfl, h1, h2, h3, hr, e1, e2⟩
  · rw [e1, e2]; exact ⟨fun w => sChoice_no n c r w h, fun w => iChoice_no n c r w h, by simp⟩
  · rw [e1, e2]; exact ⟨fun w => sChoice_norank s k r w h1 h2 h3 hr, fun w => iChoice_norank s k r w h1 h2 h3 hr, by simp⟩
  · rw [e1, e2]; exact ⟨fun w => sChoice_yes s k m w h1 h2 h3 hr, fun w => iChoice_yes s k m w h1 h2 h3 hr, by rw [choL_len s k m h2 h3 hr]; omega⟩
end Go.Proofs.Ytbgdhiieeegnjac
