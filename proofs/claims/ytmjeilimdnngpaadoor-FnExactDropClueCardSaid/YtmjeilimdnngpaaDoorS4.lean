import Derived.Test.YtmjeilimdnngpaaDoorS3
namespace Go.Proofs.YtmjeilimdnngpaaDoor
open Go Go.RowKit RM

theorem riCan_zero (s : ByteArray) (w : World) :
    Calls Tryd.prog 94 #[.string s, .int .i64 0] w fun e w' => e = .returned (.bool true) ∧ w = w' := by
  go_enter Tryd.func94, Tryd.ntmps94
  go_wp2
  go_ret; exact ⟨rfl, rfl⟩

theorem riCan_out (s : ByteArray) (k : Int) (w : World) (hs : s.size ≤ 20) (h1 : 1 ≤ s.size) (hk : k < 0 ∨ (s.size : Int) ≤ k) (h0 : (k == 0) = false) :
    Calls Tryd.prog 94 #[.string s, .int .i64 k] w fun e w' => e = .returned (.bool false) ∧ w = w' := by
  go_enter Tryd.func94, Tryd.ntmps94
  go_wp2_with (go_at_call 46; refine (l1In_no _ _ _ _ (by omega)).mono ?_; rintro e w' ⟨rfl, rfl⟩)
  go_ret; exact ⟨rfl, rfl⟩

theorem riCan_off (s : ByteArray) (j : Nat) (w : World) (hs : s.size ≤ 20) (hj : j + 1 < s.size) (h9 : ((s[j].toNat : Int) != 49) = true) :
    Calls Tryd.prog 94 #[.string s, .int .i64 ((j + 1 : Nat) : Int)] w fun e w' => e = .returned (.bool false) ∧ w = w' := by
  have ej : ((j + 1 : Nat) : Int) = (j : Int) + 1 := by omega
  rw [ej]; clear ej
  have h0 : ((j : Int) + 1 == 0) = false := by simp; omega
  go_enter Tryd.func94, Tryd.ntmps94
  go_wp2_with (go_at_call 46; refine (l1In_yes _ _ _ _ (by omega) (by omega)).mono ?_; rintro e w' ⟨rfl, rfl⟩)
  go_ret; exact ⟨rfl, rfl⟩

theorem riCan_on (s : ByteArray) (j : Nat) (w : World) (hs : s.size ≤ 20) (hj : j + 1 < s.size) (h9 : ((s[j].toNat : Int) != 49) = false) :
    Calls Tryd.prog 94 #[.string s, .int .i64 ((j + 1 : Nat) : Int)] w fun e w' => e = .returned (.bool (((ons (s.data.toList.take j) : Nat) : Int) == 0)) ∧ w = w' := by
  have ej : ((j + 1 : Nat) : Int) = (j : Int) + 1 := by omega
  rw [ej]; clear ej
  have h0 : ((j : Int) + 1 == 0) = false := by simp; omega
  go_enter Tryd.func94, Tryd.ntmps94
  go_wp2_with (first | (go_at_call 46; refine (l1In_yes _ _ _ _ (by omega) (by omega)).mono ?_; rintro e w' ⟨rfl, rfl⟩) | (go_at_call 73; refine (riOn_any _ _ ?_).mono ?_; rotate_left; rintro e w' ⟨rfl, rfl⟩))
  · go_ret; exact ⟨rfl, rfl⟩
  · simp; omega

theorem riCan_ST (n x : Nat) (k : Int) (w : World) (h1 : 1 ≤ n) (hn : n ≤ 20) :
    Calls Tryd.prog 94 #[.string (ST n x), .int .i64 k] w fun e w' => e = .returned (.bool (canB n x k)) ∧ w = w' := by
  have hsz := ST_size n x
  by_cases h0 : k = 0
  · subst h0; rw [canB_zero]; exact riCan_zero _ _
  · by_cases hk : k < 0 ∨ (n : Int) ≤ k
    · rw [canB_out n x k (by omega)]
      exact riCan_out _ _ _ (by omega) (by omega) (by omega) (by simp; omega)
    · obtain ⟨j, rfl⟩ : ∃ j : Nat, k = ((j + 1 : Nat) : Int) := ⟨(k - 1).toNat, by omega⟩
      rw [canB_in n x j (by omega)]
      cases hb : x.testBit j
      · exact riCan_off _ _ _ (by omega) (by omega) (by rw [ST_ne, hb]; rfl)
      · have := riCan_on (ST n x) j w (by omega) (by omega) (by rw [ST_ne, hb]; rfl)
        rw [ST_data, tx_take n x j (by omega), ons_tx] at this
        have e : (((pop (x % 2 ^ j) : Nat) : Int) == 0) = (true && decide (x % 2 ^ j = 0)) := by
          by_cases g : x % 2 ^ j = 0
          · rw [g, pop_zero]; rfl
          · have := pop_pos g
            simp [g, this]
        rw [e] at this
        exact this


theorem l1Most_any (a b : Int) (w : World) : Calls Tryd.prog 107 #[.int .i64 a, .int .i64 b] w fun e w' => e = .returned (.int .i64 (max a b)) ∧ w = w' := by
  by_cases h : b < a
  all_goals
    go_enter Tryd.func107, Tryd.ntmps107
    go_wp2
    go_ret; exact ⟨ret_int (by omega), rfl⟩


theorem l1Abs_any (a : Int) (w : World) (h1 : -1048576 ≤ a) (h2 : a ≤ 1048576) : Calls Tryd.prog 93 #[.int .i64 a] w fun e w' => e = .returned (.int .i64 (max a (-a))) ∧ w = w' := by
  go_enter Tryd.func93, Tryd.ntmps93
  go_wp2_with (go_at_call 107; refine (l1Most_any _ _ _).mono ?_; rintro e w' ⟨rfl, rfl⟩)
  go_ret; exact ⟨rfl, rfl⟩

def sgn (a : Int) : Int := if 0 < a then 1 else if a < 0 then -1 else 0




/-- two states of as many rings, or not -/
def twoB (a b : ByteArray) : Bool := goodB a.data.toList && goodB b.data.toList && ((a.size : Int) == (b.size : Int))

theorem of_two (a b : ByteArray) (h : twoB a b = true) : ∃ n x y, 1 ≤ n ∧ n ≤ 20 ∧ x < 2 ^ n ∧ y < 2 ^ n ∧ a = ST n x ∧ b = ST n y := by
  unfold twoB at h
  simp only [Bool.and_eq_true, beq_iff_eq] at h
  obtain ⟨⟨h1, h2⟩, h3⟩ := h
  obtain ⟨n, x, a1, a2, a3, rfl⟩ := of_good a h1
  obtain ⟨m, y, b1, b2, b3, rfl⟩ := of_good b h2
  rw [ST_size, ST_size] at h3
  obtain rfl : n = m := by omega
  exact ⟨n, x, y, a1, a2, a3, b3, rfl, rfl⟩
theorem two_ST (n x y : Nat) (h1 : 1 ≤ n) (h2 : n ≤ 20) : twoB (ST n x) (ST n y) = true := by
  unfold twoB; rw [good_ST n x h1 h2, good_ST n y h1 h2, ST_size, ST_size]; simp

/-- the number of the state next to x on the way to y -/
def nxt (x y : Nat) : Nat := if num x < num y then num x + 1 else if num y < num x then num x - 1 else num x
theorem nxt_lt (n x y : Nat) (hx : x < 2 ^ n) (hy : y < 2 ^ n) : nxt x y < 2 ^ n := by
  have a := num_lt n x hx
  have b := num_lt n y hy
  unfold nxt; split <;> (try split) <;> omega

theorem all_ones (n k : Nat) (h : k < n) : (2 ^ n - 1).testBit k = true := by simp [h]

end Go.Proofs.YtmjeilimdnngpaaDoor
