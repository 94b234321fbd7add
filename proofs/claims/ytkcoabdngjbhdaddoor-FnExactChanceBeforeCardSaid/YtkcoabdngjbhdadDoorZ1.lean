/- Chapter 7: mathematics of means, of fractions in lowest terms, of states with so many rings on. -/
import Derived.Test.YtkcoabdngjbhdadDoorStr
namespace Go.Proofs.YtkcoabdngjbhdadDoor
open RM

/-- the part of a fraction p/q in lowest terms -/
def lowP (p q : Nat) : Nat := p / Nat.gcd p q
def lowQ (p q : Nat) : Nat := q / Nat.gcd p q
theorem gcd_step (a b : Nat) : Nat.gcd a b = Nat.gcd (b % a) a := Nat.gcd_rec a b
theorem gcd_pos (p q : Nat) (h : 0 < q) : 0 < Nat.gcd p q := Nat.gcd_pos_of_pos_right _ h
theorem gcd_le_r (p q : Nat) (h : 0 < q) : Nat.gcd p q ≤ q := Nat.le_of_dvd h (Nat.gcd_dvd_right p q)
theorem lowP_le (p q : Nat) : lowP p q ≤ p := Nat.div_le_self _ _
theorem lowQ_le (p q : Nat) : lowQ p q ≤ q := Nat.div_le_self _ _
theorem low_same (d : Nat) (h : 0 < d) : lowP d d = 1 ∧ lowQ d d = 1 := by
  unfold lowP lowQ; rw [Nat.gcd_self, Nat.div_self h]; exact ⟨rfl, rfl⟩
theorem low_zero (d : Nat) (h : 0 < d) : lowP 0 d = 0 ∧ lowQ 0 d = 1 := by
  unfold lowP lowQ; rw [Nat.gcd_zero_left, Nat.zero_div, Nat.div_self h]; exact ⟨rfl, rfl⟩

/-- the mean number of moves from the number X to Y of n rings -/
def meanN (n X Y : Nat) : Int := if Y < X then (((2 ^ n - 1 : Nat) : Int) - Y) * (((2 ^ n - 1 : Nat) : Int) - Y) - (((2 ^ n - 1 : Nat) : Int) - X) * (((2 ^ n - 1 : Nat) : Int) - X) else (Y : Int) * Y - (X : Int) * X

/-- how far two numbers are from each other -/
def distN (a b : Nat) : Nat := max a b - min a b
theorem dist_int (a b : Nat) : ((distN a b : Nat) : Int) = max (a : Int) b - min (a : Int) b := by unfold distN; omega
theorem dist_pos {a b : Nat} (h : a ≠ b) : 0 < distN a b := by unfold distN; omega
theorem dist_lt {a b c : Nat} (ha : a < c) (hb : b < c) : distN a b < c := by unfold distN; omega
/-- where a walk from X comes between A and B -/
def clampN (X A B : Nat) : Nat := max (min A B) (min X (max A B))
theorem clamp_lt {X A B c : Nat} (hA : A < c) (hB : B < c) : clampN X A B < c := by unfold clampN; omega

/-- the sum of all ways between states of N numbers -/
def pairS (N : Nat) : Nat → Nat
  | 0 => 0
  | k + 1 => pairS N k + 2 * k * (N - k)
theorem pairS_closed (N : Nat) : ∀ k, k ≤ N → ((3 * pairS N k : Nat) : Int) = (k : Int) * (k - 1) * (3 * N - 2 * k + 1)
  | 0, _ => by simp [pairS]
  | k + 1, h => by
    have ih := pairS_closed N k (by omega)
    obtain ⟨m, rfl⟩ : ∃ m, N = k + m := ⟨N - k, by omega⟩
    have e : pairS (k + m) (k + 1) = pairS (k + m) k + 2 * k * m := by
      show pairS (k + m) k + 2 * k * (k + m - k) = _
      rw [Nat.add_sub_cancel_left]
    rw [e]
    generalize pairS (k + m) k = S at *
    push_cast at ih ⊢
    grind
theorem pairS_all (N : Nat) (h : 1 ≤ N) : 3 * pairS N N = N * (N * N - 1) := by
  have h1 := pairS_closed N N (Nat.le_refl _)
  have h2 : ((N * N - 1 : Nat) : Int) = (N : Int) * N - 1 := by
    have : 1 ≤ N * N := Nat.mul_le_mul h h
    omega
  have h3 : ((3 * pairS N N : Nat) : Int) = ((N * (N * N - 1) : Nat) : Int) := by
    rw [h1, Int.natCast_mul, h2]
    grind
  exact Int.ofNat.inj h3
theorem pairS_mono (N : Nat) : ∀ j k, j ≤ k → pairS N j ≤ pairS N k := by
  intro j k h
  induction k with
  | zero => simp at h; subst h; exact Nat.le_refl _
  | succ k ih =>
    by_cases e : j = k + 1
    · subst e; exact Nat.le_refl _
    · exact Nat.le_trans (ih (by omega)) (Nat.le_add_right _ _)
/-- the mean of all ways between states of n rings: the program's fraction is the model's -/
theorem pair_low (n : Nat) (h1 : 1 ≤ n) (h2 : n ≤ 12) : lowP (pairS (2 ^ n) (2 ^ n)) (2 ^ n * 2 ^ n) = lowP (2 ^ n * 2 ^ n - 1) (3 * 2 ^ n) ∧ lowQ (pairS (2 ^ n) (2 ^ n)) (2 ^ n * 2 ^ n) = lowQ (2 ^ n * 2 ^ n - 1) (3 * 2 ^ n) := by
  have h := pairS_all (2 ^ n) (Nat.two_pow_pos n)
  have hS : pairS (2 ^ n) (2 ^ n) = 2 ^ n * (2 ^ n * 2 ^ n - 1) / 3 := by omega
  rw [hS]
  clear h hS
  have : ∀ n, n ≤ 12 → 1 ≤ n → lowP (2 ^ n * (2 ^ n * 2 ^ n - 1) / 3) (2 ^ n * 2 ^ n) = lowP (2 ^ n * 2 ^ n - 1) (3 * 2 ^ n) ∧ lowQ (2 ^ n * (2 ^ n * 2 ^ n - 1) / 3) (2 ^ n * 2 ^ n) = lowQ (2 ^ n * 2 ^ n - 1) (3 * 2 ^ n) := by decide +kernel
  exact this n h2 h1
theorem mean_low (n : Nat) (h1 : 1 ≤ n) (h2 : n ≤ 12) : lowP (2 ^ n - 1) 2 = 2 ^ n - 1 ∧ lowQ (2 ^ n - 1) 2 = 2 := by
  have : ∀ n, n ≤ 12 → 1 ≤ n → lowP (2 ^ n - 1) 2 = 2 ^ n - 1 ∧ lowQ (2 ^ n - 1) 2 = 2 := by decide +kernel
  exact this n h2 h1

/-- the sum of the rings that are on, of k states from a number on -/
def onsFrom (lo : Nat) : Nat → Nat
  | 0 => 0
  | k + 1 => onsFrom lo k + pop (gray (lo + k))
theorem onsFrom_le (n lo : Nat) : ∀ k, lo + k ≤ 2 ^ n → onsFrom lo k ≤ n * k
  | 0, _ => Nat.zero_le _
  | k + 1, h => by
    have h1 := onsFrom_le n lo k (by omega)
    have h2 := pop_le n (gray (lo + k)) (gray_lt n _ (by omega))
    show onsFrom lo k + pop (gray (lo + k)) ≤ n * (k + 1)
    rw [Nat.mul_succ]; omega

/-- the numbers below k of states with so many rings on -/
def onL (on : Nat) (k : Nat) : List Nat := (List.range k).filter fun m => decide (pop (gray m) = on)
theorem onL_yes (on k : Nat) (h : pop (gray k) = on) : onL on (k + 1) = onL on k ++ [k] := by
  unfold onL; rw [List.range_succ, List.filter_append]; simp [h]
theorem onL_no (on k : Nat) (h : pop (gray k) ≠ on) : onL on (k + 1) = onL on k := by
  unfold onL; rw [List.range_succ, List.filter_append]; simp [h]
theorem onL_len (on k : Nat) : (onL on k).length ≤ k := by
  unfold onL; exact Nat.le_trans (List.length_filter_le _ _) (by simp)
theorem onL_mem (on k m : Nat) (h : m ∈ onL on k) : m < k := by
  unfold onL at h; rw [List.mem_filter, List.mem_range] at h; exact h.1
theorem pop_ones : ∀ k, pop (2 ^ k - 1) = k
  | 0 => by simp [pop_zero]
  | k + 1 => by
    rw [pop_rec]
    have h := Nat.two_pow_pos k
    have e1 : (2 ^ (k + 1) - 1) % 2 = 1 := by rw [Nat.pow_succ]; omega
    have e2 : (2 ^ (k + 1) - 1) / 2 = 2 ^ k - 1 := by rw [Nat.pow_succ]; omega
    rw [e1, e2, pop_ones k]; omega
theorem onL_some (n on : Nat) (h : on ≤ n) : onL on (2 ^ n) ≠ [] := by
  intro e
  have h1 : 2 ^ on - 1 < 2 ^ n := by have := Nat.pow_le_pow_right (n := 2) (by omega) h; have := Nat.two_pow_pos on; omega
  have : num (2 ^ on - 1) ∈ onL on (2 ^ n) := by
    unfold onL
    rw [List.mem_filter, List.mem_range]
    exact ⟨num_lt n _ h1, by rw [gray_num, pop_ones]; simp⟩
  rw [e] at this; simp at this
theorem sum_le (xs : List Nat) (b : Nat) (h : ∀ x ∈ xs, x ≤ b) : xs.sum ≤ xs.length * b := by
  induction xs with
  | nil => simp
  | cons a l ih =>
    rw [List.sum_cons, List.length_cons, Nat.succ_mul]
    have := h a (by simp)
    have := ih (fun x hx => h x (by simp [hx]))
    omega
end Go.Proofs.YtkcoabdngjbhdadDoor
