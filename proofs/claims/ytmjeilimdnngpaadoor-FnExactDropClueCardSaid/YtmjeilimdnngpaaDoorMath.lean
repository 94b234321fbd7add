/-
  Plain mathematics of rings: numbers of states (the inverse of the reflected code) by binary digits. Nothing of any program.
-/
namespace Go.Proofs.YtmjeilimdnngpaaDoor.RM

theorem shr1 (n : Nat) : n >>> 1 = n / 2 := by simp [Nat.shiftRight_eq_div_pow]
theorem xor_mod (a b : Nat) : (a ^^^ b) % 2 = (a + b) % 2 := by
  have := @Nat.xor_mod_two_eq_one a b
  omega

/-- the number of the state whose signs are the binary digits of x -/
def num (x : Nat) : Nat := if h : x = 0 then 0 else 2 * num (x / 2) + (x % 2 + num (x / 2)) % 2
termination_by x
decreasing_by omega

theorem num_zero : num 0 = 0 := by unfold num; rfl
theorem num_rec (x : Nat) : num x = 2 * num (x / 2) + (x % 2 + num (x / 2)) % 2 := by
  by_cases h : x = 0
  · subst h; simp [num_zero]
  · rw [num]; simp [h]
theorem num_half (x : Nat) : num x / 2 = num (x / 2) := by rw [num_rec x]; omega
theorem num_mod (x : Nat) : num x % 2 = (x % 2 + num (x / 2)) % 2 := by rw [num_rec x]; omega

/-- the signs of the state with the number n -/
def gray (n : Nat) : Nat := n ^^^ (n >>> 1)

theorem gray_half (n : Nat) : gray n / 2 = gray (n / 2) := by
  unfold gray
  rw [Nat.xor_div_two, shr1, shr1]
theorem gray_mod (n : Nat) : gray n % 2 = (n % 2 + n / 2) % 2 := by
  unfold gray
  rw [xor_mod, shr1]; omega
theorem gray_zero : gray 0 = 0 := rfl

theorem gray_num (x : Nat) : gray (num x) = x := by
  induction x using Nat.strongRecOn with
  | ind x ih =>
    by_cases h : x = 0
    · subst h; rw [num_zero]; rfl
    · have h1 := ih (x / 2) (by omega)
      have h2 := gray_half (num x)
      have h3 := gray_mod (num x)
      rw [num_half, h1] at h2
      rw [num_half, num_mod] at h3
      omega

theorem num_gray (n : Nat) : num (gray n) = n := by
  induction n using Nat.strongRecOn with
  | ind n ih =>
    by_cases h : n = 0
    · subst h; rw [gray_zero, num_zero]
    · have h1 := ih (n / 2) (by omega)
      have h2 := num_half (gray n)
      have h3 := num_mod (gray n)
      rw [gray_half, h1] at h2 h3
      have := gray_mod n
      omega

theorem num_lt (k : Nat) : ∀ x, x < 2 ^ k → num x < 2 ^ k := by
  induction k with
  | zero => intro x h; have : x = 0 := by omega
            subst this; rw [num_zero]; omega
  | succ k ih =>
    intro x h
    have h1 := ih (x / 2) (by rw [Nat.pow_succ] at h; omega)
    rw [num_rec x, Nat.pow_succ]; omega

theorem gray_lt (k : Nat) (n : Nat) (h : n < 2 ^ k) : gray n < 2 ^ k := by
  unfold gray
  refine Nat.xor_lt_two_pow h ?_
  rw [shr1]; omega

theorem num_inj {x y : Nat} (h : num x = num y) : x = y := by rw [← gray_num x, ← gray_num y, h]

/-- the loop of the program: the digits of the number are the digits summed from the last one on -/
theorem num_xor (x : Nat) : num x = x ^^^ num (x / 2) := by
  induction x using Nat.strongRecOn with
  | ind x ih =>
    by_cases h : x = 0
    · subst h; rw [num_zero]; rfl
    · have h1 := ih (x / 2) (by omega)
      have e : (x ^^^ num (x / 2)) / 2 = (x / 2) ^^^ num (x / 2 / 2) := by rw [Nat.xor_div_two, num_half]
      have f : (x ^^^ num (x / 2)) % 2 = (x % 2 + num (x / 2)) % 2 := by rw [xor_mod]; omega
      have g := num_half x
      have i := num_mod x
      rw [← h1] at e
      omega

/-- how many signs are 1 -/
def pop (x : Nat) : Nat := if h : x = 0 then 0 else x % 2 + pop (x / 2)
termination_by x
decreasing_by omega
theorem pop_zero : pop 0 = 0 := by unfold pop; rfl
theorem pop_rec (x : Nat) : pop x = x % 2 + pop (x / 2) := by
  by_cases h : x = 0
  · subst h; simp [pop_zero]
  · rw [pop]; simp [h]
theorem pop_mod (x : Nat) : pop x % 2 = num x % 2 := by
  induction x using Nat.strongRecOn with
  | ind x ih =>
    by_cases h : x = 0
    · subst h; rw [num_zero, pop_zero]
    · have h1 := ih (x / 2) (by omega)
      rw [pop_rec, num_mod]; omega
theorem pop_le (k : Nat) : ∀ x, x < 2 ^ k → pop x ≤ k := by
  induction k with
  | zero => intro x h; have : x = 0 := by omega
            subst this; rw [pop_zero]; omega
  | succ k ih =>
    intro x h
    have h1 := ih (x / 2) (by rw [Nat.pow_succ] at h; omega)
    rw [pop_rec x]; omega

/-- the place of the first 1 (0 if there is none) -/
def ctz (x : Nat) : Nat := if h : x = 0 then 0 else if x % 2 = 1 then 0 else ctz (x / 2) + 1
termination_by x
decreasing_by omega
theorem ctz_odd {x : Nat} (h : x % 2 = 1) : ctz x = 0 := by
  rw [ctz]; simp [h]
theorem ctz_even {x : Nat} (h : x % 2 = 0) (h0 : x ≠ 0) : ctz x = ctz (x / 2) + 1 := by
  rw [ctz]; simp [h, h0]

/-- the ring that makes a number one more: the first 0 of it -/
def up (n : Nat) : Nat := if n % 2 = 0 then 0 else up (n / 2) + 1
termination_by n
decreasing_by omega
theorem up_even {n : Nat} (h : n % 2 = 0) : up n = 0 := by rw [up]; simp [h]
theorem up_odd {n : Nat} (h : n % 2 = 1) : up n = up (n / 2) + 1 := by
  rw [up]; have : ¬ n % 2 = 0 := by omega
  simp [this]

theorem xor_bit (a k : Nat) : (a ^^^ 2 ^ (k + 1)) / 2 = a / 2 ^^^ 2 ^ k ∧ (a ^^^ 2 ^ (k + 1)) % 2 = a % 2 := by
  have hp : 2 ^ (k + 1) / 2 = 2 ^ k := by rw [Nat.pow_succ]; omega
  have hq : 2 ^ (k + 1) % 2 = 0 := by rw [Nat.pow_succ]; omega
  refine ⟨by rw [Nat.xor_div_two, hp], by rw [xor_mod]; omega⟩
theorem xor_one (a : Nat) : (a ^^^ 2 ^ 0) / 2 = a / 2 ∧ (a ^^^ 2 ^ 0) % 2 = (a + 1) % 2 := by
  refine ⟨by rw [Nat.xor_div_two]; simp, by rw [xor_mod]⟩

theorem gray_up (n : Nat) : gray (n + 1) = gray n ^^^ 2 ^ up n := by
  induction n using Nat.strongRecOn with
  | ind n ih =>
    have a := gray_half n
    have b := gray_mod n
    have c := gray_half (n + 1)
    have d := gray_mod (n + 1)
    by_cases h : n % 2 = 0
    · rw [up_even h]
      have e := xor_one (gray n)
      have f : (n + 1) / 2 = n / 2 := by omega
      rw [f] at c d
      omega
    · have h' : n % 2 = 1 := by omega
      rw [up_odd h']
      have e := xor_bit (gray n) (up (n / 2))
      have f : (n + 1) / 2 = n / 2 + 1 := by omega
      have g := ih (n / 2) (by omega)
      rw [f] at c d
      rw [a, ← g] at e
      omega

theorem gray_pos {n : Nat} (h : n ≠ 0) : gray n ≠ 0 := by
  intro e; apply h; rw [← num_gray n, e, num_zero]

/-- behind an odd number the ring that rises is the one behind the first ring that is on -/
theorem up_place (n : Nat) (h : n % 2 = 1) : up n = ctz (gray n) + 1 := by
  induction n using Nat.strongRecOn with
  | ind n ih =>
    rw [up_odd h]
    have b := gray_mod n
    by_cases g : n / 2 % 2 = 0
    · rw [up_even g, ctz_odd (by omega)]
    · have g' : n / 2 % 2 = 1 := by omega
      rw [ih (n / 2) (by omega) g', ctz_even (x := gray n) (by omega) (gray_pos (by omega)), gray_half]

/-- and downward, from an even number that is not 0 -/
theorem down_place (n : Nat) (h : n % 2 = 0) (h0 : n ≠ 0) : up (n - 1) = ctz (gray n) + 1 := by
  induction n using Nat.strongRecOn with
  | ind n ih =>
    rw [up_odd (by omega)]
    have b := gray_mod n
    have e : (n - 1) / 2 = n / 2 - 1 := by omega
    rw [e]
    by_cases g : n / 2 % 2 = 0
    · rw [ih (n / 2) (by omega) g (by omega), ctz_even (x := gray n) (by omega) (gray_pos h0), gray_half]
    · have g' : n / 2 % 2 = 1 := by omega
      rw [up_even (by omega), ctz_odd (by omega)]

theorem up_lt (k : Nat) : ∀ n, n + 1 < 2 ^ k → up n < k := by
  induction k with
  | zero => intro n h; simp at h
  | succ k ih =>
    intro n h
    by_cases g : n % 2 = 0
    · rw [up_even g]; omega
    · rw [up_odd (by omega)]
      have := ih (n / 2) (by rw [Nat.pow_succ] at h; omega)
      omega
theorem ctz_lt (k : Nat) : ∀ x, x ≠ 0 → x < 2 ^ k → ctz x < k := by
  induction k with
  | zero => intro n h; simp; omega
  | succ k ih =>
    intro n h0 h
    by_cases g : n % 2 = 1
    · rw [ctz_odd g]; omega
    · rw [ctz_even (by omega) h0]
      have := ih (n / 2) (by omega) (by rw [Nat.pow_succ] at h; omega)
      omega
end Go.Proofs.YtmjeilimdnngpaaDoor.RM
