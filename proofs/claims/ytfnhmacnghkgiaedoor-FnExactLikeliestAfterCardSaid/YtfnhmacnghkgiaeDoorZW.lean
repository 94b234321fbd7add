/- Chapter 7: mathematics of walks counted move by move along a line of numbers 0..L; a move from an end counts d times. -/
import Derived.Test.YtfnhmacnghkgiaeDoorZ1
namespace Go.Proofs.YtfnhmacnghkgiaeDoor
open RM

/-- how often a move from a number counts -/
def wc (L d k : Nat) : Nat := if k = 0 ∨ k = L then d else 1
/-- one move more -/
def stepW (L d : Nat) (f : Nat → Nat) (i : Nat) : Nat :=
  (if 1 ≤ i ∧ i ≤ L then wc L d (i - 1) * f (i - 1) else 0) + (if i < L then wc L d (i + 1) * f (i + 1) else 0)
def wk (L d a : Nat) : Nat → Nat → Nat
  | 0 => fun i => if i = a then 1 else 0
  | j + 1 => stepW L d (wk L d a j)
theorem wk_zero (L d a i : Nat) : wk L d a 0 i = if i = a then 1 else 0 := rfl
theorem wk_succ (L d a j i : Nat) : wk L d a (j + 1) i = stepW L d (wk L d a j) i := rfl
/-- walks lead no farther than they have moves -/
theorem wk_sup (L d a : Nat) (ha : a ≤ L) : ∀ j i, (i + j < a ∨ a + j < i ∨ L < i) → wk L d a j i = 0
  | 0, i, h => by rw [wk_zero, if_neg (by omega)]
  | j + 1, i, h => by
    have h1 : ∀ k, (k + j < a ∨ a + j < k ∨ L < k) → wk L d a j k = 0 := wk_sup L d a ha j
    rw [wk_succ]; unfold stepW
    split
    · split
      · rw [h1 (i - 1) (by omega), h1 (i + 1) (by omega)]; simp
      · rw [h1 (i - 1) (by omega)]; simp
    · split
      · rw [h1 (i + 1) (by omega)]; simp
      · rfl
/-- the sum of the first m -/
def tot (f : Nat → Nat) : Nat → Nat
  | 0 => 0
  | m + 1 => tot f m + f m
theorem tot_le_at (f : Nat → Nat) (m i : Nat) (h : i < m) : f i ≤ tot f m := by
  induction m with
  | zero => omega
  | succ m ih =>
    show f i ≤ tot f m + f m
    by_cases e : i = m
    · subst e; omega
    · have := ih (by omega); omega
/-- what each number sends on -/
def sent (L d : Nat) (f : Nat → Nat) (k : Nat) : Nat := wc L d k * f k
theorem tot_step (L d : Nat) (f : Nat → Nat) (m : Nat) (h : m < L) : tot (stepW L d f) (m + 1) + sent L d f 0 = tot (sent L d f) m + tot (sent L d f) (m + 2) := by
  induction m with
  | zero =>
    show 0 + stepW L d f 0 + sent L d f 0 = 0 + (0 + sent L d f 0 + sent L d f 1)
    unfold stepW
    rw [if_neg (by omega), if_pos h]
    show 0 + (0 + sent L d f 1) + sent L d f 0 = _
    omega
  | succ m ih =>
    have e := ih (by omega)
    have s : stepW L d f (m + 1) = sent L d f m + sent L d f (m + 2) := by
      unfold stepW
      rw [if_pos (by omega), if_pos (by omega)]; rfl
    show tot (stepW L d f) (m + 1) + stepW L d f (m + 1) + sent L d f 0 = (tot (sent L d f) m + sent L d f m) + (tot (sent L d f) (m + 2) + sent L d f (m + 2))
    rw [s]; omega
theorem tot_sent (L d : Nat) (f : Nat → Nat) (m : Nat) (h : m < L) : tot (sent L d f) (m + 1) + f 0 = tot f (m + 1) + d * f 0 := by
  induction m with
  | zero =>
    show 0 + sent L d f 0 + f 0 = 0 + f 0 + d * f 0
    unfold sent wc; rw [if_pos (Or.inl rfl)]; omega
  | succ m ih =>
    have e := ih (by omega)
    have s : sent L d f (m + 1) = f (m + 1) := by unfold sent wc; rw [if_neg (by omega), Nat.one_mul]
    show tot (sent L d f) (m + 1) + sent L d f (m + 1) + f 0 = tot f (m + 1) + f (m + 1) + d * f 0
    rw [s]; omega
theorem tot_bound (L d : Nat) (f : Nat → Nat) (hL : 1 ≤ L) (hd : d ≤ 2) : tot (stepW L d f) (L + 1) ≤ 2 * tot f (L + 1) := by
  obtain ⟨M, rfl⟩ : ∃ M, L = M + 1 := ⟨L - 1, by omega⟩
  have a := tot_step (M + 1) d f M (by omega)
  have b := tot_sent (M + 1) d f M (by omega)
  have s : stepW (M + 1) d f (M + 1) = sent (M + 1) d f M := by
    unfold stepW
    rw [if_pos (by omega), if_neg (by omega)]; rfl
  have s2 : sent (M + 1) d f (M + 1) = d * f (M + 1) := by unfold sent wc; rw [if_pos (Or.inr rfl)]
  have s0 : sent (M + 1) d f 0 = d * f 0 := by unfold sent wc; rw [if_pos (Or.inl rfl)]
  have e1 : tot (sent (M + 1) d f) (M + 2) = tot (sent (M + 1) d f) (M + 1) + d * f (M + 1) := by rw [← s2]; rfl
  have e2 : tot (sent (M + 1) d f) (M + 1) = tot (sent (M + 1) d f) M + sent (M + 1) d f M := rfl
  have e3 : tot (stepW (M + 1) d f) (M + 1 + 1) = tot (stepW (M + 1) d f) (M + 1) + stepW (M + 1) d f (M + 1) := rfl
  have e4 : tot f (M + 1 + 1) = tot f (M + 1) + f (M + 1) := rfl
  have h1 : d * f 0 ≤ 2 * f 0 := Nat.mul_le_mul_right _ hd
  have h2 : d * f (M + 1) ≤ 2 * f (M + 1) := Nat.mul_le_mul_right _ hd
  rw [e3, e4, s]
  omega
theorem tot_one (a : Nat) : ∀ m, tot (fun i => if i = a then 1 else 0) m = if a < m then 1 else 0
  | 0 => rfl
  | m + 1 => by
    show tot _ m + (if m = a then 1 else 0) = _
    rw [tot_one a m]
    split <;> split <;> split <;> omega
theorem wk_tot (L d a : Nat) (hL : 1 ≤ L) (hd : d ≤ 2) : ∀ j, tot (wk L d a j) (L + 1) ≤ 2 ^ j
  | 0 => by
    have := tot_one a (L + 1)
    show tot (fun i => if i = a then 1 else 0) (L + 1) ≤ 1
    rw [this]; split <;> omega
  | j + 1 => by
    have := tot_bound L d (wk L d a j) hL hd
    have := wk_tot L d a hL hd j
    show tot (stepW L d (wk L d a j)) (L + 1) ≤ 2 ^ (j + 1)
    rw [Nat.pow_succ]; omega
theorem wk_le (L d a : Nat) (hL : 1 ≤ L) (hd : d ≤ 2) (ha : a ≤ L) (j i : Nat) : wk L d a j i ≤ 2 ^ j := by
  by_cases h : i < L + 1
  · exact Nat.le_trans (tot_le_at _ _ _ h) (wk_tot L d a hL hd j)
  · rw [wk_sup L d a ha j i (by omega)]; exact Nat.zero_le _
/-- from each number there is a move -/
theorem wk_some (L d a : Nat) (hL : 1 ≤ L) (hd : 1 ≤ d) (ha : a ≤ L) : ∀ j, ∃ i, i ≤ L ∧ 0 < wk L d a j i
  | 0 => ⟨a, ha, by rw [wk_zero, if_pos rfl]; omega⟩
  | j + 1 => by
    obtain ⟨i, hi, h⟩ := wk_some L d a hL hd ha j
    have hw : ∀ k, 0 < wc L d k := fun k => by unfold wc; split <;> omega
    by_cases e : i < L
    · refine ⟨i + 1, by omega, ?_⟩
      rw [wk_succ]; unfold stepW
      rw [if_pos (by omega)]
      have := Nat.mul_pos (hw i) h
      rw [Nat.add_sub_cancel]; omega
    · refine ⟨i - 1, by omega, ?_⟩
      rw [wk_succ]; unfold stepW
      rw [if_pos (show i - 1 < L by omega)]
      have := Nat.mul_pos (hw i) h
      rw [show i - 1 + 1 = i from by omega]; omega

/-- the window of the numbers that are reached in N moves -/
def loW (a N : Nat) : Nat := a - N
def hiW (L a N : Nat) : Nat := min (a + N) L
/-- the program's row -/
def winR (L d a N j : Nat) : List Nat := (List.range (hiW L a N - loW a N + 1)).map fun i => wk L d a j (loW a N + i)
theorem winR_len (L d a N j : Nat) : (winR L d a N j).length = hiW L a N - loW a N + 1 := by unfold winR; simp
theorem winR_get (L d a N j i : Nat) (h : i < (winR L d a N j).length) : (winR L d a N j)[i] = wk L d a j (loW a N + i) := by
  have e : (winR L d a N j)[i]? = some (wk L d a j (loW a N + i)) := by
    have h2 := h
    rw [winR_len] at h2
    unfold winR
    rw [List.getElem?_map, List.getElem?_range h2]; rfl
  rw [List.getElem?_eq_getElem h] at e; exact Option.some.inj e
/-- the program's row with both ends d times -/
def endR (d : Nat) (xs : List Nat) (i : Nat) : Nat := if i = 0 ∨ i = xs.length - 1 then d * xs.getD i 0 else xs.getD i 0
theorem winR_step (L d a N j : Nat) (ha : a ≤ L) (hj : j < N) (i : Nat) (hi : i < (winR L d a N j).length) (hL : 1 ≤ L) :
    wk L d a (j + 1) (loW a N + i) = (if 1 ≤ i then endR d (winR L d a N j) (i - 1) else 0) + (if i + 1 < (winR L d a N j).length then endR d (winR L d a N j) (i + 1) else 0) := by
  have hlen := winR_len L d a N j
  have hg : ∀ k, k < (winR L d a N j).length → (winR L d a N j).getD k 0 = wk L d a j (loW a N + k) := fun k hk => by
    rw [List.getD_eq_getElem?_getD, List.getElem?_eq_getElem hk, winR_get]; rfl
  have hs := wk_sup L d a ha j
  rw [hlen] at hi hg
  unfold loW hiW at *
  rw [wk_succ]
  unfold stepW
  congr 1
  · by_cases h1 : 1 ≤ i
    · rw [if_pos (by omega), if_pos h1]
      unfold endR wc
      rw [hg (i - 1) (by omega), hlen, show a - N + i - 1 = a - N + (i - 1) from by omega]
      by_cases e : a - N + (i - 1) = 0 ∨ a - N + (i - 1) = L
      · rw [if_pos e, if_pos (by omega)]
      · rw [if_neg e, Nat.one_mul]
        split
        · rw [hs (a - N + (i - 1)) (by omega)]; simp
        · rfl
    · rw [if_neg h1]
      split
      · rw [hs (a - N + i - 1) (by omega)]; simp
      · rfl
  · rw [hlen]
    by_cases h1 : i + 1 < min (a + N) L - (a - N) + 1
    · rw [if_pos (by omega), if_pos h1]
      unfold endR wc
      rw [hg (i + 1) h1, hlen, show a - N + i + 1 = a - N + (i + 1) from by omega]
      by_cases e : a - N + (i + 1) = 0 ∨ a - N + (i + 1) = L
      · rw [if_pos e, if_pos (by omega)]
      · rw [if_neg e, Nat.one_mul]
        split
        · rw [hs (a - N + (i + 1)) (by omega)]; simp
        · rfl
    · rw [if_neg h1]
      split
      · rw [hs (a - N + i + 1) (by omega)]; simp
      · rfl
end Go.Proofs.YtfnhmacnghkgiaeDoor
