/- Plain mathematics of chapter 2: digits, sets, choices. Nothing of any program. -/
import Derived.Test.YtbgdhiieeegnjacStr
namespace Go.Proofs.Ytbgdhiieeegnjac
open RM

/-- the number that a text of signs tells, the first sign being the greatest digit -/
def dgF (g : Nat) (c : UInt8) : Nat := 2 * g + (if c = 49 then 1 else 0)
def dg (l : List UInt8) : Nat := l.foldl dgF 0
theorem dg_nil : dg [] = 0 := rfl
theorem dg_snoc (l : List UInt8) (c : UInt8) : dg (l ++ [c]) = 2 * dg l + (if c = 49 then 1 else 0) := by simp [dg, dgF]
theorem dgF_lt : ∀ (l : List UInt8) (g : Nat), l.foldl dgF g < (g + 1) * 2 ^ l.length := by
  intro l
  induction l with
  | nil => intro g; simp
  | cons c t ih =>
    intro g
    have h := ih (dgF g c)
    have b : dgF g c + 1 ≤ 2 * (g + 1) := by unfold dgF; split <;> omega
    have m : (dgF g c + 1) * 2 ^ t.length ≤ 2 * (g + 1) * 2 ^ t.length := Nat.mul_le_mul_right _ b
    have e : (g + 1) * 2 ^ (t.length + 1) = 2 * (g + 1) * 2 ^ t.length := by
      rw [Nat.pow_succ, Nat.mul_comm 2 (g + 1), Nat.mul_assoc, Nat.mul_comm 2 (2 ^ t.length)]
    simp only [List.foldl_cons, List.length_cons]
    omega
theorem dg_lt (l : List UInt8) : dg l < 2 ^ l.length := by
  have := dgF_lt l 0
  simpa [dg] using this
theorem dg_take (s : ByteArray) (k : Nat) (h : k < s.size) : dg (s.data.toList.take (k + 1)) = 2 * dg (s.data.toList.take k) + (if s[k] = 49 then 1 else 0) := by
  rw [List.take_succ_eq_append_getElem (by simpa using h), dg_snoc]; rfl
theorem dg_take_lt (l : List UInt8) (k : Nat) (h : k ≤ 40) : dg (l.take k) < 1099511627776 := by
  have a := dg_lt (l.take k)
  have b : (l.take k).length ≤ 40 := by rw [List.length_take]; omega
  have c : 2 ^ (l.take k).length ≤ 2 ^ 40 := Nat.pow_le_pow_right (by omega) b
  omega

/-- the places of the digits 1 among the first j -/
def setL (j x : Nat) : List Int := ((List.range j).filter fun k => x.testBit k).map fun (k : Nat) => (k : Int)
theorem setL_zero (x : Nat) : setL 0 x = [] := rfl
theorem setL_one (j x : Nat) (h : x.testBit j = true) : setL (j + 1) x = setL j x ++ [(j : Int)] := by
  simp [setL, List.range_succ, List.filter_append, h]
theorem setL_off (j x : Nat) (h : x.testBit j = false) : setL (j + 1) x = setL j x := by
  simp [setL, List.range_succ, List.filter_append, h]
theorem setL_len (j x : Nat) : (setL j x).length ≤ j := by
  simp only [setL, List.length_map]
  exact Nat.le_trans (List.length_filter_le _ _) (by simp)

/-- how many choices of k of s there are, by the product -/
def ch (s : Nat) : Nat → Nat
  | 0 => 1
  | k + 1 => ch s k * (s - k) / (k + 1)
theorem ch_zero (s : Nat) : ch s 0 = 1 := rfl
theorem ch_succ (s k : Nat) : ch s (k + 1) = ch s k * (s - k) / (k + 1) := rfl
theorem ch_le' : ∀ s, s < 21 → ∀ k, k < 22 → ch s k ≤ 184756 := by decide +kernel
theorem ch_le {s k : Nat} (hs : s ≤ 20) (hk : k ≤ 21) : ch s k ≤ 184756 := ch_le' s (by omega) k (by omega)
theorem pascal' : ∀ s, s < 20 → ∀ k, k < 21 → ch (s + 1) (k + 1) = ch s k + ch s (k + 1) := by decide +kernel
theorem pascal {s k : Nat} (hs : s < 20) (hk : k ≤ 20) : ch (s + 1) (k + 1) = ch s k + ch s (k + 1) := pascal' s hs k (by omega)
theorem ch_over' : ∀ s, s < 21 → ∀ k, k < 22 → s < k → ch s k = 0 := by decide +kernel
theorem ch_over {s k : Nat} (hs : s ≤ 20) (hk : k ≤ 21) (h : s < k) : ch s k = 0 := ch_over' s (by omega) k (by omega) h
theorem ch_pos' : ∀ s, s < 21 → ∀ k, k < 22 → k ≤ s → 1 ≤ ch s k := by decide +kernel
theorem ch_pos {s k : Nat} (hs : s ≤ 20) (h : k ≤ s) : 1 ≤ ch s k := ch_pos' s (by omega) k (by omega) h

/-- the choice with a rank, increasing -/
def choL : Nat → Nat → Nat → List Int
  | 0, _, _ => []
  | s + 1, c, r => if r < ch s c then choL s c r else choL s (c - 1) (ch s (c - 1) - 1 - (r - ch s c)) ++ [(s : Int)]
theorem choL_zero (s : Nat) : choL s 0 0 = [] := by
  induction s with
  | zero => rfl
  | succ s ih => unfold choL; rw [if_pos (by rw [ch_zero]; omega)]; exact ih
theorem choL_low (s c r : Nat) (h : r < ch s c) : choL (s + 1) c r = choL s c r := by
  conv => lhs; unfold choL
  rw [if_pos h]
theorem choL_high (s c r : Nat) (h : ¬ r < ch s c) : choL (s + 1) c r = choL s (c - 1) (ch s (c - 1) - 1 - (r - ch s c)) ++ [(s : Int)] := by
  conv => lhs; unfold choL
  rw [if_neg h]
/-- behind a number that is chosen: how many are left, and their rank -/
theorem cho_step {s c r : Nat} (hs : s < 20) (hc : c ≤ s + 1) (hr : r < ch (s + 1) c) (h : ¬ r < ch s c) : 1 ≤ c ∧ c - 1 ≤ s ∧ r - ch s c < ch s (c - 1) ∧ ch s (c - 1) - 1 - (r - ch s c) < ch s (c - 1) := by
  cases c with
  | zero => rw [ch_zero] at hr h; omega
  | succ c =>
    have p := pascal (s := s) (k := c) hs (by omega)
    simp only [Nat.add_sub_cancel]
    refine ⟨by omega, by omega, by omega, by omega⟩
theorem cho_low {s c r : Nat} (hs : s < 20) (hc : c ≤ s + 1) (h : r < ch s c) : c ≤ s := by
  rcases Nat.lt_or_ge s c with g | g
  · rw [ch_over (by omega) (by omega) g] at h; omega
  · exact g
theorem choL_len (s : Nat) : ∀ c r, s ≤ 20 → c ≤ s → r < ch s c → (choL s c r).length = c := by
  induction s with
  | zero => intro c r _ hc _; have : c = 0 := by omega
            subst this; rfl
  | succ s ih =>
    intro c r hs hc hr
    by_cases h : r < ch s c
    · rw [choL_low s c r h]; exact ih c r (by omega) (cho_low (by omega) hc h) h
    · obtain ⟨a, b, d, e⟩ := cho_step (by omega) hc hr h
      rw [choL_high s c r h, List.length_append, ih _ _ (by omega) b e]; simp; omega

/-- the rank of the first i numbers of a choice -/
def rkC (l : List Int) : Nat → Int
  | 0 => 0
  | i + 1 => (ch ((l.getD i 0).toNat + 1) (i + 1) : Int) - 1 - rkC l i
theorem rkC_zero (l : List Int) : rkC l 0 = 0 := rfl
theorem rkC_succ (l : List Int) (i : Nat) : rkC l (i + 1) = (ch ((l.getD i 0).toNat + 1) (i + 1) : Int) - 1 - rkC l i := rfl
theorem rkC_bd (l : List Int) (i : Nat) (hi : i ≤ 20) (h : ∀ j, j < i → l.getD j 0 < 20) : -(i * 200000 : Int) ≤ rkC l i ∧ rkC l i ≤ i * 200000 := by
  induction i with
  | zero => rw [rkC_zero]; omega
  | succ i ih =>
    have a := ih (by omega) (fun j hj => h j (by omega))
    have b := h i (by omega)
    have c := ch_le (s := (l.getD i 0).toNat + 1) (k := i + 1) (by omega) (by omega)
    rw [rkC_succ]
    omega
end Go.Proofs.Ytbgdhiieeegnjac
