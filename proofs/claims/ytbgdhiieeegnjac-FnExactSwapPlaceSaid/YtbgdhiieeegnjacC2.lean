/- Plain mathematics of chapter 2: orders by swaps, mixed digits. Nothing of any program. -/
import Derived.Test.YtbgdhiieeegnjacStr
namespace Go.Proofs.Ytbgdhiieeegnjac
open RM

/-- how many lists of s numbers there are -/
def fac : Nat → Nat
  | 0 => 1
  | s + 1 => fac s * (s + 1)
theorem fac_zero : fac 0 = 1 := rfl
theorem fac_succ (s : Nat) : fac (s + 1) = fac s * (s + 1) := rfl
theorem fac_le' : ∀ s, s < 11 → 1 ≤ fac s ∧ fac s ≤ 3628800 := by decide +kernel
theorem fac_le {s : Nat} (h : s ≤ 10) : 1 ≤ fac s ∧ fac s ≤ 3628800 := fac_le' s (by omega)
theorem fac_div {s r : Nat} (h : r < fac (s + 1)) : r / (s + 1) < fac s := by
  rw [fac_succ] at h
  exact Nat.div_lt_of_lt_mul (by rw [Nat.mul_comm]; exact h)

/-- the place at which s is put into the list of s numbers, for the list with the rank r -/
def putAt (s r : Nat) : Nat := if r / (s + 1) % 2 = 0 then s - r % (s + 1) else r % (s + 1)
theorem putAt_le (s r : Nat) : putAt s r ≤ s := by
  unfold putAt
  have := Nat.mod_lt r (show 0 < s + 1 by omega)
  split <;> omega
/-- the list with a rank in the order by swaps -/
def swL : Nat → Nat → List Int
  | 0, _ => []
  | s + 1, r => (swL s (r / (s + 1))).take (putAt s r) ++ (s : Int) :: (swL s (r / (s + 1))).drop (putAt s r)
theorem swL_zero (r : Nat) : swL 0 r = [] := rfl
theorem swL_succ (s r : Nat) : swL (s + 1) r = (swL s (r / (s + 1))).take (putAt s r) ++ (s : Int) :: (swL s (r / (s + 1))).drop (putAt s r) := rfl
theorem swL_len (s : Nat) : ∀ r, (swL s r).length = s := by
  induction s with
  | zero => intro r; rfl
  | succ s ih =>
    intro r
    have h := ih (r / (s + 1))
    have p := putAt_le s r
    rw [swL_succ, List.length_append, List.length_cons, List.length_take, List.length_drop, h]
    omega

/-- how many of the numbers ahead of k are less than k -/
def plc (k : Int) : List Int → Nat
  | [] => 0
  | x :: t => if x = k then 0 else (if x < k then 1 else 0) + plc k t
theorem plc_nil (k : Int) : plc k [] = 0 := rfl
theorem plc_here (k : Int) (t : List Int) : plc k (k :: t) = 0 := by simp [plc]
theorem plc_less (k x : Int) (t : List Int) (h : x < k) : plc k (x :: t) = 1 + plc k t := by
  have : ¬ x = k := by omega
  simp [plc, this, h]
theorem plc_more (k x : Int) (t : List Int) (h : k < x) : plc k (x :: t) = plc k t := by
  have a : ¬ x = k := by omega
  have b : ¬ x < k := by omega
  simp [plc, a, b]
theorem plc_le_filter (k : Int) (l : List Int) : plc k l ≤ (l.filter fun x => decide (x < k)).length := by
  induction l with
  | nil => simp [plc]
  | cons x t ih =>
    by_cases h : x < k
    · rw [plc_less k x t h]; simp [h]; omega
    · by_cases e : x = k
      · subst e; rw [plc_here]; omega
      · rw [plc_more k x t (by omega)]; simp [h]; exact ih

/-- how many numbers of a list are among 0, 1, .. less than k, counted number by number -/
def cnts (l : List Int) : Nat → Nat
  | 0 => 0
  | k + 1 => cnts l k + l.count (k : Int)
def inB (k : Nat) (x : Int) : Bool := decide (0 ≤ x) && decide (x < (k : Int))
theorem inB_iff (k : Nat) (x : Int) : inB k x = true ↔ 0 ≤ x ∧ x < (k : Int) := by unfold inB; simp
theorem cnts_eq (l : List Int) (k : Nat) : cnts l k = (l.filter (inB k)).length := by
  induction k with
  | zero =>
    show 0 = _
    symm
    rw [List.length_eq_zero_iff, List.filter_eq_nil_iff]
    intro a _ h
    have := (inB_iff 0 a).1 h
    omega
  | succ k ih =>
    show cnts l k + l.count (k : Int) = _
    rw [ih]
    clear ih
    induction l with
    | nil => rfl
    | cons x t ih =>
      rw [List.count_cons]
      by_cases e : x = (k : Int)
      · subst e
        have a : inB (k + 1) (k : Int) = true := (inB_iff _ _).2 (by omega)
        have b : ¬ inB k (k : Int) = true := fun h => by have := (inB_iff _ _).1 h; omega
        rw [List.filter_cons_of_pos a, List.filter_cons_of_neg b, List.length_cons]
        simp only [beq_self_eq_true, if_true]
        omega
      · have c : (x == (k : Int)) = false := by simpa using e
        rw [c]
        by_cases g : 0 ≤ x ∧ x < (k : Int)
        · have a : inB (k + 1) x = true := (inB_iff _ _).2 (by omega)
          have b : inB k x = true := (inB_iff _ _).2 g
          rw [List.filter_cons_of_pos a, List.filter_cons_of_pos b, List.length_cons, List.length_cons]
          simp only [Bool.false_eq_true, if_false]
          omega
        · have a : ¬ inB (k + 1) x = true := fun h => by have := (inB_iff _ _).1 h; omega
          have b : ¬ inB k x = true := fun h => g ((inB_iff _ _).1 h)
          rw [List.filter_cons_of_neg a, List.filter_cons_of_neg b]
          simp only [Bool.false_eq_true, if_false]
          omega
theorem cnts_ge (l : List Int) (k : Nat) (h : ∀ j : Nat, j < k → (j : Int) ∈ l) : k ≤ cnts l k := by
  induction k with
  | zero => omega
  | succ k ih =>
    have a := ih fun j hj => h j (by omega)
    have b : 0 < l.count (k : Int) := List.count_pos_iff.2 (h k (by omega))
    show k + 1 ≤ cnts l k + l.count (k : Int); omega
theorem cnts_le (l : List Int) (k : Nat) (h : l.Nodup) : cnts l k ≤ k := by
  induction k with
  | zero => exact Nat.le_refl _
  | succ k ih =>
    have b : l.count (k : Int) ≤ 1 := List.nodup_iff_count.1 h _
    show cnts l k + l.count (k : Int) ≤ k + 1; omega
theorem cnts_tight (l : List Int) (k : Nat) (h : k ≤ cnts l k) (hn : l.Nodup) : ∀ j : Nat, j < k → (j : Int) ∈ l := by
  induction k with
  | zero => intro j hj; omega
  | succ k ih =>
    have b : l.count (k : Int) ≤ 1 := List.nodup_iff_count.1 hn _
    have c := cnts_le l k hn
    have d : k + 1 ≤ cnts l k + l.count (k : Int) := h
    intro j hj
    by_cases e : j = k
    · subst e; exact List.count_pos_iff.1 (by omega)
    · exact ih (by omega) j (by omega)
theorem cnts_one (l : List Int) (k : Nat) (h : ∀ j : Nat, j < k → (j : Int) ∈ l) (hc : cnts l k ≤ k) : ∀ j : Nat, j < k → l.count (j : Int) = 1 := by
  induction k with
  | zero => intro j hj; omega
  | succ k ih =>
    have a := cnts_ge l k fun j hj => h j (by omega)
    have b : 0 < l.count (k : Int) := List.count_pos_iff.2 (h k (by omega))
    have d : cnts l k + l.count (k : Int) ≤ k + 1 := hc
    intro j hj
    by_cases e : j = k
    · subst e; omega
    · exact ih (fun j hj => h j (by omega)) (by omega) j (by omega)

/-- a list of n numbers that has each of 0, 1, .. less than n -/
def perB (l : List Int) : Bool := (List.range l.length).all fun (j : Nat) => l.contains (j : Int)
theorem per_mem {l : List Int} (h : perB l = true) (j : Nat) (hj : j < l.length) : (j : Int) ∈ l := by
  unfold perB at h
  rw [List.all_eq_true] at h
  have := h j (List.mem_range.2 hj)
  simpa using this
theorem per_yes {l : List Int} (h : ∀ j : Nat, j < l.length → (j : Int) ∈ l) : perB l = true := by
  unfold perB
  rw [List.all_eq_true]
  intro j hj
  have := h j (List.mem_range.1 hj)
  simpa using this
theorem per_no {l : List Int} (j : Nat) (hj : j < l.length) (h : (j : Int) ∉ l) : perB l = false := by
  cases e : perB l
  · rfl
  · exact absurd (per_mem e j hj) h
theorem per_range {l : List Int} (h : perB l = true) : ∀ x ∈ l, 0 ≤ x ∧ x < l.length := by
  have a := cnts_ge l l.length (per_mem h)
  rw [cnts_eq] at a
  have b : (l.filter (inB l.length)).length = l.length := Nat.le_antisymm (List.length_filter_le _ _) a
  rw [List.length_filter_eq_length_iff] at b
  intro x hx
  exact (inB_iff _ _).1 (b x hx)
theorem per_count {l : List Int} (h : perB l = true) (j : Nat) (hj : j < l.length) : l.count (j : Int) = 1 := by
  refine cnts_one l l.length (per_mem h) ?_ j hj
  rw [cnts_eq]; exact List.length_filter_le _ _
theorem per_nodup {l : List Int} (h : perB l = true) : l.Nodup := by
  rw [List.nodup_iff_count]
  intro x
  by_cases hx : x ∈ l
  · obtain ⟨a, b⟩ := per_range h x hx
    have := per_count h x.toNat (by omega)
    rw [Int.toNat_of_nonneg a] at this; omega
  · rw [List.count_eq_zero.2 hx]; omega
theorem per_of {l : List Int} (h : ∀ x ∈ l, 0 ≤ x ∧ x < l.length) (hn : l.Nodup) : perB l = true := by
  refine per_yes (cnts_tight l l.length ?_ hn)
  rw [cnts_eq]
  have b : (l.filter (inB l.length)).length = l.length := by
    rw [List.length_filter_eq_length_iff]
    intro x hx
    exact (inB_iff _ _).2 (h x hx)
  omega
theorem plc_le {l : List Int} (h : perB l = true) (k : Nat) (hk : k ≤ l.length) : plc (k : Int) l ≤ k := by
  have a := plc_le_filter (k : Int) l
  have b := cnts_le l k (per_nodup h)
  rw [cnts_eq] at b
  have c : l.filter (inB k) = l.filter fun x => decide (x < (k : Int)) := by
    apply List.filter_congr
    intro x hx
    have := (per_range h x hx).1
    unfold inB; simp [this]
  rw [c] at b; omega

/-- the rank of the numbers less than k in a list -/
def rkS (l : List Int) : Nat → Nat
  | 0 => 0
  | k + 1 => rkS l k * (k + 1) + (if rkS l k % 2 = 0 then k - plc (k : Int) l else plc (k : Int) l)
theorem rkS_zero (l : List Int) : rkS l 0 = 0 := rfl
theorem rkS_succ (l : List Int) (k : Nat) : rkS l (k + 1) = rkS l k * (k + 1) + (if rkS l k % 2 = 0 then k - plc (k : Int) l else plc (k : Int) l) := rfl
theorem rkS_lt {l : List Int} (h : perB l = true) (k : Nat) (hk : k ≤ l.length) : rkS l k < fac k := by
  induction k with
  | zero => rw [rkS_zero, fac_zero]; omega
  | succ k ih =>
    have a := ih (by omega)
    have b := plc_le h k (by omega)
    have c : (if rkS l k % 2 = 0 then k - plc (k : Int) l else plc (k : Int) l) ≤ k := by split <;> omega
    rw [rkS_succ, fac_succ]
    have d : rkS l k * (k + 1) + (k + 1) ≤ fac k * (k + 1) := by
      have := Nat.mul_le_mul_right (k + 1) (show rkS l k + 1 ≤ fac k by omega)
      rw [Nat.add_mul, Nat.one_mul] at this; exact this
    omega

/-- the product of limits -/
def prd : List Int → Int
  | [] => 1
  | x :: t => x * prd t
theorem prd_nil : prd [] = 1 := rfl
theorem prd_cons (x : Int) (t : List Int) : prd (x :: t) = x * prd t := rfl
def limB (x : Int) : Bool := decide (1 ≤ x) && decide (x ≤ 20)
theorem limB_iff (x : Int) : limB x = true ↔ 1 ≤ x ∧ x ≤ 20 := by unfold limB; simp
theorem prd_bd (l : List Int) (h : l.all limB = true) : 1 ≤ prd l ∧ prd l ≤ (20 : Int) ^ l.length := by
  induction l with
  | nil => simp [prd]
  | cons x t ih =>
    rw [List.all_cons, Bool.and_eq_true] at h
    obtain ⟨a, b⟩ := ih h.2
    obtain ⟨c, d⟩ := (limB_iff x).1 h.1
    rw [prd_cons, List.length_cons, Int.pow_succ]
    constructor
    · have := Int.mul_le_mul c a (by omega) (by omega); omega
    · have e : x * prd t ≤ 20 * (20 : Int) ^ t.length := Int.mul_le_mul d b (by omega) (by omega)
      rw [Int.mul_comm 20] at e; exact e
theorem prd_le (l : List Int) (h : l.all limB = true) (hl : l.length ≤ 8) : 1 ≤ prd l ∧ prd l ≤ 25600000000 := by
  obtain ⟨a, b⟩ := prd_bd l h
  refine ⟨a, Int.le_trans b ?_⟩
  have c : (20 : Nat) ^ l.length ≤ 20 ^ 8 := Nat.pow_le_pow_right (by omega) hl
  have d : ((20 : Int) ^ l.length) = ((20 ^ l.length : Nat) : Int) := by simp
  rw [d]; omega

/-- mixed digits -/
def bck (d r p : Int) : Int := if d % 2 = 1 then p - 1 - r else r
theorem bck_bd {d r p : Int} (h0 : 0 ≤ r) (h1 : r < p) : 0 ≤ bck d r p ∧ bck d r p < p := by unfold bck; split <;> omega
def mxL : List Int → Int → List Int
  | [], _ => []
  | _ :: t, r => (r / prd t) :: mxL t (bck (r / prd t) (r % prd t) (prd t))
theorem mxL_nil (r : Int) : mxL [] r = [] := rfl
theorem mxL_cons (x : Int) (t : List Int) (r : Int) : mxL (x :: t) r = (r / prd t) :: mxL t (bck (r / prd t) (r % prd t) (prd t)) := rfl
theorem mxL_len (l : List Int) : ∀ r, (mxL l r).length = l.length := by
  induction l with
  | nil => intro r; rfl
  | cons x t ih => intro r; rw [mxL_cons, List.length_cons, ih, List.length_cons]
def rkM : List Int → List Int → Int
  | x :: t, d :: u => d * prd t + bck d (rkM t u) (prd t)
  | _, _ => 0
theorem rkM_nil : rkM [] [] = 0 := rfl
theorem rkM_cons (x : Int) (t : List Int) (d : Int) (u : List Int) : rkM (x :: t) (d :: u) = d * prd t + bck d (rkM t u) (prd t) := rfl
end Go.Proofs.Ytbgdhiieeegnjac
