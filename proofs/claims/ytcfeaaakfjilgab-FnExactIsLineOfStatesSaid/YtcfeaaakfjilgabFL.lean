/- How many states a key fits: plain mathematics. -/
import Derived.Test.YtcfeaaakfjilgabW1
import Derived.Test.YtcfeaaakfjilgabPop
import Derived.Test.YtcfeaaakfjilgabVM
import Derived.Test.YtcfeaaakfjilgabGP
namespace Go.Proofs.Ytcfeaaakfjilgab
set_option linter.unusedSimpArgs false
set_option linter.unusedVariables false
open RM
def sumN (f : Nat → Nat) : Nat → Nat
  | 0 => 0
  | k + 1 => sumN f k + f k
theorem sumN_add (f g : Nat → Nat) (N : Nat) : sumN (fun y => f y + g y) N = sumN f N + sumN g N := by
  induction N with
  | zero => rfl
  | succ N ih => show sumN _ N + (f N + g N) = (sumN f N + f N) + (sumN g N + g N); rw [ih]; omega
theorem sumN_congr (f g : Nat → Nat) (N : Nat) (h : ∀ y, y < N → f y = g y) : sumN f N = sumN g N := by
  induction N with
  | zero => rfl
  | succ N ih => show sumN f N + f N = sumN g N + g N; rw [ih (fun y hy => h y (by omega)), h N (by omega)]
theorem sumN_double (f : Nat → Nat) (N : Nat) : sumN f (2 * N) = sumN (fun y => f (2 * y)) N + sumN (fun y => f (2 * y + 1)) N := by
  induction N with
  | zero => rfl
  | succ N ih =>
    show sumN f (2 * N + 1 + 1) = (sumN _ N + f (2 * N)) + (sumN _ N + f (2 * N + 1))
    show (sumN f (2 * N) + f (2 * N)) + f (2 * N + 1) = _
    rw [ih]; omega
theorem sumN_filter (p : Nat → Bool) (N : Nat) : sumN (fun y => if p y then 1 else 0) N = ((List.range N).filter p).length := by
  induction N with
  | zero => rfl
  | succ N ih =>
    rw [List.range_succ, List.filter_append, List.length_append, ← ih]
    show _ + (if p N then 1 else 0) = _
    congr 1
    cases h : p N <;> simp [h]
theorem sumN_gray (p : Nat → Bool) (n : Nat) : sumN (fun y => if p (gray y) then 1 else 0) (2 ^ n) = sumN (fun x => if p x then 1 else 0) (2 ^ n) := by
  rw [sumN_filter (fun y => p (gray y)), sumN_filter]
  have e := ((gray_perm n).filter p).length_eq
  rw [List.filter_map, List.length_map] at e
  exact e
theorem sumN_le (f : Nat → Nat) (b N : Nat) (h : ∀ y, y < N → f y ≤ b) : sumN f N ≤ N * b := by
  induction N with
  | zero => exact Nat.zero_le _
  | succ N ih =>
    have h1 := ih (fun y hy => h y (by omega))
    have h2 := h N (by omega)
    show sumN f N + f N ≤ _
    rw [Nat.add_mul]; omega
theorem tol_cons (c : UInt8) (l : List UInt8) : tolX (c :: l) = 2 ^ 1 * tolX l + (if c = 63 then 0 else 1) := by
  unfold tolX
  rw [List.map_cons]
  show 2 * sg (l.map tq) + _ = _
  congr 1
  unfold tq
  by_cases h : c = 63 <;> simp [h]
theorem on_cons (c : UInt8) (l : List UInt8) : onX (c :: l) = 2 ^ 1 * onX l + (if c = 49 then 1 else 0) := rfl
theorem fit_cons (c : UInt8) (l : List UInt8) (y b : Nat) (hb : b < 2) : fitN (c :: l) (2 * y + b) = (fitN l y && decide (b &&& (if c = 63 then 0 else 1) = if c = 49 then 1 else 0)) := by
  unfold fitN
  have ht : (if c = 63 then 0 else 1) < 2 ^ 1 := by split <;> decide
  have ho : (if c = 49 then 1 else 0) < 2 ^ 1 := by split <;> decide
  have e : (2 * y + b) &&& tolX (c :: l) = 2 ^ 1 * (y &&& tolX l) + (b &&& (if c = 63 then 0 else 1)) := by
    rw [tol_cons]
    exact land_split 1 b y (if c = 63 then 0 else 1) (tolX l) hb ht
  rw [e, on_cons]
  have h1 : b &&& (if c = 63 then 0 else 1) < 2 := Nat.lt_of_le_of_lt Nat.and_le_left hb
  rw [← Bool.decide_and, decide_eq_decide]
  generalize b &&& (if c = 63 then 0 else 1) = u at *
  generalize (if c = 49 then 1 else 0) = v at *
  generalize y &&& tolX l = U at *
  generalize onX l = V at *
  simp only [Nat.pow_one] at *
  constructor
  · intro h; exact ⟨by omega, by omega⟩
  · rintro ⟨h1, h2⟩; omega
/-- how many states a key fits -/
theorem cnt_fit : ∀ l : List UInt8, l.all okq = true → sumN (fun x => if fitN l x then 1 else 0) (2 ^ l.length) * 2 ^ pop (tolX l) = 2 ^ l.length := by
  intro l
  induction l with
  | nil => intro _; simp [sumN, tolX, sg, pop_zero, fitN, onX]
  | cons c l ih =>
    intro hq
    rw [List.all_cons, Bool.and_eq_true] at hq
    have ih := ih hq.2
    have hp : pop (tolX (c :: l)) = (if c = 63 then 0 else 1) + pop (tolX l) := by
      rw [pop_rec, tol_cons]
      congr 1
      · split <;> omega
      · congr 1; split <;> omega
    have hpw : 2 ^ (c :: l).length = 2 * 2 ^ l.length := by rw [List.length_cons, Nat.pow_succ]; omega
    rw [hpw, sumN_double, hp]
    have e0 : ∀ y, fitN (c :: l) (2 * y) = (fitN l y && decide (0 &&& (if c = 63 then 0 else 1) = if c = 49 then 1 else 0)) := fun y => fit_cons c l y 0 (by decide)
    have e1 : ∀ y, fitN (c :: l) (2 * y + 1) = (fitN l y && decide (1 &&& (if c = 63 then 0 else 1) = if c = 49 then 1 else 0)) := fun y => fit_cons c l y 1 (by decide)
    have hc := hq.1
    unfold okq at hc
    simp only [Bool.or_eq_true, beq_iff_eq] at hc
    have z : ∀ N, sumN (fun _ => 0) N = 0 := fun N => by
      induction N with
      | zero => rfl
      | succ N ih => exact ih
    obtain ⟨A, hA⟩ : ∃ A, A = sumN (fun x => if fitN l x then 1 else 0) (2 ^ l.length) := ⟨_, rfl⟩
    rw [← hA] at ih
    have yes : ∀ f : Nat → Nat, (∀ y, fitN (c :: l) (f y) = fitN l y) → sumN (fun y => if fitN (c :: l) (f y) then 1 else 0) (2 ^ l.length) = A := fun f h => by
      rw [hA]; exact sumN_congr _ _ _ (fun y _ => by rw [h])
    have no : ∀ f : Nat → Nat, (∀ y, fitN (c :: l) (f y) = false) → sumN (fun y => if fitN (c :: l) (f y) then 1 else 0) (2 ^ l.length) = 0 := fun f h => by
      exact (sumN_congr _ (fun _ => 0) _ (fun y _ => by rw [h]; rfl)).trans (z _)
    rcases hc with rfl | rfl | rfl
    · rw [yes (fun y => 2 * y) (fun y => by rw [e0, show decide _ = true from by decide, Bool.and_true]), yes (fun y => 2 * y + 1) (fun y => by rw [e1, show decide _ = true from by decide, Bool.and_true]), if_pos rfl, Nat.zero_add, Nat.add_mul, ih]; omega
    · rw [yes (fun y => 2 * y) (fun y => by rw [e0, show decide _ = true from by decide, Bool.and_true]), no (fun y => 2 * y + 1) (fun y => by rw [e1, show decide _ = false from by decide, Bool.and_false]), if_neg (by decide), Nat.add_zero, Nat.pow_add, Nat.pow_one, Nat.mul_left_comm, ih]
    · rw [no (fun y => 2 * y) (fun y => by rw [e0, show decide _ = false from by decide, Bool.and_false]), yes (fun y => 2 * y + 1) (fun y => by rw [e1, show decide _ = true from by decide, Bool.and_true]), if_neg (by decide), Nat.zero_add, Nat.pow_add, Nat.pow_one, Nat.mul_left_comm, ih]
theorem pop_tol (l : List UInt8) : pop (tolX l) ≤ l.length := pop_le _ _ (tol_lt l)
theorem pop_tol_lt : ∀ (l : List UInt8) (k : Nat), k < l.length → l.getD k 0 = 63 → pop (tolX l) < l.length := by
  intro l
  induction l with
  | nil => intro k hk; simp at hk
  | cons c l ih =>
    intro k hk h
    have hp : pop (tolX (c :: l)) = (if c = 63 then 0 else 1) + pop (tolX l) := by
      rw [pop_rec, tol_cons]
      congr 1
      · split <;> omega
      · congr 1; split <;> omega
    rw [hp, List.length_cons]
    have := pop_tol l
    cases k with
    | zero =>
      have : c = 63 := h
      rw [if_pos this]; omega
    | succ k =>
      have := ih k (by simpa using hk) (by simpa using h)
      split <;> omega
/-- how many pairs of states the move of a ring links -/
def lkN (n : Nat) (s : ByteArray) : Nat := 2 ^ (n - 1 - pop (tolX s.data.toList))
theorem lk_cnt (n k : Nat) (s : ByteArray) (hk : k < n) (h : keyOk n k s = true) : sumN (fun x => if fitN s.data.toList x then 1 else 0) (2 ^ n) = 2 * lkN n s := by
  obtain ⟨h1, h2, h3⟩ := (keyOk_iff _ _ _).1 h
  have hl : s.data.toList.length = n := by rw [← h1]; exact Array.length_toList
  have e := cnt_fit s.data.toList h3
  have hp := pop_tol_lt s.data.toList k (by omega) h2
  rw [hl] at e hp
  unfold lkN
  generalize pop (tolX s.data.toList) = q at *
  generalize sumN _ _ = A at *
  obtain ⟨r, rfl⟩ : ∃ r, n = r + 1 + q := ⟨n - 1 - q, by omega⟩
  rw [show r + 1 + q - 1 - q = r from by omega]
  rw [Nat.pow_add] at e
  have e2 := Nat.eq_of_mul_eq_mul_right (Nat.pow_pos (by decide)) e
  rw [e2, Nat.pow_succ]; omega
/-- the sum of the numbers of moves of all states -/
theorem deg_sum (ks : List ByteArray) (hG : goodK ks = true) : ∀ k, k ≤ ks.length → sumN (fun y => (kmL ks (gray y) k).length) (2 ^ ks.length) = 2 * sumN (fun i => lkN ks.length (ks.getD i ⟨#[]⟩)) k := by
  intro k
  induction k with
  | zero =>
    intro _
    show sumN (fun _ => 0) _ = 0
    generalize 2 ^ ks.length = N
    induction N with
    | zero => rfl
    | succ N ih => exact ih
  | succ k ih =>
    intro hk
    have hl : k < ks.length := by omega
    have e : sumN (fun y => (kmL ks (gray y) (k + 1)).length) (2 ^ ks.length) = sumN (fun y => (kmL ks (gray y) k).length + (if fitN ks[k].data.toList (gray y) then 1 else 0)) (2 ^ ks.length) := sumN_congr _ _ _ (fun y _ => by
      cases h : fitN ks[k].data.toList (gray y) with
      | true => rw [kmL_yes ks _ k hl h]; simp
      | false => rw [kmL_no ks _ k hl h]; simp)
    rw [e, sumN_add, ih (by omega), sumN_gray (fun x => fitN ks[k].data.toList x), lk_cnt ks.length k ks[k] hl (goodK_at ks hG k hl)]
    show _ = 2 * (sumN _ k + lkN ks.length (ks.getD k ⟨#[]⟩))
    rw [getD_at ks k _ hl]; omega
end Go.Proofs.Ytcfeaaakfjilgab
