/- Plain mathematics of chapter 2: increasing lists and their sums. Nothing of any program. -/
import Derived.Test.YtbgdhiieeegnjacC1
namespace Go.Proofs.Ytbgdhiieeegnjac
open RM

theorem drop_step (l : List Int) (k : Nat) (h : k < l.length) : l.drop k = l[k] :: l.drop (k + 1) := List.drop_eq_getElem_cons h
theorem take_step (l : List Int) (k : Nat) (h : k < l.length) : l.take (k + 1) = l.take k ++ [l[k]] := List.take_succ_eq_append_getElem h
theorem getD_at (l : List Int) (k : Nat) (h : k < l.length) : l.getD k 0 = l[k] := by simp [List.getD, h]

/-- strictly increasing, from b on, below size -/
def risF (size : Int) : Int → List Int → Bool
  | _, [] => true
  | b, x :: t => decide (b ≤ x) && decide (x < size) && risF size (x + 1) t
theorem risF_nil (size b : Int) : risF size b [] = true := rfl
theorem risF_cons (size b x : Int) (t : List Int) : risF size b (x :: t) = (decide (b ≤ x) && decide (x < size) && risF size (x + 1) t) := rfl
theorem risF_no (size b x : Int) (t : List Int) (h : x < b ∨ size ≤ x) : risF size b (x :: t) = false := by
  have : (decide (b ≤ x) && decide (x < size)) = false := by simp; omega
  rw [risF_cons, this]; rfl
theorem risF_yes (size b x : Int) (t : List Int) (h1 : b ≤ x) (h2 : x < size) : risF size b (x :: t) = risF size (x + 1) t := by
  have : (decide (b ≤ x) && decide (x < size)) = true := by simp; omega
  rw [risF_cons, this]; rfl
theorem ris_bd (size : Int) : ∀ (l : List Int) (b : Int), risF size b l = true → ∀ x ∈ l, b ≤ x ∧ x < size := by
  intro l
  induction l with
  | nil => intro b _ x hx; cases hx
  | cons y t ih =>
    intro b h x hx
    rw [risF_cons] at h
    simp only [Bool.and_eq_true, decide_eq_true_eq] at h
    rcases List.mem_cons.1 hx with rfl | hx
    · exact ⟨h.1.1, h.1.2⟩
    · have := ih _ h.2 x hx; omega
theorem ris_len (size : Int) : ∀ (l : List Int) (b : Int), b ≤ size → risF size b l = true → (l.length : Int) ≤ size - b := by
  intro l
  induction l with
  | nil => intro b hb _; simp; omega
  | cons y t ih =>
    intro b hb h
    rw [risF_cons] at h
    simp only [Bool.and_eq_true, decide_eq_true_eq] at h
    have := ih (y + 1) (by omega) h.2
    rw [List.length_cons]; omega
theorem ris_lt (size : Int) : ∀ (l : List Int) (b : Int), risF size b l = true → ∀ i j (hi : i < l.length) (hj : j < l.length), i < j → l[i] < l[j] := by
  intro l
  induction l with
  | nil => intro b _ i j hi; simp at hi
  | cons y t ih =>
    intro b h i j hi hj hij
    rw [risF_cons] at h
    simp only [Bool.and_eq_true, decide_eq_true_eq] at h
    cases j with
    | zero => omega
    | succ j =>
      cases i with
      | zero =>
        have := ris_bd size t _ h.2 (t[j]'(by simpa using hj)) (List.getElem_mem _)
        simp only [List.getElem_cons_zero, List.getElem_cons_succ]; omega
      | succ i =>
        simp only [List.getElem_cons_succ]
        exact ih _ h.2 i j (by simpa using hi) (by simpa using hj) (by omega)

/-- the sum of the powers of two -/
def smP : List Int → Nat
  | [] => 0
  | x :: t => 2 ^ x.toNat + smP t
theorem smP_nil : smP [] = 0 := rfl
theorem smP_cons (x : Int) (t : List Int) : smP (x :: t) = 2 ^ x.toNat + smP t := rfl
theorem smP_app (a b : List Int) : smP (a ++ b) = smP a + smP b := by
  induction a with
  | nil => simp [smP]
  | cons x t ih => rw [List.cons_append, smP_cons, smP_cons, ih]; omega
theorem smP_take (l : List Int) (k : Nat) (h : k < l.length) : smP (l.take (k + 1)) = smP (l.take k) + 2 ^ l[k].toNat := by
  rw [take_step l k h, smP_app]; rfl
theorem smP_le (l : List Int) (k : Nat) : smP (l.take k) ≤ smP l := by
  have := smP_app (l.take k) (l.drop k)
  rw [List.take_append_drop] at this; omega
theorem smP_lt (size : Int) : ∀ (l : List Int) (b : Int), 0 ≤ b → b ≤ size → risF size b l = true → smP l + 2 ^ b.toNat ≤ 2 ^ size.toNat := by
  intro l
  induction l with
  | nil => intro b h0 hb _; rw [smP_nil]; have := Nat.pow_le_pow_right (n := 2) (by omega) (show b.toNat ≤ size.toNat by omega); omega
  | cons y t ih =>
    intro b h0 hb h
    rw [risF_cons] at h
    simp only [Bool.and_eq_true, decide_eq_true_eq] at h
    have a := ih (y + 1) (by omega) (by omega) h.2
    have c := Nat.pow_le_pow_right (n := 2) (by omega) (show b.toNat ≤ y.toNat by omega)
    rw [show (y + 1).toNat = y.toNat + 1 by omega, Nat.pow_succ] at a
    rw [smP_cons]; omega
theorem smP_bd (size : Int) (l : List Int) (k : Nat) (h1 : 1 ≤ size) (h2 : size ≤ 20) (h : risF size 0 l = true) : smP (l.take k) < 1048576 := by
  have a := smP_lt size l 0 (by omega) (by omega) h
  have b := smP_le l k
  have c := Nat.pow_le_pow_right (n := 2) (by omega) (show size.toNat ≤ 20 by omega)
  have d : 2 ^ (0 : Int).toNat = 1 := rfl
  omega
end Go.Proofs.Ytbgdhiieeegnjac
