/- Chapter 2: two lists of the order by swaps: where they differ first. -/
import Derived.Test.YtbgdhiieeegnjacC2
namespace Go.Proofs.Ytbgdhiieeegnjac

/-- the first place at which two lists differ -/
def fdf : List Int → List Int → Nat
  | x :: t, y :: u => if x = y then 1 + fdf t u else 0
  | _, _ => 0
theorem fdf_here {x y : Int} (t u : List Int) (h : x ≠ y) : fdf (x :: t) (y :: u) = 0 := by unfold fdf; rw [if_neg h]
theorem fdf_more {x y : Int} (t u : List Int) (h : x = y) : fdf (x :: t) (y :: u) = 1 + fdf t u := by
  show (if x = y then 1 + fdf t u else 0) = _
  rw [if_pos h]

theorem swL_lt (s : Nat) : ∀ r, ∀ x ∈ swL s r, x < (s : Int) := by
  induction s with
  | zero => intro r x hx; rw [swL_zero] at hx; cases hx
  | succ s ih =>
    intro r x hx
    rw [swL_succ, List.mem_append, List.mem_cons] at hx
    rcases hx with h | rfl | h
    · have := ih _ x (List.mem_of_mem_take h); omega
    · omega
    · have := ih _ x (List.mem_of_mem_drop h); omega
theorem swL_no (s r : Nat) : (s : Int) ∉ swL s r := fun h => by have := swL_lt s r _ h; omega

theorem put_inj (xs ys : List Int) (p q : Nat) (z : Int) (hx : z ∉ xs) (hy : z ∉ ys) (hp : p ≤ xs.length) (hq : q ≤ ys.length) (h : xs.take p ++ z :: xs.drop p = ys.take q ++ z :: ys.drop q) : xs = ys ∧ p = q := by
  have nx : z ∉ xs.take p := fun g => hx (List.mem_of_mem_take g)
  have ny : z ∉ ys.take q := fun g => hy (List.mem_of_mem_take g)
  constructor
  · have e := congrArg (fun l => l.erase z) h
    rw [List.erase_append_right _ nx, List.erase_append_right _ ny, List.erase_cons_head, List.erase_cons_head, List.take_append_drop, List.take_append_drop] at e
    exact e
  · have e := congrArg (fun l => l.idxOf z) h
    rw [List.idxOf_append, List.idxOf_append, if_neg nx, if_neg ny, List.idxOf_cons_self, List.idxOf_cons_self, List.length_take, List.length_take] at e
    omega

theorem swL_inj (s : Nat) : ∀ r m, r < fac s → m < fac s → swL s r = swL s m → r = m := by
  induction s with
  | zero => intro r m hr hm _; rw [fac_zero] at hr hm; omega
  | succ s ih =>
    intro r m hr hm h
    rw [swL_succ, swL_succ] at h
    obtain ⟨e1, e2⟩ := put_inj _ _ _ _ _ (swL_no _ _) (swL_no _ _) (by rw [swL_len]; exact putAt_le _ _) (by rw [swL_len]; exact putAt_le _ _) h
    have e3 := ih _ _ (fac_div hr) (fac_div hm) e1
    unfold putAt at e2
    rw [e3] at e2
    have h1 := Nat.mod_lt r (show 0 < s + 1 by omega)
    have h2 := Nat.mod_lt m (show 0 < s + 1 by omega)
    have e4 : r % (s + 1) = m % (s + 1) := by split at e2 <;> omega
    have a := Nat.div_add_mod r (s + 1)
    have b := Nat.div_add_mod m (s + 1)
    rw [e3, e4] at a
    omega
theorem swL_ne (s r : Nat) (h : r + 1 < fac s) : swL s r ≠ swL s (r + 1) := fun e => by have := swL_inj s _ _ (by omega) h e; omega
end Go.Proofs.Ytbgdhiieeegnjac
