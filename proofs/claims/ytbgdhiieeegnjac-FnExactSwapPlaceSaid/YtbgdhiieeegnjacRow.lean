/- Rows of integers of the call's own: many stores at once. -/
import Derived.Test.YtbgdhiieeegnjacInts
import Derived.Laws.IdiomCopy
import Derived.Maps.AppendAt
namespace Go.Proofs.Ytbgdhiieeegnjac
open Go Go.RowKit RM

theorem OwnI.storedL {B g n cap : Nat} (ys : List Int) : ∀ (o : Nat) (w : World) (xs : List Int), o + ys.length ≤ n → xs.length = n → OwnI w B (.slice (some ⟨g, 0, none⟩) n cap) xs →
    OwnI (w.setCells g o (vint ys)) B (.slice (some ⟨g, 0, none⟩) n cap) (xs.take o ++ ys ++ xs.drop (o + ys.length)) ∧ w.grownBy (w.setCells g o (vint ys)) (some g) := by
  induction ys with
  | nil => intro o w xs ho hx h; simp only [List.append_nil, List.length_nil, Nat.add_zero, List.take_append_drop]; exact ⟨h, World.grownBy.refl _ _⟩
  | cons y t ih =>
    intro o w xs ho hx h
    rw [List.length_cons] at ho
    obtain ⟨a, b⟩ := h.stored hx o y
    obtain ⟨c, d⟩ := ih (o + 1) _ (xs.set o y) (by omega) (by rw [List.length_set]; exact hx) a
    refine ⟨?_, b.trans d⟩
    have e : (xs.set o y).take (o + 1) ++ t ++ (xs.set o y).drop (o + 1 + t.length) = xs.take o ++ (y :: t) ++ xs.drop (o + (y :: t).length) := by
      have h1 : (xs.set o y).take (o + 1) = xs.take o ++ [y] := by
        rw [List.take_succ_eq_append_getElem (by rw [List.length_set]; omega), List.take_set_of_le (Nat.le_refl _), List.getElem_set_self]
      have h2 : (xs.set o y).drop (o + 1 + t.length) = xs.drop (o + (y :: t).length) := by
        rw [List.drop_set_of_lt (by omega), List.length_cons]; congr 1; omega
      rw [h1, h2]; simp
    rw [← e]; exact c
/-- a whole row is stored -/
theorem OwnI.storedAll {w : World} {B g n cap : Nat} {xs : List Int} (ys : List Int) (h : OwnI w B (.slice (some ⟨g, 0, none⟩) n cap) xs) (hx : xs.length = n) (hy : ys.length = n) :
    OwnI (w.setCells g 0 (vint ys)) B (.slice (some ⟨g, 0, none⟩) n cap) ys ∧ w.grownBy (w.setCells g 0 (vint ys)) (some g) := by
  have := OwnI.storedL ys 0 w xs (by omega) hx h
  rw [List.take_zero, List.nil_append, List.drop_eq_nil_of_le (by omega), List.append_nil] at this
  exact this
theorem OwnI.sameLen {w : World} {B g n m cap : Nat} {xs : List Int} (h : OwnI w B (.slice (some ⟨g, 0, none⟩) n cap) xs) (e : n = m) : OwnI w B (.slice (some ⟨g, 0, none⟩) m cap) xs := by subst e; exact h
theorem grown_set1 (w : World) (a : Addr) (u : Value) : w.grownBy (w.setCell a u) (some a.block) :=
  ⟨rfl, rfl, rfl, by simp, fun k _ hne => Below.heap_setCell w a u k (fun e => hne (by rw [e]))⟩
end Go.Proofs.Ytbgdhiieeegnjac
