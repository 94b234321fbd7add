/- Solutions and whether a puzzle is solved, by the program; all by the model. -/
import Derived.Test.YtmjeilimdnngpaaDoorPzH
namespace Go.Proofs.YtmjeilimdnngpaaDoor
open Go Go.RowKit RM
theorem txZ_take (n : Nat) (xs : List Nat) (k : Nat) (h : k < xs.length) : txZ n (xs.take k) ++ [ST n xs[k]] = txZ n (xs.take (k + 1)) := by
  unfold txZ; rw [List.take_add_one, List.getElem?_eq_getElem h, Option.toList_some, List.map_append]; rfl



theorem OwnT.slT {w : World} {B : Nat} {v : Value} {xs : List ByteArray} (h : OwnT w B v xs) : ∃ pv cv, v = .slice pv xs.length cv := by
  rcases h.form with ⟨rfl, rfl⟩ | ⟨g, cap, rfl, _⟩
  · exact ⟨none, 0, rfl⟩
  · exact ⟨_, _, rfl⟩


end Go.Proofs.YtmjeilimdnngpaaDoor
