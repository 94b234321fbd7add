/- Which states blocks forbid: the model's look, and the program's. -/
import Derived.Test.YtjhljhopmfefhaaE1
import Derived.Test.YtjhljhopmfefhaaBytes
namespace Go.Proofs.Ytjhljhopmfefhaa
open Go Go.RowKit RM
theorem fr_no (bs : List Blk) (d : List Nat) (k : Nat) (hk : k < bs.length) (h : hit bs[k] d = true) : fr bs d = false := by
  unfold fr
  exact all_no (fun k => !(hit k d)) bs k hk (by simp [h])
theorem fr_snoc (bs : List Blk) (d : List Nat) (k : Nat) (hk : k < bs.length) (h : fr (bs.take k) d = true) (h1 : hit bs[k] d = false) : fr (bs.take (k + 1)) d = true := by
  unfold fr at *
  exact all_snoc (fun k => !(hit k d)) bs k hk h (by simp [h1])
theorem getD_beyond {α : Type} (l : List α) (i : Nat) (x : α) (h : l.length ≤ i) : l.getD i x = x := by simp [List.getD, List.getElem?_eq_none h]
end Go.Proofs.Ytjhljhopmfefhaa
