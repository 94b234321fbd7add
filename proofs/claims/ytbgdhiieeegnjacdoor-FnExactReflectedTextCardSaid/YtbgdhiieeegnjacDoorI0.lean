import Derived.Test.YtbgdhiieeegnjacDoorS1
namespace Go.Proofs.YtbgdhiieeegnjacDoor
open Go Go.RowKit RM
/-- all bytes are signs -/
def okB (l : List UInt8) : Bool := l.all okc
theorem okB_eq (l : List UInt8) : okB l = l.all okc := rfl
theorem signs_no (s : ByteArray) (k : Nat) (hk : k < s.size) (h : okc s[k] = false) : okB s.data.toList = false := by
  unfold okB
  rw [← Bool.not_eq_true]; intro ht
  rw [List.all_eq_true] at ht
  have := ht s[k] (by simp; exact Array.getElem_mem _)
  rw [h] at this; cases this





end Go.Proofs.YtbgdhiieeegnjacDoor
