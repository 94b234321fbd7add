import Derived.Test.YtjlecipeoaohiaaS1
namespace Go.Proofs.Ytjlecipeoaohiaa
open Go Go.RowKit RM

/-- a sign of a state, in the walk's words -/
theorem ST_eq (n x k : Nat) (h : k < (ST n x).size) : (((ST n x)[k].toNat : Int) == 49) = x.testBit k := by
  rw [ST_get]; cases x.testBit k <;> rfl
theorem ST_ne (n x k : Nat) (h : k < (ST n x).size) : (((ST n x)[k].toNat : Int) != 49) = !x.testBit k := by
  rw [ST_get]; cases x.testBit k <;> rfl

theorem ons_take (s : ByteArray) (k : Nat) (h : k < s.size) : ons (s.data.toList.take (k+1)) = ons (s.data.toList.take k) + (if ((s[k].toNat : Int) == 49) = true then 1 else 0) := by
  unfold ons
  rw [List.take_succ_eq_append_getElem (by simpa using h), List.filter_append]
  have e : (s.data.toList[k]'(by simpa using h)) = s[k] := rfl
  rw [e]
  have f : (s[k] == 49) = ((s[k].toNat : Int) == 49) := by
    rw [Bool.eq_iff_iff, beq_iff_eq, beq_iff_eq, ← UInt8.toNat_inj]; simp; omega
  by_cases g : (s[k] == 49) = true
  · rw [if_pos (by rw [← f]; exact g)]; simp [g]
  · rw [if_neg (by rw [← f]; exact g)]; simp [g]


end Go.Proofs.Ytjlecipeoaohiaa
