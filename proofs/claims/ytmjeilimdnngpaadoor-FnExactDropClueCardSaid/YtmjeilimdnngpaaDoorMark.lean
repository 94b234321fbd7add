/- The law's marks of texts. -/
import Derived.Test.YtmjeilimdnngpaaDoorInts
import Derived.Test.YtmjeilimdnngpaaDoorBytes
namespace Go.Proofs.YtmjeilimdnngpaaDoor
open Go Go.RowKit RM

/-- the last digit -/
def dig1 (j : Nat) : UInt8 := UInt8.ofNat (48 + j % 10)
/-- the digits of a number, none of 0 -/
def digs (k : Nat) : List UInt8 := if _h : k = 0 then [] else digs (k / 10) ++ [dig1 k]
termination_by k
decreasing_by omega
theorem digs_zero : digs 0 = [] := by rw [digs]; simp
theorem digs_pos (k : Nat) (h : k ≠ 0) : digs k = digs (k / 10) ++ [dig1 k] := by rw [digs]; simp [h]
theorem digs_len (e : Nat) : ∀ k, k < 10 ^ e → (digs k).length ≤ e := by
  induction e with
  | zero => intro k h; obtain rfl : k = 0 := by simpa using h
            rw [digs_zero]; simp
  | succ e ih =>
    intro k h
    by_cases h0 : k = 0
    · subst h0; rw [digs_zero]; simp
    · rw [digs_pos k h0, List.length_append]
      have := ih (k / 10) (by rw [Nat.pow_succ] at h; omega)
      simp; omega
theorem alloc_atM (w : World) (o : Obj) : (w.alloc o).heap[w.heap.size]? = some o := by
  show (w.heap.push o)[w.heap.size]? = some o
  exact Array.getElem?_push_size
theorem own_digit (w : World) (j : Nat) : OwnB (w.alloc (.cells #[.int .u8 (48 + (j : Int) % 10)] 5)) w.heap.size (.slice (some ⟨w.heap.size, 0, none⟩) 1 1) [dig1 j] := by
  refine ⟨rfl, .inr ⟨_, 1, #[.int .u8 (48 + (j : Int) % 10)], rfl, Nat.le_refl _, alloc_atM _ _, Nat.le_refl _, by decide, rfl, ?_⟩⟩
  have e : ((dig1 j).toNat : Int) = 48 + (j : Int) % 10 := by
    unfold dig1; rw [UInt8.toNat_ofNat']; omega
  show [Value.int .u8 (48 + (j : Int) % 10)] = [Value.int .u8 ((dig1 j).toNat : Int)]
  rw [e]
/-- the text that marks an element -/
def mkT (k : Nat) : ByteArray := ⟨(109 :: digs k).toArray⟩
end Go.Proofs.YtmjeilimdnngpaaDoor
