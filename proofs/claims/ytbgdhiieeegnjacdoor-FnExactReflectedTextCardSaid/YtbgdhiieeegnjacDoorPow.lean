/- The program's table of powers of two, as its text lays it. -/
import Derived.Test.YtbgdhiieeegnjacDoorInts
namespace Go.Proofs.YtbgdhiieeegnjacDoor
open Go Go.RowKit RM

/-- the table holds the powers -/
def PowOk (w : World) : Prop := ∀ j, j < 41 → w.cell? ⟨0, j, none⟩ = some (.int .i64 ((2 ^ j : Nat) : Int))
theorem PowOk.lt {w : World} (h : PowOk w) : 0 < w.heap.size := block_lt (h 0 (by omega))
theorem PowOk.below {w w' : World} (h : PowOk w) (hb : Below w.heap.size w w') : PowOk w' := fun j hj => by
  rw [hb.cell (p := ⟨0, j, none⟩) h.lt]; exact h j hj
theorem PowOk.grown {w w' : World} {B : Nat} {v : Value} {xs : List Int} (h : PowOk w) (ho : OwnI w B v xs) (hg : w.grownBy w' v.ownBlock) (hB : 0 < B) : PowOk w' := fun j hj => by
  have : w'.cell? ⟨0, j, none⟩ = w.cell? ⟨0, j, none⟩ := World.cell?_of_block (hg.block 0 h.lt (fun e => by have := (ho.lt 0 e.symm).1; omega))
  rw [this]; exact h j hj
theorem PowOk.drewN {w : World} (h : PowOk w) (n : Nat) : PowOk (w.drewN n) := h.below (below_drewN (Below.refl _ _) n)
theorem pow40 {j : Nat} (h : j < 41) : 1 ≤ 2 ^ j ∧ 2 ^ j ≤ 1099511627776 := ⟨Nat.two_pow_pos j, Nat.pow_le_pow_right (n := 2) (by omega) (show j ≤ 40 by omega)⟩
theorem pow_cast' (n : Nat) : ((2 : Int) ^ n) = ((2 ^ n : Nat) : Int) := by simp
/-- a binary digit, by the table and by shifts -/
theorem and_bit40 (m k : Nat) (hm : m < 1099511627776) : bits BinOp.and IntKind.i64 ((m : Int) / 2 ^ k) 1 = ((bitN m k : Nat) : Int) := by
  have e : ((m : Int) / 2 ^ k) = ((m / 2 ^ k : Nat) : Int) := by simp
  have h : m / 2 ^ k < 1099511627776 := Nat.lt_of_le_of_lt (Nat.div_le_self _ _) hm
  rw [e, and_one _ (by omega)]
  have := div_step m k
  have hb : bitN m k < 2 := by unfold bitN; split <;> omega
  congr 1; omega
theorem div_bit (m k : Nat) : (m / 2 ^ k) % 2 = bitN m k := by
  have := div_step m k
  have hb : bitN m k < 2 := by unfold bitN; split <;> omega
  omega
theorem bitN_one {m k : Nat} (h : m.testBit k = true) : bitN m k = 1 := by unfold bitN; rw [h]; rfl
theorem bitN_off {m k : Nat} (h : m.testBit k = false) : bitN m k = 0 := by unfold bitN; rw [h]; rfl
end Go.Proofs.YtbgdhiieeegnjacDoor
