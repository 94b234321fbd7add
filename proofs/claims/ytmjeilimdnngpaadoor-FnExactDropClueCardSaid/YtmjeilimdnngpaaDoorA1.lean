/- The functions of chapter 1 that answer a number or a text, both ways. -/
import Derived.Test.YtmjeilimdnngpaaDoorI4
import Derived.Test.YtmjeilimdnngpaaDoorS3
namespace Go.Proofs.YtmjeilimdnngpaaDoor
open Go Go.RowKit RM

theorem bz : (.agg #[.int .i64 0, .bool false, .int .i64 0, .int .u64 0] : Value) = (.agg #[.int .i64 ((ctz (0) : Nat) : Int), .bool (onB (0)), .int .i64 ((0 : Nat) : Int), .int .u64 ((0 : Nat) : Int)]) := by
  rw [show ctz 0 = 0 from by rw [ctz]; simp]; rfl
theorem below_q (w : World) (q : Nat) : Below w.heap.size w (w.drewN q) := below_drewN (Below.refl _ _) q
theorem bt {w a b : World} (h : Below w.heap.size w a) (k : Below a.heap.size a b) : Below w.heap.size w b := h.trans (k.mono h.size)
theorem ba (w : World) (o : Obj) : Below w.heap.size w (w.alloc o) := (Below.refl _ _).alloc (Nat.le_refl _) o

/-- what a number with its success is -/
def AnsI (w : World) (r : Int) (ok : Bool) (e : Ending) (w' : World) : Prop := e = .returned (.tuple #[.int .i64 r, .bool ok]) ∧ Below w.heap.size w w'
def AnsS (w : World) (s : ByteArray) (ok : Bool) (e : Ending) (w' : World) : Prop := e = .returned (.tuple #[.string s, .bool ok]) ∧ Below w.heap.size w w'











/-- a text is a state, or none -/
theorem text_cases (s : ByteArray) : goodB s.data.toList = false ∨ ∃ n x, 1 ≤ n ∧ n ≤ 20 ∧ x < 2 ^ n ∧ s = ST n x := by
  cases h : goodB s.data.toList
  · left; rfl
  · right; exact of_good s h
end Go.Proofs.YtmjeilimdnngpaaDoor
