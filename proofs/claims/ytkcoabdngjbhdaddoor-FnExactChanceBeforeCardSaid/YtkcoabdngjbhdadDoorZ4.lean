/- Chapter 7: MeanToClear, MeanFrom, both ways. -/
import Derived.Test.YtkcoabdngjbhdadDoorZ3
namespace Go.Proofs.YtkcoabdngjbhdadDoor
open Go Go.RowKit RM
theorem kpB {a1 N : Nat} {w a b : World} {v0 v1 v2 v3 : Value} (h1 : a1 < N) (k : Below a.heap.size a b)
    (h : (a.cell? ⟨a1, 0, none⟩ = some v0 ∧ a.cell? ⟨a1, 1, none⟩ = some v1 ∧ a.cell? ⟨a1, 2, none⟩ = some v2 ∧ a.cell? ⟨a1, 3, none⟩ = some v3) ∧ N ≤ a.heap.size ∧ Below N w a) :
    (b.cell? ⟨a1, 0, none⟩ = some v0 ∧ b.cell? ⟨a1, 1, none⟩ = some v1 ∧ b.cell? ⟨a1, 2, none⟩ = some v2 ∧ b.cell? ⟨a1, 3, none⟩ = some v3) ∧ N ≤ b.heap.size ∧ Below N w b :=
  ⟨kp4 (Nat.lt_of_lt_of_le h1 h.2.1) k h.1, Nat.le_trans h.2.1 k.size, h.2.2.trans (k.mono h.2.1)⟩
theorem kpBE {A B : Prop} {N : Nat} {w v : World} (h : A ∧ B ∧ Below N w v) : Below N w v := h.2.2
/-- one bar in memory -/
abbrev B1 (n x a N : Nat) (W w' : World) : Prop := (w'.cell? ⟨a, 0, none⟩ = some (.int .i64 (ctz x)) ∧ w'.cell? ⟨a, 1, none⟩ = some (.bool (onB x)) ∧ w'.cell? ⟨a, 2, none⟩ = some (.int .i64 n) ∧ w'.cell? ⟨a, 3, none⟩ = some (.int .u64 x)) ∧ N ≤ w'.heap.size ∧ Below N W w'

theorem good_any (s : ByteArray) (w : World) (hs : s.size ≤ maxLen) (b : Bool) (h : goodB s.data.toList = b) : Calls Tryd.prog 13 #[.string s] w fun e w' => e = .returned (.bool b) ∧ w = w' := by
  have := riGood_any s w hs
  rw [h] at this; exact this
theorem ST_max (n x : Nat) (h : n ≤ 20) : (ST n x).size ≤ maxLen := by rw [ST_size]; unfold maxLen; omega


end Go.Proofs.YtkcoabdngjbhdadDoor
