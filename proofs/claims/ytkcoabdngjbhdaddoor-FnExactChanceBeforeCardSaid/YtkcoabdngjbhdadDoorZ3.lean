/- Chapter 7: means of walks, both ways. -/
import Derived.Test.YtkcoabdngjbhdadDoorZ1
import Derived.Test.YtkcoabdngjbhdadDoorA3
import Derived.Test.YtkcoabdngjbhdadDoorInts
import Derived.Test.YtkcoabdngjbhdadDoorG3
import Derived.Test.YtkcoabdngjbhdadDoorV0
import Derived.Deep.DeepCutAuto
namespace Go.Proofs.YtkcoabdngjbhdadDoor
open Go Go.RowKit RM

/-- the object that holds a bar -/
abbrev barO (n x : Nat) : Obj := .cells #[.int .i64 (ctz x), .bool (onB x), .int .i64 n, .int .u64 x] 34
theorem bar_cells {w : World} {g n x : Nat} (h : w.heap[g]? = some (barO n x)) : CellsOf w g n x ∧ ∀ o, w.frozen? ⟨g, o, none⟩ = false := by
  refine ⟨?_, ?_⟩
  · simp [CellsOf, World.cell?, h, barO]
  · intro o; simp [World.frozen?, h, barO]
/-- the answers with two numbers -/
def AnsI2 (w : World) (r s : Int) (ok : Bool) (e : Ending) (w' : World) : Prop := e = .returned (.tuple #[.int .i64 r, .int .i64 s, .bool ok]) ∧ Below w.heap.size w w'



theorem kp4 {a1 : Nat} {a b : World} {v0 v1 v2 v3 : Value} (h1 : a1 < a.heap.size) (k : Below a.heap.size a b) (h : a.cell? ⟨a1, 0, none⟩ = some v0 ∧ a.cell? ⟨a1, 1, none⟩ = some v1 ∧ a.cell? ⟨a1, 2, none⟩ = some v2 ∧ a.cell? ⟨a1, 3, none⟩ = some v3) :
    b.cell? ⟨a1, 0, none⟩ = some v0 ∧ b.cell? ⟨a1, 1, none⟩ = some v1 ∧ b.cell? ⟨a1, 2, none⟩ = some v2 ∧ b.cell? ⟨a1, 3, none⟩ = some v3 := by
  refine ⟨?_, ?_, ?_, ?_⟩
  · rw [k.cell (p := ⟨a1, 0, none⟩) h1]; exact h.1
  · rw [k.cell (p := ⟨a1, 1, none⟩) h1]; exact h.2.1
  · rw [k.cell (p := ⟨a1, 2, none⟩) h1]; exact h.2.2.1
  · rw [k.cell (p := ⟨a1, 3, none⟩) h1]; exact h.2.2.2
theorem kp12 {a1 a2 a3 N B : Nat} {w a b : World} {v0 v1 v2 v3 x0 x1 x2 x3 y0 y1 y2 y3 : Value} (h1 : a1 < N) (h2 : a2 < N) (h3 : a3 < N) (hB : B ≤ N) (k : Below a.heap.size a b)
    (h : (a.cell? ⟨a1, 0, none⟩ = some v0 ∧ a.cell? ⟨a1, 1, none⟩ = some v1 ∧ a.cell? ⟨a1, 2, none⟩ = some v2 ∧ a.cell? ⟨a1, 3, none⟩ = some v3) ∧ (a.cell? ⟨a2, 0, none⟩ = some x0 ∧ a.cell? ⟨a2, 1, none⟩ = some x1 ∧ a.cell? ⟨a2, 2, none⟩ = some x2 ∧ a.cell? ⟨a2, 3, none⟩ = some x3) ∧ (a.cell? ⟨a3, 0, none⟩ = some y0 ∧ a.cell? ⟨a3, 1, none⟩ = some y1 ∧ a.cell? ⟨a3, 2, none⟩ = some y2 ∧ a.cell? ⟨a3, 3, none⟩ = some y3) ∧ N ≤ a.heap.size ∧ Below B w a) :
    (b.cell? ⟨a1, 0, none⟩ = some v0 ∧ b.cell? ⟨a1, 1, none⟩ = some v1 ∧ b.cell? ⟨a1, 2, none⟩ = some v2 ∧ b.cell? ⟨a1, 3, none⟩ = some v3) ∧ (b.cell? ⟨a2, 0, none⟩ = some x0 ∧ b.cell? ⟨a2, 1, none⟩ = some x1 ∧ b.cell? ⟨a2, 2, none⟩ = some x2 ∧ b.cell? ⟨a2, 3, none⟩ = some x3) ∧ (b.cell? ⟨a3, 0, none⟩ = some y0 ∧ b.cell? ⟨a3, 1, none⟩ = some y1 ∧ b.cell? ⟨a3, 2, none⟩ = some y2 ∧ b.cell? ⟨a3, 3, none⟩ = some y3) ∧ N ≤ b.heap.size ∧ Below B w b :=
  ⟨kp4 (Nat.lt_of_lt_of_le h1 h.2.2.2.1) k h.1, kp4 (Nat.lt_of_lt_of_le h2 h.2.2.2.1) k h.2.1, kp4 (Nat.lt_of_lt_of_le h3 h.2.2.2.1) k h.2.2.1, Nat.le_trans h.2.2.2.1 k.size, h.2.2.2.2.trans (k.mono (Nat.le_trans hB h.2.2.2.1))⟩
theorem kpE {A B C D : Prop} {N : Nat} {w v : World} (h : A ∧ B ∧ C ∧ D ∧ Below N w v) : Below N w v := h.2.2.2.2
/-- three bars in memory -/
abbrev B3 (n x y z a b c N B : Nat) (W w' : World) : Prop := (w'.cell? ⟨a, 0, none⟩ = some (.int .i64 (ctz x)) ∧ w'.cell? ⟨a, 1, none⟩ = some (.bool (onB x)) ∧ w'.cell? ⟨a, 2, none⟩ = some (.int .i64 n) ∧ w'.cell? ⟨a, 3, none⟩ = some (.int .u64 x)) ∧ (w'.cell? ⟨b, 0, none⟩ = some (.int .i64 (ctz y)) ∧ w'.cell? ⟨b, 1, none⟩ = some (.bool (onB y)) ∧ w'.cell? ⟨b, 2, none⟩ = some (.int .i64 n) ∧ w'.cell? ⟨b, 3, none⟩ = some (.int .u64 y)) ∧ (w'.cell? ⟨c, 0, none⟩ = some (.int .i64 (ctz z)) ∧ w'.cell? ⟨c, 1, none⟩ = some (.bool (onB z)) ∧ w'.cell? ⟨c, 2, none⟩ = some (.int .i64 n) ∧ w'.cell? ⟨c, 3, none⟩ = some (.int .u64 z)) ∧ N ≤ w'.heap.size ∧ Below B W w'
theorem b3_store {n x y z a b c N B E : Nat} {W v : World} (h : B3 n x y z a b c N B W v) (hac : ¬ a = c) (hbc : ¬ b = c) (hc : c < N) (hB : B ≤ c) (hf : ∀ o, v.frozen? ⟨c, o, none⟩ = false) :
    B3 n x y E a b c N B W ((((v.setCell ⟨c, 0, none⟩ (.int .i64 (ctz E))).setCell ⟨c, 1, none⟩ (.bool (onB E))).setCell ⟨c, 2, none⟩ (.int .i64 n)).setCell ⟨c, 3, none⟩ (.int .u64 E)) := by
  obtain ⟨⟨p0, p1, p2, p3⟩, ⟨q0, q1, q2, q3⟩, ⟨r0, r1, r2, r3⟩, hN, hBl⟩ := h
  refine ⟨⟨?_, ?_, ?_, ?_⟩, ⟨?_, ?_, ?_, ?_⟩, ⟨?_, ?_, ?_, ?_⟩, ?h1, ?h2⟩
  case h2 => refine Below.setCell (Below.setCell (Below.setCell (Below.setCell hBl ?_ _) ?_ _) ?_ _) ?_ _ <;> exact hB
  case h1 => simpa using hN
  all_goals simp [go_sem, *]

end Go.Proofs.YtkcoabdngjbhdadDoor
