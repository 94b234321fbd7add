/- A bar in memory, beside rows of integers. -/
import Derived.Test.YtcfeaaakfjilgabDoorV18
import Derived.Test.YtcfeaaakfjilgabDoorInts
namespace Go.Proofs.YtcfeaaakfjilgabDoor
open Go Go.RowKit RM
def CellsOf (w : World) (g n x : Nat) : Prop := w.cell? ⟨g, 0, none⟩ = some (.int .i64 (ctz x)) ∧ w.cell? ⟨g, 1, none⟩ = some (.bool (onB x)) ∧ w.cell? ⟨g, 2, none⟩ = some (.int .i64 n) ∧ w.cell? ⟨g, 3, none⟩ = some (.int .u64 x)
def lenOf : Value → Nat
  | .slice _ n _ => n
  | _ => 0
theorem OwnI.lenOf {w : World} {B : Nat} {v : Value} {xs : List Int} (h : OwnI w B v xs) : lenOf v = xs.length := by
  rcases h.form with ⟨rfl, rfl⟩ | ⟨g, cap, rfl, _⟩ <;> rfl
abbrev barO (n x : Nat) : Obj := .cells #[.int .i64 (ctz x), .bool (onB x), .int .i64 n, .int .u64 x] 58
theorem bar_cells {w : World} {g n x : Nat} (h : w.heap[g]? = some (barO n x)) : CellsOf w g n x ∧ ∀ o, w.frozen? ⟨g, o, none⟩ = false := by
  refine ⟨?_, ?_⟩
  · simp [CellsOf, World.cell?, h, barO]
  · intro o; simp [World.frozen?, h, barO]
theorem alloc_at (w : World) (o : Obj) : (w.alloc o).heap[w.heap.size]? = some o := by
  show (w.heap.push o)[w.heap.size]? = some o
  exact Array.getElem?_push_size
theorem OwnI.ne_bar {w : World} {B g n x : Nat} {v : Value} {xs : List Int} (h : OwnI w B v xs) (hg : w.heap[g]? = some (barO n x)) : v.ownBlock ≠ some g := by
  rcases h.2 with ⟨rfl, _⟩ | ⟨g', cap, cur, rfl, _, hh, _⟩
  · intro e; cases e
  · intro e
    obtain rfl : g' = g := Option.some.inj e
    rw [hh] at hg
    simp [barO] at hg
theorem alloc_at' (w : World) (o : Obj) (k : Nat) (h : w.heap.size = k) : (w.alloc o).heap[k]? = some o := by subst h; exact alloc_at w o
theorem OwnI.setO {w : World} {B g j : Nat} {v : Value} {xs : List Int} (h : OwnI w B v xs) (hne : v.ownBlock ≠ some g) {u : Value} : OwnI (w.setCell ⟨g, j, none⟩ u) B v xs := ownsRow_setCell_other (a := ⟨g, j, none⟩) h hne u
theorem grow_bar {w w' : World} {B g n z : Nat} {o : Value} {pre : List Int} {ob : Obj} (hg : (w.alloc ob).grownBy w' o.ownBlock) (ho : OwnI w B o pre) (h : w.heap[g]? = some (barO n z)) : w'.heap[g]? = some (barO n z) := by
  have hl : g < w.heap.size := lt_of_block h
  rw [hg.block g (by simp; omega) (fun e => ho.ne_bar h e.symm), Below.heap_alloc _ _ _ hl]; exact h
theorem set_one {w : World} {g j : Nat} {c : Array Value} {t : TypeId} {fz : Nat × Nat} (h : w.heap[g]? = some (.cells c t fz)) (v : Value) : (w.setCell ⟨g, j, none⟩ v).heap[g]? = some (.cells (c.setIfInBounds j v) t fz) := by
  simp [World.setCell, Array.getElem?_modify, h]
theorem set_bar {w : World} {g n z : Nat} (h : w.heap[g]? = some (barO n z)) (z' : Nat) : ((((w.setCell ⟨g, 0, none⟩ (.int .i64 (ctz z'))).setCell ⟨g, 1, none⟩ (.bool (onB z'))).setCell ⟨g, 2, none⟩ (.int .i64 n)).setCell ⟨g, 3, none⟩ (.int .u64 z')).heap[g]? = some (barO n z') :=
  set_one (set_one (set_one (set_one h _) _) _) _
theorem ST_toList {n x y : Nat} (hx : x < 2 ^ n) (hy : y < 2 ^ n) (h : x ≠ y) : ((ST n x).toList == (ST n y).toList) = false := by
  refine beq_eq_false_iff_ne.2 fun e => h ?_
  rw [ByteArray.toList_eq, ByteArray.toList_eq] at e
  have e2 : ST n x = ST n y := ByteArray.ext (Array.toList_inj.1 e)
  exact (ST_inj hx hy e2).2
end Go.Proofs.YtcfeaaakfjilgabDoor
