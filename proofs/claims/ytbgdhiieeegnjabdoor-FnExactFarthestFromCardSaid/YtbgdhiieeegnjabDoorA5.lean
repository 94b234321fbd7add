/- The rings that can be moved: both ways. -/
import Derived.Test.YtbgdhiieeegnjabDoorA4
import Derived.Test.YtbgdhiieeegnjabDoorInts
import Derived.Lib.OthersKept
namespace Go.Proofs.YtbgdhiieeegnjabDoor
open Go Go.RowKit RM

/-- the rings before k that can be moved -/
def mvL (n x k : Nat) : List Int := ((List.range k).filter fun (i : Nat) => canB n x (i : Int)).map fun (i : Nat) => (i : Int)
theorem mvL_yes (n x k : Nat) (h : canB n x (k : Int) = true) : mvL n x (k + 1) = mvL n x k ++ [(k : Int)] := by
  unfold mvL; rw [List.range_succ, List.filter_append, List.map_append]; simp [h]
theorem mvL_no (n x k : Nat) (h : canB n x (k : Int) = false) : mvL n x (k + 1) = mvL n x k := by
  unfold mvL; rw [List.range_succ, List.filter_append, List.map_append]; simp [h]
theorem mvL_len (n x k : Nat) : (mvL n x k).length ≤ k := by
  unfold mvL; rw [List.length_map]; exact Nat.le_trans (List.length_filter_le _ _) (by simp)

theorem own_cell {w w' : World} {B : Nat} {v : Value} {xs : List Int} (h : OwnI w B v xs) (hg : w.grownBy w' v.ownBlock) {b o : Nat} (hb : b < B) (hl : b < w.heap.size) : w'.cell? ⟨b, o, none⟩ = w.cell? ⟨b, o, none⟩ :=
  World.cell?_of_block (hg.block b hl (fun e => by have := (h.lt b e.symm).1; omega))

theorem CellsOf.below {w w' : World} {b n x : Nat} (h : CellsOf w b n x) (hb : Below w.heap.size w w') (hl : b < w.heap.size) : CellsOf w' b n x := by
  obtain ⟨h0, h1, h2, h3⟩ := h
  refine ⟨?_, ?_, ?_, ?_⟩
  · rw [hb.cell (p := ⟨b, 0, none⟩) hl]; exact h0
  · rw [hb.cell (p := ⟨b, 1, none⟩) hl]; exact h1
  · rw [hb.cell (p := ⟨b, 2, none⟩) hl]; exact h2
  · rw [hb.cell (p := ⟨b, 3, none⟩) hl]; exact h3
theorem CellsOf.own {w w' : World} {b n x B : Nat} {v : Value} {xs : List Int} (h : CellsOf w b n x) (ho : OwnI w B v xs) (hg : w.grownBy w' v.ownBlock) (hb : b < B) (hl : b < w.heap.size) : CellsOf w' b n x := by
  obtain ⟨h0, h1, h2, h3⟩ := h
  refine ⟨?_, ?_, ?_, ?_⟩
  · rw [own_cell ho hg hb hl]; exact h0
  · rw [own_cell ho hg hb hl]; exact h1
  · rw [own_cell ho hg hb hl]; exact h2
  · rw [own_cell ho hg hb hl]; exact h3





theorem ST_ascii (n x k : Nat) (h : k < (ST n x).size) : (ST n x)[k].toNat < 128 := by rw [ST_get]; split <;> decide



theorem TabOk.grown {w w' : World} {B : Nat} {v : Value} {xs : List Int} (h : TabOk w) (ho : OwnI w B v xs) (hg : w.grownBy w' v.ownBlock) (hB : 1 < B) : TabOk w' := fun j hj => by
  rw [own_cell ho hg hB h.lt]; exact h j hj
end Go.Proofs.YtbgdhiieeegnjabDoor
