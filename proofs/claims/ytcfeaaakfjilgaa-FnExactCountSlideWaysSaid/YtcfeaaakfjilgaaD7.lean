/- The frame of a law over bolts that answers with values: copied, asked, compared, the argument as it was. -/
import Derived.Test.YtcfeaaakfjilgaaD6
namespace Go.Proofs.Ytcfeaaakfjilgaa
open Go Go.RowKit RM
theorem OwnBo.form {w : World} {s n m : Nat} {v : Value} {ps : List Int} {bs : List Blk} (h : OwnBo w s v ps bs) (hn : ps.length = n) (hm : bs.length = m) : ∃ p c p2 c2, v = .agg #[.slice p n c, .slice p2 m c2] := by
  obtain ⟨pv, bv, rfl, h1, h2⟩ := h
  obtain ⟨p, c, rfl, _⟩ := h1.rd
  obtain ⟨p2, c2, rfl, _⟩ := h2.rd
  exact ⟨p, c, p2, c2, by rw [hn, hm]⟩
/-- what is kept through the last comparison: the copy's cells, the argument's, and all below -/
theorem keepL {W a b : World} {g g' : Nat} {v0 v1 u0 u1 : Value} (hb : Below a.heap.size a b)
    (h : (a.cell? ⟨g, 0, none⟩ = some v0 ∧ a.cell? ⟨g, 1, none⟩ = some v1) ∧ (a.cell? ⟨g', 0, none⟩ = some u0 ∧ a.cell? ⟨g', 1, none⟩ = some u1) ∧ g < a.heap.size ∧ g' < a.heap.size ∧ Below W.heap.size W a) :
    (b.cell? ⟨g, 0, none⟩ = some v0 ∧ b.cell? ⟨g, 1, none⟩ = some v1) ∧ (b.cell? ⟨g', 0, none⟩ = some u0 ∧ b.cell? ⟨g', 1, none⟩ = some u1) ∧ g < b.heap.size ∧ g' < b.heap.size ∧ Below W.heap.size W b := by
  obtain ⟨⟨h0, h1⟩, ⟨h4, h5⟩, l1, l2, hB⟩ := h
  have c : ∀ o, b.cell? ⟨g, o, none⟩ = a.cell? ⟨g, o, none⟩ := fun o => hb.cell (p := ⟨g, o, none⟩) l1
  have c' : ∀ o, b.cell? ⟨g', o, none⟩ = a.cell? ⟨g', o, none⟩ := fun o => hb.cell (p := ⟨g', o, none⟩) l2
  exact ⟨⟨by rw [c]; exact h0, by rw [c]; exact h1⟩, ⟨by rw [c']; exact h4, by rw [c']; exact h5⟩, Nat.lt_of_lt_of_le l1 hb.size, Nat.lt_of_lt_of_le l2 hb.size, bt1 hB hb⟩
theorem keepLF {W a : World} {g g' : Nat} {v0 v1 u0 u1 : Value}
    (h : (a.cell? ⟨g, 0, none⟩ = some v0 ∧ a.cell? ⟨g, 1, none⟩ = some v1) ∧ (a.cell? ⟨g', 0, none⟩ = some u0 ∧ a.cell? ⟨g', 1, none⟩ = some u1) ∧ g < a.heap.size ∧ g' < a.heap.size ∧ Below W.heap.size W a) : Below W.heap.size W a := h.2.2.2.2
end Go.Proofs.Ytcfeaaakfjilgaa
