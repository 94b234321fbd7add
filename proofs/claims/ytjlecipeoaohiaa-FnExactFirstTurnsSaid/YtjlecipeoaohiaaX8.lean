/- What a law over boxes keeps behind its calls. -/
import Derived.Test.YtjlecipeoaohiaaX7
namespace Go.Proofs.Ytjlecipeoaohiaa
open Go Go.RowKit RM
/-- two boxes in memory, a law's and a program's -/
abbrev X2 (x f B : Nat) (P S : Int) (u v : Value) (W w : World) : Prop :=
  (w.cell? ⟨x, 0, none⟩ = some (.int .i64 P) ∧ w.cell? ⟨x, 1, none⟩ = some (.int .i64 S) ∧ w.cell? ⟨x, 2, none⟩ = some u) ∧
  (w.cell? ⟨f, 0, none⟩ = some (.int .i64 P) ∧ w.cell? ⟨f, 1, none⟩ = some (.int .i64 S) ∧ w.cell? ⟨f, 2, none⟩ = some v) ∧ x < w.heap.size ∧ f < w.heap.size ∧ Below B W w
theorem keepX {x f B : Nat} {P S : Int} {u v : Value} {W a b : World} (hB : B ≤ a.heap.size) (k : Below a.heap.size a b) (h : X2 x f B P S u v W a) : X2 x f B P S u v W b := by
  obtain ⟨⟨a0, a1, a2⟩, ⟨b0, b1, b2⟩, hx, hf, hb⟩ := h
  have e : ∀ g o, g < a.heap.size → b.cell? ⟨g, o, none⟩ = a.cell? ⟨g, o, none⟩ := fun g o hg => k.cell (p := ⟨g, o, none⟩) hg
  exact ⟨⟨by rw [e _ _ hx]; exact a0, by rw [e _ _ hx]; exact a1, by rw [e _ _ hx]; exact a2⟩, ⟨by rw [e _ _ hf]; exact b0, by rw [e _ _ hf]; exact b1, by rw [e _ _ hf]; exact b2⟩, Nat.lt_of_lt_of_le hx k.size, Nat.lt_of_lt_of_le hf k.size, hb.trans (k.mono hB)⟩
theorem keepXF {x f B : Nat} {P S : Int} {u v : Value} {W w : World} (h : X2 x f B P S u v W w) : Below B W w := h.2.2.2.2
theorem keepXl {x f : Nat} {P S : Int} {u v : Value} {W w : World} (h : X2 x f W.heap.size P S u v W w) : W.heap.size ≤ w.heap.size := h.2.2.2.2.size
theorem OwnX.mk {w : World} {B : Nat} {u : Value} {P S : Int} {rs : List ByteArray} (h : OwnT w B u rs) : OwnX w B (.agg #[.int .i64 P, .int .i64 S, u]) P S rs := ⟨u, rfl, h⟩
theorem ne_rows {u v : Value} {A B C D : Nat} (hu : ∀ k, u.ownBlock = some k → A ≤ k ∧ k < B) (hv : ∀ k, v.ownBlock = some k → C ≤ k ∧ k < D) (h : B ≤ C ∨ D ≤ A) : u.ownBlock = none ∨ u.ownBlock ≠ v.ownBlock := by
  cases e : u.ownBlock with
  | none => left; rfl
  | some a =>
    right
    intro e2
    have h1 := hu a e
    have h2 := hv a e2.symm
    omega
end Go.Proofs.Ytjlecipeoaohiaa
