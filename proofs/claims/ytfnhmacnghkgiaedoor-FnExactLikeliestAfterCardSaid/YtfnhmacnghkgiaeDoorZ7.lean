/- Chapter 7: CountWithOn, LeastWithOn, GreatestWithOn, SumWithOn, both ways. -/
import Derived.Test.YtfnhmacnghkgiaeDoorZ6
namespace Go.Proofs.YtfnhmacnghkgiaeDoor
open Go Go.RowKit RM
/-- a bar of a row, in memory -/
theorem br_at {w : World} {B : Nat} {v : Value} {xs : List (Nat × Nat)} (h : OwnG brE w B v xs) : ∃ p c, v = .slice p xs.length c ∧ ∀ w', Below w.heap.size w w' → ∀ k (hk : k < xs.length), ∃ g, p = some ⟨g, 0, none⟩ ∧ g < w.heap.size ∧
    w'.cell? ⟨g, k * 4, none⟩ = some (.int .i64 ((ctz xs[k].2 : Nat) : Int)) ∧ w'.cell? ⟨g, k * 4 + 1, none⟩ = some (.bool (onB xs[k].2)) ∧ w'.cell? ⟨g, k * 4 + 2, none⟩ = some (.int .i64 ((xs[k].1 : Nat) : Int)) ∧ w'.cell? ⟨g, k * 4 + 3, none⟩ = some (.int .u64 ((xs[k].2 : Nat) : Int)) := by
  obtain ⟨p, c, rfl, hl, hr⟩ := h.rd
  refine ⟨p, c, rfl, fun w' hb k hk => ?_⟩
  obtain ⟨g, rfl, hlt, hc⟩ := (hr.below hb) (fun e => by rw [e] at hk; simp at hk)
  obtain ⟨g2, e2, hlt2, _⟩ := hr (fun e => by rw [e] at hk; simp at hk)
  cases e2
  refine ⟨g, rfl, hlt2, ?_, ?_, ?_, ?_⟩
  · have := hc k hk 0 (by decide); simpa [brE] using this
  · have := hc k hk 1 (by decide); simpa [brE] using this
  · have := hc k hk 2 (by decide); simpa [brE] using this
  · have := hc k hk 3 (by decide); simpa [brE] using this

end Go.Proofs.YtfnhmacnghkgiaeDoor
