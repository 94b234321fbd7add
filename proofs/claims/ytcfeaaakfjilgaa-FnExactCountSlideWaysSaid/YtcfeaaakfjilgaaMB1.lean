/- Marks of blocks and bolts by a law; what they leave as it was. -/
import Derived.Test.YtcfeaaakfjilgaaD7
namespace Go.Proofs.Ytcfeaaakfjilgaa
open Go Go.RowKit RM
/-- all blocks but those from s on, below t, are as they were -/
structure Mid (s t : Nat) (w w' : World) : Prop where
  os : w'.os = w.os
  tape : w'.tape = w.tape
  output : w'.output = w.output
  size : w.heap.size ≤ w'.heap.size
  block : ∀ k, k < w.heap.size → (k < s ∨ t ≤ k) → w'.heap[k]? = w.heap[k]?
theorem Mid.refl (s t : Nat) (w : World) : Mid s t w w := ⟨rfl, rfl, rfl, Nat.le_refl _, fun _ _ _ => rfl⟩
theorem Mid.trans {s t : Nat} {a b c : World} (h : Mid s t a b) (k : Mid s t b c) : Mid s t a c :=
  ⟨k.os.trans h.os, k.tape.trans h.tape, k.output.trans h.output, Nat.le_trans h.size k.size, fun i hi hm => (k.block i (Nat.lt_of_lt_of_le hi h.size) hm).trans (h.block i hi hm)⟩
theorem Mid.grown {s t : Nat} {w w' : World} {row : Option Nat} (h : w.grownBy w' row) (hr : ∀ k, row = some k → s ≤ k ∧ k < t) : Mid s t w w' :=
  ⟨h.os, h.tape, h.output, h.size, fun k hk hm => h.block k hk (fun e => by have := hr k e.symm; omega)⟩
theorem Mid.of_below {s t : Nat} {w w' : World} (h : Below w.heap.size w w') : Mid s t w w' := ⟨h.os, h.tape, h.output, h.size, fun k hk _ => h.block k hk⟩
theorem Mid.below {s t : Nat} {w w' : World} (h : Mid s t w w') (hs : s ≤ w.heap.size) : Below s w w' := ⟨h.os, h.tape, h.output, h.size, fun k hk => h.block k (by omega) (.inl hk)⟩
theorem own_mid {w w' : World} {B size n s t : Nat} {e : TypeId} {v : Value} {xs : List Value} (h : w.ownsRow B e size v n xs) (hm : Mid s t w w') (hk : ∀ k, v.ownBlock = some k → k < s ∨ t ≤ k) : w'.ownsRow B e size v n xs := by
  refine ⟨h.1, ?_⟩
  rcases h.2 with hn | ⟨g, cap, cur, rfl, hb, hgg, rest⟩
  · exact .inl hn
  · refine .inr ⟨g, cap, cur, rfl, hb, ?_, rest⟩
    rw [hm.block g (Array.getElem?_eq_some_iff.1 hgg).1 (hk g rfl)]
    exact hgg
theorem OwnG.mid {α : Type} {E : Elt α} {w w' : World} {B s t : Nat} {v : Value} {xs : List α} (h : OwnG E w B v xs) (hm : Mid s t w w') (hB : t ≤ B) : OwnG E w' B v xs :=
  own_mid h hm fun k hk => .inr (Nat.le_trans hB (h.lt k hk).1)
theorem OwnG.mid_old {α : Type} {E : Elt α} {w w' : World} {B s t : Nat} {v : Value} {xs : List α} (h : OwnG E w B v xs) (hm : Mid s t w w') (hB : ∀ k, v.ownBlock = some k → k < s) : OwnG E w' B v xs :=
  own_mid h hm fun k hk => .inl (hB k hk)
end Go.Proofs.Ytcfeaaakfjilgaa
