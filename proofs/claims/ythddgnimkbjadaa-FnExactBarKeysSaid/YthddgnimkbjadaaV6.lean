/- Which texts are keys, on both sides. -/
import Derived.Test.YthddgnimkbjadaaV5
namespace Go.Proofs.Ythddgnimkbjadaa
open Go Go.RowKit RM
theorem sAK_any (v : Value) (ks : List ByteArray) (w : World) (hz : ∀ s ∈ ks, s.size ≤ maxLen) (h : RdT w v ks) :
    Calls Try.prog 7 #[v] w fun e w' => e = .returned (.bool (goodK ks)) ∧ Below w.heap.size w w' := by
  have hG := Lib.hid (keGood_any v ks w hz h)
  generalize goodK ks = G at *
  go_enter Try.func7, Try.ntmps7
  go_wp2_with fail
  refine hG.out.mono ?_; rintro e w' ⟨rfl, rfl⟩
  go_wp2_with fail
  go_ret; exact ⟨rfl, Below.refl _ _⟩
theorem iAK_any (v : Value) (ks : List ByteArray) (w : World) (hz : ∀ s ∈ ks, s.size ≤ maxLen) (h : RdT w v ks) :
    Calls Try.prog 9 #[v] w fun e w' => e = .returned (.bool (goodK ks)) ∧ Below w.heap.size w w' := by
  have hG := Lib.hid (keyringOf_any v ks w hz h)
  generalize goodK ks = G at *
  go_enter Try.func9, Try.ntmps9
  go_wp2_with fail
  refine hG.out.mono ?_; rintro e w' ⟨u, rfl, -, hb⟩
  go_wp2_with fail
  go_ret; exact ⟨rfl, hb⟩
theorem AreKeys_both (ks : List ByteArray) (hz : ∀ s ∈ ks, s.size ≤ maxLen) : ∃ r0 : Bool,
    (∀ w v, RdT w v ks → Calls Try.prog 7 #[v] w fun e w' => e = .returned (.bool r0) ∧ Below w.heap.size w w') ∧
    (∀ w v, RdT w v ks → Calls Try.prog 9 #[v] w fun e w' => e = .returned (.bool r0) ∧ Below w.heap.size w w') :=
  ⟨goodK ks, fun w v h => sAK_any v ks w hz h, fun w v h => iAK_any v ks w hz h⟩
end Go.Proofs.Ythddgnimkbjadaa
