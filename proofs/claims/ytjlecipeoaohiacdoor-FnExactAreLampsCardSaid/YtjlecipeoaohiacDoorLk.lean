/- AreLamps, both sides. -/
import Derived.Test.YtjlecipeoaohiacDoorLj
namespace Go.Proofs.YtjlecipeoaohiacDoor
set_option linter.unusedSimpArgs false
set_option linter.unusedVariables false
open Go Go.RowKit RM
theorem sAL_any (v : Value) (rs : List ByteArray) (w : World) (hz : ∀ s ∈ rs, s.size ≤ maxLen) (h : RdY w v rs) :
    Calls Tryd.prog 12 #[v] w fun e w' => e = .returned (.bool (goodL rs)) ∧ Below w.heap.size w w' := by
  have hQ := Lib.hid (fun w' (hb : Below w.heap.size w w') => laGood_any v rs w' hz (h.below hb))
  obtain ⟨u, rfl, -⟩ := h
  obtain ⟨w1, hw1⟩ : ∃ w1, Hid (w1 = w.alloc (lampO u)) := ⟨_, Lib.hid rfl⟩
  have hb1 : Hid (Below w.heap.size w w1) := Lib.hid (by rw [hw1.out]; exact ba1 w _)
  have F1 := Lib.hid (show w1.heap[w.heap.size]? = some (lampO u) by rw [hw1.out]; exact hb_new _ _)
  have f0 : w1.cell? ⟨w.heap.size, 0, none⟩ = some u := hb_cell F1.out 0
  go_enter Tryd.func12, Tryd.ntmps12
  go_wp2_with fail
  rw [← hw1.out]
  go_wp2_with fail
  refine (hQ.out _ hb1.out).mono ?_; rintro e w2 ⟨rfl, hb⟩
  go_wp2_with fail
  go_ret; exact ⟨rfl, bt1 hb1.out hb⟩
theorem iAL_any (v : Value) (rs : List ByteArray) (w : World) (hz : ∀ s ∈ rs, s.size ≤ maxLen) (h : RdY w v rs) :
    Calls Tryd.prog 14 #[v] w fun e w' => e = .returned (.bool (goodL rs)) ∧ Below w.heap.size w w' := by
  have hQ := Lib.hid (fun w' (hb : Below w.heap.size w w') => lampNeeds_any v rs w' hz (h.below hb))
  obtain ⟨u, rfl, -⟩ := h
  obtain ⟨w1, hw1⟩ : ∃ w1, Hid (w1 = w.alloc (lampO u)) := ⟨_, Lib.hid rfl⟩
  have hb1 : Hid (Below w.heap.size w w1) := Lib.hid (by rw [hw1.out]; exact ba1 w _)
  have F1 := Lib.hid (show w1.heap[w.heap.size]? = some (lampO u) by rw [hw1.out]; exact hb_new _ _)
  have f0 : w1.cell? ⟨w.heap.size, 0, none⟩ = some u := hb_cell F1.out 0
  go_enter Tryd.func14, Tryd.ntmps14
  go_wp2_with fail
  rw [← hw1.out]
  go_wp2_with fail
  refine (hQ.out _ hb1.out).mono ?_; rintro e w2 ⟨x, rfl, -, hb⟩
  go_wp2_with fail
  go_ret; exact ⟨rfl, bt1 hb1.out hb⟩
theorem AreLamps_both (rs : List ByteArray) (hz : ∀ s ∈ rs, s.size ≤ maxLen) : ∃ (r0 : Bool),
    (∀ w v, RdY w v rs → Calls Tryd.prog 12 #[v] w fun e w' => e = .returned (.bool r0) ∧ Below w.heap.size w w') ∧
    (∀ w v, RdY w v rs → Calls Tryd.prog 14 #[v] w fun e w' => e = .returned (.bool r0) ∧ Below w.heap.size w w') :=
  ⟨_, fun w v h => sAL_any v rs w hz h, fun w v h => iAL_any v rs w hz h⟩
end Go.Proofs.YtjlecipeoaohiacDoor
