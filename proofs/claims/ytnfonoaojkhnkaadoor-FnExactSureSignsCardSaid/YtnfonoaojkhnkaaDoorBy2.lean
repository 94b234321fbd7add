/- Bytes of a text, made by a conversion, changed in place, read back. -/
import Derived.Test.YtnfonoaojkhnkaaDoorBytes
import Derived.Test.YtnfonoaojkhnkaaDoorV0
import Derived.Lib.ConvBytes
namespace Go.Proofs.YtnfonoaojkhnkaaDoor
open Go Go.RowKit RM
/-- block g holds the bytes xs of a conversion -/
def BRow (w : World) (g : Nat) (xs : List UInt8) : Prop := ∃ cs : Array Value, w.heap[g]? = some (.cells cs 5 (cs.size, cs.size + 1)) ∧ xs.length ≤ cs.size ∧ ∀ k (hk : k < xs.length), cs[k]? = some (.int .u8 (xs[k].toNat : Int))
theorem BRow.lt {w : World} {g : Nat} {xs : List UInt8} (h : BRow w g xs) : g < w.heap.size := by
  obtain ⟨cs, hb, _⟩ := h; exact hb_lt hb
theorem BRow.cell {w : World} {g : Nat} {xs : List UInt8} (h : BRow w g xs) (k : Nat) (hk : k < xs.length) : w.cell? ⟨g, k, none⟩ = some (.int .u8 (xs[k].toNat : Int)) ∧ w.frozen? ⟨g, k, none⟩ = false := by
  obtain ⟨cs, hb, hl, hc⟩ := h
  refine ⟨(hb_cell hb k).trans (hc k hk), ?_⟩
  simp [World.frozen?, hb]
  omega
theorem BRow.below {w w' : World} {g : Nat} {xs : List UInt8} (h : BRow w g xs) (hb : Below w.heap.size w w') : BRow w' g xs := by
  obtain ⟨cs, h1, h2⟩ := h
  exact ⟨cs, hb_below hb (hb_lt h1) h1, h2⟩
theorem BRow.stored {w : World} {g : Nat} {xs : List UInt8} (h : BRow w g xs) (k : Nat) (y : UInt8) : BRow (w.setCell ⟨g, k, none⟩ (.int .u8 (y.toNat : Int))) g (xs.set k y) := by
  obtain ⟨cs, hb, hl, hc⟩ := h
  refine ⟨cs.setIfInBounds k (.int .u8 (y.toNat : Int)), by rw [hb_set hb]; simp, by simpa using hl, fun i hi => ?_⟩
  rw [List.length_set] at hi
  by_cases e : k = i
  · subst e
    rw [List.getElem_set_self]
    simp [show k < cs.size by omega]
  · rw [List.getElem_set_ne e, Array.getElem?_setIfInBounds_ne e]
    exact hc i hi
theorem bytes_below (w : World) (e : TypeId) (s : ByteArray) : Below w.heap.size w (Lib.bytesWorld w e s) :=
  ⟨rfl, rfl, rfl, by rw [Lib.bytesWorld_size]; omega, fun k hk => Lib.bytesWorld_at_old w e s k hk⟩
theorem conv_own (w : World) (s : ByteArray) : ∃ cap W, (convert 9 75 (.string s)).run Tryd.prog w = .ok (.slice (some ⟨w.heap.size, 0, none⟩) s.size cap) W ∧ BRow W w.heap.size s.data.toList ∧ Below w.heap.size w W := by
  refine ⟨_, _, Lib.run_convert_string_bytes w 9 75 5 s Tryd.underlying9 Tryd.underlying75 Tryd.underlying5, ⟨_, Lib.bytesWorld_at_new w 5 s, ?_, fun k hk => ?_⟩, bytes_below w _ s⟩
  · simp [Lib.bytesCells]
  · have hk2 : k < s.size := by simpa using hk
    have h := Lib.bytesWorld_cell w 5 s k hk2
    rw [hb_cell (Lib.bytesWorld_at_new w 5 s)] at h
    rw [h, List.getD_eq_getElem?_getD, List.getElem?_eq_getElem hk]; rfl
theorem str_row (w : World) (g n cap : Nat) (xs : List UInt8) (h : BRow w g xs) (hn : xs.length = n) :
    (convert 75 9 (.slice (some ⟨g, 0, none⟩) n cap)).run Tryd.prog w = .ok (.string ⟨xs.toArray⟩) w := by
  subst hn
  refine run_convert_bytes_back w 75 9 5 ⟨g, 0, none⟩ cap xs Tryd.underlying75 Tryd.underlying5 Tryd.underlying9 fun j hj => ?_
  have := (h.cell j hj).1
  have e : (⟨g, 0, none⟩ : Addr).add j = ⟨g, j, none⟩ := by unfold Addr.add; split <;> simp_all
  rw [e]; exact this
end Go.Proofs.YtnfonoaojkhnkaaDoor
