/- slices.DeleteFunc at bars, with a function that a clue is held in. -/
import Derived.Test.YtmjeilimdnngpaaDoorPz9
import Derived.Lib.SliceRun
import Derived.Laws.IdiomCopy
namespace Go.Proofs.YtmjeilimdnngpaaDoor
open Go Go.RowKit RM
section
variable {α : Type}
theorem del_at {xs ys : List α} {b n : Nat} (hx : xs.length = n) (hy : ys.length = n) (hb : b < n) (h : ys.drop b = xs.drop b) : ys[b]'(by omega) = xs[b]'(by omega) := by
  have h1 : ys.drop b = ys[b]'(by omega) :: ys.drop (b + 1) := List.drop_eq_getElem_cons _
  have h2 : xs.drop b = xs[b]'(by omega) :: xs.drop (b + 1) := List.drop_eq_getElem_cons _
  rw [h1, h2] at h
  exact (List.cons.inj h).1
theorem del_drop {xs ys : List α} {b : Nat} (h : ys.drop b = xs.drop b) : ys.drop (b + 1) = xs.drop (b + 1) := by
  have := congrArg (List.drop 1) h
  simpa [List.drop_drop, Nat.add_comm] using this
theorem del_yes {P : α → Bool} {xs ys : List α} {a b n : Nat} (hx : xs.length = n) (hy : ys.length = n) (hab : a < b) (hb : b < n) (ht : ys.take a = (xs.take b).filter P) (hd : ys.drop b = xs.drop b) (hP : P (xs[b]'(by omega)) = true) :
    (ys.set a (xs[b]'(by omega))).take (a + 1) = (xs.take (b + 1)).filter P ∧ (ys.set a (xs[b]'(by omega))).drop (b + 1) = xs.drop (b + 1) := by
  have hbx : b < xs.length := by omega
  refine ⟨?_, ?_⟩
  · rw [List.take_succ_eq_append_getElem hbx, List.filter_append, ← ht]
    have hay : a < (ys.set a xs[b]).length := by rw [List.length_set]; omega
    rw [List.take_succ_eq_append_getElem hay, List.getElem_set_self, List.take_set_of_le (Nat.le_refl a)]
    simp [hP]
  · rw [List.drop_set_of_lt (by omega)]
    exact del_drop hd
theorem del_no {P : α → Bool} {xs ys : List α} {a b n : Nat} (hx : xs.length = n) (hb : b < n) (ht : ys.take a = (xs.take b).filter P) (hP : P (xs[b]'(by omega)) = false) : ys.take a = (xs.take (b + 1)).filter P := by
  have hbx : b < xs.length := by omega
  rw [List.take_succ_eq_append_getElem hbx, List.filter_append, ← ht]
  simp [hP]
theorem filter_all {P : α → Bool} {xs : List α} (h : xs.all P = true) : xs.filter P = xs := by
  rw [List.filter_eq_self]; intro x hx; exact List.all_eq_true.1 h x hx
end
theorem OwnG.cut {α : Type} {E : Elt α} {w : World} {B g n cap a : Nat} {xs : List α} (h : OwnG E w B (.slice (some ⟨g, 0, none⟩) n cap) xs) (ha : a ≤ xs.length) (hn : n = xs.length) : OwnG E w B (.slice (some ⟨g, 0, none⟩) a cap) (xs.take a) := by
  subst hn
  obtain ⟨hl, hh⟩ := h
  rcases hh with ⟨e, _⟩ | ⟨g', cap', cur, e, hg, hb, hc, hm, hs, ht⟩
  · cases e
  · cases e
    have e1 : (xs.take a).length = a := by rw [List.length_take]; omega
    unfold OwnG
    refine ⟨by rw [Elt.flat_len], .inr ⟨g, cap, cur, by rw [e1], hg, hb, by rw [e1]; omega, hm, hs, ?_⟩⟩
    rw [e1]
    have e2 : E.flat xs = E.flat (xs.take a) ++ E.flat (xs.drop a) := by rw [← Elt.flat_app, List.take_append_drop]
    have e3 : cur.toList.take (a * E.n) = (cur.toList.take (xs.length * E.n)).take (a * E.n) := by rw [List.take_take, Nat.min_eq_left (Nat.mul_le_mul_right _ ha)]
    rw [e3, ht, e2, List.take_append_of_le_length (by rw [Elt.flat_len, e1]; exact Nat.le_refl _), List.take_of_length_le (by rw [Elt.flat_len, e1]; exact Nat.le_refl _)]
theorem OwnG.setBehind {α : Type} {E : Elt α} {w : World} {B g a cap o : Nat} {xs : List α} (h : OwnG E w B (.slice (some ⟨g, 0, none⟩) a cap) xs) (ha : a = xs.length) (ho : xs.length * E.n ≤ o) (u : Value) : OwnG E (w.setCell ⟨g, o, none⟩ u) B (.slice (some ⟨g, 0, none⟩) a cap) xs := by
  subst ha
  obtain ⟨hl, hh⟩ := h
  rcases hh with ⟨e, _⟩ | ⟨g', cap', cur, e, hg, hb, hc, hm, hs, ht⟩
  · cases e
  · cases e
    refine ⟨hl, .inr ⟨g, cap, cur.setIfInBounds o u, rfl, hg, hb_set hb u, hc, hm, by simpa using hs, ?_⟩⟩
    rw [Array.toList_setIfInBounds, List.take_set_of_le ho]
    exact ht
theorem OwnG.setCellsBehind {α : Type} {E : Elt α} {B g a cap : Nat} {xs : List α} (ha : a = xs.length) : ∀ (vs : List Value) (o : Nat) (w : World), xs.length * E.n ≤ o → OwnG E w B (.slice (some ⟨g, 0, none⟩) a cap) xs → OwnG E (w.setCells g o vs) B (.slice (some ⟨g, 0, none⟩) a cap) xs ∧ w.grownBy (w.setCells g o vs) (some g)
  | [], _, w, _, h => ⟨h, World.grownBy.refl _ _⟩
  | v :: r, o, w, ho, h => by
    have h1 := h.setBehind ha ho v
    obtain ⟨h2, h3⟩ := OwnG.setCellsBehind ha r (o + 1) (w.setCell ⟨g, o, none⟩ v) (by omega) h1
    exact ⟨h2, (grown_set w g o v).trans h3⟩
/-- 'clear(s)' of bars -/
theorem run_clear_br (w : World) (ty : TypeId) (b o n c : Nat) (hn : 0 < n) (hc : ∀ j, j < n * 4 → (w.cell? ⟨b, o + j, none⟩).isSome = true) (hf : ∀ j, j < n * 4 → w.frozen? ⟨b, o + j, none⟩ = false) :
    ∃ vs, (Builtin.clear_ #[88] ty #[.slice (some ⟨b, o, none⟩) n c]).run Tryd.prog w = .ok (.tuple #[]) (w.setCells b o vs) := by
  obtain ⟨i0, hi, hz0, hz1, hz2⟩ := info_parts brE.info
  have hzv : ∀ w, (zeroValue 77).run Tryd.prog w = .ok brE.z w := fun w => by kernel_rfl
  have hlen : (Builtin.zeroCells brE.z.cells n).toList.length = n * 4 := by simp [Builtin.zeroCells, brE, Value.cells]
  have h1 : ∀ v ∈ (Builtin.zeroCells brE.z.cells n).toList, v.oneCell' = true := by
    intro v hv
    simp only [Builtin.zeroCells, Array.toList_map, List.mem_map] at hv
    obtain ⟨i, _, rfl⟩ := hv
    have hs : brE.z.cells.size = 4 := rfl
    rw [hs]
    have hr : i % 4 = 0 ∨ i % 4 = 1 ∨ i % 4 = 2 ∨ i % 4 = 3 := by omega
    rcases hr with h | h | h | h <;> rw [h] <;> rfl
  have hst := run_storeCells_cells (P := Tryd.prog) b o (Builtin.zeroCells brE.z.cells n).toList 0 w (by rw [hlen]; simpa using hc) (by rw [hlen]; simpa using hf) h1
  simp only [Nat.add_zero] at hst
  refine ⟨(Builtin.zeroCells brE.z.cells n).toList, ?_⟩
  obtain ⟨m, rfl⟩ : ∃ m, n = m + 1 := ⟨n - 1, by omega⟩
  simp [Builtin.clear_, run_underlying Tryd.underlying88, hzv, hst]
end Go.Proofs.YtmjeilimdnngpaaDoor
