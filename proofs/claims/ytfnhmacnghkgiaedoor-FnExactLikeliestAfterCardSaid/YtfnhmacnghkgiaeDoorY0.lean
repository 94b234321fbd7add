/- Appending a whole row to a row of the call's own; a row cut to its first elements. -/
import Derived.Test.YtfnhmacnghkgiaeDoorG3
import Derived.Laws.AppendOwnNone
namespace Go.Proofs.YtfnhmacnghkgiaeDoor
open Go Go.RowKit RM
/-- 'append(s, x...)' onto a row of the call's own -/
theorem appM_G {α : Type} {E : Elt α} (w : World) {ops : Array Oper} {rest : List Oper} {o : Oper} {a : Act} {Q : Exit → Act → World → Prop} (hgd : o.guard = none) (s x : Operand) (t : TypeId)
    (ho : o.op = .call { callee := .builtin .append, args := #[s, x], argTypes := #[t, t] }) (ht : Tryd.prog.underlying t = some (.slice E.e))
    (B : Nat) (v : Value) (xs : List α) (hs : a.eval s = v) (hown : OwnG E w B v xs) (g off m c : Nat) (ys : List α) (hx : a.eval x = .slice (some ⟨g, off, none⟩) m c) (hm : ys.length = m)
    (hcell : ∀ k (hk : k < ys.length) o, o < E.n → w.cell? ⟨g, off + (k * E.n + o), none⟩ = (E.cells ys[k])[o]?) (hlen : xs.length + m ≤ 1000000) (hB : B ≤ w.heap.size)
    (h : ∀ v' w', OwnG E w' B v' (xs ++ ys) → w.grownBy w' v.ownBlock → (v'.ownBlock = v.ownBlock ∨ v'.ownBlock = some w.heap.size) → wpList Tryd.prog ops Q rest (a.put o.dst v') w') : wpList Tryd.prog ops Q (o :: rest) a w := by
  subst hm
  obtain ⟨i0, hi, hz0, hz1, hz2⟩ := info_parts E.info
  have hzs : E.z.cells.size = E.n := by rw [← E.len E.d, ← E.zs]; simp
  refine wpList_append_own_at w hgd s x t ho B E.e i0 E.z E.n E.bytes ht hi hz0 hz1 hz2 hzs E.pos v xs.length (E.flat xs) hs hown ⟨g, off, none⟩ ys.length c (E.flat ys) hx (E.flat_len ys) ?_ ?_ (by unfold maxLen; omega) ?_ hB ?_
  · intro j u hj
    have e2 : (⟨g, off, none⟩ : Addr).add j = ⟨g, off + j, none⟩ := by unfold Addr.add; split <;> simp_all
    rw [e2]
    have hp := E.pos
    have hjl : j < ys.length * E.n := by
      have := (List.getElem?_eq_some_iff.1 hj).1
      rwa [E.flat_len] at this
    have hk : j / E.n < ys.length := Nat.div_lt_of_lt_mul (by rw [Nat.mul_comm]; exact hjl)
    have hmo := Nat.mod_lt j hp
    have e3 : j / E.n * E.n + j % E.n = j := by rw [Nat.mul_comm]; exact Nat.div_add_mod j E.n
    have h1 := E.flat_get ys (j / E.n) hk (j % E.n) hmo
    have h2 := hcell (j / E.n) hk (j % E.n) hmo
    rw [e3] at h1 h2
    rw [h2, ← h1]; exact hj
  · intro u hu
    unfold Elt.flat at hu
    obtain ⟨y, _, hy⟩ := List.mem_flatMap.1 hu
    exact E.one y u hy
  · have := E.small
    calc (xs.length + ys.length) * E.bytes ≤ 1000000 * 64 := Nat.mul_le_mul (by omega) this
      _ ≤ _ := by omega
  · intro v' w' h1 h2 _ h4
    refine h v' w' ?_ h2 h4
    unfold OwnG
    rw [E.flat_app, List.length_append]; exact h1
/-- the first k elements of a row of the call's own -/
theorem OwnG.cut {α : Type} {E : Elt α} {w : World} {B g n cap k : Nat} {xs : List α} (h : OwnG E w B (.slice (some ⟨g, 0, none⟩) n cap) xs) (hn : n = xs.length) (hk : k ≤ n) :
    OwnG E w B (.slice (some ⟨g, 0, none⟩) k cap) (xs.take k) := by
  subst hn
  obtain ⟨h1, h2⟩ := h
  have hl : (xs.take k).length = k := by rw [List.length_take]; omega
  refine ⟨by rw [hl, E.flat_len, hl], ?_⟩
  rcases h2 with ⟨e, _⟩ | ⟨g', cap', cur, e, hb, hh, hnc, hc, hs, ht⟩
  · cases e
  · right
    have e' : g = g' ∧ cap = cap' := by simp at e; exact e
    obtain ⟨rfl, rfl⟩ := e'
    refine ⟨g, cap, cur, by rw [hl], hb, hh, by rw [hl]; omega, hc, hs, ?_⟩
    rw [hl]
    have : E.flat (xs.take k) = (E.flat xs).take (k * E.n) := by
      have e2 : E.flat xs = E.flat (xs.take k) ++ E.flat (xs.drop k) := by rw [← E.flat_app, List.take_append_drop]
      have hA : (E.flat (xs.take k)).length = k * E.n := by rw [E.flat_len, hl]
      rw [e2]
      exact (List.take_left' hA).symm
    rw [this, ← ht, List.take_take, Nat.min_eq_left (Nat.mul_le_mul_right _ hk)]
end Go.Proofs.YtfnhmacnghkgiaeDoor
