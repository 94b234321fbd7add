/- Rows of the call's own that begin inside their block: a queue that is cut in front. -/
import Derived.Test.YtjlecipeoaohiaaBase0
namespace Go.Proofs.Ytjlecipeoaohiaa
open Go Go.RowKit RM
section
variable {α : Type} {E : Elt α}
/-- the value v owns the elements xs, in memory from block B on, from somewhere in its block on -/
def OwnO (E : Elt α) (w : World) (B : Nat) (v : Value) (xs : List α) : Prop :=
  ∃ g off cap cur, v = .slice (some ⟨g, off, none⟩) xs.length cap ∧ B ≤ g ∧ w.heap[g]? = some (.cells cur E.e (0, 0)) ∧ xs.length ≤ cap ∧ cap ≤ maxLen ∧ off + cap * E.n ≤ cur.size ∧ ∀ j, j < xs.length * E.n → cur[off + j]? = (E.flat xs)[j]?
theorem OwnO.of {w : World} {B : Nat} {v : Value} {xs : List α} (h : OwnG E w B v xs) (hne : xs ≠ []) : OwnO E w B v xs := by
  rcases h with ⟨hl, ⟨_, h0⟩ | ⟨g, cap, cur, rfl, hB, hg, hn, hc, hs, ht⟩⟩
  · exact absurd (List.length_eq_zero_iff.1 h0) hne
  · refine ⟨g, 0, cap, cur, rfl, hB, hg, hn, hc, by omega, fun j hj => ?_⟩
    rw [← ht, Nat.zero_add, List.getElem?_take, if_pos hj]; simp
theorem OwnO.form {w : World} {B : Nat} {v : Value} {xs : List α} (h : OwnO E w B v xs) : ∃ g off cap, v = .slice (some ⟨g, off, none⟩) xs.length cap ∧ B ≤ g ∧ g < w.heap.size ∧ xs.length ≤ cap ∧ cap ≤ maxLen := by
  obtain ⟨g, off, cap, cur, rfl, hB, hg, hn, hc, _, _⟩ := h
  exact ⟨g, off, cap, rfl, hB, hb_lt hg, hn, hc⟩
theorem OwnO.cells {w : World} {B g off n cap : Nat} {xs : List α} (h : OwnO E w B (.slice (some ⟨g, off, none⟩) n cap) xs) (k : Nat) (hk : k < xs.length) (o : Nat) (ho : o < E.n) : w.cell? ⟨g, off + (k * E.n + o), none⟩ = (E.cells xs[k])[o]? := by
  obtain ⟨g', off', cap', cur, e, hB, hg, hn, hc, hs, hx⟩ := h
  simp at e
  obtain ⟨⟨rfl, rfl⟩, rfl, rfl⟩ := e
  have : k * E.n + o < xs.length * E.n := by
    calc k * E.n + o < k * E.n + E.n := by omega
      _ = (k + 1) * E.n := by rw [Nat.add_mul, Nat.one_mul]
      _ ≤ xs.length * E.n := Nat.mul_le_mul_right _ hk
  rw [hb_cell hg, hx _ this, E.flat_get xs k hk o ho]
theorem OwnO.lt {w : World} {B : Nat} {v : Value} {xs : List α} (h : OwnO E w B v xs) : ∀ k, v.ownBlock = some k → B ≤ k ∧ k < w.heap.size := by
  obtain ⟨g, off, cap, cur, rfl, hB, hg, _⟩ := h
  intro k e
  obtain rfl : g = k := Option.some.inj e
  exact ⟨hB, hb_lt hg⟩
theorem OwnO.kept {w w' : World} {B : Nat} {v : Value} {xs : List α} {row : Option Nat} (h : OwnO E w B v xs) (hg : w.grownBy w' row) (hne : v.ownBlock ≠ row) : OwnO E w' B v xs := by
  obtain ⟨g, off, cap, cur, rfl, hB, hgg, rest⟩ := h
  exact ⟨g, off, cap, cur, rfl, hB, (hg.block g (hb_lt hgg) (fun e => hne e)).trans hgg, rest⟩
theorem OwnO.below {w w' : World} {B : Nat} {v : Value} {xs : List α} (h : OwnO E w B v xs) (hb : Below w.heap.size w w') : OwnO E w' B v xs :=
  h.kept (grown_any hb none) (by obtain ⟨g, off, cap, cur, rfl, _⟩ := h; intro e; cases e)
theorem OwnO.alloc {w : World} {B : Nat} {v : Value} {xs : List α} (h : OwnO E w B v xs) (o : Obj) : OwnO E (w.alloc o) B v xs := h.below (by exact (Below.refl _ _).alloc (Nat.le_refl _) o)
/-- 's[1:]' -/
theorem OwnO.tail {w : World} {B g off n cap : Nat} {x : α} {xs : List α} (h : OwnO E w B (.slice (some ⟨g, off, none⟩) n cap) (x :: xs)) : OwnO E w B (.slice (some ⟨g, if cap = 1 then off else off + E.n, none⟩) (n - 1) (cap - 1)) xs := by
  obtain ⟨g', off', cap', cur, e, hB, hg, hn, hc, hs, hx⟩ := h
  simp at e
  obtain ⟨⟨rfl, rfl⟩, rfl, rfl⟩ := e
  rw [List.length_cons] at hn
  refine ⟨g, if cap = 1 then off else off + E.n, cap - 1, cur, by simp, hB, hg, by omega, by omega, ?_, fun j hj => ?_⟩
  · split
    · rename_i e; subst e; simp; omega
    · have : cap * E.n = (cap - 1) * E.n + E.n := by
        rw [← Nat.succ_mul]; congr 1; omega
      omega
  · have hlen : xs.length ≠ 0 := by intro e; rw [e] at hj; simp at hj
    rw [if_neg (by omega)]
    have e1 : E.flat (x :: xs) = E.cells x ++ E.flat xs := by unfold Elt.flat; rw [List.flatMap_cons]
    have := hx (E.n + j) (by rw [List.length_cons, Nat.add_mul, Nat.one_mul]; omega)
    rw [e1, List.getElem?_append_right (by rw [E.len]; omega), E.len, Nat.add_sub_cancel_left] at this
    rw [← this]; congr 1; omega
theorem take_drop_get {l news : List Value} {k i : Nat} (hfit : k + news.length ≤ l.length) : (l.take k ++ news ++ l.drop (k + news.length))[i]? = if i < k then l[i]? else if i < k + news.length then news[i - k]? else l[i]? := by
  have hlk : (l.take k).length = k := by rw [List.length_take]; omega
  by_cases h1 : i < k
  · rw [if_pos h1, List.append_assoc, List.getElem?_append_left (by omega), List.getElem?_take, if_pos h1]
  · rw [if_neg h1]
    by_cases h2 : i < k + news.length
    · rw [if_pos h2, List.getElem?_append_left (by rw [List.length_append]; omega), List.getElem?_append_right (by omega), hlk]
    · rw [if_neg h2, List.getElem?_append_right (by rw [List.length_append]; omega), List.length_append, hlk, List.getElem?_drop]
      congr 1; omega
set_option maxRecDepth 100000 in
/-- 'append(s, x)' onto such a row: x lies in a block -/
theorem app_O (w : World) {ops : Array Oper} {rest : List Oper} {o : Oper} {a : Act} {Q : Exit → Act → World → Prop} (hgd : o.guard = none) (s x : Operand) (t : TypeId)
    (ho : o.op = .call { callee := .builtin .append, args := #[s, x], argTypes := #[t, t] }) (ht : Try.prog.underlying t = some (.slice E.e))
    (B : Nat) (v : Value) (xs : List α) (hs : a.eval s = v) (hown : OwnO E w B v xs) (g : Nat) (y : α) (hx : a.eval x = .slice (some ⟨g, 0, none⟩) 1 1)
    (hcell : ∀ o u, (E.cells y)[o]? = some u → w.cell? ⟨g, o, none⟩ = some u) (hlen : xs.length ≤ 1000000) (hB : B ≤ w.heap.size)
    (h : ∀ v' w', OwnO E w' B v' (xs ++ [y]) → w.grownBy w' v.ownBlock → (v'.ownBlock = v.ownBlock ∨ v'.ownBlock = some w.heap.size) → wpList Try.prog ops Q rest (a.put o.dst v') w') : wpList Try.prog ops Q (o :: rest) a w := by
  obtain ⟨i0, hi, hz0, hz1, hz2⟩ := info_parts E.info
  have hzs : E.z.cells.size = E.n := by rw [← E.len E.d, ← E.zs]; simp
  obtain ⟨b, off, cap, cur, rfl, hBg, hg, hn, hc, hfit, hcur⟩ := hown
  have hnews : ∀ j u, (E.cells y)[j]? = some u → w.cell? ((⟨g, 0, none⟩ : Addr).add j) = some u := fun j u hj => by
    rw [Addr.add_lit, Nat.zero_add]; exact hcell j u hj
  have hfl : E.flat (xs ++ [y]) = E.flat xs ++ E.cells y := by rw [E.flat_app]; simp [Elt.flat]
  have hxl := E.flat_len xs
  have hyl := E.len y
  refine wpList_plain hgd fun K hK => ?_
  have key : ∃ v' w', (Builtin.append_ #[t, t] o.type #[.slice (some ⟨b, off, none⟩) xs.length cap, .slice (some ⟨g, 0, none⟩) 1 1]).run Try.prog w = .ok v' w' ∧ OwnO E w' B v' (xs ++ [y]) ∧ w.grownBy w' (some b) ∧ (v'.ownBlock = some b ∨ v'.ownBlock = some w.heap.size) := by
    by_cases hroom : xs.length + 1 ≤ cap
    · have hmul : xs.length * E.n + E.n ≤ cap * E.n := by
        rw [← Nat.succ_mul]; exact Nat.mul_le_mul_right _ hroom
      have hf := run_firstCells_some (P := Try.prog) w E.n 1 ⟨g, 0, none⟩ 1 1 (E.cells y) (by rw [hyl]; omega) hnews
      have hst := run_storeCells_at Try.prog b (off + xs.length * E.n) E.e (E.cells y) 0 cur w hg (by rw [hyl]; omega) (fun u hu => E.one y u hu)
      simp only [Nat.add_zero] at hst
      refine ⟨.slice (some ⟨b, off, none⟩) (xs.length + 1) cap, _, ?_, ⟨b, off, cap, (cur.toList.take (off + xs.length * E.n) ++ E.cells y ++ cur.toList.drop (off + xs.length * E.n + (E.cells y).length)).toArray, by simp, hBg, setRow_heap w b cur _ _ _ hg, by simpa using hroom, hc, ?_, fun j hj => ?_⟩, ⟨rfl, rfl, rfl, by simp, fun k _ hk => setRow_other w b k _ (fun e => hk (by rw [e]))⟩, .inl rfl⟩
      · simp [Builtin.append_, run_underlying ht, sizeOf, typeInfo, hi, hz1, Builtin.lenOf, hroom, hf, Addr.add_lit, hst]
      · simp only [List.size_toArray, List.length_append, List.length_take, List.length_drop, Array.length_toList]
        omega
      · rw [List.length_append, List.length_singleton, Nat.add_mul, Nat.one_mul] at hj
        have hf9 : off + xs.length * E.n + (E.cells y).length ≤ cur.toList.length := by rw [show cur.toList.length = cur.size from Array.length_toList, hyl]; omega
        rw [List.getElem?_toArray, take_drop_get hf9, hfl]
        by_cases h1 : j < xs.length * E.n
        · rw [if_pos (by omega), List.getElem?_append_left (by omega), ← hcur j h1]; simp
        · rw [if_neg (by omega), if_pos (by rw [hyl]; omega), List.getElem?_append_right (by omega)]
          congr 1; omega
    · have holds : ∀ j u, (E.flat xs)[j]? = some u → w.cell? ((⟨b, off, none⟩ : Addr).add j) = some u := fun j u hu => by
        have hj : j < (E.flat xs).length := (List.getElem?_eq_some_iff.1 hu).1
        rw [Addr.add_lit, hb_cell hg, hcur j (by omega)]; exact hu
      have hsm := E.small
      have hby : (xs.length + 1) * E.bytes ≤ 140737488355328 := by
        calc (xs.length + 1) * E.bytes ≤ 1000001 * 64 := Nat.mul_le_mul (by omega) hsm
          _ ≤ _ := by omega
      have hr := run_append_grow (P := Try.prog) w t o.type E.e i0 E.z ht hi hz0 ⟨b, off, none⟩ xs.length cap (E.flat xs) (by rw [hz1]; exact hxl) holds ⟨g, 0, none⟩ 1 1 (E.cells y) (by rw [hz1, hyl]; omega) hnews (by omega) (by omega) (growslice_fits (by omega) (by rw [hz2]; exact hby))
      have hge := grownCap_ge w (xs.length + 1) cap E.e
      have hcm : grownCap w (xs.length + 1) cap E.e ≤ maxLen := grownCap_le_maxLen w (xs.length + 1) cap E.e (by unfold maxLen; omega)
      refine ⟨_, _, hr, ⟨w.heap.size, 0, _, _, by simp, hB, hb_new w.drew _, by simpa using hge, hcm, ?_, fun j hj => ?_⟩, ⟨rfl, rfl, rfl, by simp, fun k hk _ => heap_alloc_old w.drew _ hk⟩, .inr rfl⟩
      · simp only [Array.size_append, List.size_toArray, size_zeroCells, hzs, hxl, hyl]
        have : grownCap w (xs.length + 1) cap E.e * E.n = (xs.length + 1) * E.n + (grownCap w (xs.length + 1) cap E.e - (xs.length + 1)) * E.n := by rw [← Nat.add_mul]; congr 1; omega
        rw [Nat.add_mul, Nat.one_mul] at this
        omega
      · rw [List.length_append, List.length_singleton, Nat.add_mul, Nat.one_mul] at hj
        rw [Nat.zero_add, Array.getElem?_append_left (by simp only [Array.size_append, List.size_toArray, hxl, hyl]; omega), hfl]
        simp
  obtain ⟨v', w', hr, h2, h3, h5⟩ := key
  unfold Oper.wp execOp
  simp only [ho, resolve, invoke, builtin, Sem.run_bind, Sem.run_pure, Result.andThen_ok, List.map_toArray, List.map_cons, List.map_nil, hs, hx, hr]
  exact hK _ _ (h v' w' h2 h3 h5)
end
end Go.Proofs.Ytjlecipeoaohiaa
