/- Rows of elements of whatever plain kind, of the call's own. -/
import Derived.Test.YtmjeilimdnngpaaDoorInts
import Derived.Maps.AppendAt
import Derived.Laws.OwnMore
namespace Go.Proofs.YtmjeilimdnngpaaDoor
open Go Go.RowKit RM

/-- a kind of element: its type, its cells -/
structure Elt (α : Type) where
  e : TypeId
  n : Nat
  bytes : Nat
  z : Value
  d : α
  cells : α → List Value
  len : ∀ x, (cells x).length = n
  one : ∀ x, ∀ u ∈ cells x, u.oneCell' = true
  pos : 0 < n
  zs : z.cells.toList = cells d
  info : (Tryd.prog.info? e).map (fun i => (i.zero, i.size, i.bytes)) = some (some z, n, bytes)
  small : bytes ≤ 64
def Elt.flat {α : Type} (E : Elt α) (xs : List α) : List Value := xs.flatMap E.cells
section
variable {α : Type} {E : Elt α}
theorem Elt.flat_len (E : Elt α) (xs : List α) : (E.flat xs).length = xs.length * E.n := by
  induction xs with
  | nil => simp [Elt.flat]
  | cons z zs ih => unfold Elt.flat at *; rw [List.flatMap_cons, List.length_append, ih, E.len]; simp [Nat.add_mul]; omega
theorem Elt.flat_app (E : Elt α) (xs ys : List α) : E.flat (xs ++ ys) = E.flat xs ++ E.flat ys := by unfold Elt.flat; rw [List.flatMap_append]
theorem Elt.flat_get (E : Elt α) : ∀ (xs : List α) (k : Nat) (hk : k < xs.length) (o : Nat), o < E.n → (E.flat xs)[k * E.n + o]? = (E.cells xs[k])[o]? := by
  intro xs
  induction xs with
  | nil => intro k hk; simp at hk
  | cons z zs ih =>
    intro k hk o ho
    have e : E.flat (z :: zs) = E.cells z ++ E.flat zs := by unfold Elt.flat; rw [List.flatMap_cons]
    rw [e]
    cases k with
    | zero => rw [Nat.zero_mul, Nat.zero_add, List.getElem?_append_left (by rw [E.len]; exact ho)]; rfl
    | succ k =>
      rw [List.getElem?_append_right (by rw [E.len, Nat.add_mul]; omega)]
      rw [show (k + 1) * E.n + o - (E.cells z).length = k * E.n + o by rw [E.len, Nat.add_mul]; omega]
      rw [ih k (by simpa using hk) o ho]; rfl
theorem Elt.flat_set (E : Elt α) : ∀ (xs : List α) (k : Nat) (hk : k < xs.length) (o : Nat) (u : Value) (y : α), o < E.n → E.cells y = (E.cells xs[k]).set o u → (E.flat xs).set (k * E.n + o) u = E.flat (xs.set k y) := by
  intro xs
  induction xs with
  | nil => intro k hk; simp at hk
  | cons z zs ih =>
    intro k hk o u y ho hy
    have e : ∀ z zs, E.flat (z :: zs) = E.cells z ++ E.flat zs := fun z zs => by unfold Elt.flat; rw [List.flatMap_cons]
    cases k with
    | zero => rw [e, List.set_cons_zero, e, Nat.zero_mul, Nat.zero_add, List.set_append_left _ _ (by rw [E.len]; exact ho), hy]; rfl
    | succ k =>
      rw [e, List.set_cons_succ, e, List.set_append_right _ _ (by rw [E.len, Nat.add_mul]; omega)]
      rw [show (k + 1) * E.n + o - (E.cells z).length = k * E.n + o by rw [E.len, Nat.add_mul]; omega]
      rw [ih k (by simpa using hk) o u y ho hy]
/-- the value v owns the elements xs, in memory from block B on -/
def OwnG (E : Elt α) (w : World) (B : Nat) (v : Value) (xs : List α) : Prop := w.ownsRow B E.e E.n v xs.length (E.flat xs)
/-- the value v reads as the elements xs -/
def RG (E : Elt α) (w : World) (p : Option Addr) (xs : List α) : Prop := xs ≠ [] → ∃ g, p = some ⟨g, 0, none⟩ ∧ g < w.heap.size ∧ ∀ k (hk : k < xs.length) o, o < E.n → w.cell? ⟨g, k * E.n + o, none⟩ = (E.cells xs[k])[o]?
def RdG (E : Elt α) (w : World) (v : Value) (xs : List α) : Prop := ∃ p c, v = .slice p xs.length c ∧ xs.length ≤ maxLen ∧ RG E w p xs
theorem RG.below {w w' : World} {p : Option Addr} {xs : List α} (h : RG E w p xs) (hb : Below w.heap.size w w') : RG E w' p xs := fun h0 => by
  obtain ⟨g, rfl, hl, hc⟩ := h h0
  exact ⟨g, rfl, Nat.lt_of_lt_of_le hl hb.size, fun k hk o ho => by rw [hb.cell (p := ⟨g, k * E.n + o, none⟩) hl]; exact hc k hk o ho⟩
theorem OwnG.cells {w : World} {B g n cap : Nat} {xs : List α} (h : OwnG E w B (.slice (some ⟨g, 0, none⟩) n cap) xs) (hn : n = xs.length) (k : Nat) (hk : k < xs.length) (o : Nat) (ho : o < E.n) : w.cell? ⟨g, k * E.n + o, none⟩ = (E.cells xs[k])[o]? := by
  subst hn
  have h' : w.ownsRow B E.e E.n (.slice (some ⟨g, 0, none⟩) xs.length cap) xs.length (E.flat xs) := h
  have : k * E.n + o < xs.length * E.n := by
    calc k * E.n + o < k * E.n + E.n := by omega
      _ = (k + 1) * E.n := by rw [Nat.add_mul, Nat.one_mul]
      _ ≤ xs.length * E.n := Nat.mul_le_mul_right _ hk
  rw [h'.cellAt _ this, E.flat_get xs k hk o ho]
theorem OwnG.frozen {w : World} {B g n cap : Nat} {xs : List α} (h : OwnG E w B (.slice (some ⟨g, 0, none⟩) n cap) xs) (hn : n = xs.length) (j : Nat) : w.frozen? ⟨g, j, none⟩ = false := by
  subst hn
  have h' : w.ownsRow B E.e E.n (.slice (some ⟨g, 0, none⟩) xs.length cap) xs.length (E.flat xs) := h
  exact h'.frozenAt j
theorem OwnG.form {w : World} {B : Nat} {v : Value} {xs : List α} (h : OwnG E w B v xs) :
    (v = .slice none 0 0 ∧ xs = []) ∨ ∃ g cap, v = .slice (some ⟨g, 0, none⟩) xs.length cap ∧ B ≤ g ∧ g < w.heap.size ∧ xs.length ≤ maxLen := by
  rcases h.2 with ⟨h1, h2⟩ | ⟨g, cap, cur, rfl, hg, hh, hn, hc, _, _⟩
  · left; exact ⟨h1, List.length_eq_zero_iff.1 h2⟩
  · right; exact ⟨g, cap, rfl, hg, lt_of_block hh, Nat.le_trans hn hc⟩
theorem OwnG.rd {w : World} {B : Nat} {v : Value} {xs : List α} (h : OwnG E w B v xs) : RdG E w v xs := by
  rcases h.form with ⟨rfl, rfl⟩ | ⟨g, cap, rfl, _, hl, hm⟩
  · exact ⟨none, 0, rfl, Nat.zero_le _, fun h => absurd rfl h⟩
  · exact ⟨_, cap, rfl, hm, fun _ => ⟨g, rfl, hl, fun k hk o ho => h.cells rfl k hk o ho⟩⟩
theorem RdG.below {w w' : World} {v : Value} {xs : List α} (h : RdG E w v xs) (hb : Below w.heap.size w w') : RdG E w' v xs := by
  obtain ⟨p, c, rfl, hm, hx⟩ := h
  exact ⟨p, c, rfl, hm, hx.below hb⟩
theorem OwnG.lt {w : World} {B : Nat} {v : Value} {xs : List α} (h : OwnG E w B v xs) : ∀ k, v.ownBlock = some k → B ≤ k ∧ k < w.heap.size := World.ownsRow.lt h
theorem OwnG.kept {w w' : World} {B : Nat} {v : Value} {xs : List α} {row : Option Nat} (h : OwnG E w B v xs) (hg : w.grownBy w' row) (hne : v.ownBlock = none ∨ v.ownBlock ≠ row) : OwnG E w' B v xs := World.ownsRow.kept h hg hne
theorem OwnG.below {w w' : World} {B : Nat} {v : Value} {xs : List α} (h : OwnG E w B v xs) (hb : Below w.heap.size w w') : OwnG E w' B v xs := by
  refine h.kept (show w.grownBy w' none from ⟨hb.os, hb.tape, hb.output, hb.size, fun k hk _ => hb.block k hk⟩) ?_
  cases hv : v.ownBlock
  · left; rfl
  · right; simp
theorem OwnG.drewN {w : World} {B : Nat} {v : Value} {xs : List α} (h : OwnG E w B v xs) (q : Nat) : OwnG E (w.drewN q) B v xs := h.below (below_drewN (Below.refl _ _) q)
theorem OwnG.mono {w : World} {B C : Nat} {v : Value} {xs : List α} (h : OwnG E w B v xs) (hc : C ≤ B) : OwnG E w C v xs := by
  obtain ⟨a, b⟩ := h
  refine ⟨a, ?_⟩
  rcases b with b | ⟨g, cap, cur, h1, h2, h3⟩
  · exact .inl b
  · exact .inr ⟨g, cap, cur, h1, by omega, h3⟩
theorem OwnG.nil (w : World) (B : Nat) : OwnG E w B (.slice none 0 0) [] := World.ownsRow_nil _ _ _ _
theorem OwnG.alloc {w : World} {B : Nat} {v : Value} {xs : List α} (h : OwnG E w B v xs) (o : Obj) : OwnG E (w.alloc o) B v xs := World.ownsRow.alloc h o
theorem OwnG.stored {w : World} {B g n cap : Nat} {xs : List α} (h : OwnG E w B (.slice (some ⟨g, 0, none⟩) n cap) xs) (hn : n = xs.length) (k : Nat) (hk : k < xs.length) (o : Nat) (ho : o < E.n) (u : Value) (y : α) (hy : E.cells y = (E.cells xs[k]).set o u) :
    OwnG E (w.setCell ⟨g, k * E.n + o, none⟩ u) B (.slice (some ⟨g, 0, none⟩) n cap) (xs.set k y) ∧ w.grownBy (w.setCell ⟨g, k * E.n + o, none⟩ u) (some g) := by
  subst hn
  have h' : w.ownsRow B E.e E.n (.slice (some ⟨g, 0, none⟩) xs.length cap) xs.length (E.flat xs) := h
  obtain ⟨a, b⟩ := h'.stored (k * E.n + o) u
  refine ⟨?_, b⟩
  unfold OwnG
  rw [E.flat_set xs k hk o u y ho hy] at a
  rw [List.length_set]; exact a
/-- 'append(s, x)' onto a row of the call's own: x lies in a block -/
theorem app_G (w : World) {ops : Array Oper} {rest : List Oper} {o : Oper} {a : Act} {Q : Exit → Act → World → Prop} (hgd : o.guard = none) (s x : Operand) (t : TypeId)
    (ho : o.op = .call { callee := .builtin .append, args := #[s, x], argTypes := #[t, t] }) (ht : Tryd.prog.underlying t = some (.slice E.e))
    (B : Nat) (v : Value) (xs : List α) (hs : a.eval s = v) (hown : OwnG E w B v xs) (g : Nat) (y : α) (hx : a.eval x = .slice (some ⟨g, 0, none⟩) 1 1)
    (hcell : ∀ o u, (E.cells y)[o]? = some u → w.cell? ⟨g, o, none⟩ = some u) (hlen : xs.length ≤ 1000000) (hB : B ≤ w.heap.size)
    (h : ∀ v' w', OwnG E w' B v' (xs ++ [y]) → w.grownBy w' v.ownBlock → (v'.ownBlock = v.ownBlock ∨ v'.ownBlock = some w.heap.size) → wpList Tryd.prog ops Q rest (a.put o.dst v') w') : wpList Tryd.prog ops Q (o :: rest) a w := by
  obtain ⟨i0, hi, hz0, hz1, hz2⟩ := info_parts E.info
  have hzs : E.z.cells.size = E.n := by rw [← E.len E.d, ← E.zs]; simp
  refine wpList_append_own_at w hgd s x t ho B E.e i0 E.z E.n E.bytes ht hi hz0 hz1 hz2 hzs E.pos v xs.length (E.flat xs) hs hown ⟨g, 0, none⟩ 1 1 (E.flat [y]) hx (by rw [E.flat_len]; rfl) ?_ ?_ (by unfold maxLen; omega) ?_ hB ?_
  · intro j u hj
    have e : E.flat [y] = E.cells y := by simp [Elt.flat]
    rw [e] at hj
    have e2 : (⟨g, 0, none⟩ : Addr).add j = ⟨g, j, none⟩ := by unfold Addr.add; split <;> simp_all
    rw [e2]; exact hcell j u hj
  · intro u hu
    have e : E.flat [y] = E.cells y := by simp [Elt.flat]
    rw [e] at hu
    exact E.one y u hu
  · have := E.small
    calc (xs.length + 1) * E.bytes ≤ 1000001 * 64 := Nat.mul_le_mul (by omega) this
      _ ≤ _ := by omega
  · intro v' w' h1 h2 _ h4
    refine h v' w' ?_ h2 h4
    unfold OwnG
    rw [E.flat_app, List.length_append]; exact h1
theorem made_flat (E : Elt α) (n : Nat) : (madeCells E.z.cells (n * E.n)).toList = E.flat (List.replicate n E.d) := by
  have hzs : E.z.cells.size = E.n := by rw [← E.len E.d, ← E.zs]; simp
  apply List.ext_getElem?
  intro i
  by_cases hi : i < n * E.n
  · have hp := E.pos
    have hk : i / E.n < n := Nat.div_lt_of_lt_mul (by rw [Nat.mul_comm]; exact hi)
    have ho : i % E.n < E.n := Nat.mod_lt _ hp
    have hs : i = i / E.n * E.n + i % E.n := by rw [Nat.mul_comm]; exact (Nat.div_add_mod _ _).symm
    have e := E.flat_get (List.replicate n E.d) (i / E.n) (by simpa using hk) (i % E.n) ho
    rw [← hs] at e
    rw [e]
    simp only [List.getElem_replicate]
    have l : i < (madeCells E.z.cells (n * E.n)).toList.length := by rw [Array.length_toList, size_madeCells]; exact hi
    rw [List.getElem?_eq_getElem l]
    unfold madeCells
    simp only [Array.getElem_toList, Array.getElem_map, Array.getElem_range, hzs]
    rw [← E.zs, getElem!_pos E.z.cells (i % E.n) (by rw [hzs]; exact ho)]
    rw [List.getElem?_eq_getElem (by rw [Array.length_toList, hzs]; exact ho)]; simp
  · rw [List.getElem?_eq_none (by rw [Array.length_toList, size_madeCells]; omega), List.getElem?_eq_none (by rw [E.flat_len]; simp; omega)]
/-- 'make([]T, n)' -/
theorem make_G (E : Elt α) (w : World) {ops : Array Oper} {rest : List Oper} {o : Oper} {a : Act} {Q : Exit → Act → World → Prop} (hgd : o.guard = none) (l c : Operand) (t : TypeId) (hop : o.op = Op.makeSlice t l c) (ht : Tryd.prog.underlying t = some (.slice E.e))
    (kl kc : IntKind) (n : Nat) (hl : a.eval l = .int kl n) (hc : a.eval c = .int kc n) (hn : n ≤ 2000000)
    (hK : ∀ w', OwnG E w' w.heap.size (.slice (some ⟨w.heap.size, 0, none⟩) n n) (List.replicate n E.d) → Below w.heap.size w w' → wpList Tryd.prog ops Q rest (a.put o.dst (.slice (some ⟨w.heap.size, 0, none⟩) n n)) w') : wpList Tryd.prog ops Q (o :: rest) a w := by
  obtain ⟨i0, hi, hz0, hz1, hz2⟩ := info_parts E.info
  refine wpList_make_full w hgd l c t hop w.heap.size E.e i0 E.z E.n ht hi hz0 hz1 kl kc n n n hl hc rfl rfl ?_ (by unfold maxLen; omega) (Nat.le_refl _) ?_
  · rw [hz2]; have := E.small
    calc E.bytes * n ≤ 64 * 2000000 := Nat.mul_le_mul this hn
      _ ≤ _ := by omega
  · intro w' h1 h2
    refine hK w' ?_ ((Below.refl _ _).grown h2 (Nat.le_refl _) (fun k e => by cases e))
    unfold OwnG
    rw [made_flat E n] at h1
    rw [List.length_replicate]; exact h1
/-- rows of different kinds lie apart -/
theorem own_ne_kind {w : World} {B C s t n m : Nat} {e f : TypeId} {v u : Value} {xs ys : List Value} (h : w.ownsRow B e s v n xs) (k : w.ownsRow C f t u m ys) (hef : e ≠ f) : v.ownBlock = none ∨ v.ownBlock ≠ u.ownBlock := by
  rcases h.2 with ⟨rfl, _⟩ | ⟨g, cap, cur, rfl, _, hh, _⟩
  · left; rfl
  · right
    rcases k.2 with ⟨rfl, _⟩ | ⟨g', cap', cur', rfl, _, hh', _⟩
    · intro e; cases e
    · intro e
      obtain rfl : g = g' := Option.some.inj e
      rw [hh] at hh'
      simp at hh'
      exact hef hh'.2
theorem bel_ownG {B : Nat} {a w w' : World} {v : Value} {xs : List α} (h : Below B a w) (ho : OwnG E w B v xs) (hg : w.grownBy w' v.ownBlock) (hB : B ≤ w.heap.size) : Below B a w' := h.grown hg hB fun k e => (ho.lt k e).1
end
/-- integers as elements: the reading of a row of integers -/
def RI (w : World) (p : Option Addr) (xs : List Int) : Prop := xs ≠ [] → ∃ g, p = some ⟨g, 0, none⟩ ∧ g < w.heap.size ∧ ∀ k (hk : k < xs.length), w.cell? ⟨g, k, none⟩ = some (.int .i64 xs[k])
def RdI (w : World) (v : Value) (xs : List Int) : Prop := ∃ p c, v = .slice p xs.length c ∧ xs.length ≤ maxLen ∧ RI w p xs
theorem RI.below {w w' : World} {p : Option Addr} {xs : List Int} (h : RI w p xs) (hb : Below w.heap.size w w') : RI w' p xs := fun h0 => by
  obtain ⟨g, rfl, hl, hc⟩ := h h0
  exact ⟨g, rfl, Nat.lt_of_lt_of_le hl hb.size, fun k hk => by rw [hb.cell (p := ⟨g, k, none⟩) hl]; exact hc k hk⟩
theorem RI.at {w : World} {p : Option Addr} {xs : List Int} (h : RI w p xs) {k : Nat} (hk : k < xs.length) : ∃ g, p = some ⟨g, 0, none⟩ ∧ g < w.heap.size ∧ w.cell? ⟨g, k, none⟩ = some (.int .i64 xs[k]) := by
  obtain ⟨g, rfl, hl, hc⟩ := h (fun e => by rw [e] at hk; simp at hk)
  exact ⟨g, rfl, hl, hc k hk⟩
theorem OwnI.rd {w : World} {B : Nat} {v : Value} {xs : List Int} (h : OwnI w B v xs) : RdI w v xs := by
  rcases h.form with ⟨rfl, rfl⟩ | ⟨g, cap, rfl, _, hl, hc, _, hm⟩
  · exact ⟨none, 0, rfl, Nat.zero_le _, fun h => absurd rfl h⟩
  · exact ⟨_, cap, rfl, hm, fun _ => ⟨g, rfl, hl, hc⟩⟩
theorem RdI.below {w w' : World} {v : Value} {xs : List Int} (h : RdI w v xs) (hb : Below w.heap.size w w') : RdI w' v xs := by
  obtain ⟨p, c, rfl, hm, hx⟩ := h
  exact ⟨p, c, rfl, hm, hx.below hb⟩
theorem hb_new (w : World) (o : Obj) : (w.alloc o).heap[w.heap.size]? = some o := by
  show (w.heap.push o)[w.heap.size]? = some o
  exact Array.getElem?_push_size
theorem hb_new' (w : World) (o : Obj) (k : Nat) (h : w.heap.size = k) : (w.alloc o).heap[k]? = some o := by subst h; exact hb_new w o
theorem hb_old {w : World} {k : Nat} {x : Obj} (o : Obj) (h : w.heap[k]? = some x) : (w.alloc o).heap[k]? = some x := by
  have hl : k < w.heap.size := (Array.getElem?_eq_some_iff.1 h).1
  show (w.heap.push o)[k]? = some x
  rw [Array.getElem?_push_lt hl]
  exact (Array.getElem?_eq_getElem hl).symm.trans h
theorem hb_cell {w : World} {g : Nat} {cs : Array Value} {t : TypeId} {fr : Nat × Nat} (h : w.heap[g]? = some (.cells cs t fr)) (i : Nat) : w.cell? ⟨g, i, none⟩ = cs[i]? := by simp [World.cell?, h]
theorem hb_frozen {w : World} {g : Nat} {cs : Array Value} {t : TypeId} (h : w.heap[g]? = some (.cells cs t (0, 0))) (i : Nat) : w.frozen? ⟨g, i, none⟩ = false := by simp [World.frozen?, h]
theorem hb_lt {w : World} {g : Nat} {o : Obj} (h : w.heap[g]? = some o) : g < w.heap.size := (Array.getElem?_eq_some_iff.1 h).1
theorem hb_below {w w' : World} {B g : Nat} {o : Obj} (hb : Below B w w') (hg : g < B) (h : w.heap[g]? = some o) : w'.heap[g]? = some o := (hb.block g hg).trans h
theorem hb_set {w : World} {g i : Nat} {cs : Array Value} {t : TypeId} {fr : Nat × Nat} (h : w.heap[g]? = some (.cells cs t fr)) (v : Value) : (w.setCell ⟨g, i, none⟩ v).heap[g]? = some (.cells (cs.setIfInBounds i v) t fr) := by
  rw [setCell_eq_setRow w g i cs t fr v h]
  exact setRow_heap w g _ _ t _ h
theorem hb_ne {w : World} {g i k : Nat} (v : Value) (hne : k ≠ g) : (w.setCell ⟨g, i, none⟩ v).heap[k]? = w.heap[k]? := RowKit.Below.heap_setCell _ _ _ _ hne
theorem OwnI.ri {w : World} {B n c : Nat} {p : Option Addr} {xs : List Int} (h : OwnI w B (.slice p n c) xs) : RI w p xs := by
  obtain ⟨p', c', e, _, hr⟩ := h.rd
  have : p = p' := by simp at e; exact e.1
  rw [this]; exact hr
theorem OwnG.rg {α : Type} {E : Elt α} {w : World} {B n c : Nat} {p : Option Addr} {xs : List α} (h : OwnG E w B (.slice p n c) xs) : RG E w p xs := by
  obtain ⟨p', c', e, _, hr⟩ := h.rd
  have : p = p' := by simp at e; exact e.1
  rw [this]; exact hr
/-- a call that makes memory, seen as one that may write a row -/
theorem grown_any {w w' : World} (h : Below w.heap.size w w') (row : Option Nat) : w.grownBy w' row := ⟨h.os, h.tape, h.output, h.size, fun k hk _ => h.block k hk⟩
theorem grown_set (w : World) (g i : Nat) (v : Value) : w.grownBy (w.setCell ⟨g, i, none⟩ v) (some g) := ⟨rfl, rfl, rfl, by simp, fun _ _ hk => hb_ne v (fun e => hk (by rw [e]))⟩
theorem OwnI.grown {w w' : World} {B g : Nat} {v : Value} {xs : List Int} (h : OwnI w B v xs) (hg : w.grownBy w' (some g)) (hl : g < B) : OwnI w' B v xs := by
  refine h.kept hg ?_
  cases hv : v.ownBlock with
  | none => left; rfl
  | some a => right; intro e; have := (h.lt a hv).1; cases e; omega
theorem OwnG.grown {α : Type} {E : Elt α} {w w' : World} {B g : Nat} {v : Value} {xs : List α} (h : OwnG E w B v xs) (hg : w.grownBy w' (some g)) (hl : g < B) : OwnG E w' B v xs := by
  refine h.kept hg ?_
  cases hv : v.ownBlock with
  | none => left; rfl
  | some a => right; intro e; have := (h.lt a hv).1; cases e; omega
theorem grown_heap {w w' : World} {g b : Nat} {o : Obj} (hg : w.grownBy w' (some g)) (hne : b ≠ g) (h : w.heap[b]? = some o) : w'.heap[b]? = some o := (hg.block b (hb_lt h) (fun e => hne (Option.some.inj e))).trans h
end Go.Proofs.YtmjeilimdnngpaaDoor
