/- Slices of integers that a law makes, compares, marks and holds. -/
import Derived.Test.YtfnhmacnghkgiaeDoorH
import Derived.Lib.BufferOwn
import Derived.Deep.RegionWith
--@file T:[]int
namespace Go.Proofs.YtfnhmacnghkgiaeDoor
open Go Go.RowKit RM

abbrev vint (xs : List Int) : List Value := xs.map (Value.int .i64)
/-- the value v owns the integers xs, in memory from block B on -/
def OwnI (w : World) (B : Nat) (v : Value) (xs : List Int) : Prop := w.ownsRow B 3 1 v xs.length (vint xs)

theorem OwnI.form {w : World} {B : Nat} {v : Value} {xs : List Int} (h : OwnI w B v xs) :
    (v = .slice none 0 0 ∧ xs = []) ∨ ∃ g cap, v = .slice (some ⟨g, 0, none⟩) xs.length cap ∧ B ≤ g ∧ g < w.heap.size ∧ (∀ k (hk : k < xs.length), w.cell? ⟨g, k, none⟩ = some (.int .i64 xs[k])) ∧ (∀ k, w.frozen? ⟨g, k, none⟩ = false) ∧ xs.length ≤ maxLen := by
  have h0 : w.ownsRow B 3 1 v xs.length (vint xs) := h
  rcases h.2 with ⟨h1, h2⟩ | ⟨g, cap, cur, rfl, hg, hh, hn, hc, _, _⟩
  · left; exact ⟨h1, List.length_eq_zero_iff.1 h2⟩
  · right
    refine ⟨g, cap, rfl, hg, lt_of_block hh, fun k hk => ?_, fun k => h0.frozenAt k, Nat.le_trans hn hc⟩
    rw [h0.cellAt k (by omega)]
    simp [vint, List.getElem?_eq_getElem hk]






/-- the marks 1, 2, .. -/
def marks (n : Nat) : List Int := (List.range n).map fun (i : Nat) => 1 + (i : Int)
theorem marks_len (n : Nat) : (marks n).length = n := by simp [marks]
theorem marks_get (n k : Nat) (h : k < (marks n).length) : (marks n)[k] = 1 + (k : Int) := by simp [marks]







theorem OwnI.lt {w : World} {B : Nat} {v : Value} {xs : List Int} (h : OwnI w B v xs) : ∀ k, v.ownBlock = some k → B ≤ k ∧ k < w.heap.size := World.ownsRow.lt h
theorem OwnI.kept {w w' : World} {B : Nat} {v : Value} {xs : List Int} {row : Option Nat} (h : OwnI w B v xs) (hg : w.grownBy w' row) (hne : v.ownBlock = none ∨ v.ownBlock ≠ row) : OwnI w' B v xs := World.ownsRow.kept h hg hne
theorem grown_of_below {w w' : World} (h : Below w.heap.size w w') : w.grownBy w' none := ⟨h.os, h.tape, h.output, h.size, fun k hk _ => h.block k hk⟩
theorem OwnI.below {w w' : World} {B : Nat} {v : Value} {xs : List Int} (h : OwnI w B v xs) (hb : Below w.heap.size w w') : OwnI w' B v xs := by
  refine h.kept (grown_of_below hb) ?_
  cases hv : v.ownBlock
  · left; rfl
  · right; simp
theorem OwnI.drewN {w : World} {B : Nat} {v : Value} {xs : List Int} (h : OwnI w B v xs) (q : Nat) : OwnI (w.drewN q) B v xs := h.below (below_drewN (Below.refl _ _) q)
theorem OwnI.mono {w : World} {B C : Nat} {v : Value} {xs : List Int} (h : OwnI w B v xs) (hc : C ≤ B) : OwnI w C v xs := by
  obtain ⟨a, b⟩ := h
  refine ⟨a, ?_⟩
  rcases b with b | ⟨g, cap, cur, h1, h2, h3⟩
  · exact .inl b
  · exact .inr ⟨g, cap, cur, h1, by omega, h3⟩
/-- another's row is kept by a mark: rows from different places differ -/
theorem own_ne {w : World} {B C : Nat} {v u : Value} {xs ys : List Int} (_ : OwnI w B v xs) (hv : ∀ k, v.ownBlock = some k → k < C) (k : OwnI w C u ys) : v.ownBlock = none ∨ v.ownBlock ≠ u.ownBlock := by
  cases e : v.ownBlock with
  | none => left; rfl
  | some a =>
    right
    intro e2
    have := (k.lt a e2.symm).1
    have := hv a e
    omega

theorem intInfo : (Tryd.prog.info? 3).map (fun i => (i.zero, i.size, i.bytes)) = some (some (.int .i64 0), 1, 8) := by kernel_rfl
theorem OwnI.alloc {w : World} {B : Nat} {v : Value} {xs : List Int} (h : OwnI w B v xs) (o : Obj) : OwnI (w.alloc o) B v xs := World.ownsRow.alloc h o
theorem OwnI.nil (w : World) (B : Nat) : OwnI w B (.slice none 0 0) [] := World.ownsRow_nil _ _ _ _
theorem OwnI.size {w : World} {B : Nat} {v : Value} {xs : List Int} (h : OwnI w B v xs) (n : Nat) (hn : xs.length = n) : w.ownsRow B 3 1 v n (vint xs) := by subst hn; exact h

/-- 'append(out, y)' onto a row of integers of the call's own -/
theorem app_int (w : World) {ops : Array Oper} {rest : List Oper} {o : Oper} {a : Act} {Q : Exit → Act → World → Prop} (hgd : o.guard = none) (s x : Operand)
    (ho : o.op = .call { callee := .builtin .append, args := #[s, x], argTypes := #[37, 37] })
    (B : Nat) (v : Value) (xs : List Int) (hs : a.eval s = v) (hown : OwnI w B v xs) (g : Nat) (y : Int) (hx : a.eval x = .slice (some ⟨g, 0, none⟩) 1 1)
    (hcell : w.cell? ⟨g, 0, none⟩ = some (.int .i64 y)) (hlen : xs.length ≤ 2000000) (hB : B ≤ w.heap.size)
    (h : ∀ v' w', OwnI w' B v' (xs ++ [y]) → w.grownBy w' v.ownBlock → wpList Tryd.prog ops Q rest (a.put o.dst v') w') : wpList Tryd.prog ops Q (o :: rest) a w := by
  obtain ⟨i0, hi, hz0, hz1, hz2⟩ := info_parts intInfo
  refine wpList_append_own w hgd s x 37 ho B 3 i0 (.int .i64 0) 1 8 Tryd.underlying37 hi hz0 hz1 hz2 rfl (by decide) v xs.length (vint xs) hs hown ⟨g, 0, none⟩ 1 1 [.int .i64 y] hx rfl ?_ ?_ (by unfold maxLen; omega) (by omega) hB ?_
  · intro j u hj
    match j, hj with
    | 0, hj => simp at hj; subst hj; simpa [Addr.add] using hcell
    | j + 1, hj => simp at hj
  · intro u hu; simp at hu; subst hu; rfl
  · intro v' w' h1 h2 _
    refine h v' w' ?_ h2
    unfold OwnI
    have e : vint (xs ++ [y]) = vint xs ++ [.int .i64 y] := by simp [vint]
    rw [e, List.length_append]; exact h1
theorem bel_own {B : Nat} {a w w' : World} {v : Value} {xs : List Int} (h : Below B a w) (ho : OwnI w B v xs) (hg : w.grownBy w' v.ownBlock) (hB : B ≤ w.heap.size) : Below B a w' := h.grown hg hB fun k e => (ho.lt k e).1

/-- a call hands back integers in memory of its own, and whether it succeeds -/
def RetI (w : World) (xs : List Int) (ok : Bool) (e : Ending) (w' : World) : Prop := ∃ v, e = .returned (.tuple #[v, .bool ok]) ∧ OwnI w' w.heap.size v xs ∧ Below w.heap.size w w'

/-- 'make([]int, n)' -/
theorem make_int (w : World) {ops : Array Oper} {rest : List Oper} {o : Oper} {a : Act} {Q : Exit → Act → World → Prop} (hgd : o.guard = none) (l c : Operand) (hop : o.op = Op.makeSlice 37 l c)
    (kl kc : IntKind) (n : Nat) (hl : a.eval l = .int kl n) (hc : a.eval c = .int kc n) (hn : n ≤ 2000000)
    (hK : ∀ w', OwnI w' w.heap.size (.slice (some ⟨w.heap.size, 0, none⟩) n n) (List.replicate n 0) → Below w.heap.size w w' → wpList Tryd.prog ops Q rest (a.put o.dst (.slice (some ⟨w.heap.size, 0, none⟩) n n)) w') : wpList Tryd.prog ops Q (o :: rest) a w := by
  obtain ⟨i0, hi, hz0, hz1, hz2⟩ := info_parts intInfo
  refine wpList_make_full w hgd l c 37 hop w.heap.size 3 i0 (.int .i64 0) 1 Tryd.underlying37 hi hz0 hz1 kl kc n n n hl hc rfl rfl (by rw [hz2]; omega) (by unfold maxLen; omega) (Nat.le_refl _) ?_
  intro w' h1 h2
  refine hK w' ?_ ((Below.refl _ _).grown h2 (Nat.le_refl _) (fun k e => by cases e))
  unfold OwnI
  have e : vint (List.replicate n 0) = (madeCells (Value.int .i64 0).cells (n * 1)).toList := by
    rw [Nat.mul_one]
    show _ = (madeCells #[.int .i64 0] n).toList
    rw [toList_madeCells_one]; simp [vint]
  rw [e, List.length_replicate]; exact h1
/-- a store into such a row -/
theorem OwnI.stored {w : World} {B g n cap : Nat} {xs : List Int} (h : OwnI w B (.slice (some ⟨g, 0, none⟩) n cap) xs) (hn : xs.length = n) (k : Nat) (y : Int) :
    OwnI (w.setCell ⟨g, k, none⟩ (.int .i64 y)) B (.slice (some ⟨g, 0, none⟩) n cap) (xs.set k y) ∧ w.grownBy (w.setCell ⟨g, k, none⟩ (.int .i64 y)) (some g) := by
  have h' : w.ownsRow B 3 1 (.slice (some ⟨g, 0, none⟩) n cap) n (vint xs) := h.size n hn
  obtain ⟨a, b⟩ := h'.stored k (.int .i64 y)
  refine ⟨?_, b⟩
  unfold OwnI
  have e : vint (xs.set k y) = (vint xs).set k (.int .i64 y) := by simp [vint, List.map_set]
  rw [e, List.length_set, hn]; exact a
theorem OwnI.cell {w : World} {B g n cap : Nat} {xs : List Int} (h : OwnI w B (.slice (some ⟨g, 0, none⟩) n cap) xs) (hn : xs.length = n) (k : Nat) (hk : k < xs.length) :
    w.cell? ⟨g, k, none⟩ = some (.int .i64 xs[k]) ∧ w.frozen? ⟨g, k, none⟩ = false := by
  have h' : w.ownsRow B 3 1 (.slice (some ⟨g, 0, none⟩) n cap) n (vint xs) := h.size n hn
  refine ⟨?_, h'.frozenAt k⟩
  rw [h'.cellAt k (by omega)]
  simp [vint, List.getElem?_eq_getElem hk]
end Go.Proofs.YtfnhmacnghkgiaeDoor
