/- Rows of texts of the call's own. -/
import Derived.Test.YtmjeilimdnngpaaDoorInts
import Derived.Test.YtmjeilimdnngpaaDoorMark
import Derived.Test.YtmjeilimdnngpaaDoorA1
import Derived.OneCell
import Derived.Deep.RegionHeld3
import Derived.BigRegion
namespace Go.Proofs.YtmjeilimdnngpaaDoor
open Go Go.RowKit RM

abbrev vtxt (xs : List ByteArray) : List Value := xs.map (Value.string)
/-- the value v owns the integers xs, in memory from block B on -/
def OwnT (w : World) (B : Nat) (v : Value) (xs : List ByteArray) : Prop := w.ownsRow B 9 1 v xs.length (vtxt xs)

theorem OwnT.form {w : World} {B : Nat} {v : Value} {xs : List ByteArray} (h : OwnT w B v xs) :
    (v = .slice none 0 0 ∧ xs = []) ∨ ∃ g cap, v = .slice (some ⟨g, 0, none⟩) xs.length cap ∧ B ≤ g ∧ g < w.heap.size ∧ (∀ k (hk : k < xs.length), w.cell? ⟨g, k, none⟩ = some (.string xs[k])) ∧ (∀ k, w.frozen? ⟨g, k, none⟩ = false) ∧ xs.length ≤ maxLen := by
  have h0 : w.ownsRow B 9 1 v xs.length (vtxt xs) := h
  rcases h.2 with ⟨h1, h2⟩ | ⟨g, cap, cur, rfl, hg, hh, hn, hc, _, _⟩
  · left; exact ⟨h1, List.length_eq_zero_iff.1 h2⟩
  · right
    refine ⟨g, cap, rfl, hg, lt_of_block hh, fun k hk => ?_, fun k => h0.frozenAt k, Nat.le_trans hn hc⟩
    rw [h0.cellAt k (by omega)]
    simp [vtxt, List.getElem?_eq_getElem hk]

theorem OwnT.lt {w : World} {B : Nat} {v : Value} {xs : List ByteArray} (h : OwnT w B v xs) : ∀ k, v.ownBlock = some k → B ≤ k ∧ k < w.heap.size := World.ownsRow.lt h
theorem OwnT.kept {w w' : World} {B : Nat} {v : Value} {xs : List ByteArray} {row : Option Nat} (h : OwnT w B v xs) (hg : w.grownBy w' row) (hne : v.ownBlock = none ∨ v.ownBlock ≠ row) : OwnT w' B v xs := World.ownsRow.kept h hg hne
theorem grown_of_belowT {w w' : World} (h : Below w.heap.size w w') : w.grownBy w' none := ⟨h.os, h.tape, h.output, h.size, fun k hk _ => h.block k hk⟩
theorem OwnT.below {w w' : World} {B : Nat} {v : Value} {xs : List ByteArray} (h : OwnT w B v xs) (hb : Below w.heap.size w w') : OwnT w' B v xs := by
  refine h.kept (grown_of_belowT hb) ?_
  cases hv : v.ownBlock
  · left; rfl
  · right; simp
theorem OwnT.drewN {w : World} {B : Nat} {v : Value} {xs : List ByteArray} (h : OwnT w B v xs) (q : Nat) : OwnT (w.drewN q) B v xs := h.below (below_drewN (Below.refl _ _) q)
theorem OwnT.mono {w : World} {B C : Nat} {v : Value} {xs : List ByteArray} (h : OwnT w B v xs) (hc : C ≤ B) : OwnT w C v xs := by
  obtain ⟨a, b⟩ := h
  refine ⟨a, ?_⟩
  rcases b with b | ⟨g, cap, cur, h1, h2, h3⟩
  · exact .inl b
  · exact .inr ⟨g, cap, cur, h1, by omega, h3⟩
/-- another's row is kept by a mark: rows from different places differ -/
theorem own_neT {w : World} {B C : Nat} {v u : Value} {xs ys : List ByteArray} (_ : OwnT w B v xs) (hv : ∀ k, v.ownBlock = some k → k < C) (k : OwnT w C u ys) : v.ownBlock = none ∨ v.ownBlock ≠ u.ownBlock := by
  cases e : v.ownBlock with
  | none => left; rfl
  | some a =>
    right
    intro e2
    have := (k.lt a e2.symm).1
    have := hv a e
    omega

theorem strInfo : (Tryd.prog.info? 9).map (fun i => (i.zero, i.size, i.bytes)) = some (some (.string ⟨#[]⟩), 1, 16) := by kernel_rfl
theorem OwnT.alloc {w : World} {B : Nat} {v : Value} {xs : List ByteArray} (h : OwnT w B v xs) (o : Obj) : OwnT (w.alloc o) B v xs := World.ownsRow.alloc h o
theorem OwnT.nil (w : World) (B : Nat) : OwnT w B (.slice none 0 0) [] := World.ownsRow_nil _ _ _ _
theorem OwnT.size {w : World} {B : Nat} {v : Value} {xs : List ByteArray} (h : OwnT w B v xs) (n : Nat) (hn : xs.length = n) : w.ownsRow B 9 1 v n (vtxt xs) := by subst hn; exact h

/-- 'append(out, y)' onto a row of integers of the call's own -/
theorem app_txt (w : World) {ops : Array Oper} {rest : List Oper} {o : Oper} {a : Act} {Q : Exit → Act → World → Prop} (hgd : o.guard = none) (s x : Operand)
    (ho : o.op = .call { callee := .builtin .append, args := #[s, x], argTypes := #[56, 56] })
    (B : Nat) (v : Value) (xs : List ByteArray) (hs : a.eval s = v) (hown : OwnT w B v xs) (g : Nat) (y : ByteArray) (hx : a.eval x = .slice (some ⟨g, 0, none⟩) 1 1)
    (hcell : w.cell? ⟨g, 0, none⟩ = some (.string y)) (hlen : xs.length ≤ 2000000) (hB : B ≤ w.heap.size)
    (h : ∀ v' w', OwnT w' B v' (xs ++ [y]) → w.grownBy w' v.ownBlock → wpList Tryd.prog ops Q rest (a.put o.dst v') w') : wpList Tryd.prog ops Q (o :: rest) a w := by
  obtain ⟨i0, hi, hz0, hz1, hz2⟩ := info_parts strInfo
  refine wpList_append_own w hgd s x 56 ho B 9 i0 (.string ⟨#[]⟩) 1 16 Tryd.underlying56 hi hz0 hz1 hz2 rfl (by decide) v xs.length (vtxt xs) hs hown ⟨g, 0, none⟩ 1 1 [.string y] hx rfl ?_ ?_ (by unfold maxLen; omega) (by omega) hB ?_
  · intro j u hj
    match j, hj with
    | 0, hj => simp at hj; subst hj; simpa [Addr.add] using hcell
    | j + 1, hj => simp at hj
  · intro u hu; simp at hu; subst hu; rfl
  · intro v' w' h1 h2 _
    refine h v' w' ?_ h2
    unfold OwnT
    have e : vtxt (xs ++ [y]) = vtxt xs ++ [.string y] := by simp [vtxt]
    rw [e, List.length_append]; exact h1
theorem bel_ownT {B : Nat} {a w w' : World} {v : Value} {xs : List ByteArray} (h : Below B a w) (ho : OwnT w B v xs) (hg : w.grownBy w' v.ownBlock) (hB : B ≤ w.heap.size) : Below B a w' := h.grown hg hB fun k e => (ho.lt k e).1

/-- a call hands back integers in memory of its own, and whether it succeeds -/
def RetT (w : World) (xs : List ByteArray) (ok : Bool) (e : Ending) (w' : World) : Prop := ∃ v, e = .returned (.tuple #[v, .bool ok]) ∧ OwnT w' w.heap.size v xs ∧ Below w.heap.size w w'

/-- a store into such a row -/
theorem OwnT.stored {w : World} {B g n cap : Nat} {xs : List ByteArray} (h : OwnT w B (.slice (some ⟨g, 0, none⟩) n cap) xs) (hn : xs.length = n) (k : Nat) (y : ByteArray) :
    OwnT (w.setCell ⟨g, k, none⟩ (.string y)) B (.slice (some ⟨g, 0, none⟩) n cap) (xs.set k y) ∧ w.grownBy (w.setCell ⟨g, k, none⟩ (.string y)) (some g) := by
  have h' : w.ownsRow B 9 1 (.slice (some ⟨g, 0, none⟩) n cap) n (vtxt xs) := h.size n hn
  obtain ⟨a, b⟩ := h'.stored k (.string y)
  refine ⟨?_, b⟩
  unfold OwnT
  have e : vtxt (xs.set k y) = (vtxt xs).set k (.string y) := by simp [vtxt, List.map_set]
  rw [e, List.length_set, hn]; exact a
theorem OwnT.cell {w : World} {B g n cap : Nat} {xs : List ByteArray} (h : OwnT w B (.slice (some ⟨g, 0, none⟩) n cap) xs) (hn : xs.length = n) (k : Nat) (hk : k < xs.length) :
    w.cell? ⟨g, k, none⟩ = some (.string xs[k]) ∧ w.frozen? ⟨g, k, none⟩ = false := by
  have h' : w.ownsRow B 9 1 (.slice (some ⟨g, 0, none⟩) n cap) n (vtxt xs) := h.size n hn
  refine ⟨?_, h'.frozenAt k⟩
  rw [h'.cellAt k (by omega)]
  simp [vtxt, List.getElem?_eq_getElem hk]


theorem keepS {w a b : World} {g k : Nat} {u : Value} (h2 : Below a.heap.size a b) (h : a.cell? ⟨g, k, none⟩ = some u ∧ g < a.heap.size ∧ Below w.heap.size w a) : b.cell? ⟨g, k, none⟩ = some u ∧ g < b.heap.size ∧ Below w.heap.size w b :=
  ⟨by rw [h2.cell (p := ⟨g, k, none⟩) h.2.1]; exact h.1, Nat.lt_of_lt_of_le h.2.1 h2.size, bt h.2.2 h2⟩
theorem keepF {w a : World} {g k : Nat} {u : Value} (h : a.cell? ⟨g, k, none⟩ = some u ∧ g < a.heap.size ∧ Below w.heap.size w a) : Below w.heap.size w a := h.2.2
/-- the marks -/
def marksT (n : Nat) : List ByteArray := (List.range n).map fun (i : Nat) => mkT (1 + i)
theorem marksT_len (n : Nat) : (marksT n).length = n := by simp [marksT]
theorem marksT_get (n k : Nat) (h : k < (marksT n).length) : (marksT n)[k] = mkT (1 + k) := by simp [marksT]


end Go.Proofs.YtmjeilimdnngpaaDoor
