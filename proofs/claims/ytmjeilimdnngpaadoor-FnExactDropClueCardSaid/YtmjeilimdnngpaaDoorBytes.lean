/- Slices of bytes that a call makes, fills and hands on as a text. -/
import Derived.Test.YtmjeilimdnngpaaDoorH
import Derived.Lib.BufferOwn
import Derived.Laws.IdiomStrings
--@file T:[]uint8
namespace Go.Proofs.YtmjeilimdnngpaaDoor
open Go Go.RowKit RM

abbrev vbyt (xs : List UInt8) : List Value := xs.map fun c => Value.int .u8 (c.toNat : Int)
/-- the value v owns the bytes xs, in memory from block B on -/
def OwnB (w : World) (B : Nat) (v : Value) (xs : List UInt8) : Prop := w.ownsRow B 5 1 v xs.length (vbyt xs)
theorem OwnB.size {w : World} {B : Nat} {v : Value} {xs : List UInt8} (h : OwnB w B v xs) (n : Nat) (hn : xs.length = n) : w.ownsRow B 5 1 v n (vbyt xs) := by subst hn; exact h
theorem byteInfo : (Tryd.prog.info? 5).map (fun i => (i.zero, i.size, i.bytes)) = some (some (.int .u8 0), 1, 1) := by kernel_rfl

/-- 'make([]byte, n)' -/
theorem make_byte (w : World) {ops : Array Oper} {rest : List Oper} {o : Oper} {a : Act} {Q : Exit → Act → World → Prop} (hgd : o.guard = none) (l c : Operand) (hop : o.op = Op.makeSlice 99 l c)
    (kl kc : IntKind) (n : Nat) (hl : a.eval l = .int kl n) (hc : a.eval c = .int kc n) (hn : n ≤ 2000000)
    (hK : ∀ w', OwnB w' w.heap.size (.slice (some ⟨w.heap.size, 0, none⟩) n n) (List.replicate n 0) → Below w.heap.size w w' → wpList Tryd.prog ops Q rest (a.put o.dst (.slice (some ⟨w.heap.size, 0, none⟩) n n)) w') : wpList Tryd.prog ops Q (o :: rest) a w := by
  obtain ⟨i0, hi, hz0, hz1, hz2⟩ := info_parts byteInfo
  refine wpList_make_full w hgd l c 99 hop w.heap.size 5 i0 (.int .u8 0) 1 Tryd.underlying99 hi hz0 hz1 kl kc n n n hl hc rfl rfl (by rw [hz2]; omega) (by unfold maxLen; omega) (Nat.le_refl _) ?_
  intro w' h1 h2
  refine hK w' ?_ ((Below.refl _ _).grown h2 (Nat.le_refl _) (fun k e => by cases e))
  unfold OwnB
  have e : vbyt (List.replicate n 0) = (madeCells (Value.int .u8 0).cells (n * 1)).toList := by
    rw [Nat.mul_one]
    show _ = (madeCells #[.int .u8 0] n).toList
    rw [toList_madeCells_one]; simp [vbyt]
  rw [e, List.length_replicate]; exact h1
theorem OwnB.stored {w : World} {B g n cap : Nat} {xs : List UInt8} (h : OwnB w B (.slice (some ⟨g, 0, none⟩) n cap) xs) (hn : xs.length = n) (k : Nat) (y : UInt8) :
    OwnB (w.setCell ⟨g, k, none⟩ (.int .u8 (y.toNat : Int))) B (.slice (some ⟨g, 0, none⟩) n cap) (xs.set k y) ∧ w.grownBy (w.setCell ⟨g, k, none⟩ (.int .u8 (y.toNat : Int))) (some g) := by
  have h' : w.ownsRow B 5 1 (.slice (some ⟨g, 0, none⟩) n cap) n (vbyt xs) := h.size n hn
  obtain ⟨a, b⟩ := h'.stored k (.int .u8 (y.toNat : Int))
  refine ⟨?_, b⟩
  unfold OwnB
  have e : vbyt (xs.set k y) = (vbyt xs).set k (.int .u8 (y.toNat : Int)) := by simp [vbyt, List.map_set]
  rw [e, List.length_set, hn]; exact a
theorem OwnB.cell {w : World} {B g n cap : Nat} {xs : List UInt8} (h : OwnB w B (.slice (some ⟨g, 0, none⟩) n cap) xs) (hn : xs.length = n) (k : Nat) (hk : k < xs.length) :
    w.cell? ⟨g, k, none⟩ = some (.int .u8 (xs[k].toNat : Int)) ∧ w.frozen? ⟨g, k, none⟩ = false := by
  have h' : w.ownsRow B 5 1 (.slice (some ⟨g, 0, none⟩) n cap) n (vbyt xs) := h.size n hn
  refine ⟨?_, h'.frozenAt k⟩
  rw [h'.cellAt k (by omega)]
  simp [vbyt, List.getElem?_eq_getElem hk]
theorem OwnB.kept {w w' : World} {B : Nat} {v : Value} {xs : List UInt8} {row : Option Nat} (h : OwnB w B v xs) (hg : w.grownBy w' row) (hne : v.ownBlock = none ∨ v.ownBlock ≠ row) : OwnB w' B v xs := World.ownsRow.kept h hg hne
theorem OwnB.drewN {w : World} {B : Nat} {v : Value} {xs : List UInt8} (h : OwnB w B v xs) (q : Nat) : OwnB (w.drewN q) B v xs := by
  refine h.kept (row := none) ⟨rfl, rfl, rfl, Nat.le_refl _, fun _ _ _ => rfl⟩ ?_
  cases hv : v.ownBlock
  · left; rfl
  · right; simp
/-- 'string(b)' -/
theorem str_byte (w : World) (B g n cap : Nat) (xs : List UInt8) (h : OwnB w B (.slice (some ⟨g, 0, none⟩) n cap) xs) (hn : xs.length = n) :
    (convert 99 9 (.slice (some ⟨g, 0, none⟩) n cap)).run Tryd.prog w = .ok (.string ⟨xs.toArray⟩) w := by
  subst hn
  refine run_convert_bytes_back w 99 9 5 ⟨g, 0, none⟩ cap xs Tryd.underlying99 Tryd.underlying5 Tryd.underlying9 fun j hj => ?_
  have := (h.cell rfl j hj).1
  have e : (⟨g, 0, none⟩ : Addr).add j = ⟨g, j, none⟩ := by unfold Addr.add; split <;> simp_all
  rw [e]; exact this
end Go.Proofs.YtmjeilimdnngpaaDoor
