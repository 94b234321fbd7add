/- Rows of texts: as elements of a row, that came in, copied by a law, measured by a law. -/
import Derived.Test.YtjlecipeoaohiacStrs5
import Derived.OpenShut
import Derived.ProofKit
import Derived.SliceStrings
namespace Go.Proofs.Ytjlecipeoaohiac
open Go Go.RowKit RM
open Go.ChangeShapes Go.WideShapes
/-- texts as elements of a row -/
def txE : Elt ByteArray where
  e := 9
  n := 1
  bytes := 16
  z := .string ⟨#[]⟩
  d := ⟨#[]⟩
  cells s := [.string s]
  len _ := rfl
  one x u hu := by simp at hu; rcases hu with rfl; rfl
  pos := by decide
  zs := rfl
  info := by kernel_rfl
  small := by decide
theorem tx_flat (xs : List ByteArray) : txE.flat xs = vtxt xs := by
  unfold Elt.flat vtxt
  induction xs with
  | nil => rfl
  | cons a l ih => rw [List.flatMap_cons, ih]; rfl
theorem ownT_G {w : World} {B : Nat} {v : Value} {xs : List ByteArray} (h : OwnT w B v xs) : OwnG txE w B v xs := by
  unfold OwnG
  rw [tx_flat]; exact h
theorem ownG_T {w : World} {B : Nat} {v : Value} {xs : List ByteArray} (h : OwnG txE w B v xs) : OwnT w B v xs := by
  have h' : w.ownsRow B txE.e txE.n v xs.length (txE.flat xs) := h
  rw [tx_flat] at h'; exact h'
theorem ne_bse {u v : Value} {c : Nat} (hv : ∀ k, v.ownBlock = some k → k < c) (hu : ∀ k, u.ownBlock = some k → c ≤ k) : v.ownBlock = none ∨ v.ownBlock ≠ u.ownBlock := by
  cases e : v.ownBlock with
  | none => left; rfl
  | some a =>
    right
    intro e2
    have := hu a e2.symm
    have := hv a e
    omega
theorem ne_bse2 {u v : Value} {c : Nat} (hv : ∀ k, v.ownBlock = some k → c ≤ k) (hu : ∀ k, u.ownBlock = some k → k < c) : v.ownBlock = none ∨ v.ownBlock ≠ u.ownBlock := by
  cases e : v.ownBlock with
  | none => left; rfl
  | some a =>
    right
    intro e2
    have := hu a e2.symm
    have := hv a e
    omega
/-- how a row of texts reads -/
abbrev RdT (w : World) (v : Value) (xs : List ByteArray) : Prop := RdG txE w v xs
theorem RG.tx {w : World} {p : Option Addr} {xs : List ByteArray} (h : RG txE w p xs) {k : Nat} (hk : k < xs.length) : ∃ g, p = some ⟨g, 0, none⟩ ∧ g < w.heap.size ∧ w.cell? ⟨g, k, none⟩ = some (.string xs[k]) := by
  obtain ⟨g, rfl, hl, hc⟩ := h (fun e => by rw [e] at hk; simp at hk)
  have := hc k hk 0 (by decide)
  exact ⟨g, rfl, hl, by simpa [txE] using this⟩
/-- 'make([]string, n)' -/
theorem make_txt (w : World) {ops : Array Oper} {rest : List Oper} {o : Oper} {a : Act} {Q : Exit → Act → World → Prop} (hgd : o.guard = none) (l c : Operand) (hop : o.op = Op.makeSlice 22 l c)
    (kl kc : IntKind) (n : Nat) (hl : a.eval l = .int kl n) (hc : a.eval c = .int kc n) (hn : n ≤ 2000000)
    (hK : ∀ w', OwnT w' w.heap.size (.slice (some ⟨w.heap.size, 0, none⟩) n n) (List.replicate n ⟨#[]⟩) → Below w.heap.size w w' → wpList Try.prog ops Q rest (a.put o.dst (.slice (some ⟨w.heap.size, 0, none⟩) n n)) w') : wpList Try.prog ops Q (o :: rest) a w := by
  obtain ⟨i0, hi, hz0, hz1, hz2⟩ := info_parts strInfo
  refine wpList_make_full w hgd l c 22 hop w.heap.size 9 i0 (.string ⟨#[]⟩) 1 Try.underlying22 hi hz0 hz1 kl kc n n n hl hc rfl rfl (by rw [hz2]; omega) (by unfold maxLen; omega) (Nat.le_refl _) ?_
  intro w' h1 h2
  refine hK w' ?_ ((Below.refl _ _).grown h2 (Nat.le_refl _) (fun k e => by cases e))
  unfold OwnT
  have e : vtxt (List.replicate n ⟨#[]⟩) = (madeCells (Value.string ⟨#[]⟩).cells (n * 1)).toList := by
    rw [Nat.mul_one]
    show _ = (madeCells #[.string ⟨#[]⟩] n).toList
    rw [toList_madeCells_one]; simp [vtxt]
  rw [e, List.length_replicate]; exact h1
/-- the texts that came in -/
def ArgT (w : World) (a : Option Addr) (xs : List ByteArray) : Prop :=
  xs = [] ∨ ∃ b off, a = some ⟨b, off, none⟩ ∧ b < w.heap.size ∧ ∀ i (h : i < xs.length), w.cell? ⟨b, off + i, none⟩ = some (.string xs[i])
theorem ArgT.below {w w' : World} {a : Option Addr} {xs : List ByteArray} (h : ArgT w a xs) (hb : Below w.heap.size w w') : ArgT w' a xs := by
  rcases h with h | ⟨b, off, e, hl, hc⟩
  · exact .inl h
  · exact .inr ⟨b, off, e, Nat.lt_of_lt_of_le hl hb.size, fun i hi => by rw [hb.cell (p := ⟨b, off + i, none⟩) hl]; exact hc i hi⟩
section
variable {H : Type} {enc : TypeId × Value → H} {W : World} {base : Nat} {sp : Nat → Bool} {held : Bool}
theorem strs_at {w : World} {a : Addr} {ss : List ByteArray} (hc : ∀ i, i < ss.length → w.cell? (a.add i) = some (.string (ss.getD i ByteArray.empty))) (h0 : 0 < ss.length) :
    ∃ b off, a = ⟨b, off, none⟩ ∧ ∀ i, i < ss.length → w.cell? ⟨b, off + i, none⟩ = some (.string (ss.getD i ByteArray.empty)) := by
  obtain ⟨b, off, spot⟩ := a
  have hs : spot = none := by simpa [Addr.add] using World.cell?_spot (hc 0 h0)
  subst hs
  have e : ∀ i, (⟨b, off, none⟩ : Addr).add i = ⟨b, off + i, none⟩ := fun i => by unfold Addr.add; split <;> simp_all
  exact ⟨b, off, rfl, fun i hi => by rw [← e]; exact hc i hi⟩
set_option maxRecDepth 100000 in
theorem open_texts {r : Reach} {b0 : Nat} {v : Value} {d : DataW H} {p : List MemPlace} (hv : Value.okWide Try.prog W r b0 22 v) (h : DataW.Trod enc Try.prog W 0 (fun _ => true) held 22 v d p) :
    ∃ a n c ss, v = .slice a n c ∧ n ≤ maxLen ∧ ss.length = n ∧ ArgT W a ss ∧ ∀ s ∈ ss, s.size ≤ maxLen := by
  obtain ⟨a, n, c, rfl⟩ := okWide_slice Try.underlying22 hv
  obtain ⟨fuel, hf⟩ := h
  rcases open_strings Try.underlying22 Try.underlying9 (by kernel_rfl) hf with ⟨hcs, _⟩ | ⟨x, l, c', zs, hcs, _, hl, hm, hz, _, hcell, hwz⟩
  · simp [Value.cells] at hcs
    obtain ⟨rfl, rfl, rfl⟩ := hcs
    exact ⟨none, 0, 0, [], rfl, Nat.zero_le _, rfl, .inl rfl, fun s hs => by cases hs⟩
  · simp [Value.cells] at hcs
    obtain ⟨rfl, rfl, rfl⟩ := hcs
    have hz' : zs.length = c := by simpa using hz
    refine ⟨some x, n, c, zs.take n, rfl, by omega, by rw [List.length_take]; omega, ?_, fun s hs => hwz s (List.mem_of_mem_take hs)⟩
    by_cases h0 : 0 < zs.length
    · obtain ⟨b, off, rfl, hc2⟩ := strs_at hcell h0
      right
      refine ⟨b, off, rfl, block_lt (hc2 0 h0), fun i hi => ?_⟩
      have hi2 : i < zs.length := by rw [List.length_take] at hi; omega
      rw [hc2 i hi2]
      simp [List.getD, List.getElem?_eq_getElem hi2]
    · left
      have : zs = [] := List.length_eq_zero_iff.1 (by omega)
      rw [this]; simp
end
end Go.Proofs.Ytjlecipeoaohiac
