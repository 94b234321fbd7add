/- What clues ask of states, and which states fit: mathematics. -/
import Derived.Test.YtmjeilimdnngpaaDoorPz1
import Derived.Test.YtmjeilimdnngpaaDoorStr
namespace Go.Proofs.YtmjeilimdnngpaaDoor
open Go Go.RowKit RM
/-- a number lies between -/
def inB (x lo hi : Int) : Bool := decide (lo ≤ x) && decide (x ≤ hi)
theorem inB_yes {x lo hi : Int} (h : inB x lo hi = true) : lo ≤ x ∧ x ≤ hi := by unfold inB at h; simpa using h
theorem inB_no {x lo hi : Int} (h : inB x lo hi = false) : x < lo ∨ hi < x := by
  unfold inB at h
  by_cases h1 : lo ≤ x
  · right; rw [decide_eq_true h1, Bool.true_and, decide_eq_false_iff_not] at h; omega
  · left; omega
theorem inB_of {x lo hi : Int} (h1 : lo ≤ x) (h2 : x ≤ hi) : inB x lo hi = true := by unfold inB; simp [h1, h2]
/-- a kind and a number that it allows -/
def okZa (n : Nat) (k a : Int) : Bool :=
  if k = 0 then inB a 0 ((n : Int) - 1) else if k = 1 then inB a 0 n else if k = 2 then inB a 2 9 else if k = 3 then inB a 0 (((2 ^ n : Nat) : Int) - 1) else if k = 4 then inB a 0 ((n : Int) - 1) else false
def okZb (k a b : Int) : Bool :=
  if k = 0 then inB b 0 1 else if k = 1 then b == 0 else if k = 2 then inB b 0 (a - 1) else if k = 3 then inB b 0 127 else inB b 0 1
/-- there is such a clue -/
def cluOk (n : Nat) (c : Clu) : Bool := okZa n c.k c.a && okZb c.k c.a c.b
/-- there is such a puzzle -/
def goodZ (R : Int) (cs : List Clu) : Bool := inB R 1 7 && decide (cs.length ≤ 6) && cs.all (cluOk R.toNat)
/-- what a clue of a kind tells of a state -/
def tellZ (n x : Nat) (k a : Int) : Int :=
  if k = 0 then ((bitN x a.toNat : Nat) : Int) else if k = 1 then ((pop x : Nat) : Int) else if k = 2 then ((num x : Nat) : Int) % a
  else if k = 3 then max (((num x : Nat) : Int) - a) (-(((num x : Nat) : Int) - a)) else if canB n x a then 1 else 0
def fitZ (n x : Nat) (c : Clu) : Bool := if c.k = 1 then ((pop x : Nat) : Int) == c.a else tellZ n x c.k c.a == c.b
/-- the clue of a kind that a state fits -/
def cluOf (n x : Nat) (k a : Int) : Clu := if k = 1 then ⟨1, ((pop x : Nat) : Int), 0⟩ else ⟨k, a, tellZ n x k a⟩
/-- the solutions, by their signs -/
def solZ (n : Nat) (cs : List Clu) : List Nat := ((List.range (2 ^ n)).map gray).filter fun x => cs.all (fitZ n x)
theorem kind_cases (n : Nat) (k a b : Int) (h : cluOk n ⟨k, a, b⟩ = true) : k = 0 ∨ k = 1 ∨ k = 2 ∨ k = 3 ∨ k = 4 := by
  unfold cluOk okZa at h
  by_cases h0 : k = 0
  · exact .inl h0
  by_cases h1 : k = 1
  · exact .inr (.inl h1)
  by_cases h2 : k = 2
  · exact .inr (.inr (.inl h2))
  by_cases h3 : k = 3
  · exact .inr (.inr (.inr (.inl h3)))
  by_cases h4 : k = 4
  · exact .inr (.inr (.inr (.inr h4)))
  simp [h0, h1, h2, h3, h4] at h
theorem cluOk_none (n : Nat) (k a b : Int) (h0 : k ≠ 0) (h1 : k ≠ 1) (h2 : k ≠ 2) (h3 : k ≠ 3) (h4 : k ≠ 4) : cluOk n ⟨k, a, b⟩ = false := by
  unfold cluOk okZa; simp [h0, h1, h2, h3, h4]
theorem cluOk_a (n : Nat) (k a b : Int) (h : cluOk n ⟨k, a, b⟩ = true) : okZa n k a = true := by
  unfold cluOk at h; rw [Bool.and_eq_true] at h; exact h.1
theorem cluOk_no (n : Nat) (k a b : Int) (h : okZa n k a = false) : cluOk n ⟨k, a, b⟩ = false := by
  unfold cluOk; rw [h]; rfl
theorem cluOk_yes (n : Nat) (k a b : Int) (h : okZa n k a = true) : cluOk n ⟨k, a, b⟩ = okZb k a b := by
  unfold cluOk; rw [h]; rfl
theorem fitZ_of (n x : Nat) (k a b : Int) (h : cluOk n ⟨k, a, b⟩ = true) : fitZ n x ⟨k, a, b⟩ = true ↔ cluOf n x k a = ⟨k, a, b⟩ := by
  unfold fitZ cluOf
  by_cases h1 : k = 1
  · subst h1
    have hb : b = 0 := by
      have : (okZa n 1 a && okZb 1 a b) = true := h
      rw [Bool.and_eq_true] at this
      have := this.2
      unfold okZb at this
      simpa using this
    subst hb
    simp
  · simp [h1]
theorem goodZ_no (R : Int) (cs : List Clu) (h : inB R 1 7 = false) : goodZ R cs = false := by unfold goodZ; rw [h]; rfl
theorem goodZ_len (R : Int) (cs : List Clu) (h : 6 < cs.length) : goodZ R cs = false := by
  unfold goodZ; rw [decide_eq_false (by omega : ¬ cs.length ≤ 6)]; simp
theorem goodZ_yes (n : Nat) (cs : List Clu) (h1 : 1 ≤ n) (h7 : n ≤ 7) (hl : cs.length ≤ 6) : goodZ n cs = cs.all (cluOk n) := by
  unfold goodZ; rw [inB_of (by omega) (by omega), decide_eq_true hl]; simp
theorem all_nott {α : Type} (p : α → Bool) (xs : List α) (k : Nat) (hk : k < xs.length) (h : p xs[k] = false) : xs.all p = false := by
  rw [← Bool.not_eq_true, List.all_eq_true]
  intro e
  rw [e _ (List.getElem_mem hk)] at h
  cases h
theorem all_snoct {α : Type} (p : α → Bool) (xs : List α) (k : Nat) (hk : k < xs.length) (h : (xs.take k).all p = true) (h2 : p xs[k] = true) : (xs.take (k + 1)).all p = true := by
  rw [List.take_succ_eq_append_getElem hk, List.all_append, h]
  simp [h2]
theorem pow7 {n : Nat} (hn : n ≤ 7) : 2 ^ n ≤ 128 := Nat.pow_le_pow_right (n := 2) (by omega) hn
end Go.Proofs.YtmjeilimdnngpaaDoor
